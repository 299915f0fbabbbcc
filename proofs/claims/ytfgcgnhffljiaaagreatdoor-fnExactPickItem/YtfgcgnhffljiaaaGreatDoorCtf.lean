/-
  Walk: spec.l1Cut: a text cut at the first of a byte; where the library cuts it (for the texts on fields).
-/
import Derived.Test.YtfgcgnhffljiaaaGreatDoorFbs
import Derived.Below
import Derived.Deep.QuietTactic
import Derived.BigQuiet
import Derived.Deep.RegionLaw
import Derived.WalkKit
import Derived.WalkLawsBesides
import Derived.WalkSpells
import Derived.Lib.IndexLaws
import Derived.Lib.CutLaws
namespace Go.Proofs.YtfgcgnhffljiaaaGreatDoor.Ctf
open Go.RowKit
open Go.Proofs.YtfgcgnhffljiaaaGreatDoor.Fbs

/-- Where a byte stands first: its place, or none. -/
def firstAt (l : List UInt8) (c : UInt8) : Nat → Nat → Option Nat
  | 0, _ => none
  | f + 1, k => if k < l.length then (if l[k]?.getD 0 = c then some k else firstAt l c f (k + 1)) else none

def cutI (s : ByteArray) (c : UInt8) : Option Nat := firstAt s.data.toList c s.data.toList.length 0
def cutA (s : ByteArray) (c : UInt8) : ByteArray := match cutI s c with | some k => s.extract 0 k | none => s
def cutZ (s : ByteArray) (c : UInt8) : ByteArray := match cutI s c with | some k => s.extract (k + 1) s.size | none => ⟨#[]⟩
def cutB (s : ByteArray) (c : UInt8) : Bool := (cutI s c).isSome

theorem cut_some {s : ByteArray} {c : UInt8} {k : Nat} (h : cutI s c = some k) : cutA s c = s.extract 0 k ∧ cutZ s c = s.extract (k + 1) s.size ∧ cutB s c = true := by
  unfold cutA cutZ cutB; rw [h]; exact ⟨rfl, rfl, rfl⟩
theorem cut_none {s : ByteArray} {c : UInt8} (h : cutI s c = none) : cutA s c = s ∧ cutZ s c = ⟨#[]⟩ ∧ cutB s c = false := by
  unfold cutA cutZ cutB; rw [h]; exact ⟨rfl, rfl, rfl⟩

theorem first_end {l : List UInt8} {c : UInt8} {f k : Nat} (h : l.length ≤ k) : firstAt l c f k = none := by
  cases f with
  | zero => rfl
  | succ f => simp only [firstAt]; rw [if_neg (by omega)]
theorem first_hit {l : List UInt8} {c : UInt8} {f k : Nat} (h : k < l.length) (hc : l[k]?.getD 0 = c) : firstAt l c (f + 1) k = some k := by
  simp only [firstAt]; rw [if_pos h, if_pos hc]
theorem first_miss {l : List UInt8} {c : UInt8} {f k : Nat} (h : k < l.length) (hc : l[k]?.getD 0 ≠ c) : firstAt l c (f + 1) k = firstAt l c f (k + 1) := by
  simp only [firstAt]; rw [if_pos h, if_neg hc]

theorem below_drewN (w : World) (n : Nat) : Below w.heap.size w (w.drewN n) := ⟨rfl, rfl, rfl, Nat.le_refl _, fun _ _ => rfl⟩

theorem ret_three {a b a' b' : ByteArray} {x x' : Bool} (h1 : a = a') (h2 : b = b') (h3 : x = x') : Ending.returned (.tuple #[.string a, .string b, .bool x]) = .returned (.tuple #[.string a', .string b', .bool x']) := by rw [h1, h2, h3]

theorem first_spec {l : List UInt8} {c : UInt8} : ∀ (f k r : Nat), firstAt l c f k = some r → k ≤ r ∧ r < l.length ∧ l[r]?.getD 0 = c ∧ ∀ j, k ≤ j → j < r → l[j]?.getD 0 ≠ c
  | 0, k, r, h => by simp [firstAt] at h
  | f + 1, k, r, h => by
    by_cases h1 : k < l.length
    · by_cases h2 : l[k]?.getD 0 = c
      · rw [first_hit h1 h2] at h
        obtain rfl := Option.some.inj h
        exact ⟨Nat.le_refl _, h1, h2, fun j a b => by omega⟩
      · rw [first_miss h1 h2] at h
        obtain ⟨a, b, d, e⟩ := first_spec f (k + 1) r h
        refine ⟨by omega, b, d, fun j x y => ?_⟩
        by_cases e1 : j = k
        · rw [e1]; exact h2
        · exact e j (by omega) y
    · rw [first_end (by omega)] at h; cases h
theorem first_no {l : List UInt8} {c : UInt8} : ∀ (f k : Nat), l.length ≤ k + f → firstAt l c f k = none → ∀ j, k ≤ j → j < l.length → l[j]?.getD 0 ≠ c
  | 0, k, hf, h, j, a, b => by omega
  | f + 1, k, hf, h, j, a, b => by
    by_cases h1 : k < l.length
    · by_cases h2 : l[k]?.getD 0 = c
      · rw [first_hit h1 h2] at h; cases h
      · rw [first_miss h1 h2] at h
        by_cases e1 : j = k
        · rw [e1]; exact h2
        · exact first_no f (k + 1) (by omega) h j (by omega) b
    · omega

theorem occ_one (l : List UInt8) (c : UInt8) (j : Nat) (h : j < l.length) : Lib.occAt l [c] j = (l[j]?.getD 0 == c) := by
  unfold Lib.occAt
  rw [List.drop_eq_getElem_cons h]
  simp [List.isPrefixOf, h]
  exact Bool.eq_iff_iff.2 ⟨fun e => by simp at e ⊢; exact e.symm, fun e => by simp at e ⊢; exact e.symm⟩

theorem cut_is (s : ByteArray) (c : UInt8) :
    (⟨(Lib.cut s.data.toList [c]).1.toArray⟩ : ByteArray) = cutA s c ∧ (⟨(Lib.cut s.data.toList [c]).2.1.toArray⟩ : ByteArray) = cutZ s c ∧ (Lib.cut s.data.toList [c]).2.2 = cutB s c := by
  have hl : s.data.toList.length = s.size := by simp
  cases h : cutI s c with
  | some k =>
    obtain ⟨a, b, d, e⟩ := first_spec _ _ _ h
    have hi : Lib.indexB s ⟨#[c]⟩ = k := by
      refine Lib.index_hit (sub := [c]) (fun j hj => ?_) (by omega) ?_
      · rw [occ_one _ _ _ (by omega)]
        have := e j (Nat.zero_le _) hj
        simpa using this
      · rw [occ_one _ _ _ b, d]; simp
    have := Lib.cutB_hit s ⟨#[c]⟩ k hi
    obtain ⟨q1, q2, q3⟩ := cut_some h
    rw [q1, q2, q3]
    exact this
  | none =>
    have e := first_no _ _ (by omega) h
    have hi : Lib.indexB s ⟨#[c]⟩ = -1 := by
      refine Lib.index_past (s := s.data.toList) (sub := [c]) (i := s.data.toList.length) (by simp) (fun j hj => ?_) (by simp)
      rw [occ_one _ _ _ hj]
      have := e j (Nat.zero_le _) hj
      simpa using this
    have := Lib.cutB_miss s ⟨#[c]⟩ hi
    obtain ⟨q1, q2, q3⟩ := cut_none h
    rw [q1, q2, q3]
    exact this

end Go.Proofs.YtfgcgnhffljiaaaGreatDoor.Ctf
