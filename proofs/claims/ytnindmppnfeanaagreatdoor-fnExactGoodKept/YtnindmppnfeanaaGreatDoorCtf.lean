/-
  Walk: spec.l1Cut: a text cut at the first of a byte; where the library cuts it (for the texts on fields).
-/
import Derived.Test.YtnindmppnfeanaaGreatDoorFbs
import Derived.Below
import Derived.Deep.QuietTactic
import Derived.BigQuiet
import Derived.Deep.RegionLaw
import Derived.WalkKit
import Derived.WalkLawsBesides
import Derived.WalkSpells
import Derived.Lib.IndexLaws
import Derived.Lib.CutLaws
namespace Go.Proofs.YtnindmppnfeanaaGreatDoor.Ctf
open Go.RowKit
open Go.Proofs.YtnindmppnfeanaaGreatDoor.Fbs

/-- Where a byte stands first: its place, or none. -/
def firstAt (l : List UInt8) (c : UInt8) : Nat → Nat → Option Nat
  | 0, _ => none
  | f + 1, k => if k < l.length then (if l[k]?.getD 0 = c then some k else firstAt l c f (k + 1)) else none

def cutI (s : ByteArray) (c : UInt8) : Option Nat := firstAt s.data.toList c s.data.toList.length 0
def cutA (s : ByteArray) (c : UInt8) : ByteArray := match cutI s c with | some k => s.extract 0 k | none => s
def cutZ (s : ByteArray) (c : UInt8) : ByteArray := match cutI s c with | some k => s.extract (k + 1) s.size | none => ⟨#[]⟩
def cutB (s : ByteArray) (c : UInt8) : Bool := (cutI s c).isSome

theorem cut_some {s : ByteArray} {c : UInt8} {k : Nat} (h : cutI s c = some k) : cutA s c = s.extract 0 k ∧ cutZ s c = s.extract (k + 1) s.size ∧ cutB s c = true := by
  unfold cutA cutZ cutB; rw [h]; exact ⟨rfl, rfl, rfl⟩
theorem cut_none {s : ByteArray} {c : UInt8} (h : cutI s c = none) : cutA s c = s ∧ cutZ s c = ⟨#[]⟩ ∧ cutB s c = false := by
  unfold cutA cutZ cutB; rw [h]; exact ⟨rfl, rfl, rfl⟩

theorem first_end {l : List UInt8} {c : UInt8} {f k : Nat} (h : l.length ≤ k) : firstAt l c f k = none := by
  cases f with
  | zero => rfl
  | succ f => simp only [firstAt]; rw [if_neg (by omega)]
theorem first_hit {l : List UInt8} {c : UInt8} {f k : Nat} (h : k < l.length) (hc : l[k]?.getD 0 = c) : firstAt l c (f + 1) k = some k := by
  simp only [firstAt]; rw [if_pos h, if_pos hc]
theorem first_miss {l : List UInt8} {c : UInt8} {f k : Nat} (h : k < l.length) (hc : l[k]?.getD 0 ≠ c) : firstAt l c (f + 1) k = firstAt l c f (k + 1) := by
  simp only [firstAt]; rw [if_pos h, if_neg hc]

theorem below_drewN (w : World) (n : Nat) : Below w.heap.size w (w.drewN n) := ⟨rfl, rfl, rfl, Nat.le_refl _, fun _ _ => rfl⟩

theorem ret_three {a b a' b' : ByteArray} {x x' : Bool} (h1 : a = a') (h2 : b = b') (h3 : x = x') : Ending.returned (.tuple #[.string a, .string b, .bool x]) = .returned (.tuple #[.string a', .string b', .bool x']) := by rw [h1, h2, h3]

set_option maxHeartbeats 800000 in
theorem l1Cut_any (s : ByteArray) (c : UInt8) (w : World) (hs : s.size ≤ 2000000) :
    Calls Tryz.prog 71 #[.string s, .int .u8 (c.toNat : Int)] w fun e w' => e = .returned (.tuple #[.string (cutA s c), .string (cutZ s c), .bool (cutB s c)]) ∧ Below w.heap.size w w' := by
  go_enter Tryz.func71, Tryz.ntmps71
  go_wp2
  go_loop [7] (fun i => ∃ k f : Nat, k ≤ s.size ∧ s.size ≤ k + f ∧ i = .int .i64 k ∧ Hid (cutI s c = firstAt s.data.toList c f k)) (fun i => s.size - (intOf i).toNat)
  case atStart => exact ⟨0, s.data.toList.length, by omega, by rw [len_list]; omega, rfl, rfl⟩
  case round =>
    obtain ⟨k, f, hk, hf, rfl, HD⟩ := hrel
    by_cases hlt : k < s.size
    · have e0 := at_list s k hlt
      obtain ⟨f', rfl⟩ : ∃ f', f = f' + 1 := ⟨f - 1, by omega⟩
      by_cases hc : s[k] = c
      · have HR := cut_some (s := s) (c := c) (k := k) (by rw [HD.out]; exact first_hit (by rw [len_list]; exact hlt) (by rw [e0]; exact hc))
        have HR' : Hid (cutA s c = s.extract 0 k ∧ cutZ s c = s.extract (k + 1) s.size ∧ cutB s c = true) := HR
        have hc' : ((s[k].toNat : Int) == (c.toNat : Int)) = true := by rw [hc]; simp
        clear HD HR e0 hc
        go_wp2
        go_quiet (fail)
        go_wp2
        go_ret3
        exact ⟨ret_three HR'.out.1.symm HR'.out.2.1.symm HR'.out.2.2.symm, below_drewN w _⟩
      · have HD' : Hid (cutI s c = firstAt s.data.toList c f' (k + 1)) := by
          show _ = _; rw [HD.out]; exact first_miss (by rw [len_list]; exact hlt) (by rw [e0]; exact hc)
        have hc' : ((s[k].toNat : Int) == (c.toNat : Int)) = false := by
          rw [beq_eq_false_iff_ne]; intro e; exact hc (UInt8.toNat_inj.1 (by omega))
        clear HD e0 hc
        go_wp2
        go_round
        case rel => exact ⟨k + 1, f', by omega, by omega, by go_num, HD'⟩
        case measure => simp [intOf]; omega
    · have HR := cut_none (s := s) (c := c) (by rw [HD.out]; exact first_end (by rw [len_list]; omega))
      have HR' : Hid (cutA s c = s ∧ cutZ s c = ⟨#[]⟩ ∧ cutB s c = false) := HR
      clear HD HR
      go_wp2
      go_ret3
      exact ⟨ret_three HR'.out.1.symm HR'.out.2.1.symm HR'.out.2.2.symm, Below.refl _ _⟩

theorem first_spec {l : List UInt8} {c : UInt8} : ∀ (f k r : Nat), firstAt l c f k = some r → k ≤ r ∧ r < l.length ∧ l[r]?.getD 0 = c ∧ ∀ j, k ≤ j → j < r → l[j]?.getD 0 ≠ c
  | 0, k, r, h => by simp [firstAt] at h
  | f + 1, k, r, h => by
    by_cases h1 : k < l.length
    · by_cases h2 : l[k]?.getD 0 = c
      · rw [first_hit h1 h2] at h
        obtain rfl := Option.some.inj h
        exact ⟨Nat.le_refl _, h1, h2, fun j a b => by omega⟩
      · rw [first_miss h1 h2] at h
        obtain ⟨a, b, d, e⟩ := first_spec f (k + 1) r h
        refine ⟨by omega, b, d, fun j x y => ?_⟩
        by_cases e1 : j = k
        · rw [e1]; exact h2
        · exact e j (by omega) y
    · rw [first_end (by omega)] at h; cases h
theorem first_no {l : List UInt8} {c : UInt8} : ∀ (f k : Nat), l.length ≤ k + f → firstAt l c f k = none → ∀ j, k ≤ j → j < l.length → l[j]?.getD 0 ≠ c
  | 0, k, hf, h, j, a, b => by omega
  | f + 1, k, hf, h, j, a, b => by
    by_cases h1 : k < l.length
    · by_cases h2 : l[k]?.getD 0 = c
      · rw [first_hit h1 h2] at h; cases h
      · rw [first_miss h1 h2] at h
        by_cases e1 : j = k
        · rw [e1]; exact h2
        · exact first_no f (k + 1) (by omega) h j (by omega) b
    · omega

theorem occ_one (l : List UInt8) (c : UInt8) (j : Nat) (h : j < l.length) : Lib.occAt l [c] j = (l[j]?.getD 0 == c) := by
  unfold Lib.occAt
  rw [List.drop_eq_getElem_cons h]
  simp [List.isPrefixOf, h]
  exact Bool.eq_iff_iff.2 ⟨fun e => by simp at e ⊢; exact e.symm, fun e => by simp at e ⊢; exact e.symm⟩

theorem cut_is (s : ByteArray) (c : UInt8) :
    (⟨(Lib.cut s.data.toList [c]).1.toArray⟩ : ByteArray) = cutA s c ∧ (⟨(Lib.cut s.data.toList [c]).2.1.toArray⟩ : ByteArray) = cutZ s c ∧ (Lib.cut s.data.toList [c]).2.2 = cutB s c := by
  have hl : s.data.toList.length = s.size := by simp
  cases h : cutI s c with
  | some k =>
    obtain ⟨a, b, d, e⟩ := first_spec _ _ _ h
    have hi : Lib.indexB s ⟨#[c]⟩ = k := by
      refine Lib.index_hit (sub := [c]) (fun j hj => ?_) (by omega) ?_
      · rw [occ_one _ _ _ (by omega)]
        have := e j (Nat.zero_le _) hj
        simpa using this
      · rw [occ_one _ _ _ b, d]; simp
    have := Lib.cutB_hit s ⟨#[c]⟩ k hi
    obtain ⟨q1, q2, q3⟩ := cut_some h
    rw [q1, q2, q3]
    exact this
  | none =>
    have e := first_no _ _ (by omega) h
    have hi : Lib.indexB s ⟨#[c]⟩ = -1 := by
      refine Lib.index_past (s := s.data.toList) (sub := [c]) (i := s.data.toList.length) (by simp) (fun j hj => ?_) (by simp)
      rw [occ_one _ _ _ hj]
      have := e j (Nat.zero_le _) hj
      simpa using this
    have := Lib.cutB_miss s ⟨#[c]⟩ hi
    obtain ⟨q1, q2, q3⟩ := cut_none h
    rw [q1, q2, q3]
    exact this

end Go.Proofs.YtnindmppnfeanaaGreatDoor.Ctf
