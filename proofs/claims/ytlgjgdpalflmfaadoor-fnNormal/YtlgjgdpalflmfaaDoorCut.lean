/-
  Walk: spec.l1Cut: a text cut at the first of a byte.
-/
import Derived.Test.YtlgjgdpalflmfaaDoorEnc
import Derived.WalkKit
import Derived.WalkLawsBesides
import Derived.WalkSpells
import Derived.Lib.IndexLaws
namespace Go.Proofs.YtlgjgdpalflmfaaDoor.Cut
open Go.RowKit
open Go.Proofs.YtlgjgdpalflmfaaDoor.Byt
open Go.Proofs.YtlgjgdpalflmfaaDoor.Hex
open Go.Proofs.YtlgjgdpalflmfaaDoor.Enc

/-- Where a byte stands first: its place, or none. -/
def firstAt (l : List UInt8) (c : UInt8) : Nat → Nat → Option Nat
  | 0, _ => none
  | f + 1, k => if k < l.length then (if l[k]?.getD 0 = c then some k else firstAt l c f (k + 1)) else none

def cutI (s : ByteArray) (c : UInt8) : Option Nat := firstAt s.data.toList c s.data.toList.length 0
def cutA (s : ByteArray) (c : UInt8) : ByteArray := match cutI s c with | some k => s.extract 0 k | none => s
def cutZ (s : ByteArray) (c : UInt8) : ByteArray := match cutI s c with | some k => s.extract (k + 1) s.size | none => ⟨#[]⟩
def cutB (s : ByteArray) (c : UInt8) : Bool := (cutI s c).isSome

theorem cut_some {s : ByteArray} {c : UInt8} {k : Nat} (h : cutI s c = some k) : cutA s c = s.extract 0 k ∧ cutZ s c = s.extract (k + 1) s.size ∧ cutB s c = true := by
  unfold cutA cutZ cutB; rw [h]; exact ⟨rfl, rfl, rfl⟩
theorem cut_none {s : ByteArray} {c : UInt8} (h : cutI s c = none) : cutA s c = s ∧ cutZ s c = ⟨#[]⟩ ∧ cutB s c = false := by
  unfold cutA cutZ cutB; rw [h]; exact ⟨rfl, rfl, rfl⟩

theorem first_end {l : List UInt8} {c : UInt8} {f k : Nat} (h : l.length ≤ k) : firstAt l c f k = none := by
  cases f with
  | zero => rfl
  | succ f => simp only [firstAt]; rw [if_neg (by omega)]
theorem first_hit {l : List UInt8} {c : UInt8} {f k : Nat} (h : k < l.length) (hc : l[k]?.getD 0 = c) : firstAt l c (f + 1) k = some k := by
  simp only [firstAt]; rw [if_pos h, if_pos hc]
theorem first_miss {l : List UInt8} {c : UInt8} {f k : Nat} (h : k < l.length) (hc : l[k]?.getD 0 ≠ c) : firstAt l c (f + 1) k = firstAt l c f (k + 1) := by
  simp only [firstAt]; rw [if_pos h, if_neg hc]

theorem len_list (s : ByteArray) : s.data.toList.length = s.size := by simp

theorem ret_three {a b a' b' : ByteArray} {x x' : Bool} (h1 : a = a') (h2 : b = b') (h3 : x = x') : Ending.returned (.tuple #[.string a, .string b, .bool x]) = .returned (.tuple #[.string a', .string b', .bool x']) := by rw [h1, h2, h3]

set_option maxHeartbeats 800000 in
theorem l1Cut_any (s : ByteArray) (c : UInt8) (w : World) (hs : s.size ≤ 2000000) :
    Calls Tryd.prog 68 #[.string s, .int .u8 (c.toNat : Int)] w fun e w' => e = .returned (.tuple #[.string (cutA s c), .string (cutZ s c), .bool (cutB s c)]) ∧ Below w.heap.size w w' := by
  go_enter Tryd.func68, Tryd.ntmps68
  go_wp2
  go_loop [7] (fun i => ∃ k f : Nat, k ≤ s.size ∧ s.size ≤ k + f ∧ i = .int .i64 k ∧ Hid (cutI s c = firstAt s.data.toList c f k)) (fun i => s.size - (intOf i).toNat)
  case atStart => exact ⟨0, s.data.toList.length, by omega, by rw [len_list]; omega, rfl, rfl⟩
  case round =>
    obtain ⟨k, f, hk, hf, rfl, HD⟩ := hrel
    by_cases hlt : k < s.size
    · have e0 := at_list s k hlt
      obtain ⟨f', rfl⟩ : ∃ f', f = f' + 1 := ⟨f - 1, by omega⟩
      by_cases hc : s[k] = c
      · have HR := cut_some (s := s) (c := c) (k := k) (by rw [HD.out]; exact first_hit (by rw [len_list]; exact hlt) (by rw [e0]; exact hc))
        have HR' : Hid (cutA s c = s.extract 0 k ∧ cutZ s c = s.extract (k + 1) s.size ∧ cutB s c = true) := HR
        have hc' : ((s[k].toNat : Int) == (c.toNat : Int)) = true := by rw [hc]; simp
        clear HD HR e0 hc
        go_wp2
        go_quiet (fail)
        go_wp2
        go_ret3
        exact ⟨ret_three HR'.out.1.symm HR'.out.2.1.symm HR'.out.2.2.symm, Hex.below_drewN w _⟩
      · have HD' : Hid (cutI s c = firstAt s.data.toList c f' (k + 1)) := by
          show _ = _; rw [HD.out]; exact first_miss (by rw [len_list]; exact hlt) (by rw [e0]; exact hc)
        have hc' : ((s[k].toNat : Int) == (c.toNat : Int)) = false := by
          rw [beq_eq_false_iff_ne]; intro e; exact hc (UInt8.toNat_inj.1 (by omega))
        clear HD e0 hc
        go_wp2
        go_round
        case rel => exact ⟨k + 1, f', by omega, by omega, by go_num, HD'⟩
        case measure => simp [intOf]; omega
    · have HR := cut_none (s := s) (c := c) (by rw [HD.out]; exact first_end (by rw [len_list]; omega))
      have HR' : Hid (cutA s c = s ∧ cutZ s c = ⟨#[]⟩ ∧ cutB s c = false) := HR
      clear HD HR
      go_wp2
      go_ret3
      exact ⟨ret_three HR'.out.1.symm HR'.out.2.1.symm HR'.out.2.2.symm, Below.refl _ _⟩

end Go.Proofs.YtlgjgdpalflmfaaDoor.Cut
