/-
  Numbers told in hex digits.
-/
import Derived.Test.YtimfcbjgoilnpaaDoorProg
import Derived.WalkKit
import Derived.WalkLawsBesides
import Derived.Below
namespace Go.Proofs.YtimfcbjgoilnpaaDoor.Hxt
open Go.RowKit

/-- A hex digit's byte. -/
def hd (d : Nat) : UInt8 := if d < 10 then UInt8.ofNat (48 + d) else UInt8.ofNat (87 + d)
/-- A number's hex digits. -/
def hexT (n : Nat) : List UInt8 := if _h : n < 16 then [hd n] else hexT (n / 16) ++ [hd (n % 16)]
termination_by n
decreasing_by omega
theorem hexT_one {n : Nat} (h : n < 16) : hexT n = [hd n] := by rw [hexT, dif_pos h]
theorem hexT_more {n : Nat} (h : ¬ n < 16) : hexT n = hexT (n / 16) ++ [hd (n % 16)] := by rw [hexT, dif_neg h]
theorem hexT_len (f : Nat) : ∀ n : Nat, n < 16 ^ (f + 1) → (hexT n).length ≤ f + 1 := by
  induction f with
  | zero => intro n h; rw [hexT_one (by simpa using h)]; exact Nat.le_refl 1
  | succ f ih =>
    intro n h
    by_cases h1 : n < 16
    · rw [hexT_one h1]; show 1 ≤ _; omega
    · rw [hexT_more h1, List.length_append]
      have := ih (n / 16) (by rw [Nat.pow_succ] at h; omega)
      show _ + 1 ≤ _
      omega
theorem hexT_pos (n : Nat) : 1 ≤ (hexT n).length := by
  by_cases h : n < 16
  · rw [hexT_one h]; exact Nat.le_refl 1
  · rw [hexT_more h, List.length_append]; show 1 ≤ _ + 1; omega

theorem and15 (m : Nat) (h : m < 65536) : bits BinOp.and IntKind.u64 (m : Int) 15 = ((m % 16 : Nat) : Int) := by
  have a : (BitVec.ofInt 64 (m : Int)).toNat = m := by rw [BitVec.toNat_ofInt]; omega
  have b : (BitVec.ofInt 64 15).toNat = 2 ^ 4 - 1 := by decide
  show IntKind.u64.wrap (((BitVec.ofInt 64 (m : Int)) &&& (BitVec.ofInt 64 15)).toNat : Int) = _
  rw [BitVec.toNat_and, a, b, Nat.and_two_pow_sub_one_eq_mod, IntKind.wrap_u64]
  omega

def digS : ByteArray := ⟨#[48, 49, 50, 51, 52, 53, 54, 55, 56, 57, 97, 98, 99, 100, 101, 102, 103, 104, 105, 106, 107, 108, 109, 110, 111, 112, 113, 114, 115, 116, 117, 118, 119, 120, 121, 122]⟩
theorem dig_at : ∀ d : Nat, d < 16 → (digS.data.toList[d]?.getD 0) = hd d := by decide +kernel
theorem dig_index (d : Nat) (h : d < 16) (wx : World) (j : Int) (hj : j = (d : Int)) : (Instr.index 9 (.string ⟨#[48, 49, 50, 51, 52, 53, 54, 55, 56, 57, 97, 98, 99, 100, 101, 102, 103, 104, 105, 106, 107, 108, 109, 110, 111, 112, 113, 114, 115, 116, 117, 118, 119, 120, 121, 122]⟩) (.int .u64 j)).run Tryd.prog wx = .ok (.int .u8 ((hd d).toNat : Int)) wx := by
  subst hj
  have hs : digS.size = 36 := rfl
  rw [show (⟨#[48, 49, 50, 51, 52, 53, 54, 55, 56, 57, 97, 98, 99, 100, 101, 102, 103, 104, 105, 106, 107, 108, 109, 110, 111, 112, 113, 114, 115, 116, 117, 118, 119, 120, 121, 122]⟩ : ByteArray) = digS from rfl, run_index_string wx _ _ _ _ Tryd.underlying9, dif_pos ⟨by omega, by rw [hs]; omega⟩]
  have e := dig_at d h
  have hk : d < digS.data.toList.length := by show d < 36; omega
  rw [List.getElem?_eq_getElem hk, Option.getD_some] at e
  rw [← e]
  rfl

theorem dig_get (d : Nat) (h : d < 16) (h' : d < (⟨#[48, 49, 50, 51, 52, 53, 54, 55, 56, 57, 97, 98, 99, 100, 101, 102, 103, 104, 105, 106, 107, 108, 109, 110, 111, 112, 113, 114, 115, 116, 117, 118, 119, 120, 121, 122]⟩ : ByteArray).size) : (⟨#[48, 49, 50, 51, 52, 53, 54, 55, 56, 57, 97, 98, 99, 100, 101, 102, 103, 104, 105, 106, 107, 108, 109, 110, 111, 112, 113, 114, 115, 116, 117, 118, 119, 120, 121, 122]⟩ : ByteArray)[d]'h' = hd d := by
  have e := dig_at d h
  have hk : d < digS.data.toList.length := by show d < 36; omega
  rw [List.getElem?_eq_getElem hk, Option.getD_some] at e
  exact e

theorem isPow_any (w : World) : Calls Tryd.prog 77 #[.int .i64 16] w fun e w' => e = .returned (.bool true) ∧ w' = w := by
  go_enter Tryd.func77, Tryd.ntmps77
  go_wp2
  go_ret
  exact ⟨rfl, rfl⟩

/-- One cell of the table is what is read: 16 has four noughts behind. -/
theorem tz64_any (w : World) (hT : w.cell? ⟨3, 15, none⟩ = some (.int .u8 4)) : Calls Tryd.prog 80 #[.int .u64 16] w fun e w' => e = .returned (.int .i64 4) ∧ w' = w := by
  have f1 : IntKind.u64.wrap (-16) = 18446744073709551600 := by decide +kernel
  have f2 : bits BinOp.and IntKind.u64 16 18446744073709551600 = 16 := by decide +kernel
  have f3 : IntKind.u64.wrap (16 * 285870213051353865) = 4573923408821661840 := by decide +kernel
  go_enter Tryd.func80, Tryd.ntmps80
  go_wp2
  go_ret
  exact ⟨rfl, rfl⟩

theorem tz_any (w : World) (hT : w.cell? ⟨3, 15, none⟩ = some (.int .u8 4)) : Calls Tryd.prog 78 #[.int .u64 16] w fun e w' => e = .returned (.int .i64 4) ∧ w' = w := by
  go_enter Tryd.func78, Tryd.ntmps78
  go_wp2_with (go_at_call 80; refine (tz64_any _ hT).mono ?_; rintro e w1 ⟨rfl, hw⟩; obtain rfl := hw.symm)
  go_ret
  exact ⟨rfl, rfl⟩

end Go.Proofs.YtimfcbjgoilnpaaDoor.Hxt
