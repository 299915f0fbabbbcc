/-
  Walk: spec.l5Expect.
-/
import Derived.Test.YtimfcbjgoilnpaaDoorRke
namespace Go.Proofs.YtimfcbjgoilnpaaDoor.Exq
open Go.RowKit
open Go.Proofs.YtimfcbjgoilnpaaDoor.Chp (expC)
open Go.Proofs.YtimfcbjgoilnpaaDoor.Rkb (len_eq)

theorem drop_cons (s : ByteArray) (k : Nat) (h : k < s.size) : s.data.toList.drop k = s[k] :: s.data.toList.drop (k + 1) := by
  rw [List.drop_eq_getElem_cons (by rw [len_eq]; exact h)]
  rfl
theorem exp_end {s : ByteArray} {k : Nat} (h : s.size ≤ k) : expC (s.data.toList.drop k) = 1 := by
  rw [List.drop_eq_nil_of_le (by rw [len_eq]; exact h)]; rfl
theorem exp_no {s : ByteArray} {k : Nat} (h : k < s.size) (hc : s[k] ≠ 13) : expC (s.data.toList.drop k) = 2 := by
  rw [drop_cons s k h]; simp [expC, hc]
theorem exp_one {s : ByteArray} {k : Nat} (h : k < s.size) (hc : s[k] = 13) (h2 : s.size ≤ k + 1) : expC (s.data.toList.drop k) = 1 := by
  rw [drop_cons s k h, List.drop_eq_nil_of_le (by rw [len_eq]; exact h2)]; simp [expC, hc]
theorem exp_no2 {s : ByteArray} {k : Nat} (h : k + 1 < s.size) (hc : s[k] = 13) (h2 : s[k + 1] ≠ 10) : expC (s.data.toList.drop k) = 2 := by
  rw [drop_cons s k (by omega), drop_cons s (k + 1) h]; simp [expC, hc, h2]
theorem exp_yes {s : ByteArray} {k : Nat} (h : k + 1 < s.size) (hc : s[k] = 13) (h2 : s[k + 1] = 10) : expC (s.data.toList.drop k) = 0 := by
  rw [drop_cons s k (by omega), drop_cons s (k + 1) h]; simp [expC, hc, h2]
theorem byte_int (c : UInt8) (n : Nat) (hn : n < 256) : (c.toNat : Int) = (n : Int) ↔ c = UInt8.ofNat n := by
  constructor
  · intro h
    apply UInt8.toNat_inj.1
    rw [UInt8.toNat_ofNat_of_lt' (by omega)]
    omega
  · rintro rfl
    rw [UInt8.toNat_ofNat_of_lt' (by omega)]
theorem ret_i {a b : Int} (h : a = b) : Ending.returned (.int .i64 a) = .returned (.int .i64 b) := by rw [h]

/-- What stands at a place, as far as it has been looked at. -/
def PE (s : ByteArray) (at_ k : Nat) : Prop := (1 ≤ k → ∃ h : at_ < s.size, s[at_] = 13) ∧ (2 ≤ k → ∃ h : at_ + 1 < s.size, s[at_ + 1] = 10)

set_option maxHeartbeats 1600000 in
theorem l5Expect_any (s : ByteArray) (k : Nat) (w : World) (hs : s.size ≤ 4000000) (hk : k ≤ s.size + 8) :
    Calls Tryd.prog 59 #[.string s, .int .i64 k] w fun e w' => e = .returned (.int .i64 (expC (s.data.toList.drop k))) ∧ Below w.heap.size w w' := by
  go_enter Tryd.func59, Tryd.ntmps59
  go_wp2_with fail
  have hB : Hid (Below w.heap.size w (w.alloc (.cells #[.int .u8 13, .int .u8 10] 5))) := (Below.refl _ _).alloc (Nat.le_refl _) _
  go_loop [9] (fun i => ∃ j : Nat, j ≤ 2 ∧ i = .int .i64 j ∧ Hid (PE s k j)) (fun i => 2 - (intOf i).toNat)
  case atStart => exact ⟨0, by omega, rfl, fun h => absurd h (by omega), fun h => absurd h (by omega)⟩
  case round =>
    obtain ⟨j, hj, rfl, HP⟩ := hrel
    rcases (show j = 0 ∨ j = 1 ∨ j = 2 by omega) with rfl | rfl | rfl
    · by_cases h : k < s.size
      · by_cases hc : s[k] = 13
        · have hq : ((s[k].toNat : Int) == 13) = true := by rw [hc]; rfl
          have HP' : Hid (PE s k 1) := ⟨fun _ => ⟨h, hc⟩, fun h => absurd h (by omega)⟩
          clear hc
          go_wp2_with fail
          go_round
          case rel => exact ⟨1, by omega, by go_num, HP'⟩
          case measure => simp [intOf]
        · have HR : Hid (expC (s.data.toList.drop k) = 2) := exp_no h hc
          have hq : ((s[k].toNat : Int) == 13) = false := by rw [beq_eq_false_iff_ne]; intro e; exact hc ((byte_int _ 13 (by omega)).1 e)
          clear hc
          go_wp2_with fail
          go_ret
          exact ⟨ret_i HR.out.symm, hB.out⟩
      · have HR : Hid (expC (s.data.toList.drop k) = 1) := exp_end (by omega)
        go_wp2_with fail
        go_ret
        exact ⟨ret_i HR.out.symm, hB.out⟩
    · obtain ⟨h0, hc0⟩ := HP.out.1 (Nat.le_refl _)
      by_cases h : k + 1 < s.size
      · by_cases hc : s[k + 1] = 10
        · have hq : ((s[k + 1].toNat : Int) == 10) = true := by rw [hc]; rfl
          have HP' : Hid (PE s k 2) := ⟨fun _ => ⟨h0, hc0⟩, fun _ => ⟨h, hc⟩⟩
          clear hc hc0
          go_wp2_with fail
          go_round
          case rel => exact ⟨2, by omega, by go_num, HP'⟩
          case measure => simp [intOf]
        · have HR : Hid (expC (s.data.toList.drop k) = 2) := exp_no2 h hc0 hc
          have hq : ((s[k + 1].toNat : Int) == 10) = false := by rw [beq_eq_false_iff_ne]; intro e; exact hc ((byte_int _ 10 (by omega)).1 e)
          clear hc hc0
          go_wp2_with fail
          go_ret
          exact ⟨ret_i HR.out.symm, hB.out⟩
      · have HR : Hid (expC (s.data.toList.drop k) = 1) := exp_one h0 hc0 (by omega)
        clear hc0
        go_wp2_with fail
        go_ret
        exact ⟨ret_i HR.out.symm, hB.out⟩
    · obtain ⟨h0, hc0⟩ := HP.out.1 (by omega)
      obtain ⟨h1, hc1⟩ := HP.out.2 (by omega)
      have HR : Hid (expC (s.data.toList.drop k) = 0) := exp_yes h1 hc0 hc1
      clear hc0 hc1
      go_wp2_with fail
      go_ret
      exact ⟨ret_i HR.out.symm, hB.out⟩

end Go.Proofs.YtimfcbjgoilnpaaDoor.Exq
