/-
  Walks: spec.l5Read, spec.ReadHex.
-/
import Derived.Test.YtimfcbjgoilnpaaDoorHxn
import Derived.Test.YtimfcbjgoilnpaaDoorFbt
namespace Go.Proofs.YtimfcbjgoilnpaaDoor.Hxs
open Go.RowKit
open Go.Proofs.YtimfcbjgoilnpaaDoor.Byt
open Go.Proofs.YtimfcbjgoilnpaaDoor.Hex
open Go.Proofs.YtimfcbjgoilnpaaDoor.Hxn
open Go.Proofs.YtimfcbjgoilnpaaDoor.Fbt

/-- What l5Read tells. -/
def l5V (s : ByteArray) : Int := if hxB s then (hxL s.data.toList : Int) else -1
theorem l5_no {s : ByteArray} (h : hxB s = false) : l5V s = -1 := by unfold l5V; rw [h]; rfl
theorem l5_yes {s : ByteArray} (h : hxB s = true) : l5V s = (hxL s.data.toList : Int) := by unfold l5V; rw [h]; rfl
theorem ret_n {a b : Int} (h : a = b) : Ending.returned (.int .i64 a) = .returned (.int .i64 b) := by rw [h]

set_option maxHeartbeats 800000 in
theorem l5Read_any (s : ByteArray) (w : World) (hs : s.size ≤ 2000000) :
    Calls Tryd.prog 50 #[.string s] w fun e w' => e = .returned (.int .i64 (l5V s)) ∧ w' = w := by
  have HB0 := fun wx => l1In_any (s.size : Int) 1 4 wx
  have HB : Hid _ := HB0
  clear HB0
  go_enter Tryd.func50, Tryd.ntmps50
  go_wp2
  go_loop [3, 4] (fun n i => ∃ (k : Nat) (v : Int), k ≤ s.size ∧ n = .int .i64 v ∧ i = .int .i64 k ∧ Hid (s.size ≤ 4 → v = (hxL (s.data.toList.take k) : Int)) ∧ Hid (∀ j, (hj : j < s.size) → j < k → 0 ≤ hexv (s[j].toNat : Int)))
    (fun _ i => s.size - (intOf i).toNat)
  case atStart => exact ⟨0, 0, by omega, rfl, rfl, fun _ => rfl, fun j _ hj => absurd hj (by omega)⟩
  case round =>
    obtain ⟨k, v, hk, rfl, rfl, HN, HA⟩ := hrel
    by_cases hlt : k < s.size
    · by_cases hd : 0 ≤ hexv (s[k].toNat : Int)
      · have hx := hexv_hi (s[k].toNat : Int)
        have HX : Hid (∀ wx, Calls Tryd.prog 58 #[.int .u8 (s[k].toNat : Int)] wx fun e w' => e = .returned (.int .i64 (hexv (s[k].toNat : Int))) ∧ w' = wx) := fun wx => l1Hex_any _ wx (byte_bd s[k]).1 (byte_bd s[k]).2
        have HN' : Hid (s.size ≤ 4 → wrap64 (wrap64 (16 * v) + hexv (s[k].toNat : Int)) = (hxL (s.data.toList.take (k + 1)) : Int)) := by
          intro h4
          have hp : hxL (s.data.toList.take k) < 4096 := Nat.lt_of_lt_of_le (hxL_bd s k hk) (Nat.le_trans (Nat.pow_le_pow_right (by omega) (show k ≤ 3 by omega)) (by decide))
          have := HN.out h4
          rw [hxL_take s k hlt]
          simp only [wrap64]
          try rw [IntKind.wrap_i64, IntKind.wrap_i64]
          omega
        have HA' : Hid (∀ j, (hj : j < s.size) → j < k + 1 → 0 ≤ hexv (s[j].toNat : Int)) := by
          intro j hj hjk
          by_cases e : j = k
          · subst e; exact hd
          · exact HA.out j hj (by omega)
        have hd' : decide (hexv (s[k].toNat : Int) < 0) = false := decide_eq_false (by omega)
        clear HN HA
        go_wp2_with (go_at_call 58; refine (HX.out _).mono ?_; rintro e w1 ⟨rfl, hw⟩; obtain rfl := hw.symm)
        go_round
        case rel => exact ⟨k + 1, _, by omega, rfl, by go_num, HN', HA'⟩
        case measure => simp [intOf]; omega
      · have HR : Hid (l5V s = -1) := l5_no (hxB_bad (hxAll_no hlt (by omega)))
        have HX : Hid (∀ wx, Calls Tryd.prog 58 #[.int .u8 (s[k].toNat : Int)] wx fun e w' => e = .returned (.int .i64 (hexv (s[k].toNat : Int))) ∧ w' = wx) := fun wx => l1Hex_any _ wx (byte_bd s[k]).1 (byte_bd s[k]).2
        have hd' : decide (hexv (s[k].toNat : Int) < 0) = true := decide_eq_true (by omega)
        clear HN HA
        go_wp2_with (go_at_call 58; refine (HX.out _).mono ?_; rintro e w1 ⟨rfl, hw⟩; obtain rfl := hw.symm)
        go_ret
        exact ⟨ret_n HR.out.symm, rfl⟩
    · obtain rfl : k = s.size := by omega
      by_cases hb : 1 ≤ s.size ∧ s.size ≤ 4
      · have ha : (decide ((1 : Int) ≤ (s.size : Int)) && decide ((s.size : Int) ≤ 4)) = true := by rw [decide_eq_true (by omega), decide_eq_true (by omega)]; rfl
        have HR : Hid (l5V s = v) := by
          show _ = _
          rw [l5_yes (hxB_good hb.1 hb.2 (hxAll_yes fun j hj => HA.out j hj hj)), HN.out hb.2, ← show s.data.toList.length = s.size by simp, List.take_length]
        clear HA HN
        go_wp2_with (go_at_call 46; refine (HB.out _).mono ?_; rintro e w1 ⟨rfl, hw⟩; obtain rfl := hw.symm; rw [ha])
        go_ret
        exact ⟨ret_n HR.out.symm, rfl⟩
      · have ha : (decide ((1 : Int) ≤ (s.size : Int)) && decide ((s.size : Int) ≤ 4)) = false := by
          rcases (show s.size < 1 ∨ 4 < s.size by omega) with h | h
          · rw [decide_eq_false (by omega)]; rfl
          · rw [decide_eq_false (show ¬ (s.size : Int) ≤ 4 by omega), Bool.and_false]
        have HR : Hid (l5V s = -1) := l5_no (by
          rcases (show s.size < 1 ∨ 4 < s.size by omega) with h | h
          · exact hxB_short h
          · exact hxB_long h)
        clear HA HN
        go_wp2_with (go_at_call 46; refine (HB.out _).mono ?_; rintro e w1 ⟨rfl, hw⟩; obtain rfl := hw.symm; rw [ha])
        go_ret
        exact ⟨ret_n HR.out.symm, rfl⟩

theorem specReadHex_any (s : ByteArray) (w : World) (hs : s.size ≤ 2000000) :
    Calls Tryd.prog 30 #[.string s] w fun e w' => e = .returned (hxV s) ∧ w' = w := by
  by_cases hb : hxB s = true
  · have HR : Hid (hxV s = .tuple #[.int .i64 (hxL s.data.toList : Int), .bool true]) := hx_yes hb
    have HX : Hid (∀ wx, Calls Tryd.prog 50 #[.string s] wx fun e w' => e = .returned (.int .i64 (hxL s.data.toList : Int)) ∧ w' = wx) := by
      intro wx
      have := l5Read_any s wx hs
      rwa [l5_yes hb] at this
    clear hb
    go_enter Tryd.func30, Tryd.ntmps30
    go_wp2_with (go_at_call 50; refine (HX.out _).mono ?_; rintro e w1 ⟨rfl, hw⟩; obtain rfl := hw.symm)
    go_ret2
    exact ⟨ret_v HR.out.symm, rfl⟩
  · have hb' : hxB s = false := by simpa using hb
    have HR : Hid (hxV s = .tuple #[.int .i64 0, .bool false]) := hx_no hb'
    have HX : Hid (∀ wx, Calls Tryd.prog 50 #[.string s] wx fun e w' => e = .returned (.int .i64 (-1)) ∧ w' = wx) := by
      intro wx
      have := l5Read_any s wx hs
      rwa [l5_no hb'] at this
    clear hb hb'
    go_enter Tryd.func30, Tryd.ntmps30
    go_wp2_with (go_at_call 50; refine (HX.out _).mono ?_; rintro e w1 ⟨rfl, hw⟩; obtain rfl := hw.symm)
    go_ret2
    exact ⟨ret_v HR.out.symm, rfl⟩

end Go.Proofs.YtimfcbjgoilnpaaDoor.Hxs
