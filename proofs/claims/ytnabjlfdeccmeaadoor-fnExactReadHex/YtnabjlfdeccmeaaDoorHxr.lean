/-
  Walks: impl.ReadHex, spec.l5Read, ReadHex.
-/
import Derived.Test.YtnabjlfdeccmeaaDoorHxn
import Derived.Test.YtnabjlfdeccmeaaDoorFbt
namespace Go.Proofs.YtnabjlfdeccmeaaDoor.Hxr
open Go.RowKit
open Go.Proofs.YtnabjlfdeccmeaaDoor.Byt
open Go.Proofs.YtnabjlfdeccmeaaDoor.Hex
open Go.Proofs.YtnabjlfdeccmeaaDoor.Hxn
open Go.Proofs.YtnabjlfdeccmeaaDoor.Fbt

set_option maxHeartbeats 800000 in
theorem implReadHex_any (s : ByteArray) (w : World) (hT : Tab w) (hs : s.size ≤ 2000000) :
    Calls Tryd.prog 15 #[.string s] w fun e w' => e = .returned (hxV s) ∧ Below w.heap.size w w' := by
  have HB0 := fun wx => isBetween_any 1 (s.size : Int) 4 wx
  have HB : Hid _ := HB0
  clear HB0
  have hpos := hT.lt
  by_cases hb : 1 ≤ s.size ∧ s.size ≤ 4
  · have ha : (decide ((1 : Int) ≤ (s.size : Int)) && decide ((s.size : Int) ≤ 4)) = true := by rw [decide_eq_true (by omega), decide_eq_true (by omega)]; rfl
    have HC : Hid (Tab w) := hT
    clear hT
    go_enter Tryd.func15, Tryd.ntmps15
    go_wp2_with (go_at_call 24; refine (HB.out _).mono ?_; rintro e w1 ⟨rfl, hw⟩; obtain rfl := hw.symm; rw [ha])
    go_loopw [4, 5] (fun n i wr => ∃ k : Nat, k ≤ s.size ∧ n = .int .i64 (hxL (s.data.toList.take k) : Int) ∧ i = .int .i64 k ∧ Below w.heap.size w wr ∧ Hid (∀ j, (hj : j < s.size) → j < k → 0 ≤ hexv (s[j].toNat : Int)))
      (fun _ i _ => s.size - (intOf i).toNat)
    case atStart => exact ⟨0, by omega, rfl, rfl, Below.refl _ _, fun j _ hj => absurd hj (by omega)⟩
    case round =>
      obtain ⟨k, hk, rfl, rfl, hbel, HA⟩ := hrel
      by_cases hlt : k < s.size
      · have HT : Hid (Tab wr) := HC.out.below hbel hpos
        by_cases hd : 0 ≤ hexv (s[k].toNat : Int)
        · have hp : hxL (s.data.toList.take k) < 4096 := Nat.lt_of_lt_of_le (hxL_bd s k hk) (Nat.le_trans (Nat.pow_le_pow_right (by omega) (show k ≤ 3 by omega)) (by decide))
          have HN : Hid (16 * (hxL (s.data.toList.take k) : Int) + hexv (s[k].toNat : Int) = (hxL (s.data.toList.take (k + 1)) : Int)) := by
            show _ = _
            rw [hxL_take s k hlt]; omega
          have hx := hexv_hi (s[k].toNat : Int)
          obtain ⟨m, hm⟩ := Int.eq_ofNat_of_zero_le hd
          have HO : Hid (bits BinOp.or IntKind.i64 ((hxL (s.data.toList.take k) : Int) * 16) (hexv (s[k].toNat : Int)) = 16 * (hxL (s.data.toList.take k) : Int) + hexv (s[k].toNat : Int)) := by
            show _ = _
            rw [hm]; exact or_add _ _ (by omega) (by omega)
          have HA' : Hid (∀ j, (hj : j < s.size) → j < k + 1 → 0 ≤ hexv (s[j].toNat : Int)) := by
            intro j hj hjk
            by_cases e : j = k
            · subst e; exact hd
            · exact HA.out j hj (by omega)
          have H8 : Hid (∀ wx, Tab wx → Calls Tryd.prog 27 #[.int .u8 (s[k].toNat : Int), .int .u8 8] wx fun e w' => e = .returned (.bool true) ∧ w' = wx) := by
            intro wx hx
            have := isHex_any _ wx hx (byte_bd s[k]).1 (byte_bd s[k]).2
            rwa [decide_eq_true hd] at this
          have HV : Hid (∀ wx, Calls Tryd.prog 28 #[.int .u8 (s[k].toNat : Int)] wx fun e w' => e = .returned (.int .u8 (hexv (s[k].toNat : Int))) ∧ w' = wx) := fun wx => hexValue_any _ wx (byte_bd s[k]).1 (byte_bd s[k]).2 hd
          clear hm HA
          go_wp2_with (first
            | (go_at_call 27; refine (H8.out _ HT.out).mono ?_; rintro e w1 ⟨rfl, hw⟩; obtain rfl := hw.symm)
            | (go_at_call 28; refine (HV.out _).mono ?_; rintro e w2 ⟨rfl, hw2⟩; obtain rfl := hw2.symm))
          have HOO := HO.out
          go_roundw
          case rel => exact ⟨k + 1, by omega, by rw [HOO, HN.out], by go_num, hbel, HA'⟩
          case measure => simp [intOf]; omega
        · have HR : Hid (hxV s = .tuple #[.int .i64 0, .bool false]) := hx_no (hxB_bad (hxAll_no hlt (by omega)))
          have H8 : Hid (∀ wx, Tab wx → Calls Tryd.prog 27 #[.int .u8 (s[k].toNat : Int), .int .u8 8] wx fun e w' => e = .returned (.bool false) ∧ w' = wx) := by
            intro wx hx
            have := isHex_any _ wx hx (byte_bd s[k]).1 (byte_bd s[k]).2
            rwa [decide_eq_false hd] at this
          clear HA
          go_wp2_with (go_at_call 27; refine (H8.out _ HT.out).mono ?_; rintro e w1 ⟨rfl, hw⟩; obtain rfl := hw.symm)
          go_ret2
          exact ⟨ret_v HR.out.symm, hbel⟩
      · obtain rfl : k = s.size := by omega
        have HR : Hid (hxV s = .tuple #[.int .i64 (hxL (s.data.toList.take s.size) : Int), .bool true]) := by
          show _ = _
          rw [hx_yes (hxB_good hb.1 hb.2 (hxAll_yes fun j hj => HA.out j hj hj)), ← show s.data.toList.length = s.size by simp, List.take_length]
        clear HA
        go_wp2
        go_ret2
        exact ⟨ret_v HR.out.symm, hbel⟩
  · have ha : (decide ((1 : Int) ≤ (s.size : Int)) && decide ((s.size : Int) ≤ 4)) = false := by
      rcases (show s.size < 1 ∨ 4 < s.size by omega) with h | h
      · rw [decide_eq_false (by omega)]; rfl
      · rw [decide_eq_false (show ¬ (s.size : Int) ≤ 4 by omega), Bool.and_false]
    have HR : Hid (hxV s = .tuple #[.int .i64 0, .bool false]) := hx_no (by
      rcases (show s.size < 1 ∨ 4 < s.size by omega) with h | h
      · exact hxB_short h
      · exact hxB_long h)
    go_enter Tryd.func15, Tryd.ntmps15
    go_wp2_with (go_at_call 24; refine (HB.out _).mono ?_; rintro e w1 ⟨rfl, hw⟩; obtain rfl := hw.symm; rw [ha])
    go_ret2
    exact ⟨ret_v HR.out.symm, Below.refl _ _⟩

end Go.Proofs.YtnabjlfdeccmeaaDoor.Hxr
