/-
  Walks: impl.ReadHex.
-/
import Derived.Test.YtimfcbjgoilnpaaDoorHxn
import Derived.Test.YtimfcbjgoilnpaaDoorFbt
import Derived.Test.YtimfcbjgoilnpaaDoorHdg
namespace Go.Proofs.YtimfcbjgoilnpaaDoor.Hxr
open Go.RowKit
open Go.Proofs.YtimfcbjgoilnpaaDoor.Byt
open Go.Proofs.YtimfcbjgoilnpaaDoor.Hex
open Go.Proofs.YtimfcbjgoilnpaaDoor.Hxn
open Go.Proofs.YtimfcbjgoilnpaaDoor.Fbt
open Go.Proofs.YtimfcbjgoilnpaaDoor.Rka (hxN hxN_le hxN_at)
open Go.Proofs.YtimfcbjgoilnpaaDoor.Hdg (dgs dgs_size dgs_all size_ne ahead_any)

theorem all_of {s : ByteArray} (h : hxN s.data.toList = s.size) : hxAll s.data.toList = true :=
  hxAll_yes fun k hk => by have := hxN_at s.data.toList k (by omega); rwa [at_list s k hk] at this
theorem all_not {s : ByteArray} (h : hxN s.data.toList ≠ s.size) : hxAll s.data.toList = false := by
  rw [Bool.eq_false_iff]
  intro ha
  refine h (Rka.hxN_is _ _ (by simp) (fun j hj => ?_) (fun hlt => absurd hlt (by simp)))
  have hj' : j < s.data.toList.length := by simpa using hj
  rw [List.getElem?_eq_getElem hj', Option.getD_some]
  unfold hxAll at ha
  rw [List.all_eq_true] at ha
  exact of_decide_eq_true (ha _ (List.getElem_mem hj'))

set_option maxHeartbeats 800000 in
theorem implReadHex_any (s : ByteArray) (w : World) (hT : Tab w) (hs : s.size ≤ 4000000) :
    Calls Tryd.prog 31 #[.string s] w fun e w' => e = .returned (hxV s) ∧ w' = w := by
  have HB0 := fun wx => isBetween_any 1 (s.size : Int) 4 wx
  have HB : Hid _ := HB0
  clear HB0
  by_cases hb : 1 ≤ s.size ∧ s.size ≤ 4
  · have ha : (decide ((1 : Int) ≤ (s.size : Int)) && decide ((s.size : Int) ≤ 4)) = true := by rw [decide_eq_true (by omega), decide_eq_true (by omega)]; rfl
    have HC : Hid (Tab w) := hT
    clear hT
    by_cases hx : hxN s.data.toList = s.size
    · have HD : Hid (∀ wx, Tab wx → Calls Tryd.prog 51 #[.string s] wx fun e w' => e = .returned (.string s) ∧ w' = wx) := by
        intro wx h
        have := ahead_any s wx h hs
        rwa [dgs_all hx] at this
      have HAll : Hid (∀ j, (hj : j < s.size) → 0 ≤ hexv (s[j].toNat : Int)) := by
        intro j hj
        have := hxN_at s.data.toList j (by omega)
        rwa [at_list s j hj] at this
      have HR : Hid (hxV s = .tuple #[.int .i64 (hxL s.data.toList : Int), .bool true]) := hx_yes (hxB_good hb.1 hb.2 (all_of hx))
      clear hx
      go_enter Tryd.func31, Tryd.ntmps31
      go_wp2_with (first
        | (go_at_call 48; refine (HB.out _).mono ?_; rintro e w1 ⟨rfl, hw⟩; obtain rfl := hw.symm; rw [ha])
        | (go_at_call 51; refine (HD.out _ HC.out).mono ?_; rintro e w1 ⟨rfl, hw⟩; obtain rfl := hw.symm))
      go_loop [4, 5] (fun n i => ∃ k : Nat, k ≤ s.size ∧ n = .int .i64 (hxL (s.data.toList.take k) : Int) ∧ i = .int .i64 k) (fun _ i => s.size - (intOf i).toNat)
      case atStart => exact ⟨0, by omega, rfl, rfl⟩
      case round =>
        obtain ⟨k, hk, rfl, rfl⟩ := hrel
        by_cases hlt : k < s.size
        · have hd := HAll.out k hlt
          have hp : hxL (s.data.toList.take k) < 4096 := Nat.lt_of_lt_of_le (hxL_bd s k hk) (Nat.le_trans (Nat.pow_le_pow_right (by omega) (show k ≤ 3 by omega)) (by decide))
          have HN : Hid (16 * (hxL (s.data.toList.take k) : Int) + hexv (s[k].toNat : Int) = (hxL (s.data.toList.take (k + 1)) : Int)) := by
            show _ = _
            rw [hxL_take s k hlt]; omega
          have hx := hexv_hi (s[k].toNat : Int)
          obtain ⟨m, hm⟩ := Int.eq_ofNat_of_zero_le hd
          have HO : Hid (bits BinOp.or IntKind.i64 ((hxL (s.data.toList.take k) : Int) * 16) (hexv (s[k].toNat : Int)) = 16 * (hxL (s.data.toList.take k) : Int) + hexv (s[k].toNat : Int)) := by
            show _ = _
            rw [hm]; exact or_add _ _ (by omega) (by omega)
          have HV : Hid (∀ wx, Calls Tryd.prog 52 #[.int .u8 (s[k].toNat : Int)] wx fun e w' => e = .returned (.int .u8 (hexv (s[k].toNat : Int))) ∧ w' = wx) := fun wx => hexValue_any _ wx (byte_bd s[k]).1 (byte_bd s[k]).2 hd
          clear hm
          go_wp2_with (go_at_call 52; refine (HV.out _).mono ?_; rintro e w2 ⟨rfl, hw2⟩; obtain rfl := hw2.symm)
          have HOO := HO.out
          go_round
          case rel => exact ⟨k + 1, by omega, by rw [HOO, HN.out], by go_num⟩
          case measure => simp [intOf]; omega
        · obtain rfl : k = s.size := by omega
          have HR' : Hid (hxV s = .tuple #[.int .i64 (hxL (s.data.toList.take s.size) : Int), .bool true]) := by
            show _ = _
            rw [HR.out, ← show s.data.toList.length = s.size by simp, List.take_length]
          clear HAll
          go_wp2_with fail
          go_ret2
          exact ⟨ret_v HR'.out.symm, rfl⟩
    · have hn : (dgs s).size ≠ s.size := by rw [dgs_size]; exact hx
      have HR : Hid (hxV s = .tuple #[.int .i64 0, .bool false]) := hx_no (hxB_bad (all_not hx))
      have HD : Hid (∀ wx, Tab wx → Calls Tryd.prog 51 #[.string s] wx fun e w' => e = .returned (.string (dgs s)) ∧ w' = wx) := fun wx h => ahead_any s wx h hs
      have hq := size_ne hn
      have hq' : ((dgs s).toList != s.toList) = true := by rw [bne, hq]; rfl
      generalize dgs s = D at HD hq hq'
      clear hx hn
      go_enter Tryd.func31, Tryd.ntmps31
      go_wp2_with (first
        | (go_at_call 48; refine (HB.out _).mono ?_; rintro e w1 ⟨rfl, hw⟩; obtain rfl := hw.symm; rw [ha])
        | (go_at_call 51; refine (HD.out _ HC.out).mono ?_; rintro e w1 ⟨rfl, hw⟩; obtain rfl := hw.symm))
      go_ret2
      exact ⟨ret_v HR.out.symm, rfl⟩
  · have ha : (decide ((1 : Int) ≤ (s.size : Int)) && decide ((s.size : Int) ≤ 4)) = false := by
      rcases (show s.size < 1 ∨ 4 < s.size by omega) with h | h
      · rw [decide_eq_false (by omega)]; rfl
      · rw [decide_eq_false (show ¬ (s.size : Int) ≤ 4 by omega), Bool.and_false]
    have HR : Hid (hxV s = .tuple #[.int .i64 0, .bool false]) := hx_no (by
      rcases (show s.size < 1 ∨ 4 < s.size by omega) with h | h
      · exact hxB_short h
      · exact hxB_long h)
    go_enter Tryd.func31, Tryd.ntmps31
    go_wp2_with (go_at_call 48; refine (HB.out _).mono ?_; rintro e w1 ⟨rfl, hw⟩; obtain rfl := hw.symm; rw [ha])
    go_ret2
    exact ⟨ret_v HR.out.symm, rfl⟩

end Go.Proofs.YtimfcbjgoilnpaaDoor.Hxr
