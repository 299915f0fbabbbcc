/-
  Walks: spec.l5Hex, HexText.
-/
import Derived.Test.YtimfcbjgoilnpaaDoorHxu
import Derived.Test.YtimfcbjgoilnpaaDoorFbt
import Derived.Test.YtimfcbjgoilnpaaDoorLow
namespace Go.Proofs.YtimfcbjgoilnpaaDoor.Hxw
open Go.RowKit
open Go.Proofs.YtimfcbjgoilnpaaDoor.Hxt
open Go.Proofs.YtimfcbjgoilnpaaDoor.Fbt
open Go.Proofs.YtimfcbjgoilnpaaDoor.Low

theorem low_dig : ∀ d : Nat, d < 16 → lowS ((⟨#[48, 49, 50, 51, 52, 53, 54, 55, 56, 57, 65, 66, 67, 68, 69, 70]⟩ : ByteArray).extract d (d + 1)) = ⟨#[hd d]⟩ := by decide +kernel
theorem dig_size : ∀ d : Nat, d < 16 → ((⟨#[48, 49, 50, 51, 52, 53, 54, 55, 56, 57, 65, 66, 67, 68, 69, 70]⟩ : ByteArray).extract d (d + 1)).size = 1 := by decide +kernel
theorem app_one (c : UInt8) (l : List UInt8) : (⟨#[c]⟩ : ByteArray) ++ ⟨l.toArray⟩ = ⟨(c :: l).toArray⟩ := by
  apply ByteArray.ext; simp
theorem ret_s {a b : ByteArray} (h : a = b) : Ending.returned (.string a) = .returned (.string b) := by rw [h]

set_option maxHeartbeats 1600000 in
theorem l5Hex_any (n : Nat) (hn : n < 65536) (w : World) :
    Calls Tryd.prog 47 #[.int .i64 n] w fun e w' => e = .returned (.string ⟨(hexT n).toArray⟩) ∧ Below w.heap.size w w' := by
  go_enter Tryd.func47, Tryd.ntmps47
  go_wp2_with fail
  go_loopw [0, 3] (fun n0 s wr => ∃ (m : Nat) (rest : List UInt8), n0 = .int .i64 m ∧ s = .string ⟨rest.toArray⟩ ∧ rest.length ≤ 3 ∧ m < 16 ^ (4 - rest.length) ∧ Hid (hexT n = hexT m ++ rest) ∧ Below w.heap.size w wr)
    (fun n0 _ _ => (intOf n0).toNat)
  case atStart => exact ⟨n, [], rfl, rfl, by simp, by simpa using hn, by show _ = _; simp, Below.refl _ _⟩
  case round =>
    obtain ⟨m, rest, rfl, rfl, hl, hmm, HX, hbel⟩ := hrel
    have hm : m < 65536 := Nat.lt_of_lt_of_le hmm (Nat.le_trans (Nat.pow_le_pow_right (by omega) (show 4 - rest.length ≤ 4 by omega)) (by decide))
    have HL : Hid (∀ wx, Calls Tryd.prog 61 #[.string ((⟨#[48, 49, 50, 51, 52, 53, 54, 55, 56, 57, 65, 66, 67, 68, 69, 70]⟩ : ByteArray).extract (m % 16) (m % 16 + 1))] wx fun e w' => e = .returned (.string ⟨#[hd (m % 16)]⟩) ∧ Below wx.heap.size wx w') := by
      intro wx
      have := specLow_any ((⟨#[48, 49, 50, 51, 52, 53, 54, 55, 56, 57, 65, 66, 67, 68, 69, 70]⟩ : ByteArray).extract (m % 16) (m % 16 + 1)) wx (by rw [dig_size _ (by omega)]; omega)
      rwa [low_dig _ (by omega)] at this
    have happ := app_one (hd (m % 16)) rest
    by_cases h16 : 16 ≤ m
    · have HX' : Hid (hexT n = hexT (m / 16) ++ (hd (m % 16) :: rest)) := by
        show _ = _
        rw [HX.out, hexT_more (by omega), List.append_assoc]; rfl
      have hz : ((m : Int) / 16 == 0) = false := by
        have : (m : Int) / 16 ≠ 0 := by omega
        simpa using this
      have hl3 : rest.length ≤ 2 := by
        rcases Nat.lt_or_ge rest.length 3 with h | h
        · omega
        · have : rest.length = 3 := by omega
          rw [this] at hmm; simp at hmm; omega
      have hm' : m / 16 < 16 ^ (4 - (rest.length + 1)) := by
        rw [show 4 - rest.length = (4 - (rest.length + 1)) + 1 by omega, Nat.pow_succ] at hmm
        omega
      go_wp2_with (go_at_call 61; refine (HL.out _).mono ?_; rintro e w1 ⟨rfl, hb1⟩)
      go_roundw
      case rel => exact ⟨m / 16, hd (m % 16) :: rest, by go_num, rfl, by simp; omega, hm', HX', hbel.trans (hb1.mono hbel.size)⟩
      case measure => simp [intOf]; omega
    · have HR : Hid (hexT n = hd (m % 16) :: rest) := by
        show _ = _
        rw [HX.out, hexT_one (by omega), Nat.mod_eq_of_lt (by omega)]; rfl
      have hz : ((m : Int) / 16 == 0) = true := by
        have : (m : Int) / 16 = 0 := by omega
        simpa using this
      go_wp2_with (go_at_call 61; refine (HL.out _).mono ?_; rintro e w1 ⟨rfl, hb1⟩)
      go_ret
      exact ⟨by rw [HR.out]; rfl, hbel.trans (hb1.mono hbel.size)⟩

theorem specHexText_any (n : Int) (w : World) :
    Calls Tryd.prog 28 #[.int .i64 n] w fun e w' => e = .returned (.tuple #[.string (Hxu.htS n), .bool (Hxu.htB n)]) ∧ Below w.heap.size w w' := by
  have HB0 := fun wx => l1In_any n 0 65535 wx
  by_cases hb : 0 ≤ n ∧ n ≤ 65535
  · obtain ⟨m, rfl⟩ := Int.eq_ofNat_of_zero_le hb.1
    have hm : m < 65536 := by omega
    rw [show (decide ((0 : Int) ≤ (m : Int)) && decide ((m : Int) ≤ 65535)) = true from (Hxu.ht_yes hm).1] at HB0
    have HB : Hid _ := HB0
    have HR : Hid _ := Hxu.ht_yes hm
    have HF0 := fun wx => l5Hex_any m hm wx
    have HF : Hid _ := HF0
    clear HF0 HB0 hb
    go_enter Tryd.func28, Tryd.ntmps28
    go_wp2_with (first
      | (go_at_call 46; refine (HB.out _).mono ?_; rintro e w1 ⟨rfl, hw⟩; obtain rfl := hw.symm)
      | (go_at_call 47; refine (HF.out _).mono ?_; rintro e w1 ⟨rfl, hb1⟩))
    go_ret2
    exact ⟨Hxu.ret_sb HR.out.2.symm HR.out.1.symm, hb1⟩
  · have hf : Hxu.htB n = false := by
      unfold Hxu.htB
      rcases (show ¬ 0 ≤ n ∨ ¬ n ≤ 65535 by omega) with h | h
      · rw [decide_eq_false h]; rfl
      · rw [decide_eq_false h, Bool.and_false]
    rw [show (decide ((0 : Int) ≤ n) && decide (n ≤ 65535)) = false from hf] at HB0
    have HB : Hid _ := HB0
    have HR : Hid _ := And.intro hf (Hxu.ht_no hf)
    clear HB0 hb hf
    go_enter Tryd.func28, Tryd.ntmps28
    go_wp2_with (first
      | (go_at_call 46; refine (HB.out _).mono ?_; rintro e w1 ⟨rfl, hw⟩; obtain rfl := hw.symm))
    go_ret2
    exact ⟨Hxu.ret_sb HR.out.2.symm HR.out.1.symm, Below.refl _ _⟩

end Go.Proofs.YtimfcbjgoilnpaaDoor.Hxw
