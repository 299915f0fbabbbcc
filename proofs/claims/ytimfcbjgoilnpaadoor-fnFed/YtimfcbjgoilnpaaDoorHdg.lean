/-
  Walks: impl.hexDigitsAhead.
-/
import Derived.Test.YtimfcbjgoilnpaaDoorRka
import Derived.Test.YtimfcbjgoilnpaaDoorFbt
namespace Go.Proofs.YtimfcbjgoilnpaaDoor.Hdg
open Go.RowKit
open Go.Proofs.YtimfcbjgoilnpaaDoor.Byt
open Go.Proofs.YtimfcbjgoilnpaaDoor.Hex
open Go.Proofs.YtimfcbjgoilnpaaDoor.Rka (hxN hxN_le hxN_is hxN_at)

/-- The hex digits ahead of a text, and what stands behind them. -/
def dgs (s : ByteArray) : ByteArray := s.extract 0 (hxN s.data.toList)
theorem dgs_size (s : ByteArray) : (dgs s).size = hxN s.data.toList := by
  have := hxN_le s.data.toList
  have e : s.data.toList.length = s.size := by simp
  unfold dgs; rw [ByteArray.size_extract]; omega
theorem ext_list (s : ByteArray) (a b : Nat) : (s.extract a b).data.toList = (s.data.toList.take b).drop a := by
  rw [ByteArray.data_extract, Array.toList_extract, List.extract_eq_take_drop, List.drop_take]
theorem dgs_list (s : ByteArray) : (dgs s).data.toList = s.data.toList.take (hxN s.data.toList) := by unfold dgs; rw [ext_list, List.drop_zero]
theorem ext_full (s : ByteArray) : s.extract 0 s.size = s := by simp
theorem dgs_all {s : ByteArray} (h : hxN s.data.toList = s.size) : dgs s = s := by unfold dgs; rw [h]; exact ext_full s
theorem size_ne {a b : ByteArray} (h : a.size ≠ b.size) : (a.toList == b.toList) = false := by
  rw [beq_eq_false_iff_ne]
  intro e
  have : a.toList.length = b.toList.length := by rw [e]
  rw [ByteArray.toList_eq, ByteArray.toList_eq] at this
  exact h (by simpa using this)

theorem ret_s {a b : ByteArray} (h : a = b) : Ending.returned (.string a) = .returned (.string b) := by rw [h]

set_option maxHeartbeats 800000 in
theorem ahead_any (s : ByteArray) (w : World) (hT : Tab w) (hs : s.size ≤ 4000000) :
    Calls Tryd.prog 51 #[.string s] w fun e w' => e = .returned (.string (dgs s)) ∧ w' = w := by
  have HT : Hid (Tab w) := hT
  clear hT
  go_enter Tryd.func51, Tryd.ntmps51
  go_wp2_with fail
  go_loop [3] (fun i => ∃ k : Nat, k ≤ s.size ∧ i = .int .i64 k ∧ Hid (∀ j, (hj : j < s.size) → j < k → 0 ≤ hexv (s[j].toNat : Int))) (fun i => s.size - (intOf i).toNat)
  case atStart => exact ⟨0, by omega, rfl, fun j _ hj => absurd hj (by omega)⟩
  case round =>
    obtain ⟨k, hk, rfl, HA⟩ := hrel
    have hlist : s.data.toList.length = s.size := by simp
    have HAl : ∀ j, j < k → 0 ≤ hexv ((s.data.toList[j]?.getD 0).toNat : Int) := fun j hj => by rw [at_list s j (by omega)]; exact HA.out j (by omega) hj
    by_cases hlt : k < s.size
    · by_cases hd : 0 ≤ hexv (s[k].toNat : Int)
      · have HA' : Hid (∀ j, (hj : j < s.size) → j < k + 1 → 0 ≤ hexv (s[j].toNat : Int)) := by
          intro j hj hjk
          by_cases e : j = k
          · subst e; exact hd
          · exact HA.out j hj (by omega)
        have H8 : Hid (∀ wx, Tab wx → Calls Tryd.prog 63 #[.int .u8 (s[k].toNat : Int), .int .u8 8] wx fun e w' => e = .returned (.bool true) ∧ w' = wx) := by
          intro wx hx
          have := isHex_any _ wx hx (byte_bd s[k]).1 (byte_bd s[k]).2
          rwa [decide_eq_true hd] at this
        clear HA HAl hlist
        go_wp2_with (go_at_call 63; refine (H8.out _ HT.out).mono ?_; rintro e w1 ⟨rfl, hw⟩; obtain rfl := hw.symm)
        go_round
        case rel => exact ⟨k + 1, by omega, by go_num, HA'⟩
        case measure => simp [intOf]; omega
      · have HR : Hid (dgs s = s.extract 0 k) := by
          show _ = _
          unfold dgs
          rw [hxN_is s.data.toList k (by omega) HAl (fun _ => by rw [at_list s k hlt]; omega)]
        have H8 : Hid (∀ wx, Tab wx → Calls Tryd.prog 63 #[.int .u8 (s[k].toNat : Int), .int .u8 8] wx fun e w' => e = .returned (.bool false) ∧ w' = wx) := by
          intro wx hx
          have := isHex_any _ wx hx (byte_bd s[k]).1 (byte_bd s[k]).2
          rwa [decide_eq_false hd] at this
        clear HA HAl hlist
        go_wp2_with (go_at_call 63; refine (H8.out _ HT.out).mono ?_; rintro e w1 ⟨rfl, hw⟩; obtain rfl := hw.symm)
        go_ret
        exact ⟨ret_s HR.out.symm, rfl⟩
    · obtain rfl : k = s.size := by omega
      have HR : Hid (dgs s = s.extract 0 s.size) := by
        show _ = _
        unfold dgs
        rw [hxN_is s.data.toList s.size (by omega) HAl (fun h => absurd h (by omega))]
      clear HA HAl hlist
      go_wp2_with fail
      go_ret
      exact ⟨ret_s (by rw [HR.out]; simp), rfl⟩

end Go.Proofs.YtimfcbjgoilnpaaDoor.Hdg
