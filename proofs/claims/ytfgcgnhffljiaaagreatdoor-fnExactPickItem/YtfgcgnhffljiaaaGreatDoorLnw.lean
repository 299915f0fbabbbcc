/-
  Walks: numbers of a length: impl.readLength, spec.l2Number.
-/
import Derived.Test.YtfgcgnhffljiaaaGreatDoorLnp
namespace Go.Proofs.YtfgcgnhffljiaaaGreatDoor.Lnp
open Go.RowKit
open Go.Proofs.YtfgcgnhffljiaaaGreatDoor.Fbs
open Go.Proofs.YtfgcgnhffljiaaaGreatDoor.Byt
open Go.Proofs.YtfgcgnhffljiaaaGreatDoor.Fch
open Go.Proofs.YtfgcgnhffljiaaaGreatDoor.Wgt (rdL RdTo drop_at dig_bd ret_i readDigits_any)

theorem readLength_any (s : ByteArray) (w : World) (hT : Tab w) :
    Calls Tryz.prog 162 #[.string s] w fun e w' => e = .returned (.int .i64 (numS s)) ∧ w' = w := by
  by_cases h : 9 < s.size
  · have HN : Hid (numS s = -1) := by show _ = _; unfold numS; rw [if_neg (by omega)]
    have hd : decide (9 < (s.size : Int)) = true := decide_eq_true (by omega)
    go_enter Tryz.func162, Tryz.ntmps162
    go_wp2_with fail
    go_ret
    exact ⟨ret_i HN.out.symm, rfl⟩
  · have HN : Hid (numS s = rdL s.data.toList 0) := by show _ = _; unfold numS; rw [if_pos (by omega)]
    have hd : decide (9 < (s.size : Int)) = false := decide_eq_false (by omega)
    have HR : Hid _ := readDigits_any s w hT (by omega)
    go_enter Tryz.func162, Tryz.ntmps162
    go_wp2_with fail
    refine (Calls.mono HR.out ?_)
    rintro e w1 ⟨rfl, hw⟩
    obtain rfl := hw.symm
    go_wp2_with fail
    go_ret
    exact ⟨ret_i HN.out.symm, rfl⟩

set_option maxHeartbeats 800000 in
theorem l2Num_small (s : ByteArray) (w : World) (hs : s.size ≤ 9) :
    Calls Tryz.prog 135 #[.string s, .int .i64 0, .int .i64 s.size] w fun e w' => e = .returned (.int .i64 (rdL s.data.toList 0)) ∧ w' = w := by
  go_enter Tryz.func135, Tryz.ntmps135
  go_wp2_with fail
  go_loop [7, 8] (fun n i => ∃ (k v : Nat), n = .int .i64 v ∧ i = .int .i64 k ∧ Hid (RdTo s k v)) (fun _ i => s.size - (intOf i).toNat)
  case atStart => exact ⟨0, 0, rfl, rfl, by omega, by decide, rfl⟩
  case round =>
    obtain ⟨k, v, rfl, rfl, HX⟩ := hrel
    obtain ⟨hk, hv, hE⟩ := HX.out
    by_cases hlt : k < s.size
    · rw [drop_at hlt] at hE
      have hb := byte_bd s[k]
      have hp : 10 ^ k ≤ 10 ^ 8 := Nat.pow_le_pow_right (by omega) (by omega)
      have hp8 : (10 : Nat) ^ 8 = 100000000 := by decide
      have HC : Hid _ := fun w => l1Digit_any (s[k].toNat : Int) w
      cases hd : digitB (s[k].toNat : Int)
      · have HE : Hid (rdL s.data.toList 0 = -1) := by show _ = _; rw [hE, rdL, hd]; rfl
        rw [hd] at HC
        clear hE HX hd hp hp8 hv
        go_wp2_with (go_at_call 138; refine (HC.out _).mono ?_; rintro e w' ⟨rfl, hw⟩; obtain rfl := hw.symm)
        go_ret
        exact ⟨ret_i HE.out.symm, rfl⟩
      · have hbd := dig_bd hd
        have HE : Hid (RdTo s (k + 1) (10 * v + (s[k].toNat - 48))) := by
          refine ⟨by omega, by rw [Nat.pow_succ]; omega, ?_⟩
          rw [hE, rdL, hd, if_pos rfl]
          congr 1; omega
        rw [hd] at HC
        have w1 : IntKind.i64.wrap (10 * (v : Int)) = 10 * (v : Int) := by rw [IntKind.wrap_i64]; omega
        have w2 : IntKind.u8.wrap ((s[k].toNat : Int) - 48) = (s[k].toNat : Int) - 48 := by rw [IntKind.wrap_u8]; omega
        have w3 : IntKind.i64.wrap ((s[k].toNat : Int) - 48) = (s[k].toNat : Int) - 48 := by rw [IntKind.wrap_i64]; omega
        have w4 : IntKind.i64.wrap (10 * (v : Int) + ((s[k].toNat : Int) - 48)) = 10 * (v : Int) + ((s[k].toNat : Int) - 48) := by rw [IntKind.wrap_i64]; omega
        clear hE HX hd
        go_wp2_with (go_at_call 138; refine (HC.out _).mono ?_; rintro e w' ⟨rfl, hw⟩; obtain rfl := hw.symm)
        go_round
        case rel => exact ⟨k + 1, _, by congr 1; omega, by go_num, HE⟩
        case measure => simp [intOf]; omega
    · have HE : Hid (rdL s.data.toList 0 = v) := by
        show _ = _
        rw [hE, List.drop_eq_nil_of_le (by simp; omega)]; rfl
      clear hE HX
      go_wp2_with fail
      go_ret
      exact ⟨ret_i HE.out.symm, rfl⟩

set_option maxHeartbeats 800000 in
theorem l2Num_long (s : ByteArray) (w : World) (hs : s.size ≤ 2000000) :
    Calls Tryz.prog 135 #[.string s, .int .i64 0, .int .i64 s.size] w fun e w' => (∃ v : Int, e = .returned (.int .i64 v)) ∧ w' = w := by
  go_enter Tryz.func135, Tryz.ntmps135
  go_wp2_with fail
  go_loop [7, 8] (fun n i => ∃ (k : Nat) (v : Int), n = .int .i64 v ∧ i = .int .i64 k ∧ k ≤ s.size) (fun _ i => s.size - (intOf i).toNat)
  case atStart => exact ⟨0, 0, rfl, rfl, Nat.zero_le _⟩
  case round =>
    obtain ⟨k, v, rfl, rfl, hk⟩ := hrel
    by_cases hlt : k < s.size
    · have hb := byte_bd s[k]
      have HC : Hid _ := fun w => l1Digit_any (s[k].toNat : Int) w
      cases hd : digitB (s[k].toNat : Int)
      · rw [hd] at HC
        clear hd
        go_wp2_with (go_at_call 138; refine (HC.out _).mono ?_; rintro e w' ⟨rfl, hw⟩; obtain rfl := hw.symm)
        go_ret
        exact ⟨⟨_, rfl⟩, rfl⟩
      · rw [hd] at HC
        clear hd
        go_wp2_with (go_at_call 138; refine (HC.out _).mono ?_; rintro e w' ⟨rfl, hw⟩; obtain rfl := hw.symm)
        go_round
        case rel => exact ⟨k + 1, _, rfl, by go_num, by omega⟩
        case measure => simp [intOf]; omega
    · go_wp2_with fail
      go_ret
      exact ⟨⟨_, rfl⟩, rfl⟩

end Go.Proofs.YtfgcgnhffljiaaaGreatDoor.Lnp
