/-
  Walk: spec.l1Int, by the digits as impl reads them; a status of three digits.
-/
import Derived.Test.YtaplkbkpgdpbaaaGreatDoorTpl
import Derived.Test.YtaplkbkpgdpbaaaGreatDoorRss
namespace Go.Proofs.YtaplkbkpgdpbaaaGreatDoor.Tpr
open Go.RowKit
open Go.Proofs.YtaplkbkpgdpbaaaGreatDoor
open Go.Proofs.YtaplkbkpgdpbaaaGreatDoor.Fbs
open Go.Proofs.YtaplkbkpgdpbaaaGreatDoor.Fch
open Go.Proofs.YtaplkbkpgdpbaaaGreatDoor.Byt
open Go.Proofs.YtaplkbkpgdpbaaaGreatDoor.Wgt (rdL RdTo drop_at dig_bd dig_no ret_i)
open Go.Proofs.YtaplkbkpgdpbaaaGreatDoor.Rsb (stB)

/-- Whether a text is no number by its length or its first digit. -/
def NoInt (d : ByteArray) : Prop := d.size < 1 ∨ 9 < d.size ∨ (d.data.toList[0]?.getD 0 = 48 ∧ 1 < d.size)
instance (d : ByteArray) : Decidable (NoInt d) := by unfold NoInt; infer_instance
/-- The number of a text, -1 where it is none. -/
def intV (d : ByteArray) : Int := if NoInt d then -1 else rdL d.data.toList 0
theorem int_no {d : ByteArray} (h : NoInt d) : intV d = -1 := by unfold intV; rw [if_pos h]
theorem int_yes {d : ByteArray} (h : ¬ NoInt d) : intV d = rdL d.data.toList 0 := by unfold intV; rw [if_neg h]

set_option maxHeartbeats 800000 in
theorem l1Int_any (s : ByteArray) (w : World) :
    Calls Tryz.prog 66 #[.string s] w fun e w' => e = .returned (.int .i64 (intV s)) ∧ w' = w := by
  by_cases h1 : s.size < 1
  · have HV : Hid (intV s = -1) := int_no (.inl h1)
    have ha : decide ((1 : Int) ≤ (s.size : Int)) = false := decide_eq_false (by omega)
    go_enter Tryz.func66, Tryz.ntmps66
    go_wp2
    go_ret
    exact ⟨ret_i HV.out.symm, rfl⟩
  have ha : decide ((1 : Int) ≤ (s.size : Int)) = true := decide_eq_true (by omega)
  by_cases h9 : 9 < s.size
  · have HV : Hid (intV s = -1) := int_no (.inr (.inl h9))
    have hb : decide ((s.size : Int) ≤ 9) = false := decide_eq_false (by omega)
    go_enter Tryz.func66, Tryz.ntmps66
    go_wp2
    go_ret
    exact ⟨ret_i HV.out.symm, rfl⟩
  have hb : decide ((s.size : Int) ≤ 9) = true := decide_eq_true (by omega)
  have hpos : 0 < s.size := by omega
  have e0 : s.data.toList[0]?.getD 0 = s[0] := at_list s 0 hpos
  by_cases h0 : (s[0].toNat : Int) = 48 ∧ 1 < s.size
  · obtain ⟨h0, h2⟩ := h0
    have HV : Hid (intV s = -1) := int_no (.inr (.inr ⟨by rw [e0]; exact UInt8.toNat_inj.1 (by show s[0].toNat = 48; omega), h2⟩))
    have h0' : ((s[0].toNat : Int) == 48) = true := by simpa using h0
    clear e0
    go_enter Tryz.func66, Tryz.ntmps66
    go_wp2
    go_ret
    exact ⟨ret_i HV.out.symm, rfl⟩
  have HV : Hid (intV s = rdL s.data.toList 0) := by
    refine int_yes ?_
    rintro (h | h | ⟨h, h'⟩)
    · exact h1 h
    · exact h9 h
    · rw [e0] at h
      exact h0 ⟨by rw [h]; rfl, h'⟩
  have HL : Hid (∀ P : Prop, ((s[0].toNat : Int) = 48 → ¬ 1 < s.size → P) → ((s[0].toNat : Int) ≠ 48 → P) → P) := by
    intro P p1 p2
    by_cases h : (s[0].toNat : Int) = 48
    · exact p1 h (fun h2 => h0 ⟨h, h2⟩)
    · exact p2 h
  clear e0 h0
  refine HL.out _ (fun z1 z2 => ?_) (fun z1 => ?_)
  all_goals
    first
    | (have z3 : ((s[0].toNat : Int) == 48) = true := by simpa using z1)
    | (have z3 : ((s[0].toNat : Int) == 48) = false := by simpa using z1)
    clear HL
    go_enter Tryz.func66, Tryz.ntmps66
    go_wp2
    go_loop [3, 4] (fun n i => ∃ (k v : Nat), n = .int .i64 v ∧ i = .int .i64 k ∧ Hid (RdTo s k v)) (fun _ i => s.size - (intOf i).toNat)
    case atStart => exact ⟨0, 0, rfl, rfl, by omega, by decide, rfl⟩
    case round =>
      obtain ⟨k, v, rfl, rfl, HX⟩ := hrel
      obtain ⟨hk, hv, hE⟩ := HX.out
      by_cases hlt : k < s.size
      · rw [drop_at hlt] at hE
        have hp : 10 ^ k ≤ 10 ^ 8 := Nat.pow_le_pow_right (by omega) (by omega)
        have hp8 : (10 : Nat) ^ 8 = 100000000 := by decide
        cases hd : digitB (s[k].toNat : Int)
        · have HE : Hid (intV s = -1) := by show _ = _; rw [HV.out, hE, rdL, hd]; rfl
          have hno := dig_no hd
          clear hE HX hd hp hp8 hv HV
          rcases hno with h | h
          all_goals
            go_wp2
            go_ret
            exact ⟨ret_i HE.out.symm, rfl⟩
        · have hbd := dig_bd hd
          obtain ⟨d1, d2⟩ := hbd
          have HE : Hid (RdTo s (k + 1) (10 * v + (s[k].toNat - 48))) := by
            refine ⟨by omega, by rw [Nat.pow_succ]; omega, ?_⟩
            rw [hE, rdL, hd, if_pos rfl]
            congr 1; omega
          have w1 : IntKind.i64.wrap (10 * (v : Int)) = 10 * (v : Int) := by rw [IntKind.wrap_i64]; omega
          have w2 : IntKind.u8.wrap ((s[k].toNat : Int) - 48) = (s[k].toNat : Int) - 48 := by rw [IntKind.wrap_u8]; omega
          have w3 : IntKind.i64.wrap ((s[k].toNat : Int) - 48) = (s[k].toNat : Int) - 48 := by rw [IntKind.wrap_i64]; omega
          have w4 : IntKind.i64.wrap (10 * (v : Int) + ((s[k].toNat : Int) - 48)) = 10 * (v : Int) + ((s[k].toNat : Int) - 48) := by rw [IntKind.wrap_i64]; omega
          clear hE HX hd
          go_wp2
          go_round
          case rel => exact ⟨_, _, _, ⟨k + 1, 10 * v + (s[k].toNat - 48), rfl, rfl, HE⟩, rfl, by go_num, by go_num⟩
          case measure => simp [intOf]; omega
      · have HE : Hid (intV s = v) := by
          show _ = _
          rw [HV.out, hE, List.drop_eq_nil_of_le (by simp; omega)]; rfl
        clear hE HX HV
        go_wp2
        go_ret
        exact ⟨ret_i HE.out.symm, rfl⟩

theorem rd_zero (a b : UInt8) : rdL [48, a, b] 0 = -1 ∨ rdL [48, a, b] 0 < 100 := by
  have hz : digitB ((48 : UInt8).toNat : Int) = true := by decide
  simp only [rdL, hz, if_true]
  cases ha : digitB (a.toNat : Int)
  · exact .inl (by simp)
  · cases hb : digitB (b.toNat : Int)
    · exact .inl (by simp)
    · have h1 := dig_bd ha
      have h2 := dig_bd hb
      refine .inr ?_
      have : ((48 : UInt8).toNat : Int) = 48 := rfl
      simp only [if_true, this]
      omega
theorem status_same {d : ByteArray} (h : d.size = 3) : stB (intV d) = stB (rdL d.data.toList 0) ∧ (stB (intV d) = true → intV d = rdL d.data.toList 0) := by
  by_cases hn : NoInt d
  · have h0 : d.data.toList[0]?.getD 0 = 48 := by
      rcases hn with h1 | h1 | h1
      · omega
      · omega
      · exact h1.1
    have hl := len_list d
    rw [h] at hl
    obtain ⟨x, a, b, e⟩ : ∃ x a b, d.data.toList = [x, a, b] := by
      match d.data.toList, hl with
      | [x, a, b], _ => exact ⟨x, a, b, rfl⟩
    rw [e] at h0
    have hx : x = 48 := h0
    subst hx
    rw [int_no hn, e]
    have hm : stB (-1) = false := by decide
    refine ⟨?_, fun h => by rw [hm] at h; cases h⟩
    rw [hm]
    rcases rd_zero a b with h | h
    · rw [h, hm]
    · unfold stB
      rw [decide_eq_false (by omega)]; rfl
  · rw [int_yes hn]; exact ⟨rfl, fun _ => rfl⟩

end Go.Proofs.YtaplkbkpgdpbaaaGreatDoor.Tpr
