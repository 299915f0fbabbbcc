/-
  Walks: impl.isTarget, impl.checkFieldsAndBody.
-/
import Derived.Test.YtnindmppnfeanaaGreatDoorRqh
import Derived.Test.YtnindmppnfeanaaGreatDoorLnl
namespace Go.Proofs.YtnindmppnfeanaaGreatDoor.Rqb
open Go.RowKit
open Go.Proofs.YtnindmppnfeanaaGreatDoor.Byt (hasB)
open Go.Proofs.YtnindmppnfeanaaGreatDoor.Fbs
open Go.Proofs.YtnindmppnfeanaaGreatDoor.Fch
open Go.Proofs.YtnindmppnfeanaaGreatDoor.Ows
open Go.Proofs.YtnindmppnfeanaaGreatDoor.Fdb
open Go.Proofs.YtnindmppnfeanaaGreatDoor.Fvs
open Go.Proofs.YtnindmppnfeanaaGreatDoor.Lnp
open Go.Proofs.YtnindmppnfeanaaGreatDoor.Mrk (TV RowT tv_of)
open Go.Proofs.YtnindmppnfeanaaGreatDoor.Ers (is_same is_fault)

theorem solid_is (l : List UInt8) : solidL l = (plainB l && !hasB l 32) := by
  unfold solidL plainB hasB
  induction l with
  | nil => rfl
  | cons c r ih =>
    rw [List.all_cons, List.all_cons, List.any_cons, ih]
    have h : solidB (c.toNat : Int) = (seenB (c.toNat : Int) && !((c.toNat : Int) == 32)) := by
      have h0 := byte_bd c
      obtain ⟨n, hn⟩ : ∃ n : Nat, n = c.toNat := ⟨_, rfl⟩
      rw [← hn] at h0 ⊢
      have all : ∀ n : Nat, n < 256 → solidB (n : Int) = (seenB (n : Int) && !((n : Int) == 32)) := by decide +kernel
      exact all n (by omega)
    rw [h]
    cases seenB (c.toNat : Int) <;> cases ((c.toNat : Int) == 32) <;> cases r.all (fun c => seenB (c.toNat : Int)) <;> simp

/-- A fault as an error: nil for none. -/
def errV (c : Int) : Value := if c = 0 then .nilIface else fault c
theorem err_none : errV 0 = .nilIface := if_pos rfl
theorem err_some {c : Int} (h : c ≠ 0) : errV c = .iface 154 (.agg #[.int .i64 c]) := if_neg h
theorem ret_v {v a : Value} (h : a = v) : Ending.returned v = .returned a := by rw [h]

theorem fb_bad {l : List (ByteArray × ByteArray)} {B : ByteArray} (h : goodL l = false) : fbC l B = 3 := by unfold fbC; rw [if_pos h]
theorem fb_enc {l : List (ByteArray × ByteArray)} {B : ByteArray} (hg : goodL l = true) (h : valsOf tenc l ≠ []) : fbC l B = 3 := by unfold fbC; rw [if_neg (by simp [hg]), if_pos h]
theorem fb_len {l : List (ByteArray × ByteArray)} {B : ByteArray} (hg : goodL l = true) (h : valsOf tenc l = []) (h2 : lnV l = -2) : fbC l B = 4 := by unfold fbC; rw [if_neg (by simp [hg]), if_neg (by simp [h]), if_pos h2]
theorem fb_rest {l : List (ByteArray × ByteArray)} {B : ByteArray} (hg : goodL l = true) (h : valsOf tenc l = []) (h2 : lnV l ≠ -2) : fbC l B = if 300 < lnN l then 4 else if (B.size : Int) ≠ lnN l then 1 else 0 := by unfold fbC; rw [if_neg (by simp [hg]), if_neg (by simp [h]), if_neg h2]
/-- The lengths, as lengthOf tells them: a fault, none at all, or one. -/
theorem len_ways (b : Addr) {l : List (ByteArray × ByteArray)} (hg : goodL l = true) : (lnE b l = (0, fault 4) ∧ lnV l = -2) ∨ (lnE b l = (0, sent b) ∧ lnV l ≠ -2 ∧ lnN l = 0) ∨ (∃ n, lnE b l = (n, .nilIface) ∧ lnV l ≠ -2 ∧ lnN l = n) := by
  by_cases h0 : valsOf clen l = []
  · have e : lnV l = -1 := by unfold lnV; rw [h0]; rfl
    exact .inr (.inl ⟨lnE_none hg h0, by omega, if_pos e⟩)
  · by_cases h2 : lnV l = -2
    · exact .inl ⟨lnE_wrong hg h0 h2, h2⟩
    · have h3 := lnV_ge h0 h2
      exact .inr (.inr ⟨lnV l, lnE_is hg h0 h2, h2, if_neg (by omega)⟩)

set_option maxRecDepth 20000 in
set_option maxHeartbeats 3200000 in
theorem checkFB_any (a : Option Addr) (ca : Nat) (l : List (ByteArray × ByteArray)) (B : ByteArray) (b : Addr) (w : World) (lo hi : Nat) (hT : Tab w) (hE : w.cell? ⟨0, 0, none⟩ = some (sent b)) (hz : SzF l) (hca : l.length ≤ ca) (ha : FV w a l lo hi) :
    Calls Tryz.prog 108 #[.slice a l.length ca, .string B] w fun e w' => e = .returned (errV (fbC l B)) ∧ Below w.heap.size w w' := by
  have hgt := hT.lt
  have het := World.block_lt_of_cell? _ _ hE
  have HE : Hid (w.cell? ⟨0, 0, none⟩ = some (.iface 236 (.pointer (some b)))) := hE
  have HV := Vof.implVals_any a ca l tenc w lo hi hT (by decide) hz hca ha
  have htk : tokenB tenc.data.toList = true := by decide
  cases hg : goodL l
  · rw [Vof.valO_bad hg] at HV
    have HV1 : Hid (Calls Tryz.prog 65 #[.slice a l.length ca, .string tenc] w fun e w' => e = .returned (.tuple #[.slice none 0 0, .bool false]) ∧ Below w.heap.size w w') := HV
    have HR : Hid (errV (fbC l B) = .iface 154 (.agg #[.int .i64 3])) := by show _ = _; rw [fb_bad hg]; rfl
    generalize errV (fbC l B) = R at HR ⊢
    clear HV hg htk hz hE
    go_enter Tryz.func108, Tryz.ntmps108
    go_wp2_with fail
    refine (Calls.mono HV1.out ?_)
    rintro e w1 ⟨rfl, hb1⟩
    go_wp2_with fail
    go_ret
    exact ⟨ret_v HR.out, hb1⟩
  rw [Vof.valO_is hg htk] at HV
  have HV1 : Hid (Calls Tryz.prog 65 #[.slice a l.length ca, .string tenc] w fun e w' => Lsp.Told w' w.heap.size e (some (valsOf tenc l)) ∧ Below w.heap.size w w') := HV
  have hlen : (valsOf tenc l).length ≤ 40 := Nat.le_trans (valsOf_len tenc l) (goodL_all hg).1
  clear HV htk
  by_cases hv : valsOf tenc l = []
  · have HL : Hid _ := fun w t e h => lengthOf_any a ca l b w lo hi t e hz hca h
    have HTb : Hid (∀ w', Below w.heap.size w w' → Tab w') := fun _ h => hT.below h hgt
    have HAb : Hid (∀ w', Below w.heap.size w w' → FV w' a l lo hi) := fun _ h => ha.below h
    rw [hv] at HV1
    rcases len_ways b hg with ⟨h1, h2⟩ | ⟨h1, h2, hN⟩ | ⟨n, h1, h2, hN⟩
    · have HR : Hid (errV (fbC l B) = .iface 154 (.agg #[.int .i64 4])) := by show _ = _; rw [fb_len hg hv h2]; rfl
      rw [h1] at HL
      have HF : Hid _ := fun w => is_fault 4 b w
      have HL1 : Hid (∀ w, Tab w → w.cell? ⟨0, 0, none⟩ = some (sent b) → FV w a l lo hi → Calls Tryz.prog 141 #[.slice a l.length ca] w fun e w' => e = .returned (.tuple #[.int .i64 0, .iface 154 (.agg #[.int .i64 4])]) ∧ Below w.heap.size w w') := HL.out
      generalize errV (fbC l B) = R at HR ⊢
      clear h1 h2 hg hv hlen hz hE HL hT ha
      go_enter Tryz.func108, Tryz.ntmps108
      go_wp2_with fail
      refine (Calls.mono HV1.out ?_)
      rintro e w1 ⟨⟨v, rfl, hown⟩, hb1⟩
      obtain ⟨a1, c1, rfl, _⟩ := tv_of hown
      have hE1 := (hb1.cell (p := ⟨0, 0, none⟩) het).trans HE.out
      clear hown
      go_wp2_with fail
      refine (HL1.out _ (HTb.out _ hb1) hE1 (HAb.out _ hb1)).mono ?_
      rintro e w2 ⟨rfl, hb2⟩
      have hb12 := hb1.trans (hb2.mono hb1.size)
      have hE2 := (hb12.cell (p := ⟨0, 0, none⟩) het).trans HE.out
      clear hE1 hb2
      go_wp2_with fail
      refine (HF.out _).mono ?_
      rintro e w3 ⟨rfl, hw⟩
      obtain rfl := hw.symm
      go_wp2_with fail
      go_ret
      exact ⟨ret_v HR.out, hb12⟩
    · have HFB := @fb_rest l B hg hv h2
      rw [hN, if_neg (by omega)] at HFB
      rw [h1] at HL
      have HF : Hid _ := fun w => is_same b w
      have HL1 : Hid (∀ w, Tab w → w.cell? ⟨0, 0, none⟩ = some (sent b) → FV w a l lo hi → Calls Tryz.prog 141 #[.slice a l.length ca] w fun e w' => e = .returned (.tuple #[.int .i64 0, .iface 236 (.pointer (some b))]) ∧ Below w.heap.size w w') := HL.out
      by_cases hB : (B.size : Int) = 0
      · have HR : Hid (errV (fbC l B) = .nilIface) := by show _ = _; rw [HFB, if_neg (by omega)]; rfl
        have hne : ((B.size : Int) != 0) = false := by simpa using hB
        generalize errV (fbC l B) = R at HR ⊢
        clear h1 h2 hg hv hlen hz hE HL hT ha HFB hN
        go_enter Tryz.func108, Tryz.ntmps108
        go_wp2_with fail
        refine (Calls.mono HV1.out ?_)
        rintro e w1 ⟨⟨v, rfl, hown⟩, hb1⟩
        obtain ⟨a1, c1, rfl, _⟩ := tv_of hown
        have hE1 := (hb1.cell (p := ⟨0, 0, none⟩) het).trans HE.out
        clear hown
        go_wp2_with fail
        refine (HL1.out _ (HTb.out _ hb1) hE1 (HAb.out _ hb1)).mono ?_
        rintro e w2 ⟨rfl, hb2⟩
        have hb12 := hb1.trans (hb2.mono hb1.size)
        have hE2 := (hb12.cell (p := ⟨0, 0, none⟩) het).trans HE.out
        clear hE1 hb2
        go_wp2_with fail
        refine (HF.out _).mono ?_
        rintro e w3 ⟨rfl, hw⟩
        obtain rfl := hw.symm
        go_wp2_with fail
        go_ret
        exact ⟨ret_v HR.out, hb12⟩
      · have HR : Hid (errV (fbC l B) = .iface 154 (.agg #[.int .i64 1])) := by show _ = _; rw [HFB, if_pos hB]; rfl
        have hne : ((B.size : Int) != 0) = true := by simpa using hB
        generalize errV (fbC l B) = R at HR ⊢
        clear h1 h2 hg hv hlen hz hE HL hT ha HFB hN
        go_enter Tryz.func108, Tryz.ntmps108
        go_wp2_with fail
        refine (Calls.mono HV1.out ?_)
        rintro e w1 ⟨⟨v, rfl, hown⟩, hb1⟩
        obtain ⟨a1, c1, rfl, _⟩ := tv_of hown
        have hE1 := (hb1.cell (p := ⟨0, 0, none⟩) het).trans HE.out
        clear hown
        go_wp2_with fail
        refine (HL1.out _ (HTb.out _ hb1) hE1 (HAb.out _ hb1)).mono ?_
        rintro e w2 ⟨rfl, hb2⟩
        have hb12 := hb1.trans (hb2.mono hb1.size)
        have hE2 := (hb12.cell (p := ⟨0, 0, none⟩) het).trans HE.out
        clear hE1 hb2
        go_wp2_with fail
        refine (HF.out _).mono ?_
        rintro e w3 ⟨rfl, hw⟩
        obtain rfl := hw.symm
        go_wp2_with fail
        go_ret
        exact ⟨ret_v HR.out, hb12⟩
    · have HFB := @fb_rest l B hg hv h2
      rw [hN] at HFB
      rw [h1] at HL
      have HL1 : Hid (∀ w, Tab w → w.cell? ⟨0, 0, none⟩ = some (sent b) → FV w a l lo hi → Calls Tryz.prog 141 #[.slice a l.length ca] w fun e w' => e = .returned (.tuple #[.int .i64 n, .nilIface]) ∧ Below w.heap.size w w') := HL.out
      rcases (show 300 < n ∨ (¬ 300 < n ∧ (B.size : Int) ≠ n) ∨ (¬ 300 < n ∧ (B.size : Int) = n) from by omega) with h3 | ⟨h3, h4⟩ | ⟨h3, h4⟩
      · have HR : Hid (errV (fbC l B) = .iface 154 (.agg #[.int .i64 4])) := by show _ = _; rw [HFB, if_pos h3]; rfl
        have hd3 : decide (300 < n) = true := decide_eq_true h3
        generalize errV (fbC l B) = R at HR ⊢
        clear h1 h2 hg hv hlen hz hE HL hT ha HFB hN
        go_enter Tryz.func108, Tryz.ntmps108
        go_wp2_with fail
        refine (Calls.mono HV1.out ?_)
        rintro e w1 ⟨⟨v, rfl, hown⟩, hb1⟩
        obtain ⟨a1, c1, rfl, _⟩ := tv_of hown
        have hE1 := (hb1.cell (p := ⟨0, 0, none⟩) het).trans HE.out
        clear hown
        go_wp2_with fail
        refine (HL1.out _ (HTb.out _ hb1) hE1 (HAb.out _ hb1)).mono ?_
        rintro e w2 ⟨rfl, hb2⟩
        have hb12 := hb1.trans (hb2.mono hb1.size)
        clear hE1 hb2
        go_wp2_with fail
        go_ret
        exact ⟨ret_v HR.out, hb12⟩
      · have HR : Hid (errV (fbC l B) = .iface 154 (.agg #[.int .i64 1])) := by show _ = _; rw [HFB, if_neg h3, if_pos h4]; rfl
        have hd3 : decide (300 < n) = false := decide_eq_false h3
        have hne : ((B.size : Int) != n) = true := by simpa using h4
        generalize errV (fbC l B) = R at HR ⊢
        clear h1 h2 hg hv hlen hz hE HL hT ha HFB hN
        go_enter Tryz.func108, Tryz.ntmps108
        go_wp2_with fail
        refine (Calls.mono HV1.out ?_)
        rintro e w1 ⟨⟨v, rfl, hown⟩, hb1⟩
        obtain ⟨a1, c1, rfl, _⟩ := tv_of hown
        have hE1 := (hb1.cell (p := ⟨0, 0, none⟩) het).trans HE.out
        clear hown
        go_wp2_with fail
        refine (HL1.out _ (HTb.out _ hb1) hE1 (HAb.out _ hb1)).mono ?_
        rintro e w2 ⟨rfl, hb2⟩
        have hb12 := hb1.trans (hb2.mono hb1.size)
        clear hE1 hb2
        go_wp2_with fail
        go_ret
        exact ⟨ret_v HR.out, hb12⟩
      · have HR : Hid (errV (fbC l B) = .nilIface) := by show _ = _; rw [HFB, if_neg h3, if_neg (by omega)]; rfl
        have hd3 : decide (300 < n) = false := decide_eq_false h3
        have hne : ((B.size : Int) != n) = false := by simpa using h4
        generalize errV (fbC l B) = R at HR ⊢
        clear h1 h2 hg hv hlen hz hE HL hT ha HFB hN
        go_enter Tryz.func108, Tryz.ntmps108
        go_wp2_with fail
        refine (Calls.mono HV1.out ?_)
        rintro e w1 ⟨⟨v, rfl, hown⟩, hb1⟩
        obtain ⟨a1, c1, rfl, _⟩ := tv_of hown
        have hE1 := (hb1.cell (p := ⟨0, 0, none⟩) het).trans HE.out
        clear hown
        go_wp2_with fail
        refine (HL1.out _ (HTb.out _ hb1) hE1 (HAb.out _ hb1)).mono ?_
        rintro e w2 ⟨rfl, hb2⟩
        have hb12 := hb1.trans (hb2.mono hb1.size)
        clear hE1 hb2
        go_wp2_with fail
        go_ret
        exact ⟨ret_v HR.out, hb12⟩
  · have HR : Hid (errV (fbC l B) = .iface 154 (.agg #[.int .i64 3])) := by show _ = _; rw [fb_enc hg hv]; rfl
    have hp := List.length_pos_iff.2 hv
    have hpd : decide (0 < ((valsOf tenc l).length : Int)) = true := decide_eq_true (by omega)
    generalize errV (fbC l B) = R at HR ⊢
    generalize valsOf tenc l = vs at *
    clear hg hz hE
    go_enter Tryz.func108, Tryz.ntmps108
    go_wp2_with fail
    refine (Calls.mono HV1.out ?_)
    rintro e w1 ⟨⟨v, rfl, hown⟩, hb1⟩
    obtain ⟨a1, c1, rfl, _⟩ := tv_of hown
    clear hown
    go_wp2_with fail
    go_ret
    exact ⟨ret_v HR.out, hb1⟩

end Go.Proofs.YtnindmppnfeanaaGreatDoor.Rqb
