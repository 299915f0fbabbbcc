/-
  Walks: impl.isTarget, impl.checkFieldsAndBody.
-/
import Derived.Test.YtfgcgnhffljiaaaGreatDoorRqh
import Derived.Test.YtfgcgnhffljiaaaGreatDoorLnl
namespace Go.Proofs.YtfgcgnhffljiaaaGreatDoor.Rqb
open Go.RowKit
open Go.Proofs.YtfgcgnhffljiaaaGreatDoor.Byt (hasB)
open Go.Proofs.YtfgcgnhffljiaaaGreatDoor.Fbs
open Go.Proofs.YtfgcgnhffljiaaaGreatDoor.Fch
open Go.Proofs.YtfgcgnhffljiaaaGreatDoor.Ows
open Go.Proofs.YtfgcgnhffljiaaaGreatDoor.Fdb
open Go.Proofs.YtfgcgnhffljiaaaGreatDoor.Fvs
open Go.Proofs.YtfgcgnhffljiaaaGreatDoor.Lnp
open Go.Proofs.YtfgcgnhffljiaaaGreatDoor.Mrk (TV RowT tv_of)
open Go.Proofs.YtfgcgnhffljiaaaGreatDoor.Ers (is_same is_fault)

theorem solid_is (l : List UInt8) : solidL l = (plainB l && !hasB l 32) := by
  unfold solidL plainB hasB
  induction l with
  | nil => rfl
  | cons c r ih =>
    rw [List.all_cons, List.all_cons, List.any_cons, ih]
    have h : solidB (c.toNat : Int) = (seenB (c.toNat : Int) && !((c.toNat : Int) == 32)) := by
      have h0 := byte_bd c
      obtain ⟨n, hn⟩ : ∃ n : Nat, n = c.toNat := ⟨_, rfl⟩
      rw [← hn] at h0 ⊢
      have all : ∀ n : Nat, n < 256 → solidB (n : Int) = (seenB (n : Int) && !((n : Int) == 32)) := by decide +kernel
      exact all n (by omega)
    rw [h]
    cases seenB (c.toNat : Int) <;> cases ((c.toNat : Int) == 32) <;> cases r.all (fun c => seenB (c.toNat : Int)) <;> simp

set_option maxHeartbeats 400000 in
theorem isTarget_any (s : ByteArray) (w : World) (hs : s.size ≤ 2000000) :
    Calls Tryz.prog 132 #[.string s] w fun e w' => e = .returned (.bool (tgtB s)) ∧ w' = w := by
  have C := isBetween_any 1 s.size 200 w
  have P := isPlain_any s w hs
  have X := Tryz.strings_Contains_one s 32 w
  have hx : decide (0 ≤ Lib.indexByte s.data.toList 32) = hasB s.data.toList 32 := by
    have h := Byt.index_neg s.data.toList 32
    have e : ((32 : UInt8).toNat : Int) = 32 := rfl
    rw [e] at h
    by_cases h0 : 0 ≤ Lib.indexByte s.data.toList 32
    · rw [decide_eq_true h0]
      rw [decide_eq_false (by omega)] at h
      simpa using h
    · rw [decide_eq_false h0]
      rw [decide_eq_true (by omega)] at h
      simpa using h
  rw [hx] at X
  have HF : Hid (tgtB s = ((plainB s.data.toList && !hasB s.data.toList 32) && (decide ((1 : Int) ≤ (s.size : Int)) && decide ((s.size : Int) ≤ 200)))) := by
    show _ = _; unfold tgtB; rw [solid_is]
  generalize tgtB s = F at HF ⊢
  clear hx
  cases hb : (decide ((1 : Int) ≤ (s.size : Int)) && decide ((s.size : Int) ≤ 200))
  · rw [hb] at C
    have HR : Hid (F = false) := HF.out.trans (by rw [hb, Bool.and_false])
    clear HF
    go_enter Tryz.func132, Tryz.ntmps132
    go_wp2_with (go_at_call 85; refine C.mono ?_; rintro e w' ⟨rfl, hw⟩; obtain rfl := hw.symm)
    go_ret
    exact ⟨ret_bool HR.out.symm, rfl⟩
  rw [hb] at C
  cases hp : plainB s.data.toList
  · rw [hp] at P
    have HR : Hid (F = false) := HF.out.trans (by rw [hp, Bool.false_and, Bool.false_and])
    clear HF
    go_enter Tryz.func132, Tryz.ntmps132
    go_wp2_with (first
      | (go_at_call 85; refine C.mono ?_; rintro e w' ⟨rfl, hw⟩; obtain rfl := hw.symm)
      | (go_at_call 109; refine P.mono ?_; rintro e w' ⟨rfl, hw⟩; obtain rfl := hw.symm))
    go_ret
    exact ⟨ret_bool HR.out.symm, rfl⟩
  rw [hp] at P
  have HR : Hid (F = !hasB s.data.toList 32) := HF.out.trans (by rw [hb, hp, Bool.true_and, Bool.and_true])
  clear HF
  generalize hasB s.data.toList 32 = H at X HR
  go_enter Tryz.func132, Tryz.ntmps132
  go_wp2_with (first
    | (go_at_call 85; refine C.mono ?_; rintro e w' ⟨rfl, hw⟩; obtain rfl := hw.symm)
    | (go_at_call 109; refine P.mono ?_; rintro e w' ⟨rfl, hw⟩; obtain rfl := hw.symm)
    | (go_at_call 160; refine X.mono ?_; rintro e w' ⟨rfl, hw⟩; obtain rfl := hw.symm))
  go_ret
  exact ⟨ret_bool HR.out.symm, rfl⟩

/-- A fault as an error: nil for none. -/
def errV (c : Int) : Value := if c = 0 then .nilIface else fault c
theorem err_none : errV 0 = .nilIface := if_pos rfl
theorem err_some {c : Int} (h : c ≠ 0) : errV c = .iface 139 (.agg #[.int .i64 c]) := if_neg h
theorem ret_v {v a : Value} (h : a = v) : Ending.returned v = .returned a := by rw [h]

theorem fb_bad {l : List (ByteArray × ByteArray)} {B : ByteArray} (h : goodL l = false) : fbC l B = 3 := by unfold fbC; rw [if_pos h]
theorem fb_enc {l : List (ByteArray × ByteArray)} {B : ByteArray} (hg : goodL l = true) (h : valsOf tenc l ≠ []) : fbC l B = 3 := by unfold fbC; rw [if_neg (by simp [hg]), if_pos h]
theorem fb_len {l : List (ByteArray × ByteArray)} {B : ByteArray} (hg : goodL l = true) (h : valsOf tenc l = []) (h2 : lnV l = -2) : fbC l B = 4 := by unfold fbC; rw [if_neg (by simp [hg]), if_neg (by simp [h]), if_pos h2]
theorem fb_rest {l : List (ByteArray × ByteArray)} {B : ByteArray} (hg : goodL l = true) (h : valsOf tenc l = []) (h2 : lnV l ≠ -2) : fbC l B = if 300 < lnN l then 4 else if (B.size : Int) ≠ lnN l then 1 else 0 := by unfold fbC; rw [if_neg (by simp [hg]), if_neg (by simp [h]), if_neg h2]
/-- The lengths, as lengthOf tells them: a fault, none at all, or one. -/
theorem len_ways (b : Addr) {l : List (ByteArray × ByteArray)} (hg : goodL l = true) : (lnE b l = (0, fault 4) ∧ lnV l = -2) ∨ (lnE b l = (0, sent b) ∧ lnV l ≠ -2 ∧ lnN l = 0) ∨ (∃ n, lnE b l = (n, .nilIface) ∧ lnV l ≠ -2 ∧ lnN l = n) := by
  by_cases h0 : valsOf clen l = []
  · have e : lnV l = -1 := by unfold lnV; rw [h0]; rfl
    exact .inr (.inl ⟨lnE_none hg h0, by omega, if_pos e⟩)
  · by_cases h2 : lnV l = -2
    · exact .inl ⟨lnE_wrong hg h0 h2, h2⟩
    · have h3 := lnV_ge h0 h2
      exact .inr (.inr ⟨lnV l, lnE_is hg h0 h2, h2, if_neg (by omega)⟩)

set_option maxRecDepth 20000 in
set_option maxHeartbeats 3200000 in
theorem checkFB_any (a : Option Addr) (ca : Nat) (l : List (ByteArray × ByteArray)) (B : ByteArray) (b : Addr) (w : World) (lo hi : Nat) (hT : Tab w) (hE : w.cell? ⟨1, 0, none⟩ = some (sent b)) (hz : SzF l) (hca : l.length ≤ ca) (ha : FV w a l lo hi) :
    Calls Tryz.prog 110 #[.slice a l.length ca, .string B] w fun e w' => e = .returned (errV (fbC l B)) ∧ Below w.heap.size w w' := by
  have hgt := hT.lt
  have het := World.block_lt_of_cell? _ _ hE
  have HE : Hid (w.cell? ⟨1, 0, none⟩ = some (.iface 237 (.pointer (some b)))) := hE
  have HV := Vof.implVals_any a ca l tenc w lo hi hT (by decide) hz hca ha
  have htk : tokenB tenc.data.toList = true := by decide
  cases hg : goodL l
  · rw [Vof.valO_bad hg] at HV
    have HV1 : Hid (Calls Tryz.prog 82 #[.slice a l.length ca, .string tenc] w fun e w' => e = .returned (.tuple #[.slice none 0 0, .bool false]) ∧ Below w.heap.size w w') := HV
    have HR : Hid (errV (fbC l B) = .iface 139 (.agg #[.int .i64 3])) := by show _ = _; rw [fb_bad hg]; rfl
    generalize errV (fbC l B) = R at HR ⊢
    clear HV hg htk hz hE
    go_enter Tryz.func110, Tryz.ntmps110
    go_wp2_with fail
    refine (Calls.mono HV1.out ?_)
    rintro e w1 ⟨rfl, hb1⟩
    go_wp2_with fail
    go_ret
    exact ⟨ret_v HR.out, hb1⟩
  rw [Vof.valO_is hg htk] at HV
  have HV1 : Hid (Calls Tryz.prog 82 #[.slice a l.length ca, .string tenc] w fun e w' => Lsp.Told w' w.heap.size e (some (valsOf tenc l)) ∧ Below w.heap.size w w') := HV
  have hlen : (valsOf tenc l).length ≤ 40 := Nat.le_trans (valsOf_len tenc l) (goodL_all hg).1
  clear HV htk
  by_cases hv : valsOf tenc l = []
  · have HL : Hid _ := fun w t e h => lengthOf_any a ca l b w lo hi t e hz hca h
    have HTb : Hid (∀ w', Below w.heap.size w w' → Tab w') := fun _ h => hT.below h hgt
    have HAb : Hid (∀ w', Below w.heap.size w w' → FV w' a l lo hi) := fun _ h => ha.below h
    rw [hv] at HV1
    rcases len_ways b hg with ⟨h1, h2⟩ | ⟨h1, h2, hN⟩ | ⟨n, h1, h2, hN⟩
    · have HR : Hid (errV (fbC l B) = .iface 139 (.agg #[.int .i64 4])) := by show _ = _; rw [fb_len hg hv h2]; rfl
      rw [h1] at HL
      have HF : Hid _ := fun w => is_fault 4 b w
      have HL1 : Hid (∀ w, Tab w → w.cell? ⟨1, 0, none⟩ = some (sent b) → FV w a l lo hi → Calls Tryz.prog 140 #[.slice a l.length ca] w fun e w' => e = .returned (.tuple #[.int .i64 0, .iface 139 (.agg #[.int .i64 4])]) ∧ Below w.heap.size w w') := HL.out
      generalize errV (fbC l B) = R at HR ⊢
      clear h1 h2 hg hv hlen hz hE HL hT ha
      go_enter Tryz.func110, Tryz.ntmps110
      go_wp2_with fail
      refine (Calls.mono HV1.out ?_)
      rintro e w1 ⟨⟨v, rfl, hown⟩, hb1⟩
      obtain ⟨a1, c1, rfl, _⟩ := tv_of hown
      have hE1 := (hb1.cell (p := ⟨1, 0, none⟩) het).trans HE.out
      clear hown
      go_wp2_with fail
      refine (HL1.out _ (HTb.out _ hb1) hE1 (HAb.out _ hb1)).mono ?_
      rintro e w2 ⟨rfl, hb2⟩
      have hb12 := hb1.trans (hb2.mono hb1.size)
      have hE2 := (hb12.cell (p := ⟨1, 0, none⟩) het).trans HE.out
      clear hE1 hb2
      go_wp2_with fail
      refine (HF.out _).mono ?_
      rintro e w3 ⟨rfl, hw⟩
      obtain rfl := hw.symm
      go_wp2_with fail
      go_ret
      exact ⟨ret_v HR.out, hb12⟩
    · have HFB := @fb_rest l B hg hv h2
      rw [hN, if_neg (by omega)] at HFB
      rw [h1] at HL
      have HF : Hid _ := fun w => is_same b w
      have HL1 : Hid (∀ w, Tab w → w.cell? ⟨1, 0, none⟩ = some (sent b) → FV w a l lo hi → Calls Tryz.prog 140 #[.slice a l.length ca] w fun e w' => e = .returned (.tuple #[.int .i64 0, .iface 237 (.pointer (some b))]) ∧ Below w.heap.size w w') := HL.out
      by_cases hB : (B.size : Int) = 0
      · have HR : Hid (errV (fbC l B) = .nilIface) := by show _ = _; rw [HFB, if_neg (by omega)]; rfl
        have hne : ((B.size : Int) != 0) = false := by simpa using hB
        generalize errV (fbC l B) = R at HR ⊢
        clear h1 h2 hg hv hlen hz hE HL hT ha HFB hN
        go_enter Tryz.func110, Tryz.ntmps110
        go_wp2_with fail
        refine (Calls.mono HV1.out ?_)
        rintro e w1 ⟨⟨v, rfl, hown⟩, hb1⟩
        obtain ⟨a1, c1, rfl, _⟩ := tv_of hown
        have hE1 := (hb1.cell (p := ⟨1, 0, none⟩) het).trans HE.out
        clear hown
        go_wp2_with fail
        refine (HL1.out _ (HTb.out _ hb1) hE1 (HAb.out _ hb1)).mono ?_
        rintro e w2 ⟨rfl, hb2⟩
        have hb12 := hb1.trans (hb2.mono hb1.size)
        have hE2 := (hb12.cell (p := ⟨1, 0, none⟩) het).trans HE.out
        clear hE1 hb2
        go_wp2_with fail
        refine (HF.out _).mono ?_
        rintro e w3 ⟨rfl, hw⟩
        obtain rfl := hw.symm
        go_wp2_with fail
        go_ret
        exact ⟨ret_v HR.out, hb12⟩
      · have HR : Hid (errV (fbC l B) = .iface 139 (.agg #[.int .i64 1])) := by show _ = _; rw [HFB, if_pos hB]; rfl
        have hne : ((B.size : Int) != 0) = true := by simpa using hB
        generalize errV (fbC l B) = R at HR ⊢
        clear h1 h2 hg hv hlen hz hE HL hT ha HFB hN
        go_enter Tryz.func110, Tryz.ntmps110
        go_wp2_with fail
        refine (Calls.mono HV1.out ?_)
        rintro e w1 ⟨⟨v, rfl, hown⟩, hb1⟩
        obtain ⟨a1, c1, rfl, _⟩ := tv_of hown
        have hE1 := (hb1.cell (p := ⟨1, 0, none⟩) het).trans HE.out
        clear hown
        go_wp2_with fail
        refine (HL1.out _ (HTb.out _ hb1) hE1 (HAb.out _ hb1)).mono ?_
        rintro e w2 ⟨rfl, hb2⟩
        have hb12 := hb1.trans (hb2.mono hb1.size)
        have hE2 := (hb12.cell (p := ⟨1, 0, none⟩) het).trans HE.out
        clear hE1 hb2
        go_wp2_with fail
        refine (HF.out _).mono ?_
        rintro e w3 ⟨rfl, hw⟩
        obtain rfl := hw.symm
        go_wp2_with fail
        go_ret
        exact ⟨ret_v HR.out, hb12⟩
    · have HFB := @fb_rest l B hg hv h2
      rw [hN] at HFB
      rw [h1] at HL
      have HL1 : Hid (∀ w, Tab w → w.cell? ⟨1, 0, none⟩ = some (sent b) → FV w a l lo hi → Calls Tryz.prog 140 #[.slice a l.length ca] w fun e w' => e = .returned (.tuple #[.int .i64 n, .nilIface]) ∧ Below w.heap.size w w') := HL.out
      rcases (show 300 < n ∨ (¬ 300 < n ∧ (B.size : Int) ≠ n) ∨ (¬ 300 < n ∧ (B.size : Int) = n) from by omega) with h3 | ⟨h3, h4⟩ | ⟨h3, h4⟩
      · have HR : Hid (errV (fbC l B) = .iface 139 (.agg #[.int .i64 4])) := by show _ = _; rw [HFB, if_pos h3]; rfl
        have hd3 : decide (300 < n) = true := decide_eq_true h3
        generalize errV (fbC l B) = R at HR ⊢
        clear h1 h2 hg hv hlen hz hE HL hT ha HFB hN
        go_enter Tryz.func110, Tryz.ntmps110
        go_wp2_with fail
        refine (Calls.mono HV1.out ?_)
        rintro e w1 ⟨⟨v, rfl, hown⟩, hb1⟩
        obtain ⟨a1, c1, rfl, _⟩ := tv_of hown
        have hE1 := (hb1.cell (p := ⟨1, 0, none⟩) het).trans HE.out
        clear hown
        go_wp2_with fail
        refine (HL1.out _ (HTb.out _ hb1) hE1 (HAb.out _ hb1)).mono ?_
        rintro e w2 ⟨rfl, hb2⟩
        have hb12 := hb1.trans (hb2.mono hb1.size)
        clear hE1 hb2
        go_wp2_with fail
        go_ret
        exact ⟨ret_v HR.out, hb12⟩
      · have HR : Hid (errV (fbC l B) = .iface 139 (.agg #[.int .i64 1])) := by show _ = _; rw [HFB, if_neg h3, if_pos h4]; rfl
        have hd3 : decide (300 < n) = false := decide_eq_false h3
        have hne : ((B.size : Int) != n) = true := by simpa using h4
        generalize errV (fbC l B) = R at HR ⊢
        clear h1 h2 hg hv hlen hz hE HL hT ha HFB hN
        go_enter Tryz.func110, Tryz.ntmps110
        go_wp2_with fail
        refine (Calls.mono HV1.out ?_)
        rintro e w1 ⟨⟨v, rfl, hown⟩, hb1⟩
        obtain ⟨a1, c1, rfl, _⟩ := tv_of hown
        have hE1 := (hb1.cell (p := ⟨1, 0, none⟩) het).trans HE.out
        clear hown
        go_wp2_with fail
        refine (HL1.out _ (HTb.out _ hb1) hE1 (HAb.out _ hb1)).mono ?_
        rintro e w2 ⟨rfl, hb2⟩
        have hb12 := hb1.trans (hb2.mono hb1.size)
        clear hE1 hb2
        go_wp2_with fail
        go_ret
        exact ⟨ret_v HR.out, hb12⟩
      · have HR : Hid (errV (fbC l B) = .nilIface) := by show _ = _; rw [HFB, if_neg h3, if_neg (by omega)]; rfl
        have hd3 : decide (300 < n) = false := decide_eq_false h3
        have hne : ((B.size : Int) != n) = false := by simpa using h4
        generalize errV (fbC l B) = R at HR ⊢
        clear h1 h2 hg hv hlen hz hE HL hT ha HFB hN
        go_enter Tryz.func110, Tryz.ntmps110
        go_wp2_with fail
        refine (Calls.mono HV1.out ?_)
        rintro e w1 ⟨⟨v, rfl, hown⟩, hb1⟩
        obtain ⟨a1, c1, rfl, _⟩ := tv_of hown
        have hE1 := (hb1.cell (p := ⟨1, 0, none⟩) het).trans HE.out
        clear hown
        go_wp2_with fail
        refine (HL1.out _ (HTb.out _ hb1) hE1 (HAb.out _ hb1)).mono ?_
        rintro e w2 ⟨rfl, hb2⟩
        have hb12 := hb1.trans (hb2.mono hb1.size)
        clear hE1 hb2
        go_wp2_with fail
        go_ret
        exact ⟨ret_v HR.out, hb12⟩
  · have HR : Hid (errV (fbC l B) = .iface 139 (.agg #[.int .i64 3])) := by show _ = _; rw [fb_enc hg hv]; rfl
    have hp := List.length_pos_iff.2 hv
    have hpd : decide (0 < ((valsOf tenc l).length : Int)) = true := decide_eq_true (by omega)
    generalize errV (fbC l B) = R at HR ⊢
    generalize valsOf tenc l = vs at *
    clear hg hz hE
    go_enter Tryz.func110, Tryz.ntmps110
    go_wp2_with fail
    refine (Calls.mono HV1.out ?_)
    rintro e w1 ⟨⟨v, rfl, hown⟩, hb1⟩
    obtain ⟨a1, c1, rfl, _⟩ := tv_of hown
    clear hown
    go_wp2_with fail
    go_ret
    exact ⟨ret_v HR.out, hb1⟩

end Go.Proofs.YtfgcgnhffljiaaaGreatDoor.Rqb
