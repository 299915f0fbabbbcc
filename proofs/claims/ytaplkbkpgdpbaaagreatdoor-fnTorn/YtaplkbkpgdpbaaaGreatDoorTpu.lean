/-
  Walk: spec.TakeResponse.
-/
import Derived.Test.YtaplkbkpgdpbaaaGreatDoorTpj
import Derived.Test.YtaplkbkpgdpbaaaGreatDoorTpn
import Derived.Test.YtaplkbkpgdpbaaaGreatDoorTks
import Derived.Test.YtaplkbkpgdpbaaaGreatDoorHdw
namespace Go.Proofs.YtaplkbkpgdpbaaaGreatDoor.Tpr
open Go.RowKit
open Go.Proofs.YtaplkbkpgdpbaaaGreatDoor
open Go.Proofs.YtaplkbkpgdpbaaaGreatDoor.Fbs
open Go.Proofs.YtaplkbkpgdpbaaaGreatDoor.Fch
open Go.Proofs.YtaplkbkpgdpbaaaGreatDoor.Ows
open Go.Proofs.YtaplkbkpgdpbaaaGreatDoor.Fdb
open Go.Proofs.YtaplkbkpgdpbaaaGreatDoor.Fvs
open Go.Proofs.YtaplkbkpgdpbaaaGreatDoor.Lnp
open Go.Proofs.YtaplkbkpgdpbaaaGreatDoor.Hdl (cutO cdS l4Lines_any)
open Go.Proofs.YtaplkbkpgdpbaaaGreatDoor.Wgt (rdL)
open Go.Proofs.YtaplkbkpgdpbaaaGreatDoor.Rqb (hdC headS fbC vers Own4 rsnB l4Reason_any)
open Go.Proofs.YtaplkbkpgdpbaaaGreatDoor.Rsb (stB rsC rsB rs_is firstP specGoodP_any)
open Go.Proofs.YtaplkbkpgdpbaaaGreatDoor.Tkr (tkF tkB bodyO fldO fld_size cut_lines ff_form ff_set own_set own_other set_size cds_ne RowO cutZ_size cutA_size RestT l4Rest_any vers_list)

/-- A first line that is right. -/
def lineP (x : ByteArray) : Prop := Ctf.cutB x 32 = true ∧ Ctf.cutB (Ctf.cutZ x 32) 32 = true ∧ Ctf.cutA x 32 = vers ∧ (Ctf.cutA (Ctf.cutZ x 32) 32).size = 3 ∧ stB (intV (Ctf.cutA (Ctf.cutZ x 32) 32)) = true ∧ rsnB (Ctf.cutZ (Ctf.cutZ x 32) 32) = true
theorem tp_bad {s l0 : ByteArray} {xs : List ByteArray} {n : Nat} (h : ¬ lineP l0) : tpC s (l0 :: xs) n = 2 := by
  have e : tpC s (l0 :: xs) n = rsC (toldP l0).1 (toldP l0).2 (xs.map fldO) (bodyO (s.extract n s.size) (xs.map fldO)) := rfl
  rw [e]
  have h2 : (stB (toldP l0).1 && rsnB (toldP l0).2) = false := by
    by_cases hh : (Ctf.cutB l0 32 = true ∧ Ctf.cutA l0 32 = vers) ∧ Ctf.cutB (Ctf.cutZ l0 32) 32 = true ∧ (Ctf.cutA (Ctf.cutZ l0 32) 32).size = 3
    · rw [told_yes hh]
      have hs := (status_same hh.2.2).1
      show (stB (rdL (Ctf.cutA (Ctf.cutZ l0 32) 32).data.toList 0) && rsnB (Ctf.cutZ (Ctf.cutZ l0 32) 32)) = false
      rw [← hs]
      cases hm : stB (intV (Ctf.cutA (Ctf.cutZ l0 32) 32))
      · rfl
      · cases ht : rsnB (Ctf.cutZ (Ctf.cutZ l0 32) 32)
        · rfl
        · exact absurd ⟨hh.1.1, hh.2.1, hh.1.2, hh.2.2, hm, ht⟩ h
    · rw [told_no hh]; rfl
  unfold rsC
  rw [h2]; rfl
theorem tp_good {s l0 : ByteArray} {xs : List ByteArray} {n : Nat} (h : lineP l0) : tpM (l0 :: xs) = (intV (Ctf.cutA (Ctf.cutZ l0 32) 32), Ctf.cutZ (Ctf.cutZ l0 32) 32) ∧ tpC s (l0 :: xs) n = if fbC (xs.map fldO) (bodyO (s.extract n s.size) (xs.map fldO)) = 0 then hdC (headS (firstP (intV (Ctf.cutA (Ctf.cutZ l0 32) 32)) (Ctf.cutZ (Ctf.cutZ l0 32) 32)) (xs.map fldO)) else fbC (xs.map fldO) (bodyO (s.extract n s.size) (xs.map fldO)) := by
  obtain ⟨h1, h2, h3, h4, h5, h6⟩ := h
  have e : tpM (l0 :: xs) = (intV (Ctf.cutA (Ctf.cutZ l0 32) 32), Ctf.cutZ (Ctf.cutZ l0 32) 32) := by
    show toldP l0 = _
    rw [told_yes ⟨⟨h1, h3⟩, h2, h4⟩, (status_same h4).2 h5]
  refine ⟨e, ?_⟩
  unfold tpC
  rw [e]
  show rsC (intV (Ctf.cutA (Ctf.cutZ l0 32) 32)) (Ctf.cutZ (Ctf.cutZ l0 32) 32) _ _ = _
  unfold rsC
  rw [h5, h6]
  rfl

theorem own_put {w : World} {g : Nat} {v0 v1 v2 v3 : Value} (h : Own4 w g v0 v1 v2 v3) (u0 u1 u2 u3 : Value) (o : Obj) : Own4 (((((w.setCell ⟨g, 0, none⟩ u0).setCell ⟨g, 1, none⟩ u1).setCell ⟨g, 2, none⟩ u2).setCell ⟨g, 3, none⟩ u3).alloc o) g u0 u1 u2 u3 := by
  obtain ⟨f, h0, h1, h2, h3⟩ := h
  have e : Own4 ((((w.setCell ⟨g, 0, none⟩ u0).setCell ⟨g, 1, none⟩ u1).setCell ⟨g, 2, none⟩ u2).setCell ⟨g, 3, none⟩ u3) g u0 u1 u2 u3 := by
    refine ⟨fun i => by simp [go_sem, f], ?_, ?_, ?_, ?_⟩ <;> simp [go_sem, h0, h1, h2, h3]
  exact e.below ((Below.refl _ _).alloc (Nat.le_refl _) o)
theorem bel_put {w0 w : World} (h : Below w0.heap.size w0 w) (u0 u1 u2 u3 : Value) (o : Obj) : Below w0.heap.size w0 (((((w.setCell ⟨w0.heap.size, 0, none⟩ u0).setCell ⟨w0.heap.size, 1, none⟩ u1).setCell ⟨w0.heap.size, 2, none⟩ u2).setCell ⟨w0.heap.size, 3, none⟩ u3).alloc o) := by
  have hS := (((h.setCell (p := ⟨w0.heap.size, 0, none⟩) (Nat.le_refl _) u0).setCell (p := ⟨w0.heap.size, 1, none⟩) (Nat.le_refl _) u1).setCell (p := ⟨w0.heap.size, 2, none⟩) (Nat.le_refl _) u2).setCell (p := ⟨w0.heap.size, 3, none⟩) (Nat.le_refl _) u3
  exact hS.alloc hS.size o

set_option maxRecDepth 20000 in
set_option maxHeartbeats 3200000 in
theorem specTakeP_any (s : ByteArray) (w : World) (hs : s.size ≤ 1048576) :
    Calls Tryz.prog 28 #[.string s] w fun e w' => ToldP w' w.heap.size e (fun c => .int .i64 c) s ∧ Below w.heap.size w w' := by
  obtain ⟨W, hW⟩ : ∃ W, W = w.alloc (.cells #[.int .i64 0, .string ⟨#[]⟩, .slice none 0 0, .string ⟨#[]⟩] 36) := ⟨_, rfl⟩
  have hb1 : Below w.heap.size w W := by rw [hW]; exact (Below.refl _ _).alloc (Nat.le_refl _) _
  have HO : Hid (Own4 W w.heap.size (.int .i64 0) (.string ⟨#[]⟩) (.slice none 0 0) (.string ⟨#[]⟩)) := by rw [hW]; exact Rqb.Own4.made w _ _ _ _ _
  have HCt := l4Lines_any s W (by omega)
  cases hc : cutO s with
  | none =>
    have HC1 : Hid (Calls Tryz.prog 60 #[.string s] W fun e w' => e = .returned (.tuple #[.slice none 0 0, .int .i64 0, .int .i64 (cdS s)]) ∧ Below W.heap.size W w') := by
      refine HCt.mono ?_
      rintro e w' ⟨h, hb⟩
      unfold Hdl.ToldH at h
      rw [hc] at h
      exact ⟨h, hb⟩
    have HR : Hid (∀ w' B, ToldP w' B (.returned (.tuple #[.agg #[.int .i64 0, .string ⟨#[]⟩, .slice none 0 0, .string ⟨#[]⟩], .int .i64 0, .int .i64 (cdS s)])) (fun c => .int .i64 c) s) := fun w' B => toldP_none hc rfl
    have hne : (cdS s != 0) = true := by rw [bne_iff_ne]; exact cds_ne s
    generalize cdS s = D at *
    clear HCt hc
    go_enter Tryz.func28, Tryz.ntmps28
    go_wp2_with fail
    rw [← hW]
    clear hW
    refine (Calls.mono HC1.out ?_)
    rintro e w2 ⟨rfl, hb2⟩
    have hb12 := hb1.trans (hb2.mono hb1.size)
    obtain ⟨f2, p0, p1, p2, p3⟩ := HO.out.below hb2
    go_wp2_with fail
    exact bodyPost_ret (v := .tuple #[.agg #[.int .i64 0, .string ⟨#[]⟩, .slice none 0 0, .string ⟨#[]⟩], .int .i64 0, .int .i64 D]) (by simp [results, Tryz.results28, go_sem, p0, p1, p2, p3]) rfl ⟨HR.out _ _, (((hb12.setCell (Nat.le_refl _) _).setCell (Nat.le_refl _) _).setCell (Nat.le_refl _) _).setCell (Nat.le_refl _) _⟩
  | some p =>
    obtain ⟨ls, n⟩ := p
    obtain ⟨hl0, hll, hlz, hn2, hns⟩ := cut_lines hc
    have HC1 : Hid (Calls Tryz.prog 60 #[.string s] W fun e w' => (∃ x, e = .returned (.tuple #[x, .int .i64 n, .int .i64 0]) ∧ textsIn w' W.heap.size x ls) ∧ Below W.heap.size W w') := by
      refine HCt.mono ?_
      rintro e w' ⟨h, hb⟩
      unfold Hdl.ToldH at h
      rw [hc] at h
      exact ⟨h, hb⟩
    have HG : Hid (∀ w' B x, tpC s ls n = 0 → fieldsIn w' B x (tkF ls) → ToldP w' B (.returned (.tuple #[.agg #[.int .i64 (tpM ls).1, .string (tpM ls).2, x, .string (tkB s ls n)], .int .i64 ((n : Int) + (tkB s ls n).size), .int .i64 0])) (fun c => .int .i64 c) s) := fun w' B x h hf => toldP_good hc h x rfl hf
    have HBd : Hid (∀ c w' B, tpC s ls n = c → c ≠ 0 → ToldP w' B (.returned (.tuple #[.agg #[.int .i64 0, .string ⟨#[]⟩, .slice none 0 0, .string ⟨#[]⟩], .int .i64 0, .int .i64 c])) (fun c => .int .i64 c) s) := fun c w' B h h0 => toldP_bad hc (by omega) (by rw [h])
    clear HCt hc
    cases ls with
    | nil => exact absurd rfl hl0
    | cons l0 xs =>
      have hz0 := hlz l0 (by simp)
      have hzx : ∀ x ∈ xs, x.size ≤ 2000000 := fun x hx => by have := hlz x (by simp [hx]); omega
      have hxl : xs.length ≤ 900000 := by simp only [List.length_cons] at hll; omega
      have hzz := cutZ_size l0 32
      have hzz2 := cutZ_size (Ctf.cutZ l0 32) 32
      have hza2 := cutA_size (Ctf.cutZ l0 32) 32
      have HCa : Hid _ := fun w => Ctf.l1Cut_any l0 32 w (by omega)
      have HCb : Hid _ := fun w => Ctf.l1Cut_any (Ctf.cutZ l0 32) 32 w (by omega)
      have HSt : Hid _ := fun w => l1Int_any (Ctf.cutA (Ctf.cutZ l0 32) 32) w
      have HIn : Hid (∀ w, Calls Tryz.prog 67 #[.int .i64 (intV (Ctf.cutA (Ctf.cutZ l0 32) 32)), .int .i64 100, .int .i64 599] w fun e w' => e = .returned (.bool (stB (intV (Ctf.cutA (Ctf.cutZ l0 32) 32)))) ∧ w' = w) := fun w => l1In_any _ 100 599 w
      have HRe : Hid _ := fun w => l4Reason_any (Ctf.cutZ (Ctf.cutZ l0 32) 32) w (by omega)
      have hL : lineP l0 ↔ (Ctf.cutB l0 32 = true ∧ Ctf.cutB (Ctf.cutZ l0 32) 32 = true ∧ Ctf.cutA l0 32 = vers ∧ (Ctf.cutA (Ctf.cutZ l0 32) 32).size = 3 ∧ stB (intV (Ctf.cutA (Ctf.cutZ l0 32) 32)) = true ∧ rsnB (Ctf.cutZ (Ctf.cutZ l0 32) 32) = true) := Iff.rfl
      have H2 : Hid (¬ lineP l0 → ∀ w' B, ToldP w' B (.returned (.tuple #[.agg #[.int .i64 0, .string ⟨#[]⟩, .slice none 0 0, .string ⟨#[]⟩], .int .i64 0, .int .i64 2])) (fun c => .int .i64 c) s) := fun h w' B => HBd.out 2 w' B (tp_bad h) (by decide)
      have HTk : Hid (lineP l0 → tpM (l0 :: xs) = (intV (Ctf.cutA (Ctf.cutZ l0 32) 32), Ctf.cutZ (Ctf.cutZ l0 32) 32) ∧ tpC s (l0 :: xs) n = if fbC (xs.map fldO) (bodyO (s.extract n s.size) (xs.map fldO)) = 0 then hdC (headS (firstP (intV (Ctf.cutA (Ctf.cutZ l0 32) 32)) (Ctf.cutZ (Ctf.cutZ l0 32) 32)) (xs.map fldO)) else fbC (xs.map fldO) (bodyO (s.extract n s.size) (xs.map fldO))) := tp_good
      generalize lineP l0 = LB at hL H2 HTk
      have hr2 : (Ctf.cutZ (Ctf.cutZ l0 32) 32).size ≤ 2000000 := by omega
      have hd2 : (Ctf.cutA (Ctf.cutZ l0 32) 32).size ≤ 2000000 := by omega
      clear hzz hzz2 hza2
      generalize intV (Ctf.cutA (Ctf.cutZ l0 32) 32) = M at *
      generalize Ctf.cutA (Ctf.cutZ l0 32) 32 = D at *
      generalize Ctf.cutZ (Ctf.cutZ l0 32) 32 = T at *
      generalize Ctf.cutA l0 32 = V at *
      cases h1 : Ctf.cutB l0 32
      · have HR : Hid _ := H2.out (by rw [hL, h1]; simp)
        rw [h1] at HCa
        clear hL H2 HTk HG HBd
        go_enter Tryz.func28, Tryz.ntmps28
        go_wp2_with fail
        rw [← hW]
        clear hW
        refine (Calls.mono HC1.out ?_)
        rintro e w2 ⟨⟨x, rfl, hown⟩, hb2⟩
        have hb12 := hb1.trans (hb2.mono hb1.size)
        have HO2 : Hid (Own4 w2 w.heap.size (.int .i64 0) (.string ⟨#[]⟩) (.slice none 0 0) (.string ⟨#[]⟩)) := HO.out.below hb2
        obtain ⟨a1, c1, rfl, hlc, _, hne⟩ := textsIn.form hown
        obtain ⟨g, rfl, _, hg⟩ := hne (by simp)
        have t0 := textsIn.at hown 0 l0 rfl
        have hRow : RowO w2 g 1 xs := ⟨hg, fun j x h => textsIn.at hown (1 + j) x (by rw [Nat.add_comm]; exact h)⟩
        have HRow : Hid (∀ w', Below w2.heap.size w2 w' → ∀ o, o = 1 ∨ xs.length = 0 → RowO w' g o xs) := fun w' hb o h => by
          rcases h with rfl | h
          · exact hRow.below hb
          · obtain rfl := List.eq_nil_of_length_eq_zero h
            exact ⟨(hRow.below hb).1, fun j x h => by simp at h⟩
        clear hRow
        obtain ⟨f2, p0, p1, p2, p3⟩ := HO2.out
        clear hown hne hb2 HO
        go_wp2_with fail
        refine (HCa.out _).mono ?_
        rintro e w3 ⟨rfl, hb3'⟩
        have hk3 : Below w2.heap.size w2 w3 := hb3'
        have hb13 := hb12.trans (hb3'.mono hb12.size)
        have HO3 : Hid (Own4 w3 w.heap.size (.int .i64 0) (.string ⟨#[]⟩) (.slice none 0 0) (.string ⟨#[]⟩)) := HO2.out.below hb3'
        clear f2 p0 p1 p2 p3
        obtain ⟨f2, p0, p1, p2, p3⟩ := HO3.out
        go_wp2_with fail
        refine (HCb.out _).mono ?_
        rintro e w4 ⟨rfl, hb4'⟩
        have hk4 := hk3.trans (hb4'.mono hk3.size)
        have hb14 := hb13.trans (hb4'.mono hb13.size)
        have HO4 : Hid (Own4 w4 w.heap.size (.int .i64 0) (.string ⟨#[]⟩) (.slice none 0 0) (.string ⟨#[]⟩)) := HO3.out.below hb4'
        clear f2 p0 p1 p2 p3
        obtain ⟨f2, p0, p1, p2, p3⟩ := HO4.out
        go_wp2_with fail
        refine (HSt.out _).mono ?_
        rintro e w9 ⟨rfl, hw⟩
        obtain rfl := hw.symm
        obtain ⟨w5, hw5⟩ : ∃ w5, w5 = w4.alloc (.cells #[.int .i64 M, .string T, .slice none 0 0, .string ⟨#[]⟩] 36) := ⟨_, rfl⟩
        have hk45 : Below w4.heap.size w4 w5 := by rw [hw5]; exact (Below.refl _ _).alloc (Nat.le_refl _) _
        have hk5 := hk4.trans (hk45.mono hk4.size)
        have hb15 := hb14.trans (hk45.mono hb14.size)
        have hs5 : w5.heap.size = w4.heap.size + 1 := by rw [hw5]; simp
        have HX5 : Hid (Own4 w5 w4.heap.size (.int .i64 M) (.string T) (.slice none 0 0) (.string ⟨#[]⟩)) := by rw [hw5]; exact Rqb.Own4.made w4 _ _ _ _ _
        have HO5 : Hid (Own4 w5 w.heap.size (.int .i64 0) (.string ⟨#[]⟩) (.slice none 0 0) (.string ⟨#[]⟩)) := HO4.out.below hk45
        have hlt4 : w.heap.size < w4.heap.size := World.block_lt_of_cell? _ _ HO4.out.2.1
        have hne4 : w4.heap.size ≠ w.heap.size := by omega
        clear hw5 HX5 HO5 hk45 hk5 hb15 hs5
        go_wp2_with fail
        have HF := own_put HO4.out (.int .i64 0) (.string ⟨#[]⟩) (.slice none 0 0) (.string ⟨#[]⟩) (.cells #[.int .i64 M, .string T, .slice none 0 0, .string ⟨#[]⟩] 36)
        have HBf := bel_put hb14 (.int .i64 0) (.string ⟨#[]⟩) (.slice none 0 0) (.string ⟨#[]⟩) (.cells #[.int .i64 M, .string T, .slice none 0 0, .string ⟨#[]⟩] 36)
        generalize (((((w4.setCell ⟨w.heap.size, 0, none⟩ (.int .i64 0)).setCell ⟨w.heap.size, 1, none⟩ (.string ⟨#[]⟩)).setCell ⟨w.heap.size, 2, none⟩ (.slice none 0 0)).setCell ⟨w.heap.size, 3, none⟩ (.string ⟨#[]⟩)).alloc (.cells #[.int .i64 M, .string T, .slice none 0 0, .string ⟨#[]⟩] 36)) = wf at HF HBf ⊢
        obtain ⟨ff, r0, r1, r2, r3⟩ := HF
        exact bodyPost_ret (v := .tuple #[.agg #[.int .i64 0, .string ⟨#[]⟩, .slice none 0 0, .string ⟨#[]⟩], .int .i64 0, .int .i64 2]) (by simp [results, Tryz.results28, go_sem, r0, r1, r2, r3]) rfl ⟨HR.out _ _, HBf⟩
      rw [h1] at HCa hL
      cases h2 : Ctf.cutB (Ctf.cutZ l0 32) 32
      · have HR : Hid _ := H2.out (by rw [hL, h2]; simp)
        rw [h2] at HCb
        clear hL H2 HTk HG HBd
        go_enter Tryz.func28, Tryz.ntmps28
        go_wp2_with fail
        rw [← hW]
        clear hW
        refine (Calls.mono HC1.out ?_)
        rintro e w2 ⟨⟨x, rfl, hown⟩, hb2⟩
        have hb12 := hb1.trans (hb2.mono hb1.size)
        have HO2 : Hid (Own4 w2 w.heap.size (.int .i64 0) (.string ⟨#[]⟩) (.slice none 0 0) (.string ⟨#[]⟩)) := HO.out.below hb2
        obtain ⟨a1, c1, rfl, hlc, _, hne⟩ := textsIn.form hown
        obtain ⟨g, rfl, _, hg⟩ := hne (by simp)
        have t0 := textsIn.at hown 0 l0 rfl
        have hRow : RowO w2 g 1 xs := ⟨hg, fun j x h => textsIn.at hown (1 + j) x (by rw [Nat.add_comm]; exact h)⟩
        have HRow : Hid (∀ w', Below w2.heap.size w2 w' → ∀ o, o = 1 ∨ xs.length = 0 → RowO w' g o xs) := fun w' hb o h => by
          rcases h with rfl | h
          · exact hRow.below hb
          · obtain rfl := List.eq_nil_of_length_eq_zero h
            exact ⟨(hRow.below hb).1, fun j x h => by simp at h⟩
        clear hRow
        obtain ⟨f2, p0, p1, p2, p3⟩ := HO2.out
        clear hown hne hb2 HO
        go_wp2_with fail
        refine (HCa.out _).mono ?_
        rintro e w3 ⟨rfl, hb3'⟩
        have hk3 : Below w2.heap.size w2 w3 := hb3'
        have hb13 := hb12.trans (hb3'.mono hb12.size)
        have HO3 : Hid (Own4 w3 w.heap.size (.int .i64 0) (.string ⟨#[]⟩) (.slice none 0 0) (.string ⟨#[]⟩)) := HO2.out.below hb3'
        clear f2 p0 p1 p2 p3
        obtain ⟨f2, p0, p1, p2, p3⟩ := HO3.out
        go_wp2_with fail
        refine (HCb.out _).mono ?_
        rintro e w4 ⟨rfl, hb4'⟩
        have hk4 := hk3.trans (hb4'.mono hk3.size)
        have hb14 := hb13.trans (hb4'.mono hb13.size)
        have HO4 : Hid (Own4 w4 w.heap.size (.int .i64 0) (.string ⟨#[]⟩) (.slice none 0 0) (.string ⟨#[]⟩)) := HO3.out.below hb4'
        clear f2 p0 p1 p2 p3
        obtain ⟨f2, p0, p1, p2, p3⟩ := HO4.out
        go_wp2_with fail
        refine (HSt.out _).mono ?_
        rintro e w9 ⟨rfl, hw⟩
        obtain rfl := hw.symm
        obtain ⟨w5, hw5⟩ : ∃ w5, w5 = w4.alloc (.cells #[.int .i64 M, .string T, .slice none 0 0, .string ⟨#[]⟩] 36) := ⟨_, rfl⟩
        have hk45 : Below w4.heap.size w4 w5 := by rw [hw5]; exact (Below.refl _ _).alloc (Nat.le_refl _) _
        have hk5 := hk4.trans (hk45.mono hk4.size)
        have hb15 := hb14.trans (hk45.mono hb14.size)
        have hs5 : w5.heap.size = w4.heap.size + 1 := by rw [hw5]; simp
        have HX5 : Hid (Own4 w5 w4.heap.size (.int .i64 M) (.string T) (.slice none 0 0) (.string ⟨#[]⟩)) := by rw [hw5]; exact Rqb.Own4.made w4 _ _ _ _ _
        have HO5 : Hid (Own4 w5 w.heap.size (.int .i64 0) (.string ⟨#[]⟩) (.slice none 0 0) (.string ⟨#[]⟩)) := HO4.out.below hk45
        have hlt4 : w.heap.size < w4.heap.size := World.block_lt_of_cell? _ _ HO4.out.2.1
        have hne4 : w4.heap.size ≠ w.heap.size := by omega
        clear hw5 HX5 HO5 hk45 hk5 hb15 hs5
        go_wp2_with fail
        have HF := own_put HO4.out (.int .i64 0) (.string ⟨#[]⟩) (.slice none 0 0) (.string ⟨#[]⟩) (.cells #[.int .i64 M, .string T, .slice none 0 0, .string ⟨#[]⟩] 36)
        have HBf := bel_put hb14 (.int .i64 0) (.string ⟨#[]⟩) (.slice none 0 0) (.string ⟨#[]⟩) (.cells #[.int .i64 M, .string T, .slice none 0 0, .string ⟨#[]⟩] 36)
        generalize (((((w4.setCell ⟨w.heap.size, 0, none⟩ (.int .i64 0)).setCell ⟨w.heap.size, 1, none⟩ (.string ⟨#[]⟩)).setCell ⟨w.heap.size, 2, none⟩ (.slice none 0 0)).setCell ⟨w.heap.size, 3, none⟩ (.string ⟨#[]⟩)).alloc (.cells #[.int .i64 M, .string T, .slice none 0 0, .string ⟨#[]⟩] 36)) = wf at HF HBf ⊢
        obtain ⟨ff, r0, r1, r2, r3⟩ := HF
        exact bodyPost_ret (v := .tuple #[.agg #[.int .i64 0, .string ⟨#[]⟩, .slice none 0 0, .string ⟨#[]⟩], .int .i64 0, .int .i64 2]) (by simp [results, Tryz.results28, go_sem, r0, r1, r2, r3]) rfl ⟨HR.out _ _, HBf⟩
      rw [h2] at HCb hL
      by_cases h3 : V = vers
      case neg =>
        have hvs : (V.toList == [72, 84, 84, 80, 47, 49, 46, 49]) = false := by
          rw [beq_eq_false_iff_ne]
          intro e
          apply h3
          have h := (Kls.text_cmp V vers).symm.trans (show (V.toList == vers.toList) = true by rw [e, vers_list]; rfl)
          exact of_decide_eq_true h
        have HR : Hid _ := H2.out (by rw [hL]; exact fun h => h3 h.2.2.1)
        clear h3
        clear hL H2 HTk HG HBd
        go_enter Tryz.func28, Tryz.ntmps28
        go_wp2_with fail
        rw [← hW]
        clear hW
        refine (Calls.mono HC1.out ?_)
        rintro e w2 ⟨⟨x, rfl, hown⟩, hb2⟩
        have hb12 := hb1.trans (hb2.mono hb1.size)
        have HO2 : Hid (Own4 w2 w.heap.size (.int .i64 0) (.string ⟨#[]⟩) (.slice none 0 0) (.string ⟨#[]⟩)) := HO.out.below hb2
        obtain ⟨a1, c1, rfl, hlc, _, hne⟩ := textsIn.form hown
        obtain ⟨g, rfl, _, hg⟩ := hne (by simp)
        have t0 := textsIn.at hown 0 l0 rfl
        have hRow : RowO w2 g 1 xs := ⟨hg, fun j x h => textsIn.at hown (1 + j) x (by rw [Nat.add_comm]; exact h)⟩
        have HRow : Hid (∀ w', Below w2.heap.size w2 w' → ∀ o, o = 1 ∨ xs.length = 0 → RowO w' g o xs) := fun w' hb o h => by
          rcases h with rfl | h
          · exact hRow.below hb
          · obtain rfl := List.eq_nil_of_length_eq_zero h
            exact ⟨(hRow.below hb).1, fun j x h => by simp at h⟩
        clear hRow
        obtain ⟨f2, p0, p1, p2, p3⟩ := HO2.out
        clear hown hne hb2 HO
        go_wp2_with fail
        refine (HCa.out _).mono ?_
        rintro e w3 ⟨rfl, hb3'⟩
        have hk3 : Below w2.heap.size w2 w3 := hb3'
        have hb13 := hb12.trans (hb3'.mono hb12.size)
        have HO3 : Hid (Own4 w3 w.heap.size (.int .i64 0) (.string ⟨#[]⟩) (.slice none 0 0) (.string ⟨#[]⟩)) := HO2.out.below hb3'
        clear f2 p0 p1 p2 p3
        obtain ⟨f2, p0, p1, p2, p3⟩ := HO3.out
        go_wp2_with fail
        refine (HCb.out _).mono ?_
        rintro e w4 ⟨rfl, hb4'⟩
        have hk4 := hk3.trans (hb4'.mono hk3.size)
        have hb14 := hb13.trans (hb4'.mono hb13.size)
        have HO4 : Hid (Own4 w4 w.heap.size (.int .i64 0) (.string ⟨#[]⟩) (.slice none 0 0) (.string ⟨#[]⟩)) := HO3.out.below hb4'
        clear f2 p0 p1 p2 p3
        obtain ⟨f2, p0, p1, p2, p3⟩ := HO4.out
        go_wp2_with fail
        refine (HSt.out _).mono ?_
        rintro e w9 ⟨rfl, hw⟩
        obtain rfl := hw.symm
        obtain ⟨w5, hw5⟩ : ∃ w5, w5 = w4.alloc (.cells #[.int .i64 M, .string T, .slice none 0 0, .string ⟨#[]⟩] 36) := ⟨_, rfl⟩
        have hk45 : Below w4.heap.size w4 w5 := by rw [hw5]; exact (Below.refl _ _).alloc (Nat.le_refl _) _
        have hk5 := hk4.trans (hk45.mono hk4.size)
        have hb15 := hb14.trans (hk45.mono hb14.size)
        have hs5 : w5.heap.size = w4.heap.size + 1 := by rw [hw5]; simp
        have HX5 : Hid (Own4 w5 w4.heap.size (.int .i64 M) (.string T) (.slice none 0 0) (.string ⟨#[]⟩)) := by rw [hw5]; exact Rqb.Own4.made w4 _ _ _ _ _
        have HO5 : Hid (Own4 w5 w.heap.size (.int .i64 0) (.string ⟨#[]⟩) (.slice none 0 0) (.string ⟨#[]⟩)) := HO4.out.below hk45
        have hlt4 : w.heap.size < w4.heap.size := World.block_lt_of_cell? _ _ HO4.out.2.1
        have hne4 : w4.heap.size ≠ w.heap.size := by omega
        clear hw5 HX5 HO5 hk45 hk5 hb15 hs5
        go_wp2_with fail
        have HF := own_put HO4.out (.int .i64 0) (.string ⟨#[]⟩) (.slice none 0 0) (.string ⟨#[]⟩) (.cells #[.int .i64 M, .string T, .slice none 0 0, .string ⟨#[]⟩] 36)
        have HBf := bel_put hb14 (.int .i64 0) (.string ⟨#[]⟩) (.slice none 0 0) (.string ⟨#[]⟩) (.cells #[.int .i64 M, .string T, .slice none 0 0, .string ⟨#[]⟩] 36)
        generalize (((((w4.setCell ⟨w.heap.size, 0, none⟩ (.int .i64 0)).setCell ⟨w.heap.size, 1, none⟩ (.string ⟨#[]⟩)).setCell ⟨w.heap.size, 2, none⟩ (.slice none 0 0)).setCell ⟨w.heap.size, 3, none⟩ (.string ⟨#[]⟩)).alloc (.cells #[.int .i64 M, .string T, .slice none 0 0, .string ⟨#[]⟩] 36)) = wf at HF HBf ⊢
        obtain ⟨ff, r0, r1, r2, r3⟩ := HF
        exact bodyPost_ret (v := .tuple #[.agg #[.int .i64 0, .string ⟨#[]⟩, .slice none 0 0, .string ⟨#[]⟩], .int .i64 0, .int .i64 2]) (by simp [results, Tryz.results28, go_sem, r0, r1, r2, r3]) rfl ⟨HR.out _ _, HBf⟩
      have hvs : (V.toList == [72, 84, 84, 80, 47, 49, 46, 49]) = true := by rw [h3, vers_list]; rfl
      by_cases h4 : D.size = 3
      case neg =>
        have hd3 : ((D.size : Int) != 3) = true := by rw [bne_iff_ne]; omega
        have HR : Hid _ := H2.out (by rw [hL]; exact fun h => h4 h.2.2.2.1)
        clear h3 h4
        clear hL H2 HTk HG HBd
        go_enter Tryz.func28, Tryz.ntmps28
        go_wp2_with fail
        rw [← hW]
        clear hW
        refine (Calls.mono HC1.out ?_)
        rintro e w2 ⟨⟨x, rfl, hown⟩, hb2⟩
        have hb12 := hb1.trans (hb2.mono hb1.size)
        have HO2 : Hid (Own4 w2 w.heap.size (.int .i64 0) (.string ⟨#[]⟩) (.slice none 0 0) (.string ⟨#[]⟩)) := HO.out.below hb2
        obtain ⟨a1, c1, rfl, hlc, _, hne⟩ := textsIn.form hown
        obtain ⟨g, rfl, _, hg⟩ := hne (by simp)
        have t0 := textsIn.at hown 0 l0 rfl
        have hRow : RowO w2 g 1 xs := ⟨hg, fun j x h => textsIn.at hown (1 + j) x (by rw [Nat.add_comm]; exact h)⟩
        have HRow : Hid (∀ w', Below w2.heap.size w2 w' → ∀ o, o = 1 ∨ xs.length = 0 → RowO w' g o xs) := fun w' hb o h => by
          rcases h with rfl | h
          · exact hRow.below hb
          · obtain rfl := List.eq_nil_of_length_eq_zero h
            exact ⟨(hRow.below hb).1, fun j x h => by simp at h⟩
        clear hRow
        obtain ⟨f2, p0, p1, p2, p3⟩ := HO2.out
        clear hown hne hb2 HO
        go_wp2_with fail
        refine (HCa.out _).mono ?_
        rintro e w3 ⟨rfl, hb3'⟩
        have hk3 : Below w2.heap.size w2 w3 := hb3'
        have hb13 := hb12.trans (hb3'.mono hb12.size)
        have HO3 : Hid (Own4 w3 w.heap.size (.int .i64 0) (.string ⟨#[]⟩) (.slice none 0 0) (.string ⟨#[]⟩)) := HO2.out.below hb3'
        clear f2 p0 p1 p2 p3
        obtain ⟨f2, p0, p1, p2, p3⟩ := HO3.out
        go_wp2_with fail
        refine (HCb.out _).mono ?_
        rintro e w4 ⟨rfl, hb4'⟩
        have hk4 := hk3.trans (hb4'.mono hk3.size)
        have hb14 := hb13.trans (hb4'.mono hb13.size)
        have HO4 : Hid (Own4 w4 w.heap.size (.int .i64 0) (.string ⟨#[]⟩) (.slice none 0 0) (.string ⟨#[]⟩)) := HO3.out.below hb4'
        clear f2 p0 p1 p2 p3
        obtain ⟨f2, p0, p1, p2, p3⟩ := HO4.out
        go_wp2_with fail
        refine (HSt.out _).mono ?_
        rintro e w9 ⟨rfl, hw⟩
        obtain rfl := hw.symm
        obtain ⟨w5, hw5⟩ : ∃ w5, w5 = w4.alloc (.cells #[.int .i64 M, .string T, .slice none 0 0, .string ⟨#[]⟩] 36) := ⟨_, rfl⟩
        have hk45 : Below w4.heap.size w4 w5 := by rw [hw5]; exact (Below.refl _ _).alloc (Nat.le_refl _) _
        have hk5 := hk4.trans (hk45.mono hk4.size)
        have hb15 := hb14.trans (hk45.mono hb14.size)
        have hs5 : w5.heap.size = w4.heap.size + 1 := by rw [hw5]; simp
        have HX5 : Hid (Own4 w5 w4.heap.size (.int .i64 M) (.string T) (.slice none 0 0) (.string ⟨#[]⟩)) := by rw [hw5]; exact Rqb.Own4.made w4 _ _ _ _ _
        have HO5 : Hid (Own4 w5 w.heap.size (.int .i64 0) (.string ⟨#[]⟩) (.slice none 0 0) (.string ⟨#[]⟩)) := HO4.out.below hk45
        have hlt4 : w.heap.size < w4.heap.size := World.block_lt_of_cell? _ _ HO4.out.2.1
        have hne4 : w4.heap.size ≠ w.heap.size := by omega
        clear hw5 HX5 HO5 hk45 hk5 hb15 hs5
        go_wp2_with fail
        have HF := own_put HO4.out (.int .i64 0) (.string ⟨#[]⟩) (.slice none 0 0) (.string ⟨#[]⟩) (.cells #[.int .i64 M, .string T, .slice none 0 0, .string ⟨#[]⟩] 36)
        have HBf := bel_put hb14 (.int .i64 0) (.string ⟨#[]⟩) (.slice none 0 0) (.string ⟨#[]⟩) (.cells #[.int .i64 M, .string T, .slice none 0 0, .string ⟨#[]⟩] 36)
        generalize (((((w4.setCell ⟨w.heap.size, 0, none⟩ (.int .i64 0)).setCell ⟨w.heap.size, 1, none⟩ (.string ⟨#[]⟩)).setCell ⟨w.heap.size, 2, none⟩ (.slice none 0 0)).setCell ⟨w.heap.size, 3, none⟩ (.string ⟨#[]⟩)).alloc (.cells #[.int .i64 M, .string T, .slice none 0 0, .string ⟨#[]⟩] 36)) = wf at HF HBf ⊢
        obtain ⟨ff, r0, r1, r2, r3⟩ := HF
        exact bodyPost_ret (v := .tuple #[.agg #[.int .i64 0, .string ⟨#[]⟩, .slice none 0 0, .string ⟨#[]⟩], .int .i64 0, .int .i64 2]) (by simp [results, Tryz.results28, go_sem, r0, r1, r2, r3]) rfl ⟨HR.out _ _, HBf⟩
      have hd3 : ((D.size : Int) != 3) = false := by rw [h4]; rfl
      cases h5 : stB M
      · have HR : Hid _ := H2.out (by rw [hL, h5]; simp)
        rw [h5] at HIn
        clear h3 h4
        clear hL H2 HTk HG HBd
        go_enter Tryz.func28, Tryz.ntmps28
        go_wp2_with fail
        rw [← hW]
        clear hW
        refine (Calls.mono HC1.out ?_)
        rintro e w2 ⟨⟨x, rfl, hown⟩, hb2⟩
        have hb12 := hb1.trans (hb2.mono hb1.size)
        have HO2 : Hid (Own4 w2 w.heap.size (.int .i64 0) (.string ⟨#[]⟩) (.slice none 0 0) (.string ⟨#[]⟩)) := HO.out.below hb2
        obtain ⟨a1, c1, rfl, hlc, _, hne⟩ := textsIn.form hown
        obtain ⟨g, rfl, _, hg⟩ := hne (by simp)
        have t0 := textsIn.at hown 0 l0 rfl
        have hRow : RowO w2 g 1 xs := ⟨hg, fun j x h => textsIn.at hown (1 + j) x (by rw [Nat.add_comm]; exact h)⟩
        have HRow : Hid (∀ w', Below w2.heap.size w2 w' → ∀ o, o = 1 ∨ xs.length = 0 → RowO w' g o xs) := fun w' hb o h => by
          rcases h with rfl | h
          · exact hRow.below hb
          · obtain rfl := List.eq_nil_of_length_eq_zero h
            exact ⟨(hRow.below hb).1, fun j x h => by simp at h⟩
        clear hRow
        obtain ⟨f2, p0, p1, p2, p3⟩ := HO2.out
        clear hown hne hb2 HO
        go_wp2_with fail
        refine (HCa.out _).mono ?_
        rintro e w3 ⟨rfl, hb3'⟩
        have hk3 : Below w2.heap.size w2 w3 := hb3'
        have hb13 := hb12.trans (hb3'.mono hb12.size)
        have HO3 : Hid (Own4 w3 w.heap.size (.int .i64 0) (.string ⟨#[]⟩) (.slice none 0 0) (.string ⟨#[]⟩)) := HO2.out.below hb3'
        clear f2 p0 p1 p2 p3
        obtain ⟨f2, p0, p1, p2, p3⟩ := HO3.out
        go_wp2_with fail
        refine (HCb.out _).mono ?_
        rintro e w4 ⟨rfl, hb4'⟩
        have hk4 := hk3.trans (hb4'.mono hk3.size)
        have hb14 := hb13.trans (hb4'.mono hb13.size)
        have HO4 : Hid (Own4 w4 w.heap.size (.int .i64 0) (.string ⟨#[]⟩) (.slice none 0 0) (.string ⟨#[]⟩)) := HO3.out.below hb4'
        clear f2 p0 p1 p2 p3
        obtain ⟨f2, p0, p1, p2, p3⟩ := HO4.out
        go_wp2_with fail
        refine (HSt.out _).mono ?_
        rintro e w9 ⟨rfl, hw⟩
        obtain rfl := hw.symm
        obtain ⟨w5, hw5⟩ : ∃ w5, w5 = w4.alloc (.cells #[.int .i64 M, .string T, .slice none 0 0, .string ⟨#[]⟩] 36) := ⟨_, rfl⟩
        have hk45 : Below w4.heap.size w4 w5 := by rw [hw5]; exact (Below.refl _ _).alloc (Nat.le_refl _) _
        have hk5 := hk4.trans (hk45.mono hk4.size)
        have hb15 := hb14.trans (hk45.mono hb14.size)
        have hs5 : w5.heap.size = w4.heap.size + 1 := by rw [hw5]; simp
        have HX5 : Hid (Own4 w5 w4.heap.size (.int .i64 M) (.string T) (.slice none 0 0) (.string ⟨#[]⟩)) := by rw [hw5]; exact Rqb.Own4.made w4 _ _ _ _ _
        have HO5 : Hid (Own4 w5 w.heap.size (.int .i64 0) (.string ⟨#[]⟩) (.slice none 0 0) (.string ⟨#[]⟩)) := HO4.out.below hk45
        have hlt4 : w.heap.size < w4.heap.size := World.block_lt_of_cell? _ _ HO4.out.2.1
        have hne4 : w4.heap.size ≠ w.heap.size := by omega
        go_wp2_with fail
        rw [← hw5]
        clear hw5 f2 p0 p1 p2 p3
        obtain ⟨f2, p0, p1, p2, p3⟩ := HO5.out
        obtain ⟨g5, q0, q1, q2, q3⟩ := HX5.out
        refine (HIn.out _).mono ?_
        rintro e w9 ⟨rfl, hw⟩
        obtain rfl := hw.symm
        go_wp2_with fail
        exact bodyPost_ret (v := .tuple #[.agg #[.int .i64 0, .string ⟨#[]⟩, .slice none 0 0, .string ⟨#[]⟩], .int .i64 0, .int .i64 2]) (by simp [results, Tryz.results28, go_sem, p0, p1, p2, p3]) rfl ⟨HR.out _ _, (((hb15.setCell (Nat.le_refl _) _).setCell (Nat.le_refl _) _).setCell (Nat.le_refl _) _).setCell (Nat.le_refl _) _⟩
      rw [h5] at HIn hL
      cases h6 : rsnB T
      · have HR : Hid _ := H2.out (by rw [hL, h6]; simp)
        rw [h6] at HRe
        clear h3 h4
        clear hL H2 HTk HG HBd
        go_enter Tryz.func28, Tryz.ntmps28
        go_wp2_with fail
        rw [← hW]
        clear hW
        refine (Calls.mono HC1.out ?_)
        rintro e w2 ⟨⟨x, rfl, hown⟩, hb2⟩
        have hb12 := hb1.trans (hb2.mono hb1.size)
        have HO2 : Hid (Own4 w2 w.heap.size (.int .i64 0) (.string ⟨#[]⟩) (.slice none 0 0) (.string ⟨#[]⟩)) := HO.out.below hb2
        obtain ⟨a1, c1, rfl, hlc, _, hne⟩ := textsIn.form hown
        obtain ⟨g, rfl, _, hg⟩ := hne (by simp)
        have t0 := textsIn.at hown 0 l0 rfl
        have hRow : RowO w2 g 1 xs := ⟨hg, fun j x h => textsIn.at hown (1 + j) x (by rw [Nat.add_comm]; exact h)⟩
        have HRow : Hid (∀ w', Below w2.heap.size w2 w' → ∀ o, o = 1 ∨ xs.length = 0 → RowO w' g o xs) := fun w' hb o h => by
          rcases h with rfl | h
          · exact hRow.below hb
          · obtain rfl := List.eq_nil_of_length_eq_zero h
            exact ⟨(hRow.below hb).1, fun j x h => by simp at h⟩
        clear hRow
        obtain ⟨f2, p0, p1, p2, p3⟩ := HO2.out
        clear hown hne hb2 HO
        go_wp2_with fail
        refine (HCa.out _).mono ?_
        rintro e w3 ⟨rfl, hb3'⟩
        have hk3 : Below w2.heap.size w2 w3 := hb3'
        have hb13 := hb12.trans (hb3'.mono hb12.size)
        have HO3 : Hid (Own4 w3 w.heap.size (.int .i64 0) (.string ⟨#[]⟩) (.slice none 0 0) (.string ⟨#[]⟩)) := HO2.out.below hb3'
        clear f2 p0 p1 p2 p3
        obtain ⟨f2, p0, p1, p2, p3⟩ := HO3.out
        go_wp2_with fail
        refine (HCb.out _).mono ?_
        rintro e w4 ⟨rfl, hb4'⟩
        have hk4 := hk3.trans (hb4'.mono hk3.size)
        have hb14 := hb13.trans (hb4'.mono hb13.size)
        have HO4 : Hid (Own4 w4 w.heap.size (.int .i64 0) (.string ⟨#[]⟩) (.slice none 0 0) (.string ⟨#[]⟩)) := HO3.out.below hb4'
        clear f2 p0 p1 p2 p3
        obtain ⟨f2, p0, p1, p2, p3⟩ := HO4.out
        go_wp2_with fail
        refine (HSt.out _).mono ?_
        rintro e w9 ⟨rfl, hw⟩
        obtain rfl := hw.symm
        obtain ⟨w5, hw5⟩ : ∃ w5, w5 = w4.alloc (.cells #[.int .i64 M, .string T, .slice none 0 0, .string ⟨#[]⟩] 36) := ⟨_, rfl⟩
        have hk45 : Below w4.heap.size w4 w5 := by rw [hw5]; exact (Below.refl _ _).alloc (Nat.le_refl _) _
        have hk5 := hk4.trans (hk45.mono hk4.size)
        have hb15 := hb14.trans (hk45.mono hb14.size)
        have hs5 : w5.heap.size = w4.heap.size + 1 := by rw [hw5]; simp
        have HX5 : Hid (Own4 w5 w4.heap.size (.int .i64 M) (.string T) (.slice none 0 0) (.string ⟨#[]⟩)) := by rw [hw5]; exact Rqb.Own4.made w4 _ _ _ _ _
        have HO5 : Hid (Own4 w5 w.heap.size (.int .i64 0) (.string ⟨#[]⟩) (.slice none 0 0) (.string ⟨#[]⟩)) := HO4.out.below hk45
        have hlt4 : w.heap.size < w4.heap.size := World.block_lt_of_cell? _ _ HO4.out.2.1
        have hne4 : w4.heap.size ≠ w.heap.size := by omega
        go_wp2_with fail
        rw [← hw5]
        clear hw5 f2 p0 p1 p2 p3
        obtain ⟨f2, p0, p1, p2, p3⟩ := HO5.out
        obtain ⟨g5, q0, q1, q2, q3⟩ := HX5.out
        refine (HIn.out _).mono ?_
        rintro e w9 ⟨rfl, hw⟩
        obtain rfl := hw.symm
        go_wp2_with fail
        refine (HRe.out _).mono ?_
        rintro e w9 ⟨rfl, hw⟩
        obtain rfl := hw.symm
        go_wp2_with fail
        exact bodyPost_ret (v := .tuple #[.agg #[.int .i64 0, .string ⟨#[]⟩, .slice none 0 0, .string ⟨#[]⟩], .int .i64 0, .int .i64 2]) (by simp [results, Tryz.results28, go_sem, p0, p1, p2, p3]) rfl ⟨HR.out _ _, (((hb15.setCell (Nat.le_refl _) _).setCell (Nat.le_refl _) _).setCell (Nat.le_refl _) _).setCell (Nat.le_refl _) _⟩
      rw [h6] at HRe hL
      have hLB : LB := hL.2 ⟨rfl, rfl, h3, h4, rfl, rfl⟩
      obtain ⟨hMM, hCC⟩ := HTk.out hLB
      clear hL H2 HTk h3 h4 hLB
      have hQ : tpC s (l0 :: xs) n = rsC M T (xs.map fldO) (bodyO (s.extract n s.size) (xs.map fldO)) := by unfold tpC; rw [hMM]; rfl
      have hzF : SzF (xs.map fldO) := by
        intro c hc
        obtain ⟨x, hx, rfl⟩ := List.mem_map.1 hc
        have h1 := fld_size x
        have h2 := hzx x hx
        omega
      have hFl : (xs.map fldO).length ≤ 2000000 := by simp; omega
      have hRs := fun g o ca w h => l4Rest_any s g o ca n xs w hs hns hxl hzx h
      have HGB : Hid (∀ a ca w lo hi, FV w a (xs.map fldO) lo hi → Calls Tryz.prog 34 #[.agg #[.int .i64 M, .string T, .slice a (xs.map fldO).length ca, .string (bodyO (s.extract n s.size) (xs.map fldO))]] w fun e w' => e = .returned (.bool (decide (tpC s (l0 :: xs) n = 0))) ∧ Below w.heap.size w w') := by
        intro a ca w lo hi h
        have := specGoodP_any M T (bodyO (s.extract n s.size) (xs.map fldO)) a ca (xs.map fldO) w lo hi hr2 hFl hzF h
        rwa [rs_is, ← hQ] at this
      have HG1 : Hid (∀ w' B x, tpC s (l0 :: xs) n = 0 → fieldsIn w' B x (xs.map fldO) → ToldP w' B (.returned (.tuple #[.agg #[.int .i64 M, .string T, x, .string (bodyO (s.extract n s.size) (xs.map fldO))], .int .i64 ((n : Int) + (bodyO (s.extract n s.size) (xs.map fldO)).size), .int .i64 0])) (fun c => .int .i64 c) s) := by
        intro w' B x h hf
        have := HG.out w' B x h hf
        rwa [hMM] at this
      have hBz : (bodyO (s.extract n s.size) (xs.map fldO)).size ≤ 2000000 := by unfold bodyO; rw [ByteArray.size_extract, ByteArray.size_extract]; omega
      unfold RestT at hRs
      by_cases hC : fbC (xs.map fldO) (bodyO (s.extract n s.size) (xs.map fldO)) = 0
      · rw [if_pos hC] at hCC
        simp only [if_pos hC] at hRs
        have HRs : Hid _ := hRs
        by_cases h0 : tpC s (l0 :: xs) n = 0
        · have HR : Hid (∀ w' B x, fieldsIn w' B x (xs.map fldO) → ToldP w' B (.returned (.tuple #[.agg #[.int .i64 M, .string T, x, .string (bodyO (s.extract n s.size) (xs.map fldO))], .int .i64 ((n : Int) + (bodyO (s.extract n s.size) (xs.map fldO)).size), .int .i64 0])) (fun c => .int .i64 c) s) := fun w' B x hf => HG1.out w' B x h0 hf
          rw [decide_eq_true h0] at HGB
          generalize bodyO (s.extract n s.size) (xs.map fldO) = BB at *
          generalize xs.map fldO = FF at *
          clear hRs hCC hC hQ HG HBd HG1 hMM hzF hFl h0 hzx hlz
          go_enter Tryz.func28, Tryz.ntmps28
          go_wp2_with fail
          rw [← hW]
          clear hW
          refine (Calls.mono HC1.out ?_)
          rintro e w2 ⟨⟨x, rfl, hown⟩, hb2⟩
          have hb12 := hb1.trans (hb2.mono hb1.size)
          have HO2 : Hid (Own4 w2 w.heap.size (.int .i64 0) (.string ⟨#[]⟩) (.slice none 0 0) (.string ⟨#[]⟩)) := HO.out.below hb2
          obtain ⟨a1, c1, rfl, hlc, _, hne⟩ := textsIn.form hown
          obtain ⟨g, rfl, _, hg⟩ := hne (by simp)
          have t0 := textsIn.at hown 0 l0 rfl
          have hRow : RowO w2 g 1 xs := ⟨hg, fun j x h => textsIn.at hown (1 + j) x (by rw [Nat.add_comm]; exact h)⟩
          have HRow : Hid (∀ w', Below w2.heap.size w2 w' → ∀ o, o = 1 ∨ xs.length = 0 → RowO w' g o xs) := fun w' hb o h => by
            rcases h with rfl | h
            · exact hRow.below hb
            · obtain rfl := List.eq_nil_of_length_eq_zero h
              exact ⟨(hRow.below hb).1, fun j x h => by simp at h⟩
          clear hRow
          obtain ⟨f2, p0, p1, p2, p3⟩ := HO2.out
          clear hown hne hb2 HO
          go_wp2_with fail
          refine (HCa.out _).mono ?_
          rintro e w3 ⟨rfl, hb3'⟩
          have hk3 : Below w2.heap.size w2 w3 := hb3'
          have hb13 := hb12.trans (hb3'.mono hb12.size)
          have HO3 : Hid (Own4 w3 w.heap.size (.int .i64 0) (.string ⟨#[]⟩) (.slice none 0 0) (.string ⟨#[]⟩)) := HO2.out.below hb3'
          clear f2 p0 p1 p2 p3
          obtain ⟨f2, p0, p1, p2, p3⟩ := HO3.out
          go_wp2_with fail
          refine (HCb.out _).mono ?_
          rintro e w4 ⟨rfl, hb4'⟩
          have hk4 := hk3.trans (hb4'.mono hk3.size)
          have hb14 := hb13.trans (hb4'.mono hb13.size)
          have HO4 : Hid (Own4 w4 w.heap.size (.int .i64 0) (.string ⟨#[]⟩) (.slice none 0 0) (.string ⟨#[]⟩)) := HO3.out.below hb4'
          clear f2 p0 p1 p2 p3
          obtain ⟨f2, p0, p1, p2, p3⟩ := HO4.out
          go_wp2_with fail
          refine (HSt.out _).mono ?_
          rintro e w9 ⟨rfl, hw⟩
          obtain rfl := hw.symm
          obtain ⟨w5, hw5⟩ : ∃ w5, w5 = w4.alloc (.cells #[.int .i64 M, .string T, .slice none 0 0, .string ⟨#[]⟩] 36) := ⟨_, rfl⟩
          have hk45 : Below w4.heap.size w4 w5 := by rw [hw5]; exact (Below.refl _ _).alloc (Nat.le_refl _) _
          have hk5 := hk4.trans (hk45.mono hk4.size)
          have hb15 := hb14.trans (hk45.mono hb14.size)
          have hs5 : w5.heap.size = w4.heap.size + 1 := by rw [hw5]; simp
          have HX5 : Hid (Own4 w5 w4.heap.size (.int .i64 M) (.string T) (.slice none 0 0) (.string ⟨#[]⟩)) := by rw [hw5]; exact Rqb.Own4.made w4 _ _ _ _ _
          have HO5 : Hid (Own4 w5 w.heap.size (.int .i64 0) (.string ⟨#[]⟩) (.slice none 0 0) (.string ⟨#[]⟩)) := HO4.out.below hk45
          have hlt4 : w.heap.size < w4.heap.size := World.block_lt_of_cell? _ _ HO4.out.2.1
          have hne4 : w4.heap.size ≠ w.heap.size := by omega
          go_wp2_with fail
          rw [← hw5]
          clear hw5 f2 p0 p1 p2 p3
          obtain ⟨f2, p0, p1, p2, p3⟩ := HO5.out
          obtain ⟨g5, q0, q1, q2, q3⟩ := HX5.out
          refine (HIn.out _).mono ?_
          rintro e w9 ⟨rfl, hw⟩
          obtain rfl := hw.symm
          go_wp2_with fail
          refine (HRe.out _).mono ?_
          rintro e w9 ⟨rfl, hw⟩
          obtain rfl := hw.symm
          go_wp2_with fail
          all_goals
            refine (HRs.out _ _ _ _ (HRow.out _ hk5 _ (by first | exact .inl rfl | exact .inr (by simp only [List.length_cons] at hlc; omega)))).mono ?_
            rintro e w6 ⟨⟨x6, rfl, hF6⟩, hb6⟩
            have hb16 := hb15.trans (hb6.mono hb15.size)
            have HO6 : Hid (Own4 w6 w.heap.size (.int .i64 0) (.string ⟨#[]⟩) (.slice none 0 0) (.string ⟨#[]⟩)) := HO5.out.below hb6
            have HX6 : Hid (Own4 w6 w4.heap.size (.int .i64 M) (.string T) (.slice none 0 0) (.string ⟨#[]⟩)) := HX5.out.below hb6
            obtain ⟨a6, c6, rfl, hlc6, hV6⟩ := ff_form hF6
            obtain ⟨w7, hw7⟩ : ∃ w7, w7 = (w6.setCell ⟨w4.heap.size, 2, none⟩ (.slice a6 FF.length c6)).setCell ⟨w4.heap.size, 3, none⟩ (.string BB) := ⟨_, rfl⟩
            have HX7 : Hid (Own4 w7 w4.heap.size (.int .i64 M) (.string T) (.slice a6 FF.length c6) (.string BB)) := by rw [hw7]; exact (own_set (own_set HX6.out _).1 _).2
            have HO7 : Hid (Own4 w7 w.heap.size (.int .i64 0) (.string ⟨#[]⟩) (.slice none 0 0) (.string ⟨#[]⟩)) := by rw [hw7]; exact own_other (own_other HO6.out hlt4 _) hlt4 _
            have hF7 : fieldsIn w7 w5.heap.size (.slice a6 FF.length c6) FF := by rw [hw7]; exact ff_set (ff_set hF6 (by omega) _) (by omega) _
            have hV7 : FV w7 a6 FF w5.heap.size w6.heap.size := by rw [hw7]; exact Rqb.fv_set (Rqb.fv_set hV6 (by omega) _) (by omega) _
            have hb17 : Below w.heap.size w w7 := by rw [hw7]; exact (hb16.setCell (p := ⟨w4.heap.size, 2, none⟩) (Nat.le_of_lt hlt4) _).setCell (p := ⟨w4.heap.size, 3, none⟩) (Nat.le_of_lt hlt4) _
            clear f2 p0 p1 p2 p3 g5 q0 q1 q2 q3
            obtain ⟨f2, p0, p1, p2, p3⟩ := HO6.out
            obtain ⟨g5, q0, q1, q2, q3⟩ := HX6.out
            clear hb6 hF6 hV6 HO5 HX5
            go_wp2_with fail
            rw [← hw7]
            clear hw7 f2 p0 p1 p2 p3 g5 q0 q1 q2 q3 HO6 HX6
            refine (HGB.out _ _ _ _ _ hV7).mono ?_
            rintro e w8 ⟨rfl, hb8⟩
            have hb18 := hb17.trans (hb8.mono hb17.size)
            have hF8 := hF7.below hb8
            obtain ⟨f2, p0, p1, p2, p3⟩ := HO7.out.below hb8
            obtain ⟨g2, q0, q1, q2, q3⟩ := HX7.out.below hb8
            clear hb8 hF7 hV7
            go_wp2_with fail
            exact bodyPost_ret (v := .tuple #[.agg #[.int .i64 M, .string T, .slice a6 FF.length c6, .string BB], .int .i64 ((n : Int) + BB.size), .int .i64 0]) (by simp [results, Tryz.results28, go_sem, p0, p1, p2, p3]) rfl ⟨HR.out _ _ _ ((ff_set (ff_set (ff_set (ff_set hF8 (by omega) _) (by omega) _) (by omega) _) (by omega) _).base (by omega)), (((hb18.setCell (Nat.le_refl _) _).setCell (Nat.le_refl _) _).setCell (Nat.le_refl _) _).setCell (Nat.le_refl _) _⟩
        · have hC5 : tpC s (l0 :: xs) n = 5 := by
            rw [hCC] at h0 ⊢
            unfold hdC at h0 ⊢
            split
            · rfl
            · rename_i hh; rw [if_neg hh] at h0; exact absurd rfl h0
          have HR : Hid (∀ w' B, ToldP w' B (.returned (.tuple #[.agg #[.int .i64 0, .string ⟨#[]⟩, .slice none 0 0, .string ⟨#[]⟩], .int .i64 0, .int .i64 5])) (fun c => .int .i64 c) s) := fun w' B => HBd.out 5 w' B hC5 (by decide)
          rw [decide_eq_false h0] at HGB
          generalize bodyO (s.extract n s.size) (xs.map fldO) = BB at *
          generalize xs.map fldO = FF at *
          clear hRs hCC hC hQ HG HBd HG1 hMM hzF hFl h0 hzx hlz hC5
          go_enter Tryz.func28, Tryz.ntmps28
          go_wp2_with fail
          rw [← hW]
          clear hW
          refine (Calls.mono HC1.out ?_)
          rintro e w2 ⟨⟨x, rfl, hown⟩, hb2⟩
          have hb12 := hb1.trans (hb2.mono hb1.size)
          have HO2 : Hid (Own4 w2 w.heap.size (.int .i64 0) (.string ⟨#[]⟩) (.slice none 0 0) (.string ⟨#[]⟩)) := HO.out.below hb2
          obtain ⟨a1, c1, rfl, hlc, _, hne⟩ := textsIn.form hown
          obtain ⟨g, rfl, _, hg⟩ := hne (by simp)
          have t0 := textsIn.at hown 0 l0 rfl
          have hRow : RowO w2 g 1 xs := ⟨hg, fun j x h => textsIn.at hown (1 + j) x (by rw [Nat.add_comm]; exact h)⟩
          have HRow : Hid (∀ w', Below w2.heap.size w2 w' → ∀ o, o = 1 ∨ xs.length = 0 → RowO w' g o xs) := fun w' hb o h => by
            rcases h with rfl | h
            · exact hRow.below hb
            · obtain rfl := List.eq_nil_of_length_eq_zero h
              exact ⟨(hRow.below hb).1, fun j x h => by simp at h⟩
          clear hRow
          obtain ⟨f2, p0, p1, p2, p3⟩ := HO2.out
          clear hown hne hb2 HO
          go_wp2_with fail
          refine (HCa.out _).mono ?_
          rintro e w3 ⟨rfl, hb3'⟩
          have hk3 : Below w2.heap.size w2 w3 := hb3'
          have hb13 := hb12.trans (hb3'.mono hb12.size)
          have HO3 : Hid (Own4 w3 w.heap.size (.int .i64 0) (.string ⟨#[]⟩) (.slice none 0 0) (.string ⟨#[]⟩)) := HO2.out.below hb3'
          clear f2 p0 p1 p2 p3
          obtain ⟨f2, p0, p1, p2, p3⟩ := HO3.out
          go_wp2_with fail
          refine (HCb.out _).mono ?_
          rintro e w4 ⟨rfl, hb4'⟩
          have hk4 := hk3.trans (hb4'.mono hk3.size)
          have hb14 := hb13.trans (hb4'.mono hb13.size)
          have HO4 : Hid (Own4 w4 w.heap.size (.int .i64 0) (.string ⟨#[]⟩) (.slice none 0 0) (.string ⟨#[]⟩)) := HO3.out.below hb4'
          clear f2 p0 p1 p2 p3
          obtain ⟨f2, p0, p1, p2, p3⟩ := HO4.out
          go_wp2_with fail
          refine (HSt.out _).mono ?_
          rintro e w9 ⟨rfl, hw⟩
          obtain rfl := hw.symm
          obtain ⟨w5, hw5⟩ : ∃ w5, w5 = w4.alloc (.cells #[.int .i64 M, .string T, .slice none 0 0, .string ⟨#[]⟩] 36) := ⟨_, rfl⟩
          have hk45 : Below w4.heap.size w4 w5 := by rw [hw5]; exact (Below.refl _ _).alloc (Nat.le_refl _) _
          have hk5 := hk4.trans (hk45.mono hk4.size)
          have hb15 := hb14.trans (hk45.mono hb14.size)
          have hs5 : w5.heap.size = w4.heap.size + 1 := by rw [hw5]; simp
          have HX5 : Hid (Own4 w5 w4.heap.size (.int .i64 M) (.string T) (.slice none 0 0) (.string ⟨#[]⟩)) := by rw [hw5]; exact Rqb.Own4.made w4 _ _ _ _ _
          have HO5 : Hid (Own4 w5 w.heap.size (.int .i64 0) (.string ⟨#[]⟩) (.slice none 0 0) (.string ⟨#[]⟩)) := HO4.out.below hk45
          have hlt4 : w.heap.size < w4.heap.size := World.block_lt_of_cell? _ _ HO4.out.2.1
          have hne4 : w4.heap.size ≠ w.heap.size := by omega
          go_wp2_with fail
          rw [← hw5]
          clear hw5 f2 p0 p1 p2 p3
          obtain ⟨f2, p0, p1, p2, p3⟩ := HO5.out
          obtain ⟨g5, q0, q1, q2, q3⟩ := HX5.out
          refine (HIn.out _).mono ?_
          rintro e w9 ⟨rfl, hw⟩
          obtain rfl := hw.symm
          go_wp2_with fail
          refine (HRe.out _).mono ?_
          rintro e w9 ⟨rfl, hw⟩
          obtain rfl := hw.symm
          go_wp2_with fail
          all_goals
            refine (HRs.out _ _ _ _ (HRow.out _ hk5 _ (by first | exact .inl rfl | exact .inr (by simp only [List.length_cons] at hlc; omega)))).mono ?_
            rintro e w6 ⟨⟨x6, rfl, hF6⟩, hb6⟩
            have hb16 := hb15.trans (hb6.mono hb15.size)
            have HO6 : Hid (Own4 w6 w.heap.size (.int .i64 0) (.string ⟨#[]⟩) (.slice none 0 0) (.string ⟨#[]⟩)) := HO5.out.below hb6
            have HX6 : Hid (Own4 w6 w4.heap.size (.int .i64 M) (.string T) (.slice none 0 0) (.string ⟨#[]⟩)) := HX5.out.below hb6
            obtain ⟨a6, c6, rfl, hlc6, hV6⟩ := ff_form hF6
            obtain ⟨w7, hw7⟩ : ∃ w7, w7 = (w6.setCell ⟨w4.heap.size, 2, none⟩ (.slice a6 FF.length c6)).setCell ⟨w4.heap.size, 3, none⟩ (.string BB) := ⟨_, rfl⟩
            have HX7 : Hid (Own4 w7 w4.heap.size (.int .i64 M) (.string T) (.slice a6 FF.length c6) (.string BB)) := by rw [hw7]; exact (own_set (own_set HX6.out _).1 _).2
            have HO7 : Hid (Own4 w7 w.heap.size (.int .i64 0) (.string ⟨#[]⟩) (.slice none 0 0) (.string ⟨#[]⟩)) := by rw [hw7]; exact own_other (own_other HO6.out hlt4 _) hlt4 _
            have hF7 : fieldsIn w7 w5.heap.size (.slice a6 FF.length c6) FF := by rw [hw7]; exact ff_set (ff_set hF6 (by omega) _) (by omega) _
            have hV7 : FV w7 a6 FF w5.heap.size w6.heap.size := by rw [hw7]; exact Rqb.fv_set (Rqb.fv_set hV6 (by omega) _) (by omega) _
            have hb17 : Below w.heap.size w w7 := by rw [hw7]; exact (hb16.setCell (p := ⟨w4.heap.size, 2, none⟩) (Nat.le_of_lt hlt4) _).setCell (p := ⟨w4.heap.size, 3, none⟩) (Nat.le_of_lt hlt4) _
            clear f2 p0 p1 p2 p3 g5 q0 q1 q2 q3
            obtain ⟨f2, p0, p1, p2, p3⟩ := HO6.out
            obtain ⟨g5, q0, q1, q2, q3⟩ := HX6.out
            clear hb6 hF6 hV6 HO5 HX5
            go_wp2_with fail
            rw [← hw7]
            clear hw7 f2 p0 p1 p2 p3 g5 q0 q1 q2 q3 HO6 HX6
            refine (HGB.out _ _ _ _ _ hV7).mono ?_
            rintro e w8 ⟨rfl, hb8⟩
            have hb18 := hb17.trans (hb8.mono hb17.size)
            have hF8 := hF7.below hb8
            obtain ⟨f2, p0, p1, p2, p3⟩ := HO7.out.below hb8
            obtain ⟨g2, q0, q1, q2, q3⟩ := HX7.out.below hb8
            clear hb8 hF7 hV7
            go_wp2_with fail
            exact bodyPost_ret (v := .tuple #[.agg #[.int .i64 0, .string ⟨#[]⟩, .slice none 0 0, .string ⟨#[]⟩], .int .i64 0, .int .i64 5]) (by simp [results, Tryz.results28, go_sem, p0, p1, p2, p3]) rfl ⟨HR.out _ _, (((hb18.setCell (Nat.le_refl _) _).setCell (Nat.le_refl _) _).setCell (Nat.le_refl _) _).setCell (Nat.le_refl _) _⟩
      · rw [if_neg hC] at hCC
        simp only [if_neg hC] at hRs
        have HRs : Hid _ := hRs
        have hcne : (fbC (xs.map fldO) (bodyO (s.extract n s.size) (xs.map fldO)) != 0) = true := by rw [bne_iff_ne]; exact hC
        have HR : Hid (∀ w' B, ToldP w' B (.returned (.tuple #[.agg #[.int .i64 0, .string ⟨#[]⟩, .slice none 0 0, .string ⟨#[]⟩], .int .i64 0, .int .i64 (fbC (xs.map fldO) (bodyO (s.extract n s.size) (xs.map fldO)))])) (fun c => .int .i64 c) s) := fun w' B => HBd.out _ w' B hCC hC
        generalize fbC (xs.map fldO) (bodyO (s.extract n s.size) (xs.map fldO)) = CC at *
        clear hRs hCC hC hQ HG HBd HG1 hMM hzF hFl HGB hBz hzx hlz
        go_enter Tryz.func28, Tryz.ntmps28
        go_wp2_with fail
        rw [← hW]
        clear hW
        refine (Calls.mono HC1.out ?_)
        rintro e w2 ⟨⟨x, rfl, hown⟩, hb2⟩
        have hb12 := hb1.trans (hb2.mono hb1.size)
        have HO2 : Hid (Own4 w2 w.heap.size (.int .i64 0) (.string ⟨#[]⟩) (.slice none 0 0) (.string ⟨#[]⟩)) := HO.out.below hb2
        obtain ⟨a1, c1, rfl, hlc, _, hne⟩ := textsIn.form hown
        obtain ⟨g, rfl, _, hg⟩ := hne (by simp)
        have t0 := textsIn.at hown 0 l0 rfl
        have hRow : RowO w2 g 1 xs := ⟨hg, fun j x h => textsIn.at hown (1 + j) x (by rw [Nat.add_comm]; exact h)⟩
        have HRow : Hid (∀ w', Below w2.heap.size w2 w' → ∀ o, o = 1 ∨ xs.length = 0 → RowO w' g o xs) := fun w' hb o h => by
          rcases h with rfl | h
          · exact hRow.below hb
          · obtain rfl := List.eq_nil_of_length_eq_zero h
            exact ⟨(hRow.below hb).1, fun j x h => by simp at h⟩
        clear hRow
        obtain ⟨f2, p0, p1, p2, p3⟩ := HO2.out
        clear hown hne hb2 HO
        go_wp2_with fail
        refine (HCa.out _).mono ?_
        rintro e w3 ⟨rfl, hb3'⟩
        have hk3 : Below w2.heap.size w2 w3 := hb3'
        have hb13 := hb12.trans (hb3'.mono hb12.size)
        have HO3 : Hid (Own4 w3 w.heap.size (.int .i64 0) (.string ⟨#[]⟩) (.slice none 0 0) (.string ⟨#[]⟩)) := HO2.out.below hb3'
        clear f2 p0 p1 p2 p3
        obtain ⟨f2, p0, p1, p2, p3⟩ := HO3.out
        go_wp2_with fail
        refine (HCb.out _).mono ?_
        rintro e w4 ⟨rfl, hb4'⟩
        have hk4 := hk3.trans (hb4'.mono hk3.size)
        have hb14 := hb13.trans (hb4'.mono hb13.size)
        have HO4 : Hid (Own4 w4 w.heap.size (.int .i64 0) (.string ⟨#[]⟩) (.slice none 0 0) (.string ⟨#[]⟩)) := HO3.out.below hb4'
        clear f2 p0 p1 p2 p3
        obtain ⟨f2, p0, p1, p2, p3⟩ := HO4.out
        go_wp2_with fail
        refine (HSt.out _).mono ?_
        rintro e w9 ⟨rfl, hw⟩
        obtain rfl := hw.symm
        obtain ⟨w5, hw5⟩ : ∃ w5, w5 = w4.alloc (.cells #[.int .i64 M, .string T, .slice none 0 0, .string ⟨#[]⟩] 36) := ⟨_, rfl⟩
        have hk45 : Below w4.heap.size w4 w5 := by rw [hw5]; exact (Below.refl _ _).alloc (Nat.le_refl _) _
        have hk5 := hk4.trans (hk45.mono hk4.size)
        have hb15 := hb14.trans (hk45.mono hb14.size)
        have hs5 : w5.heap.size = w4.heap.size + 1 := by rw [hw5]; simp
        have HX5 : Hid (Own4 w5 w4.heap.size (.int .i64 M) (.string T) (.slice none 0 0) (.string ⟨#[]⟩)) := by rw [hw5]; exact Rqb.Own4.made w4 _ _ _ _ _
        have HO5 : Hid (Own4 w5 w.heap.size (.int .i64 0) (.string ⟨#[]⟩) (.slice none 0 0) (.string ⟨#[]⟩)) := HO4.out.below hk45
        have hlt4 : w.heap.size < w4.heap.size := World.block_lt_of_cell? _ _ HO4.out.2.1
        have hne4 : w4.heap.size ≠ w.heap.size := by omega
        go_wp2_with fail
        rw [← hw5]
        clear hw5 f2 p0 p1 p2 p3
        obtain ⟨f2, p0, p1, p2, p3⟩ := HO5.out
        obtain ⟨g5, q0, q1, q2, q3⟩ := HX5.out
        refine (HIn.out _).mono ?_
        rintro e w9 ⟨rfl, hw⟩
        obtain rfl := hw.symm
        go_wp2_with fail
        refine (HRe.out _).mono ?_
        rintro e w9 ⟨rfl, hw⟩
        obtain rfl := hw.symm
        go_wp2_with fail
        all_goals
          refine (HRs.out _ _ _ _ (HRow.out _ hk5 _ (by first | exact .inl rfl | exact .inr (by simp only [List.length_cons] at hlc; omega)))).mono ?_
          rintro e w6 ⟨rfl, hb6⟩
          have hb16 := hb15.trans (hb6.mono hb15.size)
          clear f2 p0 p1 p2 p3 g5 q0 q1 q2 q3
          obtain ⟨f2, p0, p1, p2, p3⟩ := HO5.out.below hb6
          go_wp2_with fail
          exact bodyPost_ret (v := .tuple #[.agg #[.int .i64 0, .string ⟨#[]⟩, .slice none 0 0, .string ⟨#[]⟩], .int .i64 0, .int .i64 CC]) (by simp [results, Tryz.results28, go_sem, p0, p1, p2, p3]) rfl ⟨HR.out _ _, (((hb16.setCell (Nat.le_refl _) _).setCell (Nat.le_refl _) _).setCell (Nat.le_refl _) _).setCell (Nat.le_refl _) _⟩

end Go.Proofs.YtaplkbkpgdpbaaaGreatDoor.Tpr
