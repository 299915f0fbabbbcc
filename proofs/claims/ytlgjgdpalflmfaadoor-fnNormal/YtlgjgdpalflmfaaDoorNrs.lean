/-
  Walks: an address made normal: spec.l1Normal, spec.NormalUrl; what is not good.
-/
import Derived.Test.YtlgjgdpalflmfaaDoorNrm
namespace Go.Proofs.YtlgjgdpalflmfaaDoor.Nrm
open Go.RowKit
open Go.Proofs.YtlgjgdpalflmfaaDoor.Byt
open Go.Proofs.YtlgjgdpalflmfaaDoor.Hex
open Go.Proofs.YtlgjgdpalflmfaaDoor.Enc
open Go.Proofs.YtlgjgdpalflmfaaDoor.Own
open Go.Proofs.YtlgjgdpalflmfaaDoor.Txt
open Go.Proofs.YtlgjgdpalflmfaaDoor.Gud
open Go.Proofs.YtlgjgdpalflmfaaDoor.Pln
open Go.Proofs.YtlgjgdpalflmfaaDoor.Low

theorem sch_is {S : ByteArray} (h : schB S = true) : ((S.toList == [104, 116, 116, 112]) = true ∧ (S.toList == [104, 116, 116, 112, 115]) = false) ∨ ((S.toList == [104, 116, 116, 112]) = false ∧ (S.toList == [104, 116, 116, 112, 115]) = true) := by
  rcases sch_cases h with h1 | ⟨h1, h2⟩
  · left
    refine ⟨h1, ?_⟩
    have : S.toList = [104, 116, 116, 112] := by simpa using h1
    rw [this]; rfl
  · right; exact ⟨h1, h2⟩

set_option maxRecDepth 20000 in
set_option maxHeartbeats 3200000 in
theorem specNorm_core (S H P Q : ByteArray) (n : Int) (asks : Bool) (w : World)
    (hH : H.size ≤ 2000000) (hP : P.size ≤ 2000000) (hQ : Q.size ≤ 2000000) (hg : goodB S H n P Q asks = true) :
    Calls Tryd.prog 59 #[.agg #[.string S, .string H, .int .i64 n, .string P, .string Q, .bool asks]] w fun e w' => e = .returned (.agg #[.string S, .string (lowS H), .int .i64 (portI S n), .string (dotB (plnB P)), .string (plnB Q), .bool asks]) ∧ Below w.heap.size w w' := by
  obtain ⟨hp1, hsch, hn0, hn1⟩ := good_pos hg
  have hps := plnB_size P
  have hpp := pln_pos P hp1
  have HL : Hid (∀ w, Calls Tryd.prog 84 #[.string H] w fun e w' => e = .returned (.string (lowS H)) ∧ Below w.heap.size w w') := fun w => specLow_any H w hH
  have HPp : Hid (∀ w, Calls Tryd.prog 85 #[.string P] w fun e w' => e = .returned (.string (plnB P)) ∧ Below w.heap.size w w') := fun w => specPln_any P w hP
  have HPq : Hid (∀ w, Calls Tryd.prog 85 #[.string Q] w fun e w' => e = .returned (.string (plnB Q)) ∧ Below w.heap.size w w') := fun w => specPln_any Q w hQ
  have HDd : Hid (∀ w, Calls Tryd.prog 62 #[.string (plnB P)] w fun e w' => e = .returned (.string (dotB (plnB P))) ∧ Below w.heap.size w w') := fun w => Idd.specDots_any (plnB P) w hpp (by omega)
  have HPO : Hid (portI S n = if n = (if S.toList == [104, 116, 116, 112, 115] then 443 else 80) then 0 else n) := rfl
  clear hps hpp hp1 hg
  obtain ⟨L, hL⟩ : ∃ L, L = lowS H := ⟨_, rfl⟩
  obtain ⟨N, hN⟩ : ∃ N, N = portI S n := ⟨_, rfl⟩
  obtain ⟨E, hE⟩ : ∃ E, E = plnB P := ⟨_, rfl⟩
  obtain ⟨F, hF⟩ : ∃ F, F = plnB Q := ⟨_, rfl⟩
  obtain ⟨D, hD⟩ : ∃ D, D = dotB (plnB P) := ⟨_, rfl⟩
  rw [← hL] at HL ⊢
  rw [← hN] at HPO ⊢
  rw [← hD] at HDd ⊢
  rw [← hE] at HPp HDd
  rw [← hF] at HPq ⊢
  clear hL hN hE hF hD
  have hB0 : Below w.heap.size w ((w.alloc (.cells #[.string S, .string H, .int .i64 n, .string P, .string Q, .bool asks] 24)).alloc (.cells #[.string ⟨#[]⟩, .string ⟨#[]⟩, .int .i64 0, .string ⟨#[]⟩, .string ⟨#[]⟩, .bool false] 24)) := ((Below.refl _ _).alloc (Nat.le_refl _) _).alloc (by simp) _
  have hs0 : (w.alloc (.cells #[.string S, .string H, .int .i64 n, .string P, .string Q, .bool asks] 24)).heap.size = w.heap.size + 1 := by simp
  have U0 : Blk ((w.alloc (.cells #[.string S, .string H, .int .i64 n, .string P, .string Q, .bool asks] 24)).alloc (.cells #[.string ⟨#[]⟩, .string ⟨#[]⟩, .int .i64 0, .string ⟨#[]⟩, .string ⟨#[]⟩, .bool false] 24)) w.heap.size #[.string S, .string H, .int .i64 n, .string P, .string Q, .bool asks] := (Blk.made w _ _).alloc _
  have R0 : Blk ((w.alloc (.cells #[.string S, .string H, .int .i64 n, .string P, .string Q, .bool asks] 24)).alloc (.cells #[.string ⟨#[]⟩, .string ⟨#[]⟩, .int .i64 0, .string ⟨#[]⟩, .string ⟨#[]⟩, .bool false] 24)) (w.heap.size + 1) #[.string ⟨#[]⟩, .string ⟨#[]⟩, .int .i64 0, .string ⟨#[]⟩, .string ⟨#[]⟩, .bool false] := by rw [← hs0]; exact Blk.made _ _ _
  have HU0 : Hid _ := U0
  have HR0 : Hid _ := R0
  clear U0 R0 hs0
  rcases sch_is hsch with ⟨e1, e2⟩ | ⟨e1, e2⟩
  · rw [e2] at HPO
    have HPO2 : Hid (N = if n = 80 then 0 else n) := HPO
    clear HPO hsch
    by_cases hnu : n = 80
    · have hNv : N = 0 := by rw [HPO2.out]; exact if_pos hnu
      have hd : (n == 80) = true := beq_iff_eq.2 hnu
      clear hnu
      go_enter Tryd.func59, Tryd.ntmps59
      go_wp2_with fail
      refine (HL.out _).mono ?_
      rintro e w2 ⟨rfl, hb2⟩
      have hU2 := Blk.below HU0.out hb2
      have hR2 := Blk.below HR0.out hb2
      have hB2 : Below w.heap.size w w2 := hB0.trans (hb2.mono hB0.size)
      have HU2 : Hid _ := hU2
      have HR2 : Hid _ := hR2
      obtain ⟨u1, u2, u3⟩ := hU2
      clear hb2 hR2 HU0 HR0 HL hB0
      have HU3 : Hid (Blk ((w2.setCell ⟨w.heap.size, 1, none⟩ (.string L)).setCell ⟨w.heap.size, 2, none⟩ (.int .i64 0)) w.heap.size #[.string S, .string L, .int .i64 0, .string P, .string Q, .bool asks]) := (Blk.set (Blk.set HU2.out 1 (.string L) (by simp)) 2 (.int .i64 0) (by simp))
      have HR3 : Hid (Blk ((w2.setCell ⟨w.heap.size, 1, none⟩ (.string L)).setCell ⟨w.heap.size, 2, none⟩ (.int .i64 0)) (w.heap.size + 1) #[.string ⟨#[]⟩, .string ⟨#[]⟩, .int .i64 0, .string ⟨#[]⟩, .string ⟨#[]⟩, .bool false]) := (Blk.other (Blk.other HR2.out (Nat.succ_ne_self _) 1 (.string L)) (Nat.succ_ne_self _) 2 (.int .i64 0))
      have hB3 : Below w.heap.size w ((w2.setCell ⟨w.heap.size, 1, none⟩ (.string L)).setCell ⟨w.heap.size, 2, none⟩ (.int .i64 0)) := (Below.setCell (Below.setCell hB2 (p := ⟨w.heap.size, 1, none⟩) (Nat.le_refl _) (.string L)) (p := ⟨w.heap.size, 2, none⟩) (Nat.le_refl _) (.int .i64 0))
      go_wp2_with fail
      refine (HPp.out _).mono ?_
      rintro e w4 ⟨rfl, hb4⟩
      have HU4 : Hid _ := Blk.below HU3.out hb4
      have HR4 : Hid _ := Blk.below HR3.out hb4
      have hB4 : Below w.heap.size w w4 := hB3.trans (hb4.mono hB3.size)
      clear hb4 u1 u2 u3 hB3 HU3 HR3 HU2 HR2 hB2
      go_wp2_with fail
      refine (HDd.out _).mono ?_
      rintro e w5 ⟨rfl, hb5⟩
      have hU5 := Blk.below HU4.out hb5
      have HR5 : Hid _ := Blk.below HR4.out hb5
      have hB5 : Below w.heap.size w w5 := hB4.trans (hb5.mono hB4.size)
      have HU5 : Hid (Blk (w5.setCell ⟨w.heap.size, 3, none⟩ (.string D)) w.heap.size #[.string S, .string L, .int .i64 0, .string D, .string Q, .bool asks]) := Blk.set hU5 3 (.string D) (by simp)
      have HR5s : Hid (Blk (w5.setCell ⟨w.heap.size, 3, none⟩ (.string D)) (w.heap.size + 1) #[.string ⟨#[]⟩, .string ⟨#[]⟩, .int .i64 0, .string ⟨#[]⟩, .string ⟨#[]⟩, .bool false]) := Blk.other HR5.out (Nat.succ_ne_self _) 3 (.string D)
      have hB5s : Below w.heap.size w (w5.setCell ⟨w.heap.size, 3, none⟩ (.string D)) := Below.setCell hB5 (p := ⟨w.heap.size, 3, none⟩) (Nat.le_refl _) (.string D)
      obtain ⟨v1, v2, v3⟩ := hU5
      clear hb5 hB4 hB5 HU4 HR4
      go_wp2_with fail
      refine (HPq.out _).mono ?_
      rintro e w6 ⟨rfl, hb6⟩
      have hU6 := Blk.below HU5.out hb6
      have hR6 := Blk.below HR5s.out hb6
      have hB6 : Below w.heap.size w w6 := hB5s.trans (hb6.mono hB5s.size)
      obtain ⟨x1, x2, x3⟩ := hU6
      obtain ⟨y1, y2, y3⟩ := hR6
      clear hb6 hB5s v1 v2 v3 HU5 HR5 HR5s
      have hne : (w.heap.size + 1 = w.heap.size) = False := by simp
      have hne' : (w.heap.size = w.heap.size + 1) = False := by simp
      go_wp2_with fail
      exact bodyPost_ret (v := .agg #[.string S, .string L, .int .i64 0, .string D, .string F, .bool asks]) (by simp [results, Tryd.results59, go_sem, y3]) rfl ⟨by rw [hNv], ((((((((hB6.setCell (Nat.le_refl _) _).setCell (Nat.le_succ _) _).setCell (Nat.le_succ _) _).setCell (Nat.le_succ _) _).setCell (Nat.le_succ _) _).setCell (Nat.le_succ _) _).setCell (Nat.le_succ _) _))⟩
    · have hNv : N = n := by rw [HPO2.out]; exact if_neg hnu
      have hd : (n == 80) = false := beq_eq_false_iff_ne.2 hnu
      clear hnu
      go_enter Tryd.func59, Tryd.ntmps59
      go_wp2_with fail
      refine (HL.out _).mono ?_
      rintro e w2 ⟨rfl, hb2⟩
      have hU2 := Blk.below HU0.out hb2
      have hR2 := Blk.below HR0.out hb2
      have hB2 : Below w.heap.size w w2 := hB0.trans (hb2.mono hB0.size)
      have HU2 : Hid _ := hU2
      have HR2 : Hid _ := hR2
      obtain ⟨u1, u2, u3⟩ := hU2
      clear hb2 hR2 HU0 HR0 HL hB0
      have HU3 : Hid (Blk (w2.setCell ⟨w.heap.size, 1, none⟩ (.string L)) w.heap.size #[.string S, .string L, .int .i64 n, .string P, .string Q, .bool asks]) := (Blk.set HU2.out 1 (.string L) (by simp))
      have HR3 : Hid (Blk (w2.setCell ⟨w.heap.size, 1, none⟩ (.string L)) (w.heap.size + 1) #[.string ⟨#[]⟩, .string ⟨#[]⟩, .int .i64 0, .string ⟨#[]⟩, .string ⟨#[]⟩, .bool false]) := (Blk.other HR2.out (Nat.succ_ne_self _) 1 (.string L))
      have hB3 : Below w.heap.size w (w2.setCell ⟨w.heap.size, 1, none⟩ (.string L)) := (Below.setCell hB2 (p := ⟨w.heap.size, 1, none⟩) (Nat.le_refl _) (.string L))
      go_wp2_with fail
      refine (HPp.out _).mono ?_
      rintro e w4 ⟨rfl, hb4⟩
      have HU4 : Hid _ := Blk.below HU3.out hb4
      have HR4 : Hid _ := Blk.below HR3.out hb4
      have hB4 : Below w.heap.size w w4 := hB3.trans (hb4.mono hB3.size)
      clear hb4 u1 u2 u3 hB3 HU3 HR3 HU2 HR2 hB2
      go_wp2_with fail
      refine (HDd.out _).mono ?_
      rintro e w5 ⟨rfl, hb5⟩
      have hU5 := Blk.below HU4.out hb5
      have HR5 : Hid _ := Blk.below HR4.out hb5
      have hB5 : Below w.heap.size w w5 := hB4.trans (hb5.mono hB4.size)
      have HU5 : Hid (Blk (w5.setCell ⟨w.heap.size, 3, none⟩ (.string D)) w.heap.size #[.string S, .string L, .int .i64 n, .string D, .string Q, .bool asks]) := Blk.set hU5 3 (.string D) (by simp)
      have HR5s : Hid (Blk (w5.setCell ⟨w.heap.size, 3, none⟩ (.string D)) (w.heap.size + 1) #[.string ⟨#[]⟩, .string ⟨#[]⟩, .int .i64 0, .string ⟨#[]⟩, .string ⟨#[]⟩, .bool false]) := Blk.other HR5.out (Nat.succ_ne_self _) 3 (.string D)
      have hB5s : Below w.heap.size w (w5.setCell ⟨w.heap.size, 3, none⟩ (.string D)) := Below.setCell hB5 (p := ⟨w.heap.size, 3, none⟩) (Nat.le_refl _) (.string D)
      obtain ⟨v1, v2, v3⟩ := hU5
      clear hb5 hB4 hB5 HU4 HR4
      go_wp2_with fail
      refine (HPq.out _).mono ?_
      rintro e w6 ⟨rfl, hb6⟩
      have hU6 := Blk.below HU5.out hb6
      have hR6 := Blk.below HR5s.out hb6
      have hB6 : Below w.heap.size w w6 := hB5s.trans (hb6.mono hB5s.size)
      obtain ⟨x1, x2, x3⟩ := hU6
      obtain ⟨y1, y2, y3⟩ := hR6
      clear hb6 hB5s v1 v2 v3 HU5 HR5 HR5s
      have hne : (w.heap.size + 1 = w.heap.size) = False := by simp
      have hne' : (w.heap.size = w.heap.size + 1) = False := by simp
      go_wp2_with fail
      exact bodyPost_ret (v := .agg #[.string S, .string L, .int .i64 n, .string D, .string F, .bool asks]) (by simp [results, Tryd.results59, go_sem, y3]) rfl ⟨by rw [hNv], ((((((((hB6.setCell (Nat.le_refl _) _).setCell (Nat.le_succ _) _).setCell (Nat.le_succ _) _).setCell (Nat.le_succ _) _).setCell (Nat.le_succ _) _).setCell (Nat.le_succ _) _).setCell (Nat.le_succ _) _))⟩
  · rw [e2] at HPO
    have HPO2 : Hid (N = if n = 443 then 0 else n) := HPO
    clear HPO hsch
    by_cases hnu : n = 443
    · have hNv : N = 0 := by rw [HPO2.out]; exact if_pos hnu
      have hd : (n == 443) = true := beq_iff_eq.2 hnu
      clear hnu
      go_enter Tryd.func59, Tryd.ntmps59
      go_wp2_with fail
      refine (HL.out _).mono ?_
      rintro e w2 ⟨rfl, hb2⟩
      have hU2 := Blk.below HU0.out hb2
      have hR2 := Blk.below HR0.out hb2
      have hB2 : Below w.heap.size w w2 := hB0.trans (hb2.mono hB0.size)
      have HU2 : Hid _ := hU2
      have HR2 : Hid _ := hR2
      obtain ⟨u1, u2, u3⟩ := hU2
      clear hb2 hR2 HU0 HR0 HL hB0
      have HU3 : Hid (Blk ((w2.setCell ⟨w.heap.size, 1, none⟩ (.string L)).setCell ⟨w.heap.size, 2, none⟩ (.int .i64 0)) w.heap.size #[.string S, .string L, .int .i64 0, .string P, .string Q, .bool asks]) := (Blk.set (Blk.set HU2.out 1 (.string L) (by simp)) 2 (.int .i64 0) (by simp))
      have HR3 : Hid (Blk ((w2.setCell ⟨w.heap.size, 1, none⟩ (.string L)).setCell ⟨w.heap.size, 2, none⟩ (.int .i64 0)) (w.heap.size + 1) #[.string ⟨#[]⟩, .string ⟨#[]⟩, .int .i64 0, .string ⟨#[]⟩, .string ⟨#[]⟩, .bool false]) := (Blk.other (Blk.other HR2.out (Nat.succ_ne_self _) 1 (.string L)) (Nat.succ_ne_self _) 2 (.int .i64 0))
      have hB3 : Below w.heap.size w ((w2.setCell ⟨w.heap.size, 1, none⟩ (.string L)).setCell ⟨w.heap.size, 2, none⟩ (.int .i64 0)) := (Below.setCell (Below.setCell hB2 (p := ⟨w.heap.size, 1, none⟩) (Nat.le_refl _) (.string L)) (p := ⟨w.heap.size, 2, none⟩) (Nat.le_refl _) (.int .i64 0))
      go_wp2_with fail
      refine (HPp.out _).mono ?_
      rintro e w4 ⟨rfl, hb4⟩
      have HU4 : Hid _ := Blk.below HU3.out hb4
      have HR4 : Hid _ := Blk.below HR3.out hb4
      have hB4 : Below w.heap.size w w4 := hB3.trans (hb4.mono hB3.size)
      clear hb4 u1 u2 u3 hB3 HU3 HR3 HU2 HR2 hB2
      go_wp2_with fail
      refine (HDd.out _).mono ?_
      rintro e w5 ⟨rfl, hb5⟩
      have hU5 := Blk.below HU4.out hb5
      have HR5 : Hid _ := Blk.below HR4.out hb5
      have hB5 : Below w.heap.size w w5 := hB4.trans (hb5.mono hB4.size)
      have HU5 : Hid (Blk (w5.setCell ⟨w.heap.size, 3, none⟩ (.string D)) w.heap.size #[.string S, .string L, .int .i64 0, .string D, .string Q, .bool asks]) := Blk.set hU5 3 (.string D) (by simp)
      have HR5s : Hid (Blk (w5.setCell ⟨w.heap.size, 3, none⟩ (.string D)) (w.heap.size + 1) #[.string ⟨#[]⟩, .string ⟨#[]⟩, .int .i64 0, .string ⟨#[]⟩, .string ⟨#[]⟩, .bool false]) := Blk.other HR5.out (Nat.succ_ne_self _) 3 (.string D)
      have hB5s : Below w.heap.size w (w5.setCell ⟨w.heap.size, 3, none⟩ (.string D)) := Below.setCell hB5 (p := ⟨w.heap.size, 3, none⟩) (Nat.le_refl _) (.string D)
      obtain ⟨v1, v2, v3⟩ := hU5
      clear hb5 hB4 hB5 HU4 HR4
      go_wp2_with fail
      refine (HPq.out _).mono ?_
      rintro e w6 ⟨rfl, hb6⟩
      have hU6 := Blk.below HU5.out hb6
      have hR6 := Blk.below HR5s.out hb6
      have hB6 : Below w.heap.size w w6 := hB5s.trans (hb6.mono hB5s.size)
      obtain ⟨x1, x2, x3⟩ := hU6
      obtain ⟨y1, y2, y3⟩ := hR6
      clear hb6 hB5s v1 v2 v3 HU5 HR5 HR5s
      have hne : (w.heap.size + 1 = w.heap.size) = False := by simp
      have hne' : (w.heap.size = w.heap.size + 1) = False := by simp
      go_wp2_with fail
      exact bodyPost_ret (v := .agg #[.string S, .string L, .int .i64 0, .string D, .string F, .bool asks]) (by simp [results, Tryd.results59, go_sem, y3]) rfl ⟨by rw [hNv], ((((((((hB6.setCell (Nat.le_refl _) _).setCell (Nat.le_succ _) _).setCell (Nat.le_succ _) _).setCell (Nat.le_succ _) _).setCell (Nat.le_succ _) _).setCell (Nat.le_succ _) _).setCell (Nat.le_succ _) _))⟩
    · have hNv : N = n := by rw [HPO2.out]; exact if_neg hnu
      have hd : (n == 443) = false := beq_eq_false_iff_ne.2 hnu
      clear hnu
      go_enter Tryd.func59, Tryd.ntmps59
      go_wp2_with fail
      refine (HL.out _).mono ?_
      rintro e w2 ⟨rfl, hb2⟩
      have hU2 := Blk.below HU0.out hb2
      have hR2 := Blk.below HR0.out hb2
      have hB2 : Below w.heap.size w w2 := hB0.trans (hb2.mono hB0.size)
      have HU2 : Hid _ := hU2
      have HR2 : Hid _ := hR2
      obtain ⟨u1, u2, u3⟩ := hU2
      clear hb2 hR2 HU0 HR0 HL hB0
      have HU3 : Hid (Blk (w2.setCell ⟨w.heap.size, 1, none⟩ (.string L)) w.heap.size #[.string S, .string L, .int .i64 n, .string P, .string Q, .bool asks]) := (Blk.set HU2.out 1 (.string L) (by simp))
      have HR3 : Hid (Blk (w2.setCell ⟨w.heap.size, 1, none⟩ (.string L)) (w.heap.size + 1) #[.string ⟨#[]⟩, .string ⟨#[]⟩, .int .i64 0, .string ⟨#[]⟩, .string ⟨#[]⟩, .bool false]) := (Blk.other HR2.out (Nat.succ_ne_self _) 1 (.string L))
      have hB3 : Below w.heap.size w (w2.setCell ⟨w.heap.size, 1, none⟩ (.string L)) := (Below.setCell hB2 (p := ⟨w.heap.size, 1, none⟩) (Nat.le_refl _) (.string L))
      go_wp2_with fail
      refine (HPp.out _).mono ?_
      rintro e w4 ⟨rfl, hb4⟩
      have HU4 : Hid _ := Blk.below HU3.out hb4
      have HR4 : Hid _ := Blk.below HR3.out hb4
      have hB4 : Below w.heap.size w w4 := hB3.trans (hb4.mono hB3.size)
      clear hb4 u1 u2 u3 hB3 HU3 HR3 HU2 HR2 hB2
      go_wp2_with fail
      refine (HDd.out _).mono ?_
      rintro e w5 ⟨rfl, hb5⟩
      have hU5 := Blk.below HU4.out hb5
      have HR5 : Hid _ := Blk.below HR4.out hb5
      have hB5 : Below w.heap.size w w5 := hB4.trans (hb5.mono hB4.size)
      have HU5 : Hid (Blk (w5.setCell ⟨w.heap.size, 3, none⟩ (.string D)) w.heap.size #[.string S, .string L, .int .i64 n, .string D, .string Q, .bool asks]) := Blk.set hU5 3 (.string D) (by simp)
      have HR5s : Hid (Blk (w5.setCell ⟨w.heap.size, 3, none⟩ (.string D)) (w.heap.size + 1) #[.string ⟨#[]⟩, .string ⟨#[]⟩, .int .i64 0, .string ⟨#[]⟩, .string ⟨#[]⟩, .bool false]) := Blk.other HR5.out (Nat.succ_ne_self _) 3 (.string D)
      have hB5s : Below w.heap.size w (w5.setCell ⟨w.heap.size, 3, none⟩ (.string D)) := Below.setCell hB5 (p := ⟨w.heap.size, 3, none⟩) (Nat.le_refl _) (.string D)
      obtain ⟨v1, v2, v3⟩ := hU5
      clear hb5 hB4 hB5 HU4 HR4
      go_wp2_with fail
      refine (HPq.out _).mono ?_
      rintro e w6 ⟨rfl, hb6⟩
      have hU6 := Blk.below HU5.out hb6
      have hR6 := Blk.below HR5s.out hb6
      have hB6 : Below w.heap.size w w6 := hB5s.trans (hb6.mono hB5s.size)
      obtain ⟨x1, x2, x3⟩ := hU6
      obtain ⟨y1, y2, y3⟩ := hR6
      clear hb6 hB5s v1 v2 v3 HU5 HR5 HR5s
      have hne : (w.heap.size + 1 = w.heap.size) = False := by simp
      have hne' : (w.heap.size = w.heap.size + 1) = False := by simp
      go_wp2_with fail
      exact bodyPost_ret (v := .agg #[.string S, .string L, .int .i64 n, .string D, .string F, .bool asks]) (by simp [results, Tryd.results59, go_sem, y3]) rfl ⟨by rw [hNv], ((((((((hB6.setCell (Nat.le_refl _) _).setCell (Nat.le_succ _) _).setCell (Nat.le_succ _) _).setCell (Nat.le_succ _) _).setCell (Nat.le_succ _) _).setCell (Nat.le_succ _) _).setCell (Nat.le_succ _) _))⟩

set_option maxRecDepth 20000 in
set_option maxHeartbeats 800000 in
theorem implNorm_no (S H P Q : ByteArray) (n : Int) (asks : Bool) (w : World) (hT : Tab w) (htab : Lib.TabIs Tryd.prog w "internal/strconv.uint64pow10" .u64 Lib.pow10Tab)
    (hS : S.size ≤ 2000000) (hH : H.size ≤ 2000000) (hP : P.size ≤ 2000000) (hQ : Q.size ≤ 2000000) (hg : goodB S H n P Q asks = false) :
    Calls Tryd.prog 24 #[.agg #[.string S, .string H, .int .i64 n, .string P, .string Q, .bool asks]] w fun e w' => e = .returned (.tuple #[.agg #[.string ⟨#[]⟩, .string ⟨#[]⟩, .int .i64 0, .string ⟨#[]⟩, .string ⟨#[]⟩, .bool false], .bool false]) ∧ Below w.heap.size w w' := by
  have G := fun w a b => implGood_any S H P Q n asks w a b hS hH hP hQ
  rw [hg] at G
  have hB0 : Below w.heap.size w ((w.alloc (.cells #[.string S, .string H, .int .i64 n, .string P, .string Q, .bool asks] 24)).alloc (.cells #[.string ⟨#[]⟩, .string ⟨#[]⟩, .int .i64 0, .string ⟨#[]⟩, .string ⟨#[]⟩, .bool false] 24)) := ((Below.refl _ _).alloc (Nat.le_refl _) _).alloc (by simp) _
  have hs0 : (w.alloc (.cells #[.string S, .string H, .int .i64 n, .string P, .string Q, .bool asks] 24)).heap.size = w.heap.size + 1 := by simp
  have R0 : Blk ((w.alloc (.cells #[.string S, .string H, .int .i64 n, .string P, .string Q, .bool asks] 24)).alloc (.cells #[.string ⟨#[]⟩, .string ⟨#[]⟩, .int .i64 0, .string ⟨#[]⟩, .string ⟨#[]⟩, .bool false] 24)) (w.heap.size + 1) #[.string ⟨#[]⟩, .string ⟨#[]⟩, .int .i64 0, .string ⟨#[]⟩, .string ⟨#[]⟩, .bool false] := by rw [← hs0]; exact Blk.made _ _ _
  have HR0 : Hid _ := R0
  clear R0
  go_enter Tryd.func24, Tryd.ntmps24
  go_wp2_with fail
  refine (G _ ((hT.alloc _).alloc _) (tab_alloc (tab_alloc htab _) _)).mono ?_
  rintro e w1 ⟨rfl, hb1⟩
  have hR1 := Blk.below HR0.out hb1
  have hB1 : Below w.heap.size w w1 := hB0.trans (hb1.mono hB0.size)
  obtain ⟨y1, y2, y3⟩ := hR1
  clear hb1 hB0 hs0 HR0
  go_wp2_with fail
  exact bodyPost_ret (v := .tuple #[.agg #[.string ⟨#[]⟩, .string ⟨#[]⟩, .int .i64 0, .string ⟨#[]⟩, .string ⟨#[]⟩, .bool false], .bool false]) (by simp [results, Tryd.results24, go_sem, y3]) rfl ⟨rfl, (((((hB1.setCell (Nat.le_succ _) _).setCell (Nat.le_succ _) _).setCell (Nat.le_succ _) _).setCell (Nat.le_succ _) _).setCell (Nat.le_succ _) _).setCell (Nat.le_succ _) _⟩

set_option maxRecDepth 20000 in
set_option maxHeartbeats 800000 in
theorem specNorm_no (S H P Q : ByteArray) (n : Int) (asks : Bool) (w : World)
    (hS : S.size ≤ 2000000) (hH : H.size ≤ 2000000) (hP : P.size ≤ 2000000) (hQ : Q.size ≤ 2000000) (hg : goodB S H n P Q asks = false) :
    Calls Tryd.prog 25 #[.agg #[.string S, .string H, .int .i64 n, .string P, .string Q, .bool asks]] w fun e w' => e = .returned (.tuple #[.agg #[.string ⟨#[]⟩, .string ⟨#[]⟩, .int .i64 0, .string ⟨#[]⟩, .string ⟨#[]⟩, .bool false], .bool false]) ∧ Below w.heap.size w w' := by
  have G := fun w => specGood_any S H P Q n asks w hS hH hP hQ
  rw [hg] at G
  have hB0 : Below w.heap.size w ((w.alloc (.cells #[.string S, .string H, .int .i64 n, .string P, .string Q, .bool asks] 24)).alloc (.cells #[.string ⟨#[]⟩, .string ⟨#[]⟩, .int .i64 0, .string ⟨#[]⟩, .string ⟨#[]⟩, .bool false] 24)) := ((Below.refl _ _).alloc (Nat.le_refl _) _).alloc (by simp) _
  have hs0 : (w.alloc (.cells #[.string S, .string H, .int .i64 n, .string P, .string Q, .bool asks] 24)).heap.size = w.heap.size + 1 := by simp
  have R0 : Blk ((w.alloc (.cells #[.string S, .string H, .int .i64 n, .string P, .string Q, .bool asks] 24)).alloc (.cells #[.string ⟨#[]⟩, .string ⟨#[]⟩, .int .i64 0, .string ⟨#[]⟩, .string ⟨#[]⟩, .bool false] 24)) (w.heap.size + 1) #[.string ⟨#[]⟩, .string ⟨#[]⟩, .int .i64 0, .string ⟨#[]⟩, .string ⟨#[]⟩, .bool false] := by rw [← hs0]; exact Blk.made _ _ _
  have HR0 : Hid _ := R0
  clear R0
  go_enter Tryd.func25, Tryd.ntmps25
  go_wp2_with fail
  refine (G _).mono ?_
  rintro e w1 ⟨rfl, hb1⟩
  have hR1 := Blk.below HR0.out hb1
  have hB1 : Below w.heap.size w w1 := hB0.trans (hb1.mono hB0.size)
  obtain ⟨y1, y2, y3⟩ := hR1
  clear hb1 hB0 hs0 HR0
  go_wp2_with fail
  exact bodyPost_ret (v := .tuple #[.agg #[.string ⟨#[]⟩, .string ⟨#[]⟩, .int .i64 0, .string ⟨#[]⟩, .string ⟨#[]⟩, .bool false], .bool false]) (by simp [results, Tryd.results25, go_sem, y3]) rfl ⟨rfl, (((((hB1.setCell (Nat.le_succ _) _).setCell (Nat.le_succ _) _).setCell (Nat.le_succ _) _).setCell (Nat.le_succ _) _).setCell (Nat.le_succ _) _).setCell (Nat.le_succ _) _⟩

set_option maxRecDepth 20000 in
set_option maxHeartbeats 800000 in
theorem specNorm_yes (S H P Q : ByteArray) (n : Int) (asks : Bool) (w : World)
    (hS : S.size ≤ 2000000) (hH : H.size ≤ 2000000) (hP : P.size ≤ 2000000) (hQ : Q.size ≤ 2000000) (hg : goodB S H n P Q asks = true) :
    Calls Tryd.prog 25 #[.agg #[.string S, .string H, .int .i64 n, .string P, .string Q, .bool asks]] w fun e w' => e = .returned (.tuple #[.agg #[.string S, .string (lowS H), .int .i64 (portI S n), .string (dotB (plnB P)), .string (plnB Q), .bool asks], .bool true]) ∧ Below w.heap.size w w' := by
  have G := fun w => specGood_any S H P Q n asks w hS hH hP hQ
  rw [hg] at G
  have C := fun w => specNorm_core S H P Q n asks w hH hP hQ hg
  have HC : Hid _ := C
  clear C
  have hB0 : Below w.heap.size w ((w.alloc (.cells #[.string S, .string H, .int .i64 n, .string P, .string Q, .bool asks] 24)).alloc (.cells #[.string ⟨#[]⟩, .string ⟨#[]⟩, .int .i64 0, .string ⟨#[]⟩, .string ⟨#[]⟩, .bool false] 24)) := ((Below.refl _ _).alloc (Nat.le_refl _) _).alloc (by simp) _
  have hs0 : (w.alloc (.cells #[.string S, .string H, .int .i64 n, .string P, .string Q, .bool asks] 24)).heap.size = w.heap.size + 1 := by simp
  have U0 : Blk ((w.alloc (.cells #[.string S, .string H, .int .i64 n, .string P, .string Q, .bool asks] 24)).alloc (.cells #[.string ⟨#[]⟩, .string ⟨#[]⟩, .int .i64 0, .string ⟨#[]⟩, .string ⟨#[]⟩, .bool false] 24)) w.heap.size #[.string S, .string H, .int .i64 n, .string P, .string Q, .bool asks] := (Blk.made w _ _).alloc _
  have R0 : Blk ((w.alloc (.cells #[.string S, .string H, .int .i64 n, .string P, .string Q, .bool asks] 24)).alloc (.cells #[.string ⟨#[]⟩, .string ⟨#[]⟩, .int .i64 0, .string ⟨#[]⟩, .string ⟨#[]⟩, .bool false] 24)) (w.heap.size + 1) #[.string ⟨#[]⟩, .string ⟨#[]⟩, .int .i64 0, .string ⟨#[]⟩, .string ⟨#[]⟩, .bool false] := by rw [← hs0]; exact Blk.made _ _ _
  have HU0 : Hid _ := U0
  have HR0 : Hid _ := R0
  clear U0 R0
  go_enter Tryd.func25, Tryd.ntmps25
  go_wp2_with fail
  refine (G _).mono ?_
  rintro e w1 ⟨rfl, hb1⟩
  have hU1 := Blk.below HU0.out hb1
  have HR1 : Hid _ := Blk.below HR0.out hb1
  have hB1 : Below w.heap.size w w1 := hB0.trans (hb1.mono hB0.size)
  obtain ⟨u1, u2, u3⟩ := hU1
  clear hb1 hB0 hs0 HR0 HU0
  go_wp2_with fail
  refine (HC.out _).mono ?_
  rintro e w2 ⟨rfl, hb2⟩
  have hR2 := Blk.below HR1.out hb2
  have hB2 : Below w.heap.size w w2 := hB1.trans (hb2.mono hB1.size)
  obtain ⟨y1, y2, y3⟩ := hR2
  clear hb2 u1 u2 u3 HR1
  go_wp2_with fail
  exact bodyPost_ret (v := .tuple #[.agg #[.string S, .string (lowS H), .int .i64 (portI S n), .string (dotB (plnB P)), .string (plnB Q), .bool asks], .bool true]) (by simp [results, Tryd.results25, go_sem, y3]) rfl ⟨rfl, (((((hB2.setCell (Nat.le_succ _) _).setCell (Nat.le_succ _) _).setCell (Nat.le_succ _) _).setCell (Nat.le_succ _) _).setCell (Nat.le_succ _) _).setCell (Nat.le_succ _) _⟩

end Go.Proofs.YtlgjgdpalflmfaaDoor.Nrm
