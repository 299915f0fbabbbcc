/-
  Walk: the law FnSpans.
-/
import Derived.Test.YtelpmkbjegimpaaFsp
import Derived.Test.YtelpmkbjegimpaaSij
import Derived.Test.YtelpmkbjegimpaaSiv
import Derived.Test.YtelpmkbjegimpaaSic
import Derived.Test.YtelpmkbjegimpaaSip
namespace Go.Proofs.Ytelpmkbjegimpaa.Fsw
open Go.RowKit
open Go.Proofs.Ytelpmkbjegimpaa.Spb
open Go.Proofs.Ytelpmkbjegimpaa.Spp
open Go.Proofs.Ytelpmkbjegimpaa.Fsp
open Go.Proofs.Ytelpmkbjegimpaa.Cur
open Go.Proofs.Ytelpmkbjegimpaa.Mrk (TV RowT tv_of)

set_option maxRecDepth 20000 in
set_option maxHeartbeats 12800000 in
theorem walk (u1 u2 : Value) (n1 n2 : Nat) (w : World) (hU1 : CodeArg w u1 n1) (hU2 : CodeArg w u2 n2) (hn1 : n1 ≤ 140737488355328) (hn2 : n2 ≤ 140737488355328) :
    Calls Try.prog 3 #[u1, u2] w fun e w' => e = .returned (.bool true) ∧ Below w.heap.size w w' := by
  obtain ⟨o1, cap1, rfl⟩ := hU1.form
  obtain ⟨o2, cap2, rfl⟩ := hU2.form
  have HU1 : Hid (CodeArg w (.slice o1 n1 cap1) n1) := hU1
  have HU2 : Hid (CodeArg w (.slice o2 n2 cap2) n2) := hU2
  clear hU1 hU2
  by_cases hz : 1048576 < n1 + n2
  · have hd : decide (1048576 < (n1 : Int) + (n2 : Int)) = true := decide_eq_true (by omega)
    go_enter Try.func3, Try.ntmps3
    go_wp2_with fail
    go_ret
    exact ⟨rfl, Below.refl _ _⟩
  have hd : decide (1048576 < (n1 : Int) + (n2 : Int)) = false := decide_eq_false (by omega)
  go_enter Try.func3, Try.ntmps3
  go_wp2_with fail
  refine (drawJoin_any _ n1 _ HU1.out (by omega)).mono ?_
  rintro e w1 ⟨a, ca, l, gap, rfl, hl, hv, hb1⟩
  have HB1 : Hid (Below w.heap.size w w1) := hb1
  have HV1 : Hid (PV w1 a l w.heap.size w1.heap.size) := hv
  clear hb1 hv
  go_wp2_with fail
  refine (implJoin_any a ca l gap _ _ _ (by omega) HV1.out).mono ?_
  rintro e w2 ⟨⟨r, rfl, hr⟩, hb2⟩
  obtain ⟨a2, c2, rfl, hp2⟩ := pv_of hr
  have HB2 : Hid (Below w.heap.size w w2) := HB1.out.trans (hb2.mono HB1.out.size)
  have HV2 : Hid (PV w2 a l w.heap.size w1.heap.size) := HV1.out.below hb2
  have HP2 : Hid (PV w2 a2 (joinL l gap) w1.heap.size w2.heap.size) := hp2
  clear hr hb2 hp2 HB1 HV1
  go_wp2_with fail
  refine (specJoin_any a ca l gap _ _ _ (by omega) HV2.out).mono ?_
  rintro e w3 ⟨⟨r, rfl, hr⟩, hb3⟩
  obtain ⟨a3, c3, rfl, hp3⟩ := pv_of hr
  have HB3 : Hid (Below w.heap.size w w3) := HB2.out.trans (hb3.mono HB2.out.size)
  have HV3 : Hid (PV w3 a l w.heap.size w1.heap.size) := HV2.out.below hb3
  have HP3 : Hid (PV w3 a2 (joinL l gap) w1.heap.size w2.heap.size) := HP2.out.below hb3
  have HQ3 : Hid (PV w3 a3 (joinL l gap) w2.heap.size w3.heap.size) := hp3
  have hjl : (joinL l gap).length ≤ l.length := by
    unfold joinL
    split
    · exact join_len l gap
    · exact Nat.zero_le _
  have HS : Hid _ := fun wx lo hi lo' hi' x y => sameSpans_any a2 a3 c2 c3 (joinL l gap) wx lo hi lo' hi' (by omega) x y
  clear hr hb3 hp3 HB2 HV2 HP2
  cases hjb : joinB l gap
  · clear hjb
    go_wp2_with (go_at_call 11; refine (HS.out _ _ _ _ _ HP3.out HQ3.out).mono ?_; rintro e w4 ⟨rfl, hb4⟩)
    have HB4 : Hid (Below w.heap.size w w4) := HB3.out.trans (hb4.mono HB3.out.size)
    have HMU : Hid (CodeArg w4 (.slice o2 n2 cap2) n2) := HU2.out.below (Nat.le_refl _) HB4.out
    clear HU2 HU1 HB3 hb4 HP3 HQ3 HS HV3 hjl
    refine (drawCut_any _ n2 _ HMU.out (by omega)).mono ?_
    rintro e w7 ⟨m, a5, c5, l5, rfl, hm, hl5, hv5, hb7⟩
    have HB7 : Hid (Below w.heap.size w w7) := HB4.out.trans (hb7.mono HB4.out.size)
    have HV5 : Hid (PV w7 a5 l5 w4.heap.size w7.heap.size) := hv5
    obtain ⟨hbz, hba⟩ := alpha_small m hm
    obtain ⟨body, hbody⟩ : ∃ body, body = Cur.alpha.extract 0 m := ⟨_, rfl⟩
    have HBA : Hid (∀ k, (h : k < body.size) → body[k].toNat < 128) := by subst hbody; exact hba
    rw [← hbody] at hbz
    rw [← hbody]
    clear hbody hba hb7 hv5 HB4
    obtain ⟨hpl, hpz⟩ := cutL_bd body l5 hbz
    have HPZ : Hid (∀ p ∈ cutL body l5, p.size ≤ 26) := hpz
    clear hpz
    go_wp2_with fail
    refine (implCut_any body a5 c5 l5 _ _ _ (by omega) (by omega) HV5.out).mono ?_
    rintro e w8 ⟨⟨r, rfl, hr⟩, hb8⟩
    obtain ⟨a8, c8, rfl, hp8⟩ := tv_of hr
    have HB8 : Hid (Below w.heap.size w w8) := HB7.out.trans (hb8.mono HB7.out.size)
    have HV6 : Hid (PV w8 a5 l5 w4.heap.size w7.heap.size) := HV5.out.below hb8
    have HP8 : Hid (TV w8 a8 (cutL body l5) w7.heap.size w8.heap.size) := hp8
    clear hr hp8 hb8 HV5 HB7
    go_wp2_with fail
    refine (specCut_any body a5 c5 l5 _ _ _ (by omega) (by omega) HV6.out).mono ?_
    rintro e w9 ⟨⟨r, rfl, hr⟩, hb9⟩
    obtain ⟨a9, c9, rfl, hp9⟩ := tv_of hr
    have HB9 : Hid (Below w.heap.size w w9) := HB8.out.trans (hb9.mono HB8.out.size)
    have HV7 : Hid (PV w9 a5 l5 w4.heap.size w7.heap.size) := HV6.out.below hb9
    have HP9 : Hid (TV w9 a8 (cutL body l5) w7.heap.size w8.heap.size) := HP8.out.below hb9
    have HP9' : Hid (TV w9 a9 (cutL body l5) w8.heap.size w9.heap.size) := hp9
    clear hr hp9 hb9 HV6 HP8 HB8
    cases hcut : cutB body l5
    · have h0 : (cutL body l5).length = 0 := by rw [cut_no hcut]; rfl
      have HS : Hid _ := fun wx lo hi lo' hi' x y => sameTexts_any a8 a9 c8 c9 (cutL body l5) wx lo hi lo' hi' (by omega) x y
      rw [h0] at HS
      rw [h0]
      clear hcut h0 hpl
      go_wp2_with (go_at_call 16; refine (HS.out _ _ _ _ _ HP9.out HP9'.out).mono ?_; rintro e w10 ⟨rfl, hb10⟩)
      go_ret
      exact ⟨rfl, HB9.out.trans (hb10.mono HB9.out.size)⟩
    obtain ⟨hwi, hgl⟩ := cut_parts hcut
    obtain ⟨hpb, hps, hpx⟩ := paste_told hcut
    have hcov := alike_covers (B := pasteS (body.size : Int) l5 (cutL body l5)) (C := body) hwi (fun x hx hc => (hpx x hx).2 hc)
    have HPs : Hid _ := fun wx lo hi lo' hi' x y => implPaste_any (body.size : Int) a5 c5 l5 a8 c8 (cutL body l5) wx lo hi lo' hi' (by omega) (by omega) (fun p hp => Nat.le_trans (HPZ.out p hp) (by decide)) x y
    rw [hpb] at HPs
    have HCv : Hid _ := fun wx lo hi x => implCover_any a5 c5 l5 wx lo hi (by omega) x
    rw [hgl] at HCv
    have HS : Hid _ := fun wx lo hi lo' hi' x y => sameTexts_any a8 a9 c8 c9 (cutL body l5) wx lo hi lo' hi' (by omega) x y
    obtain ⟨B, hB⟩ : ∃ B, B = pasteS (body.size : Int) l5 (cutL body l5) := ⟨_, rfl⟩
    rw [← hB] at HPs hps hcov
    have HX : Hid (∀ x, x < body.size → (B.data.getD x 0 = 46 ∨ B.data.getD x 0 = body.data.getD x 0)) := by subst hB; exact fun x hx => (hpx x hx).1
    obtain ⟨cov, hcv⟩ : ∃ cov, cov = coverN l5 := ⟨_, rfl⟩
    rw [← hcv] at HCv hcov
    have HCov : Hid (cov ≤ ((alike B body body.size : Nat) : Int)) := hcov
    obtain ⟨P, hP⟩ : ∃ P, P = cutL body l5 := ⟨_, rfl⟩
    rw [← hP] at HPs HS HP9 HP9'
    rw [← hP]
    have Hps : Hid (B.size = body.size) := hps
    clear hcut hwi hgl hpb hps hpx hcov hB hcv hP hpl HPZ
    go_wp2_with (go_at_call 16; refine (HS.out _ _ _ _ _ HP9.out HP9'.out).mono ?_; rintro e w10 ⟨rfl, hb10⟩)
    have HB10 : Hid (Below w.heap.size w w10) := HB9.out.trans (hb10.mono HB9.out.size)
    have HV8 : Hid (PV w10 a5 l5 w4.heap.size w7.heap.size) := HV7.out.below hb10
    have HP10 : Hid (TV w10 a8 P w7.heap.size w8.heap.size) := HP9.out.below hb10
    clear hb10 HS HP9 HP9' HB9 HV7
    refine (HPs.out _ _ _ _ _ HV8.out HP10.out).mono ?_
    rintro e w11 ⟨rfl, hb11⟩
    have HB11 : Hid (Below w.heap.size w w11) := HB10.out.trans (hb11.mono HB10.out.size)
    have HV9 : Hid (PV w11 a5 l5 w4.heap.size w7.heap.size) := HV8.out.below hb11
    clear hb11 HPs HV8 HP10 HB10
    go_wp2_with fail
    refine (HCv.out _ _ _ HV9.out).mono ?_
    rintro e w12 ⟨rfl, hb12⟩
    have HB12 : Hid (Below w.heap.size w w12) := HB11.out.trans (hb12.mono HB11.out.size)
    clear hb12 HCv HV9 HB11
    have hne : ((B.size : Int) != (body.size : Int)) = false := by rw [bne_eq_false_iff_eq, Hps.out]
    go_wp2_with fail
    go_loopw [28] (fun sv wr => ∃ (k : Nat) (W' : World), k ≤ body.size ∧ sv = .int .i64 ((alike B body k : Nat) : Int) ∧ wr = W'.iter B k ∧ Hid (W'.heap.size = w12.heap.size) ∧ Hid (Below w.heap.size w W')) (fun _ wr => body.size - (iterAt wr w12.heap.size))
    case atStart => exact ⟨0, w12, by omega, rfl, rfl, rfl, HB12⟩
    case round =>
      obtain ⟨k, W', hk, rfl, rfl, HZ, HW⟩ := hrel
      have hkl := alike_le B body k
      by_cases hlt : k < body.size
      · have hkB : k < B.size := by rw [Hps.out]; exact hlt
        have hx := HX.out k hlt
        have hm := alike_more B body k
        rw [byte_at B k hkB, byte_at body k hlt] at hx hm
        have hsm : (B[k]).toNat < 128 := by
          rcases hx with e | e
          · rw [e]; decide
          · rw [e]; exact HBA.out k hlt
        have hnx : ∀ ty, (Instr.next (.pointer (some ⟨w12.heap.size, 0, none⟩)) true ty).run Try.prog (W'.iter B k) = .ok (.tuple #[.bool true, .int .i64 k, .int .i32 (B[k]).toNat]) (W'.iter B (k + 1)) := by
          intro ty
          rw [← HZ.out]
          exact run_next_ascii W' B k ty hkB hsm
        have HM : Hid _ := hm
        clear hm hsm
        by_cases he : B[k] = body[k]
        · have hee : ((B[k].toNat : Int) == (body[k].toNat : Int)) = true := by rw [he]; simp
          have HM2 : Hid (alike B body (k + 1) = alike B body k + 1) := by show _ = _; rw [HM.out, if_pos he]
          clear HM hx
          go_wp2_with fail
          go_quiet (fail)
          go_wp2_with fail
          refine ⟨⟨k + 1, W'.drewN nq, by omega, by rw [HM2.out]; go_num, rfl, HZ.out, bdrewN HW.out _⟩, ?_⟩
          show body.size - iterAt ((W'.drewN nq).iter B (k + 1)) w12.heap.size < body.size - iterAt (W'.iter B k) w12.heap.size
          rw [iterAt_iter _ _ _ _ HZ.out, iterAt_iter (W'.drewN nq) _ _ _ HZ.out]
          omega
        · have hee : ((B[k].toNat : Int) == (body[k].toNat : Int)) = false := by
            rw [beq_eq_false_iff_ne]
            intro h
            exact he (UInt8.toNat_inj.1 (by omega))
          have h46 : B[k].toNat = 46 := by
            rcases hx with e | e
            · rw [e]; decide
            · exact absurd e he
          have HM2 : Hid (alike B body (k + 1) = alike B body k) := by show _ = _; rw [HM.out, if_neg he]; rfl
          clear HM hx
          go_wp2_with fail
          go_quiet (fail)
          go_wp2_with fail
          refine ⟨⟨k + 1, W'.drewN nq, by omega, by rw [HM2.out], rfl, HZ.out, bdrewN HW.out _⟩, ?_⟩
          show body.size - iterAt ((W'.drewN nq).iter B (k + 1)) w12.heap.size < body.size - iterAt (W'.iter B k) w12.heap.size
          rw [iterAt_iter _ _ _ _ HZ.out, iterAt_iter (W'.drewN nq) _ _ _ HZ.out]
          omega
      · obtain rfl : k = body.size := by omega
        have hnx : ∀ ty, (Instr.next (.pointer (some ⟨w12.heap.size, 0, none⟩)) true ty).run Try.prog (W'.iter B body.size) = .ok (.tuple #[.bool false]) (W'.iter B body.size) := by
          intro ty
          rw [← HZ.out]
          exact run_next_end W' B body.size ty (by rw [Hps.out]; omega)
        have hge : decide (cov ≤ ((alike B body body.size : Nat) : Int)) = true := decide_eq_true HCov.out
        go_wp2_with fail
        go_ret
        exact ⟨rfl, HW.out.alloc HW.out.size _⟩
  · have hJ := join_yes hjb
    obtain ⟨t1, t2, t3, t4, t5, t6, t7⟩ := join_told hjb
    have hg01 : 0 ≤ gap ∧ gap ≤ 1000 := by
      unfold joinB at hjb
      simp only [Bool.and_eq_true, decide_eq_true_eq] at hjb
      exact hjb.2
    rw [hJ] at HP3 HQ3 HS hjl
    rw [hJ]
    have t8 : ∀ i, (h1 : i < (joinS l gap).length) → (h2 : i + 1 < (joinS l gap).length) → (joinS l gap)[i].2 + gap < (joinS l gap)[i + 1].1 := fun i _ h2 => t7 i h2
    clear t7
    generalize joinS l gap = J at *
    have HC1 : Hid _ := fun wx lo hi x => implCover_any a ca l wx lo hi (by omega) x
    have HC2 : Hid _ := fun wx lo hi x => implCover_any a2 c2 J wx lo hi (by omega) x
    rw [t6] at HC1
    rw [t5, t1] at HC2
    obtain ⟨A, hA⟩ : ∃ A, A = coverN l := ⟨_, rfl⟩
    obtain ⟨sm, hsm⟩ : ∃ sm, sm = sumS J := ⟨_, rfl⟩
    rw [← hA] at HC1 t2 t3
    rw [← hsm] at HC2 t2 t3
    have HSm : Hid (sm = sumS J) := hsm
    have HG : Hid (∀ c ∈ J, 0 ≤ c.1 ∧ c.1 < c.2 ∧ c.2 ≤ 1000000) := (goodL_parts t5).2
    have H7 : Hid (∀ i, (h1 : i < J.length) → (h2 : i + 1 < J.length) → J[i].2 + gap < J[i + 1].1) := t8
    have HT2 : Hid (A ≤ sm) := t2
    have HT3 : Hid (gap = 0 → A = sm) := t3
    obtain ⟨hgap0, hgap1⟩ := hg01
    clear hJ hjb t1 t2 t3 t5 t6 t8 hA hsm
    go_wp2_with (go_at_call 11; refine (HS.out _ _ _ _ _ HP3.out HQ3.out).mono ?_; rintro e w4 ⟨rfl, hb4⟩)
    have HB4 : Hid (Below w.heap.size w w4) := HB3.out.trans (hb4.mono HB3.out.size)
    have HV4 : Hid (PV w4 a l w.heap.size w1.heap.size) := HV3.out.below hb4
    have HP4 : Hid (PV w4 a2 J w1.heap.size w2.heap.size) := HP3.out.below hb4
    clear hb4 HB3 HV3 HP3 HQ3 HS
    refine (HC1.out _ _ _ HV4.out).mono ?_
    rintro e w5 ⟨rfl, hb5⟩
    have HB5 : Hid (Below w.heap.size w w5) := HB4.out.trans (hb5.mono HB4.out.size)
    have HP5 : Hid (PV w5 a2 J w1.heap.size w2.heap.size) := HP4.out.below hb5
    clear hb5 HB4 HV4 HP4 HC1
    go_wp2_with fail
    refine (HC2.out _ _ _ HP5.out).mono ?_
    rintro e w6 ⟨rfl, hb6⟩
    have HB6 : Hid (Below w.heap.size w w6) := HB5.out.trans (hb6.mono HB5.out.size)
    have HP6 : Hid (PV w6 a2 J w1.heap.size w2.heap.size) := HP5.out.below hb6
    clear hb6 HB5 HP5 HC2
    go_wp2_with fail
    go_loopw [15, 75] (fun sv c wr => ∃ i : Nat, i ≤ J.length ∧ c = .int .i64 i ∧ sv = .int .i64 (sumS (J.take i)) ∧ Hid (Below w6.heap.size w6 wr)) (fun _ c _ => J.length - (intOf c).toNat)
    case atStart => exact ⟨0, by omega, rfl, rfl, Below.refl _ _⟩
    case round =>
      obtain ⟨i, hi, rfl, rfl, HB⟩ := hrel
      by_cases hlt : i < J.length
      · obtain ⟨g, rfl, hgl, hc, hd⟩ := row_at (HP6.out.below HB.out) hlt
        have HN : Hid (sumS (J.take (i + 1)) = sumS (J.take i) + (J[i].2 - J[i].1)) := sum_take J i hlt
        obtain ⟨b1, b2⟩ := sum_bd HG.out i hi
        obtain ⟨q1, q2, q3⟩ := HG.out J[i] (List.getElem_mem _)
        obtain ⟨F, hF⟩ : ∃ F : Int, F = J[i].1 := ⟨_, rfl⟩
        obtain ⟨T, hT⟩ : ∃ T : Int, T = J[i].2 := ⟨_, rfl⟩
        obtain ⟨m, hm⟩ : ∃ m : Int, m = sumS (J.take i) := ⟨_, rfl⟩
        rw [← hF] at hc q1 q2 HN
        rw [← hT] at hd q2 q3 HN
        rw [← hm] at b1 b2 HN
        rw [← hm]
        have Hb1 : Hid (Below w6.heap.size w6 (wr.alloc (.cells #[.int .i64 F, .int .i64 T] 32))) := HB.out.alloc HB.out.size (.cells #[.int .i64 F, .int .i64 T] 32)
        have HF : Hid (F = J[i].1) := hF
        have hs1 : (wr.alloc (.cells #[.int .i64 F, .int .i64 T] 32)).heap.size = wr.heap.size + 1 := by simp
        clear hF hT hm
        cases i with
        | zero =>
          go_wp2_with fail
          go_quiet (fail)
          go_wp2_with fail
          refine ⟨⟨0 + 1, by omega, by go_num, by rw [HN.out], bdrewN Hb1.out _⟩, ?_⟩
          simp [intOf]; omega
        | succ j =>
          obtain ⟨g', he, hgl', hc', hd'⟩ := row_at (HP6.out.below Hb1.out) (show j < J.length by omega)
          injection he with he
          injection he with he
          subst he
          have h7 := H7.out j (by omega) hlt
          rw [← HF.out] at h7
          obtain ⟨r1, r2, r3⟩ := HG.out J[j] (List.getElem_mem _)
          obtain ⟨T', hT'⟩ : ∃ T' : Int, T' = J[j].2 := ⟨_, rfl⟩
          rw [← hT'] at h7 hd' r2 r3
          have hd0 : decide ((0 : Int) < (j : Int) + 1) = true := decide_eq_true (by omega)
          have hle : decide (F ≤ T' + gap) = false := decide_eq_false (by omega)
          clear hT' hc'
          go_wp2_with fail
          go_quiet (fail)
          go_wp2_with fail
          refine ⟨⟨j + 1 + 1, by omega, by go_num, by rw [HN.out], bdrewN Hb1.out _⟩, ?_⟩
          simp [intOf]; omega
      · obtain rfl : i = J.length := by omega
        rw [List.take_length, ← HSm.out]
        have HB7' : Hid (Below w.heap.size w wr) := HB6.out.trans (HB.out.mono HB6.out.size)
        have HMU : Hid (CodeArg wr (.slice o2 n2 cap2) n2) := HU2.out.below (Nat.le_refl _) HB7'.out
        have e1 : (sm != sm) = false := by simp
        have e2 : decide (sm < A) = false := decide_eq_false (by have := HT2.out; omega)
        have e3 : decide ((l.length : Int) < (J.length : Int)) = false := decide_eq_false (by omega)
        obtain ⟨wz, hwz⟩ : ∃ wz, wz = wr := ⟨_, rfl⟩
        subst hwz
        have HBz : Hid (Below w.heap.size w wz) := HB7'.out
        clear HB HP6 HB6 HB7' HSm HG H7 HT2 HU1 HU2
        by_cases hg0 : gap = 0
        · have hAe := HT3.out hg0
          subst hg0
          have e4 : (A != sm) = false := by rw [hAe]; simp
          clear hAe HT3
          go_wp2_with fail
          refine (drawCut_any _ n2 _ HMU.out (by omega)).mono ?_
          rintro e w7 ⟨m, a5, c5, l5, rfl, hm, hl5, hv5, hb7⟩
          have HB7 : Hid (Below w.heap.size w w7) := HBz.out.trans (hb7.mono HBz.out.size)
          have HV5 : Hid (PV w7 a5 l5 wz.heap.size w7.heap.size) := hv5
          obtain ⟨hbz, hba⟩ := alpha_small m hm
          obtain ⟨body, hbody⟩ : ∃ body, body = Cur.alpha.extract 0 m := ⟨_, rfl⟩
          have HBA : Hid (∀ k, (h : k < body.size) → body[k].toNat < 128) := by subst hbody; exact hba
          rw [← hbody] at hbz
          rw [← hbody]
          clear hbody hba hb7 hv5 HBz
          obtain ⟨hpl, hpz⟩ := cutL_bd body l5 hbz
          have HPZ : Hid (∀ p ∈ cutL body l5, p.size ≤ 26) := hpz
          clear hpz
          go_wp2_with fail
          refine (implCut_any body a5 c5 l5 _ _ _ (by omega) (by omega) HV5.out).mono ?_
          rintro e w8 ⟨⟨r, rfl, hr⟩, hb8⟩
          obtain ⟨a8, c8, rfl, hp8⟩ := tv_of hr
          have HB8 : Hid (Below w.heap.size w w8) := HB7.out.trans (hb8.mono HB7.out.size)
          have HV6 : Hid (PV w8 a5 l5 wz.heap.size w7.heap.size) := HV5.out.below hb8
          have HP8 : Hid (TV w8 a8 (cutL body l5) w7.heap.size w8.heap.size) := hp8
          clear hr hp8 hb8 HV5 HB7
          go_wp2_with fail
          refine (specCut_any body a5 c5 l5 _ _ _ (by omega) (by omega) HV6.out).mono ?_
          rintro e w9 ⟨⟨r, rfl, hr⟩, hb9⟩
          obtain ⟨a9, c9, rfl, hp9⟩ := tv_of hr
          have HB9 : Hid (Below w.heap.size w w9) := HB8.out.trans (hb9.mono HB8.out.size)
          have HV7 : Hid (PV w9 a5 l5 wz.heap.size w7.heap.size) := HV6.out.below hb9
          have HP9 : Hid (TV w9 a8 (cutL body l5) w7.heap.size w8.heap.size) := HP8.out.below hb9
          have HP9' : Hid (TV w9 a9 (cutL body l5) w8.heap.size w9.heap.size) := hp9
          clear hr hp9 hb9 HV6 HP8 HB8
          cases hcut : cutB body l5
          · have h0 : (cutL body l5).length = 0 := by rw [cut_no hcut]; rfl
            have HS : Hid _ := fun wx lo hi lo' hi' x y => sameTexts_any a8 a9 c8 c9 (cutL body l5) wx lo hi lo' hi' (by omega) x y
            rw [h0] at HS
            rw [h0]
            clear hcut h0 hpl
            go_wp2_with (go_at_call 16; refine (HS.out _ _ _ _ _ HP9.out HP9'.out).mono ?_; rintro e w10 ⟨rfl, hb10⟩)
            go_ret
            exact ⟨rfl, HB9.out.trans (hb10.mono HB9.out.size)⟩
          obtain ⟨hwi, hgl⟩ := cut_parts hcut
          obtain ⟨hpb, hps, hpx⟩ := paste_told hcut
          have hcov := alike_covers (B := pasteS (body.size : Int) l5 (cutL body l5)) (C := body) hwi (fun x hx hc => (hpx x hx).2 hc)
          have HPs : Hid _ := fun wx lo hi lo' hi' x y => implPaste_any (body.size : Int) a5 c5 l5 a8 c8 (cutL body l5) wx lo hi lo' hi' (by omega) (by omega) (fun p hp => Nat.le_trans (HPZ.out p hp) (by decide)) x y
          rw [hpb] at HPs
          have HCv : Hid _ := fun wx lo hi x => implCover_any a5 c5 l5 wx lo hi (by omega) x
          rw [hgl] at HCv
          have HS : Hid _ := fun wx lo hi lo' hi' x y => sameTexts_any a8 a9 c8 c9 (cutL body l5) wx lo hi lo' hi' (by omega) x y
          obtain ⟨B, hB⟩ : ∃ B, B = pasteS (body.size : Int) l5 (cutL body l5) := ⟨_, rfl⟩
          rw [← hB] at HPs hps hcov
          have HX : Hid (∀ x, x < body.size → (B.data.getD x 0 = 46 ∨ B.data.getD x 0 = body.data.getD x 0)) := by subst hB; exact fun x hx => (hpx x hx).1
          obtain ⟨cov, hcv⟩ : ∃ cov, cov = coverN l5 := ⟨_, rfl⟩
          rw [← hcv] at HCv hcov
          have HCov : Hid (cov ≤ ((alike B body body.size : Nat) : Int)) := hcov
          obtain ⟨P, hP⟩ : ∃ P, P = cutL body l5 := ⟨_, rfl⟩
          rw [← hP] at HPs HS HP9 HP9'
          rw [← hP]
          have Hps : Hid (B.size = body.size) := hps
          clear hcut hwi hgl hpb hps hpx hcov hB hcv hP hpl HPZ
          go_wp2_with (go_at_call 16; refine (HS.out _ _ _ _ _ HP9.out HP9'.out).mono ?_; rintro e w10 ⟨rfl, hb10⟩)
          have HB10 : Hid (Below w.heap.size w w10) := HB9.out.trans (hb10.mono HB9.out.size)
          have HV8 : Hid (PV w10 a5 l5 wz.heap.size w7.heap.size) := HV7.out.below hb10
          have HP10 : Hid (TV w10 a8 P w7.heap.size w8.heap.size) := HP9.out.below hb10
          clear hb10 HS HP9 HP9' HB9 HV7
          refine (HPs.out _ _ _ _ _ HV8.out HP10.out).mono ?_
          rintro e w11 ⟨rfl, hb11⟩
          have HB11 : Hid (Below w.heap.size w w11) := HB10.out.trans (hb11.mono HB10.out.size)
          have HV9 : Hid (PV w11 a5 l5 wz.heap.size w7.heap.size) := HV8.out.below hb11
          clear hb11 HPs HV8 HP10 HB10
          go_wp2_with fail
          refine (HCv.out _ _ _ HV9.out).mono ?_
          rintro e w12 ⟨rfl, hb12⟩
          have HB12 : Hid (Below w.heap.size w w12) := HB11.out.trans (hb12.mono HB11.out.size)
          clear hb12 HCv HV9 HB11
          have hne : ((B.size : Int) != (body.size : Int)) = false := by rw [bne_eq_false_iff_eq, Hps.out]
          go_wp2_with fail
          go_loopw [28] (fun sv wr => ∃ (k : Nat) (W' : World), k ≤ body.size ∧ sv = .int .i64 ((alike B body k : Nat) : Int) ∧ wr = W'.iter B k ∧ Hid (W'.heap.size = w12.heap.size) ∧ Hid (Below w.heap.size w W')) (fun _ wr => body.size - (iterAt wr w12.heap.size))
          case atStart => exact ⟨0, w12, by omega, rfl, rfl, rfl, HB12⟩
          case round =>
            obtain ⟨k, W', hk, rfl, rfl, HZ, HW⟩ := hrel
            have hkl := alike_le B body k
            by_cases hlt : k < body.size
            · have hkB : k < B.size := by rw [Hps.out]; exact hlt
              have hx := HX.out k hlt
              have hm := alike_more B body k
              rw [byte_at B k hkB, byte_at body k hlt] at hx hm
              have hsm : (B[k]).toNat < 128 := by
                rcases hx with e | e
                · rw [e]; decide
                · rw [e]; exact HBA.out k hlt
              have hnx : ∀ ty, (Instr.next (.pointer (some ⟨w12.heap.size, 0, none⟩)) true ty).run Try.prog (W'.iter B k) = .ok (.tuple #[.bool true, .int .i64 k, .int .i32 (B[k]).toNat]) (W'.iter B (k + 1)) := by
                intro ty
                rw [← HZ.out]
                exact run_next_ascii W' B k ty hkB hsm
              have HM : Hid _ := hm
              clear hm hsm
              by_cases he : B[k] = body[k]
              · have hee : ((B[k].toNat : Int) == (body[k].toNat : Int)) = true := by rw [he]; simp
                have HM2 : Hid (alike B body (k + 1) = alike B body k + 1) := by show _ = _; rw [HM.out, if_pos he]
                clear HM hx
                go_wp2_with fail
                go_quiet (fail)
                go_wp2_with fail
                refine ⟨⟨k + 1, W'.drewN nq, by omega, by rw [HM2.out]; go_num, rfl, HZ.out, bdrewN HW.out _⟩, ?_⟩
                show body.size - iterAt ((W'.drewN nq).iter B (k + 1)) w12.heap.size < body.size - iterAt (W'.iter B k) w12.heap.size
                rw [iterAt_iter _ _ _ _ HZ.out, iterAt_iter (W'.drewN nq) _ _ _ HZ.out]
                omega
              · have hee : ((B[k].toNat : Int) == (body[k].toNat : Int)) = false := by
                  rw [beq_eq_false_iff_ne]
                  intro h
                  exact he (UInt8.toNat_inj.1 (by omega))
                have h46 : B[k].toNat = 46 := by
                  rcases hx with e | e
                  · rw [e]; decide
                  · exact absurd e he
                have HM2 : Hid (alike B body (k + 1) = alike B body k) := by show _ = _; rw [HM.out, if_neg he]; rfl
                clear HM hx
                go_wp2_with fail
                go_quiet (fail)
                go_wp2_with fail
                refine ⟨⟨k + 1, W'.drewN nq, by omega, by rw [HM2.out], rfl, HZ.out, bdrewN HW.out _⟩, ?_⟩
                show body.size - iterAt ((W'.drewN nq).iter B (k + 1)) w12.heap.size < body.size - iterAt (W'.iter B k) w12.heap.size
                rw [iterAt_iter _ _ _ _ HZ.out, iterAt_iter (W'.drewN nq) _ _ _ HZ.out]
                omega
            · obtain rfl : k = body.size := by omega
              have hnx : ∀ ty, (Instr.next (.pointer (some ⟨w12.heap.size, 0, none⟩)) true ty).run Try.prog (W'.iter B body.size) = .ok (.tuple #[.bool false]) (W'.iter B body.size) := by
                intro ty
                rw [← HZ.out]
                exact run_next_end W' B body.size ty (by rw [Hps.out]; omega)
              have hge : decide (cov ≤ ((alike B body body.size : Nat) : Int)) = true := decide_eq_true HCov.out
              go_wp2_with fail
              go_ret
              exact ⟨rfl, HW.out.alloc HW.out.size _⟩
        · have e4 : (gap == 0) = false := by rw [beq_eq_false_iff_ne]; exact hg0
          clear HT3
          go_wp2_with fail
          refine (drawCut_any _ n2 _ HMU.out (by omega)).mono ?_
          rintro e w7 ⟨m, a5, c5, l5, rfl, hm, hl5, hv5, hb7⟩
          have HB7 : Hid (Below w.heap.size w w7) := HBz.out.trans (hb7.mono HBz.out.size)
          have HV5 : Hid (PV w7 a5 l5 wz.heap.size w7.heap.size) := hv5
          obtain ⟨hbz, hba⟩ := alpha_small m hm
          obtain ⟨body, hbody⟩ : ∃ body, body = Cur.alpha.extract 0 m := ⟨_, rfl⟩
          have HBA : Hid (∀ k, (h : k < body.size) → body[k].toNat < 128) := by subst hbody; exact hba
          rw [← hbody] at hbz
          rw [← hbody]
          clear hbody hba hb7 hv5 HBz
          obtain ⟨hpl, hpz⟩ := cutL_bd body l5 hbz
          have HPZ : Hid (∀ p ∈ cutL body l5, p.size ≤ 26) := hpz
          clear hpz
          go_wp2_with fail
          refine (implCut_any body a5 c5 l5 _ _ _ (by omega) (by omega) HV5.out).mono ?_
          rintro e w8 ⟨⟨r, rfl, hr⟩, hb8⟩
          obtain ⟨a8, c8, rfl, hp8⟩ := tv_of hr
          have HB8 : Hid (Below w.heap.size w w8) := HB7.out.trans (hb8.mono HB7.out.size)
          have HV6 : Hid (PV w8 a5 l5 wz.heap.size w7.heap.size) := HV5.out.below hb8
          have HP8 : Hid (TV w8 a8 (cutL body l5) w7.heap.size w8.heap.size) := hp8
          clear hr hp8 hb8 HV5 HB7
          go_wp2_with fail
          refine (specCut_any body a5 c5 l5 _ _ _ (by omega) (by omega) HV6.out).mono ?_
          rintro e w9 ⟨⟨r, rfl, hr⟩, hb9⟩
          obtain ⟨a9, c9, rfl, hp9⟩ := tv_of hr
          have HB9 : Hid (Below w.heap.size w w9) := HB8.out.trans (hb9.mono HB8.out.size)
          have HV7 : Hid (PV w9 a5 l5 wz.heap.size w7.heap.size) := HV6.out.below hb9
          have HP9 : Hid (TV w9 a8 (cutL body l5) w7.heap.size w8.heap.size) := HP8.out.below hb9
          have HP9' : Hid (TV w9 a9 (cutL body l5) w8.heap.size w9.heap.size) := hp9
          clear hr hp9 hb9 HV6 HP8 HB8
          cases hcut : cutB body l5
          · have h0 : (cutL body l5).length = 0 := by rw [cut_no hcut]; rfl
            have HS : Hid _ := fun wx lo hi lo' hi' x y => sameTexts_any a8 a9 c8 c9 (cutL body l5) wx lo hi lo' hi' (by omega) x y
            rw [h0] at HS
            rw [h0]
            clear hcut h0 hpl
            go_wp2_with (go_at_call 16; refine (HS.out _ _ _ _ _ HP9.out HP9'.out).mono ?_; rintro e w10 ⟨rfl, hb10⟩)
            go_ret
            exact ⟨rfl, HB9.out.trans (hb10.mono HB9.out.size)⟩
          obtain ⟨hwi, hgl⟩ := cut_parts hcut
          obtain ⟨hpb, hps, hpx⟩ := paste_told hcut
          have hcov := alike_covers (B := pasteS (body.size : Int) l5 (cutL body l5)) (C := body) hwi (fun x hx hc => (hpx x hx).2 hc)
          have HPs : Hid _ := fun wx lo hi lo' hi' x y => implPaste_any (body.size : Int) a5 c5 l5 a8 c8 (cutL body l5) wx lo hi lo' hi' (by omega) (by omega) (fun p hp => Nat.le_trans (HPZ.out p hp) (by decide)) x y
          rw [hpb] at HPs
          have HCv : Hid _ := fun wx lo hi x => implCover_any a5 c5 l5 wx lo hi (by omega) x
          rw [hgl] at HCv
          have HS : Hid _ := fun wx lo hi lo' hi' x y => sameTexts_any a8 a9 c8 c9 (cutL body l5) wx lo hi lo' hi' (by omega) x y
          obtain ⟨B, hB⟩ : ∃ B, B = pasteS (body.size : Int) l5 (cutL body l5) := ⟨_, rfl⟩
          rw [← hB] at HPs hps hcov
          have HX : Hid (∀ x, x < body.size → (B.data.getD x 0 = 46 ∨ B.data.getD x 0 = body.data.getD x 0)) := by subst hB; exact fun x hx => (hpx x hx).1
          obtain ⟨cov, hcv⟩ : ∃ cov, cov = coverN l5 := ⟨_, rfl⟩
          rw [← hcv] at HCv hcov
          have HCov : Hid (cov ≤ ((alike B body body.size : Nat) : Int)) := hcov
          obtain ⟨P, hP⟩ : ∃ P, P = cutL body l5 := ⟨_, rfl⟩
          rw [← hP] at HPs HS HP9 HP9'
          rw [← hP]
          have Hps : Hid (B.size = body.size) := hps
          clear hcut hwi hgl hpb hps hpx hcov hB hcv hP hpl HPZ
          go_wp2_with (go_at_call 16; refine (HS.out _ _ _ _ _ HP9.out HP9'.out).mono ?_; rintro e w10 ⟨rfl, hb10⟩)
          have HB10 : Hid (Below w.heap.size w w10) := HB9.out.trans (hb10.mono HB9.out.size)
          have HV8 : Hid (PV w10 a5 l5 wz.heap.size w7.heap.size) := HV7.out.below hb10
          have HP10 : Hid (TV w10 a8 P w7.heap.size w8.heap.size) := HP9.out.below hb10
          clear hb10 HS HP9 HP9' HB9 HV7
          refine (HPs.out _ _ _ _ _ HV8.out HP10.out).mono ?_
          rintro e w11 ⟨rfl, hb11⟩
          have HB11 : Hid (Below w.heap.size w w11) := HB10.out.trans (hb11.mono HB10.out.size)
          have HV9 : Hid (PV w11 a5 l5 wz.heap.size w7.heap.size) := HV8.out.below hb11
          clear hb11 HPs HV8 HP10 HB10
          go_wp2_with fail
          refine (HCv.out _ _ _ HV9.out).mono ?_
          rintro e w12 ⟨rfl, hb12⟩
          have HB12 : Hid (Below w.heap.size w w12) := HB11.out.trans (hb12.mono HB11.out.size)
          clear hb12 HCv HV9 HB11
          have hne : ((B.size : Int) != (body.size : Int)) = false := by rw [bne_eq_false_iff_eq, Hps.out]
          go_wp2_with fail
          go_loopw [28] (fun sv wr => ∃ (k : Nat) (W' : World), k ≤ body.size ∧ sv = .int .i64 ((alike B body k : Nat) : Int) ∧ wr = W'.iter B k ∧ Hid (W'.heap.size = w12.heap.size) ∧ Hid (Below w.heap.size w W')) (fun _ wr => body.size - (iterAt wr w12.heap.size))
          case atStart => exact ⟨0, w12, by omega, rfl, rfl, rfl, HB12⟩
          case round =>
            obtain ⟨k, W', hk, rfl, rfl, HZ, HW⟩ := hrel
            have hkl := alike_le B body k
            by_cases hlt : k < body.size
            · have hkB : k < B.size := by rw [Hps.out]; exact hlt
              have hx := HX.out k hlt
              have hm := alike_more B body k
              rw [byte_at B k hkB, byte_at body k hlt] at hx hm
              have hsm : (B[k]).toNat < 128 := by
                rcases hx with e | e
                · rw [e]; decide
                · rw [e]; exact HBA.out k hlt
              have hnx : ∀ ty, (Instr.next (.pointer (some ⟨w12.heap.size, 0, none⟩)) true ty).run Try.prog (W'.iter B k) = .ok (.tuple #[.bool true, .int .i64 k, .int .i32 (B[k]).toNat]) (W'.iter B (k + 1)) := by
                intro ty
                rw [← HZ.out]
                exact run_next_ascii W' B k ty hkB hsm
              have HM : Hid _ := hm
              clear hm hsm
              by_cases he : B[k] = body[k]
              · have hee : ((B[k].toNat : Int) == (body[k].toNat : Int)) = true := by rw [he]; simp
                have HM2 : Hid (alike B body (k + 1) = alike B body k + 1) := by show _ = _; rw [HM.out, if_pos he]
                clear HM hx
                go_wp2_with fail
                go_quiet (fail)
                go_wp2_with fail
                refine ⟨⟨k + 1, W'.drewN nq, by omega, by rw [HM2.out]; go_num, rfl, HZ.out, bdrewN HW.out _⟩, ?_⟩
                show body.size - iterAt ((W'.drewN nq).iter B (k + 1)) w12.heap.size < body.size - iterAt (W'.iter B k) w12.heap.size
                rw [iterAt_iter _ _ _ _ HZ.out, iterAt_iter (W'.drewN nq) _ _ _ HZ.out]
                omega
              · have hee : ((B[k].toNat : Int) == (body[k].toNat : Int)) = false := by
                  rw [beq_eq_false_iff_ne]
                  intro h
                  exact he (UInt8.toNat_inj.1 (by omega))
                have h46 : B[k].toNat = 46 := by
                  rcases hx with e | e
                  · rw [e]; decide
                  · exact absurd e he
                have HM2 : Hid (alike B body (k + 1) = alike B body k) := by show _ = _; rw [HM.out, if_neg he]; rfl
                clear HM hx
                go_wp2_with fail
                go_quiet (fail)
                go_wp2_with fail
                refine ⟨⟨k + 1, W'.drewN nq, by omega, by rw [HM2.out], rfl, HZ.out, bdrewN HW.out _⟩, ?_⟩
                show body.size - iterAt ((W'.drewN nq).iter B (k + 1)) w12.heap.size < body.size - iterAt (W'.iter B k) w12.heap.size
                rw [iterAt_iter _ _ _ _ HZ.out, iterAt_iter (W'.drewN nq) _ _ _ HZ.out]
                omega
            · obtain rfl : k = body.size := by omega
              have hnx : ∀ ty, (Instr.next (.pointer (some ⟨w12.heap.size, 0, none⟩)) true ty).run Try.prog (W'.iter B body.size) = .ok (.tuple #[.bool false]) (W'.iter B body.size) := by
                intro ty
                rw [← HZ.out]
                exact run_next_end W' B body.size ty (by rw [Hps.out]; omega)
              have hge : decide (cov ≤ ((alike B body body.size : Nat) : Int)) = true := decide_eq_true HCov.out
              go_wp2_with fail
              go_ret
              exact ⟨rfl, HW.out.alloc HW.out.size _⟩

end Go.Proofs.Ytelpmkbjegimpaa.Fsw
