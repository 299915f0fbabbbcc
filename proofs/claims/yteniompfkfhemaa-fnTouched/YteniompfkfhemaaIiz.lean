/-
  Walk: the law FnTouched.
-/
import Derived.Test.YteniompfkfhemaaIiu
import Derived.Test.YteniompfkfhemaaIiv
import Derived.Test.YteniompfkfhemaaIin
import Derived.Test.YteniompfkfhemaaIiq
namespace Go.Proofs.Yteniompfkfhemaa.Iiz
open Go.RowKit
open Go.Proofs.Yteniompfkfhemaa.Iit
open Go.Proofs.Yteniompfkfhemaa.Cur (CodeArg)
open Go.Proofs.Yteniompfkfhemaa.Iia (intsIn IW IL implTouch_any specTouch_any implWork_any specWork_any tcB tcL tcH tc_no tc_yes tc_parts sz_iff tchN tchN_len wkB wkL wk_no wk_yes wsL wsL_len wsN ws_step ws_pos ws_le bt_iff)

theorem touched_facts {l : List Int} {y N : Int} (h : tcB l y N = true) : ((tcL l y N).length : Int) ≤ N ∧ (0 < N → (tcL l y N)[0]? = some y) ∧ 0 ≤ N ∧ N ≤ 40 := by
  obtain ⟨_, h2, _⟩ := tc_parts h
  obtain ⟨z0, z1⟩ := sz_iff.1 h2
  rw [(tc_yes h).1]
  have := tchN_len N.toNat l y
  refine ⟨by omega, fun hp => ?_, z0, z1⟩
  obtain ⟨m, hm⟩ : ∃ m, N.toNat = m + 1 := ⟨N.toNat - 1, by omega⟩
  rw [hm]; rfl
theorem tc_small {l : List Int} {y N : Int} : (tcL l y N).length ≤ 1000 := by
  cases h : tcB l y N
  · rw [(tc_no h).1]; simp
  · have := (touched_facts h).1
    have := (touched_facts h).2.2.2
    omega
theorem wk_small {l : List Int} {N : Int} (hl : l.length ≤ 201) : (wkL l N).length ≤ 201 := by
  unfold wkL
  split
  · rw [wsL_len]; exact hl
  · simp
theorem wsL_at (l : List Int) (n k : Nat) (h : k < l.length) : (wsL l n)[k]? = some (wsN l n k : Int) := by simp [wsL, h]
theorem work_facts {l : List Int} {N : Int} (h : wkB l N = true) (hN : N ≠ 200) : wkB l (N + 1) = true ∧ (wkL l N).length = l.length ∧ (wkL l (N + 1)).length = l.length ∧ 1 ≤ N ∧ N ≤ 200 ∧
    ∀ k, k < l.length → ∃ x z : Nat, (wkL l N)[k]? = some (x : Int) ∧ (wkL l (N + 1))[k]? = some (z : Int) ∧ x ≤ z ∧ z ≤ x + 1 ∧ 1 ≤ x ∧ (x : Int) ≤ N := by
  have hh := h
  unfold wkB at hh
  rw [Bool.and_eq_true] at hh
  obtain ⟨z0, z1⟩ := bt_iff.1 hh.2
  have h1 : wkB l (N + 1) = true := by unfold wkB; rw [hh.1, bt_iff.2 (by omega)]; rfl
  have en : (N + 1).toNat = N.toNat + 1 := by omega
  rw [wk_yes h, wk_yes h1, en]
  refine ⟨h1, wsL_len _ _, wsL_len _ _, z0, z1, fun k hk => ⟨wsN l N.toNat k, wsN l (N.toNat + 1) k, wsL_at l _ k hk, wsL_at l _ k hk, (ws_step l N.toNat k hk).1, (ws_step l N.toNat k hk).2, ws_pos l _ k hk (by omega), ?_⟩⟩
  have := ws_le l N.toNat k
  omega

set_option maxRecDepth 20000 in
set_option maxHeartbeats 6400000 in
theorem walk (u1 u2 : Value) (n1 n2 : Nat) (w : World) (hU1 : CodeArg w u1 n1) (hU2 : CodeArg w u2 n2) (hn1 : n1 ≤ 140737488355328) (hn2 : n2 ≤ 140737488355328) :
    Calls Try.prog 5 #[u1, u2] w fun e w' => e = .returned (.bool true) ∧ Below w.heap.size w w' := by
  obtain ⟨o1, cap1, rfl⟩ := hU1.form
  obtain ⟨o2, cap2, rfl⟩ := hU2.form
  have HU1 : Hid (CodeArg w (.slice o1 n1 cap1) n1) := hU1
  have HU2 : Hid (CodeArg w (.slice o2 n2 cap2) n2) := hU2
  clear hU1 hU2
  by_cases hz : 1048576 < n1 + n2
  · have hd : decide (1048576 < (n1 : Int) + (n2 : Int)) = true := decide_eq_true (by omega)
    go_enter Try.func5, Try.ntmps5
    go_wp2_with fail
    go_ret
    exact ⟨rfl, Below.refl _ _⟩
  have hd : decide (1048576 < (n1 : Int) + (n2 : Int)) = false := decide_eq_false (by omega)
  go_enter Try.func5, Try.ntmps5
  go_wp2_with fail
  refine (drawTouch_any _ n1 _ HU1.out (by omega)).mono ?_
  rintro e w1 ⟨r, s, y, N, rfl, hl, hv, hb1⟩
  have hnil : ∀ a ca, r = .slice a s.length ca → a = none → s = [] ∧ ca = 0 := by
    intro a ca e1 e2
    subst e2
    rcases hv.2 with ⟨h1, h2⟩ | ⟨g, c, cur, h1, _⟩
    · rw [e1] at h1
      injection h1 with _ _ h3
      exact ⟨List.eq_nil_of_length_eq_zero h2, h3⟩
    · rw [e1] at h1
      injection h1 with h3 _ _
      cases h3
  obtain ⟨a, ca, hre, hIW, hca, _⟩ := iw_cap hv
  have hnil2 := hnil a ca hre
  subst hre
  have HB1 : Hid (Below w.heap.size w w1) := hb1
  have HV1 : Hid (IL w1 a s w.heap.size w1.heap.size) := hIW.il
  have HTi : Hid _ := fun wx lo hi h => implTouch_any a ca s y N wx lo hi (by omega) hnil2 h
  have HTs : Hid _ := fun wx lo hi h => specTouch_any a ca s y N wx lo hi (by omega) hca h
  have hTl := tc_small (l := s) (y := y) (N := N)
  have hno := tc_no (l := s) (y := y) (N := N)
  have hyes := touched_facts (l := s) (y := y) (N := N)
  generalize tcL s y N = T at *
  generalize tcH s y N = H at *
  generalize tcB s y N = ok at *
  have HNo : Hid (ok = false → T = [] ∧ H = false) := hno
  have HYes : Hid (ok = true → ((T.length : Int) ≤ N ∧ (0 < N → T[0]? = some y) ∧ 0 ≤ N ∧ N ≤ 40)) := hyes
  clear hno hyes hb1 hv hIW HU1 hnil hnil2
  go_wp2_with fail
  refine (HTi.out _ _ _ HV1.out).mono ?_
  rintro e w2 ⟨⟨r, rfl, hr⟩, hb2⟩
  obtain ⟨a2, c2, rfl, hp2, hc2, hm2⟩ := iw_cap hr
  have HB2 : Hid (Below w.heap.size w w2) := HB1.out.trans (hb2.mono HB1.out.size)
  have HV2 : Hid (IL w2 a s w.heap.size w1.heap.size) := HV1.out.below hb2
  have HP2 : Hid (IW w2 a2 T w1.heap.size w2.heap.size) := hp2
  clear hr hb2 hp2 HB1 HV1 HTi
  go_wp2_with fail
  refine (HTs.out _ _ _ HV2.out).mono ?_
  rintro e w3 ⟨⟨r, rfl, hr⟩, hb3⟩
  obtain ⟨a3, c3, rfl, hp3, hc3, hm3⟩ := iw_cap hr
  have HB3 : Hid (Below w.heap.size w w3) := HB2.out.trans (hb3.mono HB2.out.size)
  have HP3 : Hid (IW w3 a2 T w1.heap.size w2.heap.size) := HP2.out.below hb3
  have HQ3 : Hid (IL w3 a3 T w2.heap.size w3.heap.size) := hp3.il
  clear hr hb3 hp3 HB2 HV2 HP2 HTs
  have HSm : Hid _ := fun wx lo hi lo' hi' x y => sameI_any a2 a3 c2 c3 T wx lo hi lo' hi' (by omega) x y
  go_wp2_with fail
  refine (HSm.out _ _ _ _ _ HP3.out.il HQ3.out).mono ?_
  rintro e w4 ⟨rfl, hb4⟩
  have HB4 : Hid (Below w.heap.size w w4) := HB3.out.trans (hb4.mono HB3.out.size)
  have HP4 : Hid (IW w4 a2 T w1.heap.size w2.heap.size) := HP3.out.below hb4
  have HMU : Hid (CodeArg w4 (.slice o2 n2 cap2) n2) := HU2.out.below (Nat.le_refl _) HB4.out
  clear hb4 HB3 HP3 HQ3 HSm HU2
  cases ok
  · obtain ⟨t1, t2⟩ := HNo.out rfl
    subst t1
    clear HNo HYes HP4
    go_wp2_with fail
    refine (drawWork_any _ n2 _ HMU.out (by omega)).mono ?_
    rintro e w5 ⟨r, l, M, rfl, hl, hv, hb5⟩
    obtain ⟨b, cb, rfl, hIW, hcb, _⟩ := iw_cap hv
    have HB5 : Hid (Below w.heap.size w w5) := HB4.out.trans (hb5.mono HB4.out.size)
    have HV5 : Hid (IL w5 b l w4.heap.size w5.heap.size) := hIW.il
    clear hb5 hv hIW HMU HB4
    have HWi : Hid _ := fun (M : Int) wx lo hi h => implWork_any b cb l M wx lo hi (by omega) hcb h
    have HWs : Hid _ := fun wx lo hi h => specWork_any b cb l M wx lo hi (by omega) hcb h
    have HWk : Hid _ := HWi.out M
    have HWk1 : Hid _ := HWi.out (M + 1)
    have hWl := wk_small (N := M) hl
    have hWl1 := wk_small (N := M + 1) hl
    have hfac := work_facts (l := l) (N := M)
    generalize wkL l M = A at *
    generalize wkL l (M + 1) = C at *
    generalize wkB l M = is at *
    generalize wkB l (M + 1) = is1 at *
    have HFac : Hid _ := hfac
    clear hfac HWi
    go_wp2_with fail
    refine (HWk.out _ _ _ HV5.out).mono ?_
    rintro e w6 ⟨⟨r, rfl, hr⟩, hb6⟩
    obtain ⟨a6, c6, rfl, hp6, hc6, hm6⟩ := iw_cap hr
    have HB6 : Hid (Below w.heap.size w w6) := HB5.out.trans (hb6.mono HB5.out.size)
    have HV6 : Hid (IL w6 b l w4.heap.size w5.heap.size) := HV5.out.below hb6
    have HP6 : Hid (IL w6 a6 A w5.heap.size w6.heap.size) := hp6.il
    clear hr hb6 hp6 HB5 HV5 HWk
    go_wp2_with fail
    refine (HWs.out _ _ _ HV6.out).mono ?_
    rintro e w7 ⟨⟨r, rfl, hr⟩, hb7⟩
    obtain ⟨a7, c7, rfl, hp7, hc7, hm7⟩ := iw_cap hr
    have HB7 : Hid (Below w.heap.size w w7) := HB6.out.trans (hb7.mono HB6.out.size)
    have HV7 : Hid (IL w7 b l w4.heap.size w5.heap.size) := HV6.out.below hb7
    have HP7 : Hid (IL w7 a6 A w5.heap.size w6.heap.size) := HP6.out.below hb7
    have HQ7 : Hid (IL w7 a7 A w6.heap.size w7.heap.size) := hp7.il
    clear hr hb7 hp7 HB6 HV6 HP6 HWs
    have HSn : Hid _ := fun wx lo hi lo' hi' x y => sameI_any a6 a7 c6 c7 A wx lo hi lo' hi' (by omega) x y
    go_wp2_with fail
    refine (HSn.out _ _ _ _ _ HP7.out HQ7.out).mono ?_
    rintro e w8 ⟨rfl, hb8⟩
    have HB8 : Hid (Below w.heap.size w w8) := HB7.out.trans (hb8.mono HB7.out.size)
    have HV8 : Hid (IL w8 b l w4.heap.size w5.heap.size) := HV7.out.below hb8
    have HP8 : Hid (IL w8 a6 A w5.heap.size w6.heap.size) := HP7.out.below hb8
    clear hb8 HB7 HV7 HP7 HQ7 HSn
    cases is
    · clear HFac HWk1 HV8 HP8
      go_wp2_with fail
      go_ret
      exact ⟨rfl, HB8.out⟩
    by_cases h200 : M = 200
    · subst h200
      clear HFac HWk1 HV8 HP8
      go_wp2_with fail
      go_ret
      exact ⟨rfl, HB8.out⟩
    obtain ⟨f1, f2, f3, f4, f5, f6⟩ := HFac.out rfl h200
    subst f1
    have HF6 : Hid _ := f6
    have hlenI : (C.length : Int) = (A.length : Int) := by omega
    have hlenN : C.length = A.length := by omega
    have HAL : Hid (A.length = l.length) := f2
    have HCL : Hid (C.length = A.length) := hlenN
    clear HFac f6 f2 f3 hlenI
    go_wp2_with fail
    refine (HWk1.out _ _ _ HV8.out).mono ?_
    rintro e w9 ⟨⟨r, rfl, hr⟩, hb9⟩
    obtain ⟨a9, c9, rfl, hp9, hc9, hm9⟩ := iw_cap hr
    have HB9 : Hid (Below w.heap.size w w9) := HB8.out.trans (hb9.mono HB8.out.size)
    have HP9 : Hid (IL w9 a6 A w5.heap.size w6.heap.size) := HP8.out.below hb9
    have HC9 : Hid (IL w9 a9 C w8.heap.size w9.heap.size) := hp9.il
    clear hr hb9 hp9 HB8 HV8 HP8 HWk1
    go_wp2_with fail
    clear hlenN
    go_loopw [138] (fun i wr => ∃ k : Nat, k ≤ A.length ∧ i = .int .i64 k ∧ Hid (Below w9.heap.size w9 wr)) (fun i _ => A.length - (intOf i).toNat)
    case atStart => exact ⟨0, Nat.zero_le _, rfl, Below.refl _ _⟩
    case round =>
      obtain ⟨k, hk, rfl, HW⟩ := hrel
      by_cases hlt : k < A.length
      · obtain ⟨x, z, gx, gz, k1, k2, k3, k4⟩ := HF6.out k (by rw [← HAL.out]; exact hlt)
        have hltC : k < C.length := by rw [HCL.out]; exact hlt
        obtain ⟨ad, hade, hcA⟩ := (HP9.out.below HW.out).cell hlt
        obtain ⟨bd, hbde, hcC⟩ := (HC9.out.below HW.out).cell hltC
        have e1 : A[k] = (x : Int) := by rw [List.getElem?_eq_getElem hlt] at gx; exact Option.some.inj gx
        have e2 : C[k] = (z : Int) := by rw [List.getElem?_eq_getElem hltC] at gz; exact Option.some.inj gz
        rw [e1] at hcA
        rw [e2] at hcC
        have d1 : ¬ ((z : Int) < (x : Int)) := by omega
        have d2 : ¬ ((x : Int) + 1 < (z : Int)) := by omega
        have hx200 : x ≤ 200 := by omega
        have d1n : ¬ (z < x) := by omega
        have d2n : ¬ (x + 1 < z) := by omega
        have d3n : ¬ (x = 0) := by omega
        have d3m : ¬ (x < 1) := by omega
        have d1d : decide (z < x) = false := decide_eq_false d1n
        have d3d : decide ((x : Int) < 1) = false := decide_eq_false (by omega)
        have d4d : decide (M < (x : Int)) = false := decide_eq_false (by omega)
        have d2d : decide ((x : Int) + 1 < (z : Int)) = false := decide_eq_false (by omega)
        have d3 : ¬ ((x : Int) < 1) := by omega
        have d4 : ¬ (M < (x : Int)) := by omega
        subst hade
        subst hbde
        clear e1 e2 gx gz hltC
        go_wp2_with fail
        go_quiet (fail)
        go_wp2_with fail
        have HW2 : Hid (Below w9.heap.size w9 (wr.drewN nq)) := HW.out.trans ((Iia.below_drewN _ _).mono HW.out.size)
        go_roundw
        case rel => exact ⟨k + 1, by omega, by go_num, HW2⟩
        case measure => simp [intOf]; omega
      · obtain rfl : k = A.length := by omega
        have HBe : Hid (Below w.heap.size w wr) := HB9.out.trans (HW.out.mono HB9.out.size)
        clear HF6 HAL HCL
        go_wp2_with fail
        go_ret
        exact ⟨rfl, HBe.out⟩
  · obtain ⟨y1, y2, y3, y4⟩ := HYes.out rfl
    clear HNo HYes
    by_cases hp : 0 < N
    · have hy0 := y2 hp
      have hTpos : 0 < T.length := (List.getElem?_eq_some_iff.1 hy0).1
      obtain ⟨g, hag, hcell⟩ : ∃ g, a2 = some ⟨g, 0, none⟩ ∧ w4.cell? ⟨g, 0, none⟩ = some (.int .i64 y) := by
        rcases HP4.out with h | ⟨g, h1, _, _, _, _, h6⟩
        · rw [h] at hTpos; simp at hTpos
        · exact ⟨g, h1, h6 0 y hy0⟩
      subst hag
      have hdp : decide (0 < N) = true := decide_eq_true hp
      have hT0 : ((T.length : Int) == 0) = false := by simp; exact fun e => by rw [e] at hTpos; simp at hTpos
      have hTn : ¬ (N < (T.length : Int)) := by omega
      have hT0n : ¬ (T.length = 0) := by omega
      have hTne : ¬ (T = []) := fun e => by rw [e] at hTpos; simp at hTpos
      clear y2 hy0 HP4
      go_wp2_with fail
      refine (drawWork_any _ n2 _ HMU.out (by omega)).mono ?_
      rintro e w5 ⟨r, l, M, rfl, hl, hv, hb5⟩
      obtain ⟨b, cb, rfl, hIW, hcb, _⟩ := iw_cap hv
      have HB5 : Hid (Below w.heap.size w w5) := HB4.out.trans (hb5.mono HB4.out.size)
      have HV5 : Hid (IL w5 b l w4.heap.size w5.heap.size) := hIW.il
      clear hb5 hv hIW HMU HB4
      have HWi : Hid _ := fun (M : Int) wx lo hi h => implWork_any b cb l M wx lo hi (by omega) hcb h
      have HWs : Hid _ := fun wx lo hi h => specWork_any b cb l M wx lo hi (by omega) hcb h
      have HWk : Hid _ := HWi.out M
      have HWk1 : Hid _ := HWi.out (M + 1)
      have hWl := wk_small (N := M) hl
      have hWl1 := wk_small (N := M + 1) hl
      have hfac := work_facts (l := l) (N := M)
      generalize wkL l M = A at *
      generalize wkL l (M + 1) = C at *
      generalize wkB l M = is at *
      generalize wkB l (M + 1) = is1 at *
      have HFac : Hid _ := hfac
      clear hfac HWi
      go_wp2_with fail
      refine (HWk.out _ _ _ HV5.out).mono ?_
      rintro e w6 ⟨⟨r, rfl, hr⟩, hb6⟩
      obtain ⟨a6, c6, rfl, hp6, hc6, hm6⟩ := iw_cap hr
      have HB6 : Hid (Below w.heap.size w w6) := HB5.out.trans (hb6.mono HB5.out.size)
      have HV6 : Hid (IL w6 b l w4.heap.size w5.heap.size) := HV5.out.below hb6
      have HP6 : Hid (IL w6 a6 A w5.heap.size w6.heap.size) := hp6.il
      clear hr hb6 hp6 HB5 HV5 HWk
      go_wp2_with fail
      refine (HWs.out _ _ _ HV6.out).mono ?_
      rintro e w7 ⟨⟨r, rfl, hr⟩, hb7⟩
      obtain ⟨a7, c7, rfl, hp7, hc7, hm7⟩ := iw_cap hr
      have HB7 : Hid (Below w.heap.size w w7) := HB6.out.trans (hb7.mono HB6.out.size)
      have HV7 : Hid (IL w7 b l w4.heap.size w5.heap.size) := HV6.out.below hb7
      have HP7 : Hid (IL w7 a6 A w5.heap.size w6.heap.size) := HP6.out.below hb7
      have HQ7 : Hid (IL w7 a7 A w6.heap.size w7.heap.size) := hp7.il
      clear hr hb7 hp7 HB6 HV6 HP6 HWs
      have HSn : Hid _ := fun wx lo hi lo' hi' x y => sameI_any a6 a7 c6 c7 A wx lo hi lo' hi' (by omega) x y
      go_wp2_with fail
      refine (HSn.out _ _ _ _ _ HP7.out HQ7.out).mono ?_
      rintro e w8 ⟨rfl, hb8⟩
      have HB8 : Hid (Below w.heap.size w w8) := HB7.out.trans (hb8.mono HB7.out.size)
      have HV8 : Hid (IL w8 b l w4.heap.size w5.heap.size) := HV7.out.below hb8
      have HP8 : Hid (IL w8 a6 A w5.heap.size w6.heap.size) := HP7.out.below hb8
      clear hb8 HB7 HV7 HP7 HQ7 HSn
      cases is
      · clear HFac HWk1 HV8 HP8
        go_wp2_with fail
        go_ret
        exact ⟨rfl, HB8.out⟩
      by_cases h200 : M = 200
      · subst h200
        clear HFac HWk1 HV8 HP8
        go_wp2_with fail
        go_ret
        exact ⟨rfl, HB8.out⟩
      obtain ⟨f1, f2, f3, f4, f5, f6⟩ := HFac.out rfl h200
      subst f1
      have HF6 : Hid _ := f6
      have hlenI : (C.length : Int) = (A.length : Int) := by omega
      have hlenN : C.length = A.length := by omega
      have HAL : Hid (A.length = l.length) := f2
      have HCL : Hid (C.length = A.length) := hlenN
      clear HFac f6 f2 f3 hlenI
      go_wp2_with fail
      refine (HWk1.out _ _ _ HV8.out).mono ?_
      rintro e w9 ⟨⟨r, rfl, hr⟩, hb9⟩
      obtain ⟨a9, c9, rfl, hp9, hc9, hm9⟩ := iw_cap hr
      have HB9 : Hid (Below w.heap.size w w9) := HB8.out.trans (hb9.mono HB8.out.size)
      have HP9 : Hid (IL w9 a6 A w5.heap.size w6.heap.size) := HP8.out.below hb9
      have HC9 : Hid (IL w9 a9 C w8.heap.size w9.heap.size) := hp9.il
      clear hr hb9 hp9 HB8 HV8 HP8 HWk1
      go_wp2_with fail
      clear hlenN
      go_loopw [138] (fun i wr => ∃ k : Nat, k ≤ A.length ∧ i = .int .i64 k ∧ Hid (Below w9.heap.size w9 wr)) (fun i _ => A.length - (intOf i).toNat)
      case atStart => exact ⟨0, Nat.zero_le _, rfl, Below.refl _ _⟩
      case round =>
        obtain ⟨k, hk, rfl, HW⟩ := hrel
        by_cases hlt : k < A.length
        · obtain ⟨x, z, gx, gz, k1, k2, k3, k4⟩ := HF6.out k (by rw [← HAL.out]; exact hlt)
          have hltC : k < C.length := by rw [HCL.out]; exact hlt
          obtain ⟨ad, hade, hcA⟩ := (HP9.out.below HW.out).cell hlt
          obtain ⟨bd, hbde, hcC⟩ := (HC9.out.below HW.out).cell hltC
          have e1 : A[k] = (x : Int) := by rw [List.getElem?_eq_getElem hlt] at gx; exact Option.some.inj gx
          have e2 : C[k] = (z : Int) := by rw [List.getElem?_eq_getElem hltC] at gz; exact Option.some.inj gz
          rw [e1] at hcA
          rw [e2] at hcC
          have d1 : ¬ ((z : Int) < (x : Int)) := by omega
          have d2 : ¬ ((x : Int) + 1 < (z : Int)) := by omega
          have hx200 : x ≤ 200 := by omega
          have d1n : ¬ (z < x) := by omega
          have d2n : ¬ (x + 1 < z) := by omega
          have d3n : ¬ (x = 0) := by omega
          have d3m : ¬ (x < 1) := by omega
          have d1d : decide (z < x) = false := decide_eq_false d1n
          have d3d : decide ((x : Int) < 1) = false := decide_eq_false (by omega)
          have d4d : decide (M < (x : Int)) = false := decide_eq_false (by omega)
          have d2d : decide ((x : Int) + 1 < (z : Int)) = false := decide_eq_false (by omega)
          have d3 : ¬ ((x : Int) < 1) := by omega
          have d4 : ¬ (M < (x : Int)) := by omega
          subst hade
          subst hbde
          clear e1 e2 gx gz hltC
          go_wp2_with fail
          go_quiet (fail)
          go_wp2_with fail
          have HW2 : Hid (Below w9.heap.size w9 (wr.drewN nq)) := HW.out.trans ((Iia.below_drewN _ _).mono HW.out.size)
          go_roundw
          case rel => exact ⟨k + 1, by omega, by go_num, HW2⟩
          case measure => simp [intOf]; omega
        · obtain rfl : k = A.length := by omega
          have HBe : Hid (Below w.heap.size w wr) := HB9.out.trans (HW.out.mono HB9.out.size)
          clear HF6 HAL HCL
          go_wp2_with fail
          go_ret
          exact ⟨rfl, HBe.out⟩
    · have hdp : decide (0 < N) = false := decide_eq_false hp
      clear HP4 y2
      go_wp2_with fail
      refine (drawWork_any _ n2 _ HMU.out (by omega)).mono ?_
      rintro e w5 ⟨r, l, M, rfl, hl, hv, hb5⟩
      obtain ⟨b, cb, rfl, hIW, hcb, _⟩ := iw_cap hv
      have HB5 : Hid (Below w.heap.size w w5) := HB4.out.trans (hb5.mono HB4.out.size)
      have HV5 : Hid (IL w5 b l w4.heap.size w5.heap.size) := hIW.il
      clear hb5 hv hIW HMU HB4
      have HWi : Hid _ := fun (M : Int) wx lo hi h => implWork_any b cb l M wx lo hi (by omega) hcb h
      have HWs : Hid _ := fun wx lo hi h => specWork_any b cb l M wx lo hi (by omega) hcb h
      have HWk : Hid _ := HWi.out M
      have HWk1 : Hid _ := HWi.out (M + 1)
      have hWl := wk_small (N := M) hl
      have hWl1 := wk_small (N := M + 1) hl
      have hfac := work_facts (l := l) (N := M)
      generalize wkL l M = A at *
      generalize wkL l (M + 1) = C at *
      generalize wkB l M = is at *
      generalize wkB l (M + 1) = is1 at *
      have HFac : Hid _ := hfac
      clear hfac HWi
      go_wp2_with fail
      refine (HWk.out _ _ _ HV5.out).mono ?_
      rintro e w6 ⟨⟨r, rfl, hr⟩, hb6⟩
      obtain ⟨a6, c6, rfl, hp6, hc6, hm6⟩ := iw_cap hr
      have HB6 : Hid (Below w.heap.size w w6) := HB5.out.trans (hb6.mono HB5.out.size)
      have HV6 : Hid (IL w6 b l w4.heap.size w5.heap.size) := HV5.out.below hb6
      have HP6 : Hid (IL w6 a6 A w5.heap.size w6.heap.size) := hp6.il
      clear hr hb6 hp6 HB5 HV5 HWk
      go_wp2_with fail
      refine (HWs.out _ _ _ HV6.out).mono ?_
      rintro e w7 ⟨⟨r, rfl, hr⟩, hb7⟩
      obtain ⟨a7, c7, rfl, hp7, hc7, hm7⟩ := iw_cap hr
      have HB7 : Hid (Below w.heap.size w w7) := HB6.out.trans (hb7.mono HB6.out.size)
      have HV7 : Hid (IL w7 b l w4.heap.size w5.heap.size) := HV6.out.below hb7
      have HP7 : Hid (IL w7 a6 A w5.heap.size w6.heap.size) := HP6.out.below hb7
      have HQ7 : Hid (IL w7 a7 A w6.heap.size w7.heap.size) := hp7.il
      clear hr hb7 hp7 HB6 HV6 HP6 HWs
      have HSn : Hid _ := fun wx lo hi lo' hi' x y => sameI_any a6 a7 c6 c7 A wx lo hi lo' hi' (by omega) x y
      go_wp2_with fail
      refine (HSn.out _ _ _ _ _ HP7.out HQ7.out).mono ?_
      rintro e w8 ⟨rfl, hb8⟩
      have HB8 : Hid (Below w.heap.size w w8) := HB7.out.trans (hb8.mono HB7.out.size)
      have HV8 : Hid (IL w8 b l w4.heap.size w5.heap.size) := HV7.out.below hb8
      have HP8 : Hid (IL w8 a6 A w5.heap.size w6.heap.size) := HP7.out.below hb8
      clear hb8 HB7 HV7 HP7 HQ7 HSn
      cases is
      · clear HFac HWk1 HV8 HP8
        go_wp2_with fail
        go_ret
        exact ⟨rfl, HB8.out⟩
      by_cases h200 : M = 200
      · subst h200
        clear HFac HWk1 HV8 HP8
        go_wp2_with fail
        go_ret
        exact ⟨rfl, HB8.out⟩
      obtain ⟨f1, f2, f3, f4, f5, f6⟩ := HFac.out rfl h200
      subst f1
      have HF6 : Hid _ := f6
      have hlenI : (C.length : Int) = (A.length : Int) := by omega
      have hlenN : C.length = A.length := by omega
      have HAL : Hid (A.length = l.length) := f2
      have HCL : Hid (C.length = A.length) := hlenN
      clear HFac f6 f2 f3 hlenI
      go_wp2_with fail
      refine (HWk1.out _ _ _ HV8.out).mono ?_
      rintro e w9 ⟨⟨r, rfl, hr⟩, hb9⟩
      obtain ⟨a9, c9, rfl, hp9, hc9, hm9⟩ := iw_cap hr
      have HB9 : Hid (Below w.heap.size w w9) := HB8.out.trans (hb9.mono HB8.out.size)
      have HP9 : Hid (IL w9 a6 A w5.heap.size w6.heap.size) := HP8.out.below hb9
      have HC9 : Hid (IL w9 a9 C w8.heap.size w9.heap.size) := hp9.il
      clear hr hb9 hp9 HB8 HV8 HP8 HWk1
      go_wp2_with fail
      clear hlenN
      go_loopw [138] (fun i wr => ∃ k : Nat, k ≤ A.length ∧ i = .int .i64 k ∧ Hid (Below w9.heap.size w9 wr)) (fun i _ => A.length - (intOf i).toNat)
      case atStart => exact ⟨0, Nat.zero_le _, rfl, Below.refl _ _⟩
      case round =>
        obtain ⟨k, hk, rfl, HW⟩ := hrel
        by_cases hlt : k < A.length
        · obtain ⟨x, z, gx, gz, k1, k2, k3, k4⟩ := HF6.out k (by rw [← HAL.out]; exact hlt)
          have hltC : k < C.length := by rw [HCL.out]; exact hlt
          obtain ⟨ad, hade, hcA⟩ := (HP9.out.below HW.out).cell hlt
          obtain ⟨bd, hbde, hcC⟩ := (HC9.out.below HW.out).cell hltC
          have e1 : A[k] = (x : Int) := by rw [List.getElem?_eq_getElem hlt] at gx; exact Option.some.inj gx
          have e2 : C[k] = (z : Int) := by rw [List.getElem?_eq_getElem hltC] at gz; exact Option.some.inj gz
          rw [e1] at hcA
          rw [e2] at hcC
          have d1 : ¬ ((z : Int) < (x : Int)) := by omega
          have d2 : ¬ ((x : Int) + 1 < (z : Int)) := by omega
          have hx200 : x ≤ 200 := by omega
          have d1n : ¬ (z < x) := by omega
          have d2n : ¬ (x + 1 < z) := by omega
          have d3n : ¬ (x = 0) := by omega
          have d3m : ¬ (x < 1) := by omega
          have d1d : decide (z < x) = false := decide_eq_false d1n
          have d3d : decide ((x : Int) < 1) = false := decide_eq_false (by omega)
          have d4d : decide (M < (x : Int)) = false := decide_eq_false (by omega)
          have d2d : decide ((x : Int) + 1 < (z : Int)) = false := decide_eq_false (by omega)
          have d3 : ¬ ((x : Int) < 1) := by omega
          have d4 : ¬ (M < (x : Int)) := by omega
          subst hade
          subst hbde
          clear e1 e2 gx gz hltC
          go_wp2_with fail
          go_quiet (fail)
          go_wp2_with fail
          have HW2 : Hid (Below w9.heap.size w9 (wr.drewN nq)) := HW.out.trans ((Iia.below_drewN _ _).mono HW.out.size)
          go_roundw
          case rel => exact ⟨k + 1, by omega, by go_num, HW2⟩
          case measure => simp [intOf]; omega
        · obtain rfl : k = A.length := by omega
          have HBe : Hid (Below w.heap.size w wr) := HB9.out.trans (HW.out.mono HB9.out.size)
          clear HF6 HAL HCL
          go_wp2_with fail
          go_ret
          exact ⟨rfl, HBe.out⟩

end Go.Proofs.Yteniompfkfhemaa.Iiz
