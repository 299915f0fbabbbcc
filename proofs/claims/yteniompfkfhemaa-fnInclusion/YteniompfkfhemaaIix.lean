/-
  Walk: the law FnInclusion.
-/
import Derived.Test.YteniompfkfhemaaIiu
import Derived.Test.YteniompfkfhemaaIiv
namespace Go.Proofs.Yteniompfkfhemaa.Iix
open Go.RowKit
open Go.Proofs.Yteniompfkfhemaa.Iit
open Go.Proofs.Yteniompfkfhemaa.Cur (CodeArg)
open Go.Proofs.Yteniompfkfhemaa.Iia (intsIn IW IL playLru_any specLru_any stackAfter_any plB plL plH pl_no pl_yes refsB szB sz_iff runM run_inv held_take held_len hits_mono hits_le stk)

theorem lru_facts {l : List Int} {N : Int} (h : plB l N = true) : plB l 40 = true ∧ (plL true l N).length ≤ (plL true l 40).length ∧ plL true l N = (plL true l 40).take (plL true l N).length ∧ (((plL true l N).length : Int) < N → (plL true l N).length = (plL true l 40).length) ∧ (plL true l 40).length ≤ 40 ∧ 0 ≤ N ∧ N ≤ 40 := by
  have hh := h
  unfold plB at hh
  rw [Bool.and_eq_true] at hh
  obtain ⟨z0, z1⟩ := sz_iff.1 hh.2
  have h40 : plB l 40 = true := by unfold plB; rw [hh.1]; rfl
  have e1 := (pl_yes (mv := true) h).1
  have e2 := (pl_yes (mv := true) h40).1
  have e40 : (40 : Int).toNat = 40 := rfl
  rw [e40] at e2
  have l1 := held_len N.toNat l
  have l2 := held_len 40 l
  have t := held_take (n := N.toNat) (m := 40) l (by omega)
  refine ⟨h40, ?_, ?_, fun hlt => ?_, ?_, z0, z1⟩
  · rw [e1, e2]; omega
  · rw [e1, e2]; exact t
  · rw [e1] at hlt; rw [e1, e2]; omega
  · rw [e2]; omega
theorem lru_more {l : List Int} {N : Int} (h : plB l N = true) (hN : N ≠ 40) : plB l (N + 1) = true ∧ plH true l N ≤ plH true l (N + 1) ∧ (plL true l N).length ≤ (plL true l (N + 1)).length ∧ plL true l N = (plL true l (N + 1)).take (plL true l N).length ∧ (plL true l (N + 1)).length ≤ 40 := by
  have hh := h
  unfold plB at hh
  rw [Bool.and_eq_true] at hh
  obtain ⟨z0, z1⟩ := sz_iff.1 hh.2
  have h1 : plB l (N + 1) = true := by unfold plB; rw [hh.1, sz_iff.2 (by omega)]; rfl
  have e1 := pl_yes (mv := true) h
  have e2 := pl_yes (mv := true) h1
  have en : (N + 1).toNat = N.toNat + 1 := by omega
  rw [en] at e2
  have l1 := held_len N.toNat l
  have l2 := held_len (N.toNat + 1) l
  have t := held_take (n := N.toNat) (m := N.toNat + 1) l (by omega)
  have hm := hits_mono N.toNat l
  refine ⟨h1, ?_, ?_, ?_, ?_⟩
  · rw [e1.2, e2.2]; omega
  · rw [e1.1, e2.1]; omega
  · rw [e1.1, e2.1]; exact t
  · rw [e2.1]; omega
theorem hits_bd (l : List Int) (N : Int) : 0 ≤ plH true l N ∧ plH true l N ≤ (l.length : Int) := by
  unfold plH
  split
  · have := hits_le true N.toNat l l.length (Nat.le_refl _)
    rw [List.take_length] at this
    omega
  · omega

set_option maxRecDepth 20000 in
set_option maxHeartbeats 1600000 in
theorem walk (u : Value) (n : Nat) (w : World) (hU : CodeArg w u n) (hn : n ≤ 140737488355328) :
    Calls Try.prog 3 #[u] w fun e w' => e = .returned (.bool true) ∧ Below w.heap.size w w' := by
  obtain ⟨o1, cap1, rfl⟩ := hU.form
  have HU : Hid (CodeArg w (.slice o1 n cap1) n) := hU
  clear hU
  by_cases hz : 1048576 < n
  · have hd : decide ((1048576 : Int) < (n : Int)) = true := decide_eq_true (by omega)
    go_enter Try.func3, Try.ntmps3
    go_wp2_with fail
    go_ret
    exact ⟨rfl, Below.refl _ _⟩
  have hd : decide ((1048576 : Int) < (n : Int)) = false := decide_eq_false (by omega)
  go_enter Try.func3, Try.ntmps3
  go_wp2_with fail
  refine (drawLru_any _ n _ HU.out (by omega)).mono ?_
  rintro e w1 ⟨r, l, N, rfl, hl, hv, hb1⟩
  obtain ⟨a, ca, rfl, hIW, _, _⟩ := iw_cap hv
  have HB1 : Hid (Below w.heap.size w w1) := hb1
  have HV1 : Hid (IL w1 a l w.heap.size w1.heap.size) := hIW.il
  clear hb1 hv hIW HU
  have HI : Hid _ := fun (N : Int) wx lo hi h => playLru_any a ca l N wx lo hi (by omega) h
  have HS : Hid _ := fun wx lo hi h => specLru_any a ca l N wx lo hi (by omega) h
  have HK : Hid _ := fun wx lo hi h => stackAfter_any a ca l wx lo hi (by omega) h
  have hbd := hits_bd l N
  go_wp2_with fail
  refine (HI.out N _ _ _ HV1.out).mono ?_
  rintro e w2 ⟨⟨r, rfl, hr⟩, hb2⟩
  obtain ⟨a2, c2, rfl, hp2, hc2, hm2⟩ := iw_cap hr
  have HB2 : Hid (Below w.heap.size w w2) := HB1.out.trans (hb2.mono HB1.out.size)
  have HV2 : Hid (IL w2 a l w.heap.size w1.heap.size) := HV1.out.below hb2
  have HP2 : Hid (IL w2 a2 (plL true l N) w1.heap.size w2.heap.size) := hp2.il
  clear hr hb2 hp2 HB1 HV1
  go_wp2_with fail
  refine (HS.out _ _ _ HV2.out).mono ?_
  rintro e w3 ⟨⟨r, rfl, hr⟩, hb3⟩
  obtain ⟨a3, c3, rfl, hp3, hc3, hm3⟩ := iw_cap hr
  have HB3 : Hid (Below w.heap.size w w3) := HB2.out.trans (hb3.mono HB2.out.size)
  have HV3 : Hid (IL w3 a l w.heap.size w1.heap.size) := HV2.out.below hb3
  have HP3 : Hid (IL w3 a2 (plL true l N) w1.heap.size w2.heap.size) := HP2.out.below hb3
  have HQ3 : Hid (IL w3 a3 (plL true l N) w2.heap.size w3.heap.size) := hp3.il
  clear hr hb3 hp3 HB2 HV2 HP2 HS
  cases hok : plB l N
  · have hnil := (pl_no (mv := true) hok).1
    have hnilH := (pl_no (mv := true) hok).2
    rw [hnil] at HP3 HQ3 ⊢
    rw [hnilH]
    have HSm : Hid _ := fun wx lo hi lo' hi' x y => sameI_any a2 a3 c2 c3 ([] : List Int) wx lo hi lo' hi' (by simp) x y
    clear hnil hnilH hbd hok HI HK
    go_wp2_with (go_at_call 17; refine (HSm.out _ _ _ _ _ HP3.out HQ3.out).mono ?_; rintro e w4 ⟨rfl, hb4⟩)
    have HB4 : Hid (Below w.heap.size w w4) := HB3.out.trans (hb4.mono HB3.out.size)
    clear hb4
    go_ret
    exact ⟨rfl, HB4.out⟩
  obtain ⟨f40, f1, f2, f3, f4, f5, f6⟩ := lru_facts hok
  have HMore : Hid (N ≠ 40 → plB l (N + 1) = true ∧ plH true l N ≤ plH true l (N + 1) ∧ (plL true l N).length ≤ (plL true l (N + 1)).length ∧ plL true l N = (plL true l (N + 1)).take (plL true l N).length ∧ (plL true l (N + 1)).length ≤ 40) := fun h => lru_more hok h
  rw [f40] at HK
  obtain ⟨H, hH⟩ : ∃ H, H = plH true l N := ⟨_, rfl⟩
  obtain ⟨S, hS⟩ : ∃ S, S = plL true l N := ⟨_, rfl⟩
  obtain ⟨All, hA⟩ : ∃ S, S = plL true l 40 := ⟨_, rfl⟩
  rw [← hS] at HP3 HQ3 f1 f2 f3 HMore hc2 hc3 ⊢
  rw [← hA] at HK f1 f2 f3 f4
  rw [← hH] at HMore hbd ⊢
  have HSm : Hid _ := fun wx lo hi lo' hi' x y => sameI_any a2 a3 c2 c3 S wx lo hi lo' hi' (by omega) x y
  have HF2 : Hid (S = All.take S.length) := f2
  have hF3 : ((S.length : Int) < N) → (S.length : Int) = (All.length : Int) := fun h => by have := f3 h; omega
  have HF3 : Hid _ := hF3
  clear f2 f3 hF3 f40 hH hS hA hok
  have hsl : S.length ≤ 40 := by omega
  go_wp2_with (go_at_call 17; refine (HSm.out _ _ _ _ _ HP3.out HQ3.out).mono ?_; rintro e w4 ⟨rfl, hb4⟩)
  have HB4 : Hid (Below w.heap.size w w4) := HB3.out.trans (hb4.mono HB3.out.size)
  have HV4 : Hid (IL w4 a l w.heap.size w1.heap.size) := HV3.out.below hb4
  have HP4 : Hid (IL w4 a2 S w1.heap.size w2.heap.size) := HP3.out.below hb4
  clear hb4 HB3 HV3 HP3 HQ3 HSm
  refine (HK.out _ _ _ HV4.out).mono ?_
  rintro e w5 ⟨⟨r, rfl, hr⟩, hb5⟩
  obtain ⟨a5, c5, rfl, hp5, hc5, hm5⟩ := iw_cap hr
  have HB5 : Hid (Below w.heap.size w w5) := HB4.out.trans (hb5.mono HB4.out.size)
  have HV5 : Hid (IL w5 a l w.heap.size w1.heap.size) := HV4.out.below hb5
  have HP5 : Hid (IL w5 a2 S w1.heap.size w2.heap.size) := HP4.out.below hb5
  have HA5 : Hid (IL w5 a5 S w4.heap.size w5.heap.size) := by
    have := hp5.il.take S.length
    rw [← HF2.out] at this
    exact this
  clear hr hb5 hp5 HB4 HV4 HP4 HK
  have hS5 : S.length ≤ c5 := by omega
  have hd1 : ¬ (All.length < S.length) := by omega
  have hd1i : ¬ ((All.length : Int) < (S.length : Int)) := by omega
  have HSm : Hid _ := fun wx lo hi lo' hi' x y => sameI_any a2 a5 c2 c5 S wx lo hi lo' hi' (by omega) x y
  by_cases h40 : N = 40
  · subst h40
    by_cases hlN : (S.length : Int) < 40
    · have hEq := HF3.out hlN
      have hAS : S = All := by
        have := HF2.out
        rw [List.take_of_length_le (by omega)] at this
        exact this
      subst hAS
      clear HMore HF3 HI HF2 hEq f1 hd1 hd1i
      go_wp2_with (go_at_call 17; refine (HSm.out _ _ _ _ _ HP5.out HA5.out).mono ?_; rintro e w6 ⟨rfl, hb6⟩)
      have HB6 : Hid (Below w.heap.size w w6) := HB5.out.trans (hb6.mono HB5.out.size)
      clear hb6
      go_ret
      exact ⟨rfl, HB6.out⟩
    · clear HMore HF3 HI HF2
      go_wp2_with (go_at_call 17; refine (HSm.out _ _ _ _ _ HP5.out HA5.out).mono ?_; rintro e w6 ⟨rfl, hb6⟩)
      have HB6 : Hid (Below w.heap.size w w6) := HB5.out.trans (hb6.mono HB5.out.size)
      clear hb6
      go_ret
      exact ⟨rfl, HB6.out⟩
  · obtain ⟨m1, m2, m3, m4, m5⟩ := HMore.out h40
    have HI1 : Hid _ := HI.out (N + 1)
    rw [m1] at HI1
    have hbd2 := hits_bd l (N + 1)
    obtain ⟨T, hT⟩ : ∃ T, T = plL true l (N + 1) := ⟨_, rfl⟩
    obtain ⟨H2, hH2⟩ : ∃ T, T = plH true l (N + 1) := ⟨_, rfl⟩
    rw [← hT] at HI1 m3 m4 m5
    rw [← hH2] at HI1 m2 hbd2
    have HM4 : Hid (S = T.take S.length) := m4
    have hw1 : IntKind.i64.wrap (N + 1) = N + 1 := by rw [IntKind.wrap_i64]; omega
    have hd2 : ¬ ((T.length : Int) < (S.length : Int)) := by omega
    have hd3 : (S.length : Int) ≤ (T.length : Int) := by omega
    clear HMore HI m1 m4 hT hH2
    by_cases hlN : (S.length : Int) < N
    · have hEq := HF3.out hlN
      have hAS : S = All := by
        have := HF2.out
        rw [List.take_of_length_le (by omega)] at this
        exact this
      subst hAS
      clear HF3 HF2 hEq f1 hd1 hd1i
      go_wp2_with (go_at_call 17; refine (HSm.out _ _ _ _ _ HP5.out HA5.out).mono ?_; rintro e w6 ⟨rfl, hb6⟩)
      have HB6 : Hid (Below w.heap.size w w6) := HB5.out.trans (hb6.mono HB5.out.size)
      have HV6 : Hid (IL w6 a l w.heap.size w1.heap.size) := HV5.out.below hb6
      have HP6 : Hid (IL w6 a2 S w1.heap.size w2.heap.size) := HP5.out.below hb6
      clear hb6 HB5 HV5 HP5 HA5 HSm
      try go_wp2_with fail
      refine (HI1.out _ _ _ HV6.out).mono ?_
      rintro e w7 ⟨⟨r, rfl, hr⟩, hb7⟩
      obtain ⟨a7, c7, rfl, hp7, hc7, hm7⟩ := iw_cap hr
      have HB7 : Hid (Below w.heap.size w w7) := HB6.out.trans (hb7.mono HB6.out.size)
      have HP7 : Hid (IL w7 a2 S w1.heap.size w2.heap.size) := HP6.out.below hb7
      have HT7 : Hid (IL w7 a7 S w6.heap.size w7.heap.size) := by
        have := hp7.il.take S.length
        rw [← HM4.out] at this
        exact this
      have HSn : Hid _ := fun wx lo hi lo' hi' x y => sameI_any a7 a2 c7 c2 S wx lo hi lo' hi' (by omega) x y
      have hS7 : S.length ≤ c7 := by omega
      clear hr hb7 hp7 HB6 HV6 HP6 HI1 HM4
      go_wp2_with (go_at_call 17; refine (HSn.out _ _ _ _ _ HT7.out HP7.out).mono ?_; rintro e w8 ⟨rfl, hb8⟩)
      have HB8 : Hid (Below w.heap.size w w8) := HB7.out.trans (hb8.mono HB7.out.size)
      clear hb8
      go_ret
      exact ⟨rfl, HB8.out⟩
    · clear HF3 HF2
      go_wp2_with (go_at_call 17; refine (HSm.out _ _ _ _ _ HP5.out HA5.out).mono ?_; rintro e w6 ⟨rfl, hb6⟩)
      have HB6 : Hid (Below w.heap.size w w6) := HB5.out.trans (hb6.mono HB5.out.size)
      have HV6 : Hid (IL w6 a l w.heap.size w1.heap.size) := HV5.out.below hb6
      have HP6 : Hid (IL w6 a2 S w1.heap.size w2.heap.size) := HP5.out.below hb6
      clear hb6 HB5 HV5 HP5 HA5 HSm
      try go_wp2_with fail
      refine (HI1.out _ _ _ HV6.out).mono ?_
      rintro e w7 ⟨⟨r, rfl, hr⟩, hb7⟩
      obtain ⟨a7, c7, rfl, hp7, hc7, hm7⟩ := iw_cap hr
      have HB7 : Hid (Below w.heap.size w w7) := HB6.out.trans (hb7.mono HB6.out.size)
      have HP7 : Hid (IL w7 a2 S w1.heap.size w2.heap.size) := HP6.out.below hb7
      have HT7 : Hid (IL w7 a7 S w6.heap.size w7.heap.size) := by
        have := hp7.il.take S.length
        rw [← HM4.out] at this
        exact this
      have HSn : Hid _ := fun wx lo hi lo' hi' x y => sameI_any a7 a2 c7 c2 S wx lo hi lo' hi' (by omega) x y
      have hS7 : S.length ≤ c7 := by omega
      clear hr hb7 hp7 HB6 HV6 HP6 HI1 HM4
      go_wp2_with (go_at_call 17; refine (HSn.out _ _ _ _ _ HT7.out HP7.out).mono ?_; rintro e w8 ⟨rfl, hb8⟩)
      have HB8 : Hid (Below w.heap.size w w8) := HB7.out.trans (hb8.mono HB7.out.size)
      clear hb8
      go_ret
      exact ⟨rfl, HB8.out⟩

end Go.Proofs.Yteniompfkfhemaa.Iix
