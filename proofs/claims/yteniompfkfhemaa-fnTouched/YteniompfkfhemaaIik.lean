/-
  Walks: spec.l10Touch, l10Play, PlayLru, StackAfter.
-/
import Derived.Test.YteniompfkfhemaaIij
namespace Go.Proofs.Yteniompfkfhemaa.Iia
open Go.RowKit

theorem srcI_in {w : World} {B : Nat} {v : Value} {l : List Int} (h : intsIn w B v l) : SrcI w v l := by
  rcases h.2 with ⟨rfl, h0⟩ | ⟨g, cap, cur, rfl, rest⟩
  · exact .inl ⟨rfl, by simpa using h0⟩
  · exact .inr ⟨⟨g, 0, none⟩, cap, rfl, fun j u hj => World.ownsRow.cells h (g := g) rfl j u hj⟩
theorem intsIn.take {w : World} {B g m cap : Nat} {l : List Int} (h : intsIn w B (.slice (some ⟨g, 0, none⟩) m cap) l) (n : Nat) (hn : n ≤ l.length) : intsIn w B (.slice (some ⟨g, 0, none⟩) n cap) (l.take n) := by
  have hl : (l.take n).length = n := by rw [List.length_take]; omega
  rcases h.2 with ⟨hh, _⟩ | ⟨g', cap', cur, he, hB, hg, h1, h2, h3, h4⟩
  · cases hh
  · injection he with e1 e2 e3
    injection e1 with e1
    injection e1 with e1 _ _
    subst e1
    subst e3
    refine ⟨by rw [flI_len]; omega, .inr ⟨g, cap, cur, by rw [hl], hB, hg, by omega, h2, h3, ?_⟩⟩
    have e5 : flI (l.take n) = (flI l).take n := by simp [flI]
    rw [e5, ← h4, List.take_take, hl]
    congr 1; omega
theorem intsIn.one (w : World) (B : Nat) (y : Int) (h : B ≤ w.heap.size) : intsIn (w.alloc (.cells #[.int .i64 y] 3)) B (.slice (some ⟨w.heap.size, 0, none⟩) 1 1) [y] :=
  ⟨rfl, .inr ⟨w.heap.size, 1, #[.int .i64 y], rfl, h, by show (w.heap.push _)[w.heap.size]? = _; simp, Nat.le_refl _, by decide, rfl, rfl⟩⟩
theorem filter_take (s : List Int) (y : Int) (k : Nat) (h : k < s.length) : (s.take (k + 1)).filter (· != y) = (s.take k).filter (· != y) ++ (if s[k] = y then [] else [s[k]]) := by
  rw [List.take_succ_eq_append_getElem h, List.filter_append]
  by_cases e : s[k] = y
  · simp [e]
  · simp [e]

set_option maxHeartbeats 1600000 in
theorem l10Touch_any (a : Option Addr) (ca : Nat) (s : List Int) (y : Int) (n : Nat) (w : World) (lo hi : Nat) (hl : s.length ≤ 2000000) (ha : IL w a s lo hi) :
    Calls Try.prog 57 #[.slice a s.length ca, .int .i64 y, .int .i64 n] w fun e w' => (∃ r, e = .returned (.tuple #[r, .bool (s.contains y)]) ∧ intsIn w' w.heap.size r (tchN n s y)) ∧ Below w.heap.size w w' := by
  have HA : Hid (IL w a s lo hi) := ha
  clear ha
  obtain ⟨cb, hcb⟩ : ∃ c, c = s.contains y := ⟨_, rfl⟩
  have HCB : Hid (cb = s.contains y) := hcb
  rw [← hcb]
  clear hcb
  have HO0 : Hid (intsIn (w.alloc (.cells #[.int .i64 y] 3)) w.heap.size (.slice (some ⟨w.heap.size, 0, none⟩) 1 1) (y :: (s.take 0).filter (· != y))) := intsIn.one w _ y (Nat.le_refl _)
  have HB0 : Hid (Below w.heap.size w (w.alloc (.cells #[.int .i64 y] 3))) := (Below.refl _ _).alloc (Nat.le_refl _) _
  go_enter Try.func57, Try.ntmps57
  go_wp2_with fail
  go_loopw [8, 9, 16] (fun o h i wr => ∃ (k : Nat) (b : Bool), k ≤ s.length ∧ i = .int .i64 k ∧ h = .bool b ∧ Hid ((s.take k).contains y = b) ∧ Hid (intsIn wr w.heap.size o (y :: (s.take k).filter (· != y))) ∧ Hid (Below w.heap.size w wr)) (fun _ _ i _ => s.length - (intOf i).toNat)
  case atStart => exact ⟨0, false, Nat.zero_le _, rfl, rfl, rfl, HO0, HB0⟩
  case round =>
    obtain ⟨k, b, hk, rfl, rfl, HC, HO, HB⟩ := hrel
    by_cases hlt : k < s.length
    · obtain ⟨ad, rfl, hc⟩ := (HA.out.below HB.out).cell hlt
      have HCt : Hid ((s.take (k + 1)).contains y = ((s.take k).contains y || (s[k] == y))) := take_contains s k hlt y
      have HF : Hid ((s.take (k + 1)).filter (· != y) = (s.take k).filter (· != y) ++ (if s[k] = y then [] else [s[k]])) := filter_take s y k hlt
      generalize s[k] = x at *
      by_cases he : x = y
      · subst he
        have HC2 : Hid ((s.take (k + 1)).contains x = true) := by show _ = _; rw [HCt.out]; simp
        have HO2 : Hid (intsIn wr w.heap.size u8 (x :: (s.take (k + 1)).filter (· != x))) := by show intsIn _ _ _ _; rw [HF.out, if_pos rfl, List.append_nil]; exact HO.out
        clear HF HCt HC HO
        go_wp2_with fail
        go_roundw
        case rel => exact ⟨k + 1, true, by omega, by go_num, rfl, HC2, HO2, HB⟩
        case measure => simp [intOf]; omega
      · have hd : decide (x = y) = false := decide_eq_false he
        have HC2 : Hid ((s.take (k + 1)).contains y = b) := by show _ = _; rw [HCt.out, HC.out, beq_false_of_ne he, Bool.or_false]
        have HF2 : Hid (y :: (s.take (k + 1)).filter (· != y) = (y :: (s.take k).filter (· != y)) ++ [x]) := by show _ = _; rw [HF.out, if_neg he]; rfl
        have hlen : (y :: (s.take k).filter (· != y)).length + 1 ≤ 4000000 := by
          have h1 := List.length_filter_le (· != y) (s.take k)
          rw [List.length_take] at h1
          rw [List.length_cons]; omega
        have HLen : Hid _ := hlen
        clear HF HCt HC hlen
        go_wp2_with (at_builtin; refine wpList_append_int wr rfl _ _ rfl w.heap.size _ _ (by rfl) HO.out x _ rfl HLen.out HB.out.size w.heap.size (Nat.le_refl _) w HB.out ?_)
        intro v2 w2 hown2 hb2
        have HO2 : Hid (intsIn w2 w.heap.size v2 (y :: (s.take (k + 1)).filter (· != y))) := by show intsIn _ _ _ _; rw [HF2.out]; exact hown2
        have HB2 : Hid (Below w.heap.size w w2) := hb2
        clear hown2 hb2 HO HB HF2
        go_wp2_with fail
        go_roundw
        case rel => exact ⟨k + 1, b, by omega, by go_num, rfl, HC2, HO2, HB2⟩
        case measure => simp [intOf]; omega
    · obtain rfl : k = s.length := by omega
      have HE : Hid (tchN n s y = (y :: (s.take s.length).filter (· != y)).take n) := by show _ = _; rw [List.take_length]; rfl
      have HC2 : Hid (s.contains y = b) := by have := HC.out; rwa [List.take_length] at this
      have HO2 := HO.out
      obtain ⟨L, hL⟩ : ∃ L, L = y :: (s.take s.length).filter (· != y) := ⟨_, rfl⟩
      rw [← hL] at HE HO2
      have hLl : L.length ≤ 2000001 := by
        rw [hL, List.length_cons, List.take_length]
        have := List.length_filter_le (· != y) s
        omega
      have hL1 : 0 < L.length := by rw [hL]; simp
      clear hL HC HO
      obtain ⟨g, cap, cur, hv, hrest⟩ : ∃ g cap cur, u8 = .slice (some ⟨g, 0, none⟩) L.length cap ∧ (L.length ≤ cap ∧ cap ≤ maxLen ∧ cur = 0) := by
        rcases HO2.2 with ⟨_, h0⟩ | ⟨g, cap, cur, h, _, _, h1, h2, _⟩
        · omega
        · exact ⟨g, cap, 0, h, h1, h2, rfl⟩
      subst hv
      obtain ⟨h1, h2, _⟩ := hrest
      unfold maxLen at h2
      by_cases hgt : n < L.length
      · have HT : Hid (intsIn wr w.heap.size (.slice (some ⟨g, 0, none⟩) n cap) (tchN n s y)) := by show intsIn _ _ _ _; rw [HE.out]; exact HO2.take n (by omega)
        have hgi : (n : Int) < (L.length : Int) := by omega
        have hnc : n ≤ cap := by omega
        clear HE HO2
        go_wp2_with fail
        go_ret2
        exact ⟨⟨_, by rw [HCB.out, HC2.out]; rfl, HT.out⟩, HB.out⟩
      · have HT : Hid (intsIn wr w.heap.size (.slice (some ⟨g, 0, none⟩) L.length cap) (tchN n s y)) := by show intsIn _ _ _ _; rw [HE.out, List.take_of_length_le (by omega)]; exact HO2
        have hgi : ¬ ((n : Int) < (L.length : Int)) := by omega
        clear HE HO2
        go_wp2_with fail
        go_ret2
        exact ⟨⟨_, by rw [HCB.out, HC2.out]; rfl, HT.out⟩, HB.out⟩

theorem hit_take (n : Nat) (l : List Int) (k : Nat) (h : k < l.length) : runM true n (l.take (k + 1)) = (tchN n (runM true n (l.take k)).1 l[k], (runM true n (l.take k)).2 + (if (runM true n (l.take k)).1.contains l[k] = true then 1 else 0)) := by
  rw [run_take true n l k h, stepT]
set_option maxHeartbeats 1600000 in
theorem l10Play_any (a : Option Addr) (ca : Nat) (l : List Int) (n : Nat) (w : World) (lo hi : Nat) (hn : n ≤ 1000) (hl : l.length ≤ 2000000) (ha : IL w a l lo hi) :
    Calls Try.prog 43 #[.slice a l.length ca, .int .i64 n] w fun e w' => (∃ r, e = .returned (.tuple #[r, .int .i64 ((runM true n l).2 : Int)]) ∧ intsIn w' w.heap.size r (runM true n l).1) ∧ Below w.heap.size w w' := by
  have HA : Hid (IL w a l lo hi) := ha
  clear ha
  have HTc : Hid (∀ k a c (w : World) lo hi y, IL w a (runM true n (l.take k)).1 lo hi → Calls Try.prog 57 #[.slice a (runM true n (l.take k)).1.length c, .int .i64 y, .int .i64 n] w fun e w' => (∃ r, e = .returned (.tuple #[r, .bool ((runM true n (l.take k)).1.contains y)]) ∧ intsIn w' w.heap.size r (tchN n (runM true n (l.take k)).1 y)) ∧ Below w.heap.size w w') :=
    fun k a c w lo hi y h => l10Touch_any a c _ y n w lo hi (by have := (run_inv true n (l.take k)).2; omega) h
  go_enter Try.func43, Try.ntmps43
  go_wp2_with fail
  go_loopw [6, 7, 14] (fun v h i wr => ∃ k : Nat, k ≤ l.length ∧ i = .int .i64 k ∧ h = .int .i64 ((runM true n (l.take k)).2 : Int) ∧ Hid (intsIn wr w.heap.size v (runM true n (l.take k)).1) ∧ Hid (Below w.heap.size w wr)) (fun _ _ i _ => l.length - (intOf i).toNat)
  case atStart => exact ⟨0, Nat.zero_le _, rfl, rfl, intsIn.nil _ _, Below.refl _ _⟩
  case round =>
    obtain ⟨k, hk, rfl, rfl, HO, HB⟩ := hrel
    have hhl := hits_le true n l k hk
    by_cases hlt : k < l.length
    · obtain ⟨ad, rfl, hc⟩ := (HA.out.below HB.out).cell hlt
      have HT : Hid (runM true n (l.take (k + 1)) = (tchN n (runM true n (l.take k)).1 l[k], (runM true n (l.take k)).2 + (if (runM true n (l.take k)).1.contains l[k] = true then 1 else 0))) := hit_take n l k hlt
      have HTk : Hid _ := HTc.out k
      obtain ⟨sa, sc, hsv, hIW⟩ := iw_of HO.out
      subst hsv
      generalize l[k] = x at *
      generalize (runM true n (l.take k)).1 = s at *
      generalize (runM true n (l.take k)).2 = h at *
      have HX : Hid _ := HTk.out sa sc wr _ _ x hIW.il
      clear HTk hIW
      cases hin : s.contains x
      · rw [hin] at HX
        have HT1 : Hid ((runM true n (l.take (k + 1))).1 = tchN n s x) := by show _ = _; rw [HT.out]
        have HT2 : Hid ((runM true n (l.take (k + 1))).2 = h) := by show _ = _; rw [HT.out, hin]; rfl
        clear HT hin
        go_wp2_with (go_at_call 57; refine Calls.mono HX.out ?_; rintro e w2 ⟨⟨r, rfl, hr⟩, hb2⟩)
        have HO2 : Hid (intsIn w2 w.heap.size r (runM true n (l.take (k + 1))).1) := by show intsIn _ _ _ _; rw [HT1.out]; exact hr.base HB.out.size
        have HB2 : Hid (Below w.heap.size w w2) := HB.out.trans (hb2.mono HB.out.size)
        clear hr hb2 HX HT1 HO
        go_roundw
        case rel => exact ⟨k + 1, by omega, by go_num, by rw [HT2.out], HO2, HB2⟩
        case measure => simp [intOf]; omega
      · rw [hin] at HX
        have HT1 : Hid ((runM true n (l.take (k + 1))).1 = tchN n s x) := by show _ = _; rw [HT.out]
        have HT2 : Hid ((runM true n (l.take (k + 1))).2 = h + 1) := by show _ = _; rw [HT.out, hin]; rfl
        clear HT hin
        go_wp2_with (go_at_call 57; refine Calls.mono HX.out ?_; rintro e w2 ⟨⟨r, rfl, hr⟩, hb2⟩)
        have HO2 : Hid (intsIn w2 w.heap.size r (runM true n (l.take (k + 1))).1) := by show intsIn _ _ _ _; rw [HT1.out]; exact hr.base HB.out.size
        have HB2 : Hid (Below w.heap.size w w2) := HB.out.trans (hb2.mono HB.out.size)
        clear hr hb2 HX HT1 HO
        go_roundw
        case rel => exact ⟨k + 1, by omega, by go_num, by rw [HT2.out]; go_num, HO2, HB2⟩
        case measure => simp [intOf]; omega
    · obtain rfl : k = l.length := by omega
      have HE : Hid (runM true n (l.take l.length) = runM true n l) := by show _ = _; rw [List.take_length]
      have ho := HO.out
      rw [HE.out] at ho
      obtain ⟨R, hR⟩ : ∃ R, R = runM true n l := ⟨_, rfl⟩
      have HR : Hid (R = runM true n l) := hR
      rw [HE.out]
      rw [← hR] at ho ⊢
      have HO2 : Hid _ := ho
      clear hR ho HO HTc
      go_wp2_with fail
      go_ret2
      refine ⟨⟨u6, ?_, ?_⟩, HB.out⟩
      · rw [← HR.out]; rfl
      · rw [← HR.out]; exact HO2.out

set_option maxHeartbeats 1600000 in
theorem specLru_any (a : Option Addr) (ca : Nat) (l : List Int) (N : Int) (w : World) (lo hi : Nat) (hl : l.length ≤ 2000000) (ha : IL w a l lo hi) :
    Calls Try.prog 16 #[.slice a l.length ca, .int .i64 N] w fun e w' => (∃ r, e = .returned (.tuple #[r, .int .i64 (plH true l N), .bool (plB l N)]) ∧ intsIn w' w.heap.size r (plL true l N)) ∧ Below w.heap.size w w' := by
  have HA : Hid (IL w a l lo hi) := ha
  have HG : Hid _ := goodS_any a ca l w lo hi hl ha
  have HZ : Hid (∀ w, Calls Try.prog 42 #[.int .i64 N, .int .i64 0, .int .i64 40] w fun e w' => e = .returned (.bool (szB N)) ∧ w' = w) := fun w => l1In_any N 0 40 w
  cases hg : refsB l
  · have hB : plB l N = false := by unfold plB; rw [hg]; rfl
    rw [hB, (pl_no hB).1, (pl_no hB).2]
    rw [hg] at HG
    clear hg hB ha
    go_enter Try.func16, Try.ntmps16
    go_wp2_with (go_at_call 31; refine Calls.mono HG.out ?_; rintro e w' ⟨rfl, hw⟩; obtain rfl := hw.symm)
    go_ret3
    exact ⟨⟨_, rfl, intsIn.nil _ _⟩, Below.refl _ _⟩
  cases hz : szB N
  · have hB : plB l N = false := by unfold plB; rw [hg, hz]; rfl
    rw [hB, (pl_no hB).1, (pl_no hB).2]
    rw [hg] at HG
    rw [hz] at HZ
    clear hg hB hz ha
    go_enter Try.func16, Try.ntmps16
    go_wp2_with (first
      | (go_at_call 31; refine Calls.mono HG.out ?_; rintro e w' ⟨rfl, hw⟩; obtain rfl := hw.symm)
      | (go_at_call 42; refine Calls.mono (HZ.out _) ?_; rintro e w' ⟨rfl, hw⟩; obtain rfl := hw.symm))
    go_ret3
    exact ⟨⟨_, rfl, intsIn.nil _ _⟩, Below.refl _ _⟩
  have hB : plB l N = true := by unfold plB; rw [hg, hz]; rfl
  rw [hB, (pl_yes hB).1, (pl_yes hB).2]
  obtain ⟨z0, z1⟩ := sz_iff.1 hz
  obtain ⟨n, hn⟩ := Int.eq_ofNat_of_zero_le z0
  subst hn
  have hn40 : n ≤ 40 := by omega
  rw [Int.toNat_natCast]
  rw [hg] at HG
  rw [hz] at HZ
  have HP : Hid _ := l10Play_any a ca l n w lo hi (by omega) hl ha
  have hRl := (run_inv true n l).2
  clear hg hB hz z0 z1 ha
  generalize runM true n l = R at *
  go_enter Try.func16, Try.ntmps16
  go_wp2_with (first
    | (go_at_call 31; refine Calls.mono HG.out ?_; rintro e w' ⟨rfl, hw⟩; obtain rfl := hw.symm)
    | (go_at_call 42; refine Calls.mono (HZ.out _) ?_; rintro e w' ⟨rfl, hw⟩; obtain rfl := hw.symm)
    | (go_at_call 43; refine Calls.mono HP.out ?_; rintro e w2 ⟨⟨r, rfl, hr⟩, hb2⟩; have hm : intsIn (w2.alloc (.cells #[] 3)) w.heap.size (.slice (some ⟨w2.heap.size, 0, none⟩) 0 0) [] := (intsIn.made w2 _ hb2.size); have hsr : SrcI (w2.alloc (.cells #[] 3)) r R.1 := (srcI_in (hr.alloc _)); have hbm := hb2.alloc hb2.size (.cells #[] 3))
    | (at_builtin; refine wpList_append_srcI _ rfl _ _ rfl w.heap.size _ [] (by rfl) hm _ R.1 (by rfl) hsr (by simp; omega) hbm.size w hbm ?_))
  intro v3 w3 hown3 hb3 _
  have HO3 : Hid (intsIn w3 w.heap.size v3 R.1) := hown3
  have HB3 : Hid _ := hb3
  clear hown3 hb3 hm hsr hbm
  go_wp2_with fail
  go_ret3
  exact ⟨⟨_, rfl, HO3.out⟩, HB3.out⟩

set_option maxHeartbeats 1600000 in
theorem specStack_any (a : Option Addr) (ca : Nat) (l : List Int) (w : World) (lo hi : Nat) (hl : l.length ≤ 2000000) (ha : IL w a l lo hi) :
    Calls Try.prog 38 #[.slice a l.length ca] w fun e w' => (∃ r, e = .returned (.tuple #[r, .bool (plB l 40)]) ∧ intsIn w' w.heap.size r (plL true l 40)) ∧ Below w.heap.size w w' := by
  have HG : Hid _ := goodS_any a ca l w lo hi hl ha
  cases hg : refsB l
  · have hB : plB l 40 = false := by unfold plB; rw [hg]; rfl
    rw [hB, (pl_no hB).1]
    rw [hg] at HG
    clear hg hB ha
    go_enter Try.func38, Try.ntmps38
    go_wp2_with (go_at_call 31; refine Calls.mono HG.out ?_; rintro e w' ⟨rfl, hw⟩; obtain rfl := hw.symm)
    go_ret2
    exact ⟨⟨_, rfl, intsIn.nil _ _⟩, Below.refl _ _⟩
  have hB : plB l 40 = true := by unfold plB; rw [hg]; rfl
  rw [hB, (pl_yes hB).1]
  have e40 : (40 : Int).toNat = 40 := rfl
  rw [e40]
  rw [hg] at HG
  have HP : Hid _ := l10Play_any a ca l 40 w lo hi (by omega) hl ha
  have hRl := (run_inv true 40 l).2
  clear hg hB ha e40
  generalize runM true 40 l = R at *
  go_enter Try.func38, Try.ntmps38
  go_wp2_with (first
    | (go_at_call 31; refine Calls.mono HG.out ?_; rintro e w' ⟨rfl, hw⟩; obtain rfl := hw.symm)
    | (go_at_call 43; refine Calls.mono HP.out ?_; rintro e w2 ⟨⟨r, rfl, hr⟩, hb2⟩; have hm : intsIn (w2.alloc (.cells #[] 3)) w.heap.size (.slice (some ⟨w2.heap.size, 0, none⟩) 0 0) [] := (intsIn.made w2 _ hb2.size); have hsr : SrcI (w2.alloc (.cells #[] 3)) r R.1 := (srcI_in (hr.alloc _)); have hbm := hb2.alloc hb2.size (.cells #[] 3))
    | (at_builtin; refine wpList_append_srcI _ rfl _ _ rfl w.heap.size _ [] (by rfl) hm _ R.1 (by rfl) hsr (by simp; omega) hbm.size w hbm ?_))
  intro v3 w3 hown3 hb3 _
  have HO3 : Hid (intsIn w3 w.heap.size v3 R.1) := hown3
  have HB3 : Hid _ := hb3
  clear hown3 hb3 hm hsr hbm
  go_wp2_with fail
  go_ret2
  exact ⟨⟨_, rfl, HO3.out⟩, HB3.out⟩

end Go.Proofs.Yteniompfkfhemaa.Iia
