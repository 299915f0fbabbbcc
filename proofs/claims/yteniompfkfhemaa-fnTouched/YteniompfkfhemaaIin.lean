/-
  Walks: TouchLru of impl and of spec.
-/
import Derived.Test.YteniompfkfhemaaIik
namespace Go.Proofs.Yteniompfkfhemaa.Iia
open Go.RowKit

def tcB (l : List Int) (y N : Int) : Bool := stkS l N && pgB y
def tcL (l : List Int) (y N : Int) : List Int := if tcB l y N = true then tchN N.toNat l y else []
def tcH (l : List Int) (y N : Int) : Bool := if tcB l y N = true then l.contains y else false
theorem tc_no {l : List Int} {y N : Int} (h : tcB l y N = false) : tcL l y N = [] ∧ tcH l y N = false := by unfold tcL tcH; rw [h]; exact ⟨rfl, rfl⟩
theorem tc_yes {l : List Int} {y N : Int} (h : tcB l y N = true) : tcL l y N = tchN N.toNat l y ∧ tcH l y N = l.contains y := by unfold tcL tcH; rw [h]; exact ⟨rfl, rfl⟩
theorem tc_parts {l : List Int} {y N : Int} (h : tcB l y N = true) : l.Nodup ∧ szB N = true ∧ (l.length : Int) ≤ N := by
  unfold tcB stkS at h
  rw [Bool.and_eq_true, Bool.and_eq_true, Bool.and_eq_true, Bool.and_eq_true] at h
  exact ⟨of_decide_eq_true h.1.1.1, h.1.2.1, of_decide_eq_true h.1.2.2⟩
theorem stkB_of {l : List Int} {N : Int} (h : stkS l N = true) : stkB l = true := by
  unfold stkS at h
  rw [Bool.and_eq_true, Bool.and_eq_true, Bool.and_eq_true] at h
  have h1 := sz_iff.1 h.2.1
  have h2 : (l.length : Int) ≤ N := of_decide_eq_true h.2.2
  unfold stkB
  rw [h.1.1, h.1.2, decide_eq_true (show l.length ≤ 40 by omega)]
  rfl
theorem tc_of {l : List Int} {y N : Int} (h1 : stkB l = true) (h2 : pgB y = true) (h3 : szB N = true) : tcB l y N = decide ((l.length : Int) ≤ N) := by
  unfold stkB at h1
  rw [Bool.and_eq_true, Bool.and_eq_true] at h1
  unfold tcB stkS
  rw [h1.2, h1.1.2, h2, h3]
  simp

theorem il_row {w : World} {B g n cap : Nat} {l : List Int} (h : intsIn w B (.slice (some ⟨g, 0, none⟩) n cap) l) : IL w (some ⟨g, 0, none⟩) l B w.heap.size := by
  obtain ⟨a, c, e, hh⟩ := iw_of h
  injection e with e1 _ _
  rw [e1]
  exact hh.il
set_option maxRecDepth 20000 in
set_option maxHeartbeats 3200000 in
theorem implTouch_any (a : Option Addr) (ca : Nat) (l : List Int) (y N : Int) (w : World) (lo hi : Nat) (hl : l.length ≤ 1048576) (hnil : a = none → l = [] ∧ ca = 0) (ha : IL w a l lo hi) :
    Calls Try.prog 26 #[.slice a l.length ca, .int .i64 y, .int .i64 N] w fun e w' => (∃ r, e = .returned (.tuple #[r, .bool (tcH l y N), .bool (tcB l y N)]) ∧ intsIn w' w.heap.size r (tcL l y N)) ∧ Below w.heap.size w w' := by
  have HS : Hid _ := isStack_any a ca l w lo hi (by omega) ha
  have HP : Hid (∀ w, Calls Try.prog 53 #[.int .i64 y] w fun e w' => e = .returned (.bool (pgB y)) ∧ w' = w) := fun w => isPage_any y w
  have HZ : Hid (∀ w, Calls Try.prog 54 #[.int .i64 N] w fun e w' => e = .returned (.bool (szB N)) ∧ w' = w) := fun w => isCacheSize_any N w
  cases h1 : stkB l
  · have hB : tcB l y N = false := by
      cases h : tcB l y N
      · rfl
      · unfold tcB at h
        rw [Bool.and_eq_true] at h
        rw [stkB_of h.1] at h1; cases h1
    rw [hB, (tc_no hB).1, (tc_no hB).2]
    rw [h1] at HS
    clear hB h1 ha
    go_enter Try.func26, Try.ntmps26
    go_wp2_with (go_at_call 52; refine Calls.mono HS.out ?_; rintro e w2 ⟨rfl, hb2⟩)
    go_ret3
    exact ⟨⟨_, rfl, intsIn.nil _ _⟩, hb2⟩
  cases h2 : pgB y
  · have hB : tcB l y N = false := by unfold tcB; rw [h2, Bool.and_false]
    rw [hB, (tc_no hB).1, (tc_no hB).2]
    rw [h1] at HS
    rw [h2] at HP
    clear hB h1 h2 ha
    go_enter Try.func26, Try.ntmps26
    go_wp2_with (first
      | (go_at_call 52; refine Calls.mono HS.out ?_; rintro e w2 ⟨rfl, hb2⟩)
      | (go_at_call 53; refine Calls.mono (HP.out _) ?_; rintro e w' ⟨rfl, hw⟩; obtain rfl := hw.symm))
    go_ret3
    exact ⟨⟨_, rfl, intsIn.nil _ _⟩, hb2⟩
  cases h3 : szB N
  · have hB : tcB l y N = false := by unfold tcB stkS; rw [h3]; simp
    rw [hB, (tc_no hB).1, (tc_no hB).2]
    rw [h1] at HS
    rw [h2] at HP
    rw [h3] at HZ
    clear hB h1 h2 h3 ha
    go_enter Try.func26, Try.ntmps26
    go_wp2_with (first
      | (go_at_call 52; refine Calls.mono HS.out ?_; rintro e w2 ⟨rfl, hb2⟩)
      | (go_at_call 53; refine Calls.mono (HP.out _) ?_; rintro e w' ⟨rfl, hw⟩; obtain rfl := hw.symm)
      | (go_at_call 54; refine Calls.mono (HZ.out _) ?_; rintro e w' ⟨rfl, hw⟩; obtain rfl := hw.symm))
    go_ret3
    exact ⟨⟨_, rfl, intsIn.nil _ _⟩, hb2⟩
  have hB0 := tc_of h1 h2 h3
  by_cases h4 : (l.length : Int) ≤ N
  · have hB : tcB l y N = true := by rw [hB0, decide_eq_true h4]
    obtain ⟨hnd, _, _⟩ := tc_parts hB
    rw [hB, (tc_yes hB).1, (tc_yes hB).2]
    obtain ⟨z0, z1⟩ := sz_iff.1 h3
    obtain ⟨n, hn⟩ := Int.eq_ofNat_of_zero_le z0
    subst hn
    have hn40 : n ≤ 40 := by omega
    have hln : l.length ≤ n := by omega
    rw [Int.toNat_natCast]
    have hd4 : ¬ ((n : Int) < (l.length : Int)) := by omega
    rw [h1] at HS
    rw [h2] at HP
    rw [h3] at HZ
    have HPo : Hid (∀ w1, Below w.heap.size w w1 → Calls Try.prog 45 #[.slice a l.length ca, .int .i64 n] w1 fun e w' => (∃ g cap, e = .returned (.agg #[.slice (some ⟨g, 0, none⟩) l.length cap, .int .i64 n]) ∧ intsIn w' w1.heap.size (.slice (some ⟨g, 0, none⟩) l.length cap) l) ∧ Below w1.heap.size w1 w') :=
      fun w1 hb => pileOf_any _ l n w1 (by omega) (by omega) (fun wx hx => srcI_of ((ha.below hb).below (hx)) hnil)
    have HHas : Hid (∀ g cap (w : World) lo hi, IL w (some ⟨g, 0, none⟩) l lo hi → Calls Try.prog 55 #[.agg #[.slice (some ⟨g, 0, none⟩) l.length cap, .int .i64 n], .int .i64 y] w fun e w' => e = .returned (.bool (l.contains y)) ∧ Below w.heap.size w w') :=
      fun g cap w lo hi h => has_any _ _ _ _ _ w lo hi (by omega) h
    have HMv : Hid (∀ b (w1 : World), w.heap.size ≤ w1.heap.size → PileAt w1 b w.heap.size l n → Calls Try.prog 47 #[.pointer (some ⟨b, 0, none⟩), .int .i64 y] w1 fun e w' => e = .returned (.tuple #[]) ∧ PileAt w' b w.heap.size (tchN n l y) n ∧ Below w.heap.size w1 w') :=
      fun b w1 h1 h2 => moveAhead_any b w.heap.size l n y w1 (by omega) hln hnd h1 h2
    obtain ⟨cb, hcb⟩ : ∃ c, c = l.contains y := ⟨_, rfl⟩
    have HCB : Hid (cb = l.contains y) := hcb
    rw [← hcb] at HHas ⊢
    obtain ⟨L, hL⟩ : ∃ L, L = tchN n l y := ⟨_, rfl⟩
    rw [← hL] at HMv ⊢
    clear hB0 hB h1 h2 h3 h4 hcb hL hnd z0 z1 ha
    go_enter Try.func26, Try.ntmps26
    go_wp2_with (first
      | (go_at_call 52; refine Calls.mono HS.out ?_; rintro e w2 ⟨rfl, hb2⟩)
      | (go_at_call 53; refine Calls.mono (HP.out _) ?_; rintro e w' ⟨rfl, hw⟩; obtain rfl := hw.symm)
      | (go_at_call 54; refine Calls.mono (HZ.out _) ?_; rintro e w' ⟨rfl, hw⟩; obtain rfl := hw.symm)
      | (go_at_call 45; refine Calls.mono (HPo.out _ hb2) ?_; rintro e w3 ⟨⟨g, cap, rfl, ho3⟩, hb3'⟩; have hb3 := hb2.trans (hb3'.mono hb2.size); have HP4 : Hid (PileAt (w3.alloc (.cells #[.slice (some ⟨g, 0, none⟩) l.length cap, .int .i64 n] 54)) w3.heap.size w.heap.size l n) := (pile_new (ho3.base hb2.size) hb3.size); have HI4 : Hid (IL (w3.alloc (.cells #[.slice (some ⟨g, 0, none⟩) l.length cap, .int .i64 n] 54)) (some ⟨g, 0, none⟩) l w.heap.size (w3.alloc (.cells #[.slice (some ⟨g, 0, none⟩) l.length cap, .int .i64 n] 54)).heap.size) := (il_row ((ho3.base hb2.size).alloc _)); have HB4 : Hid _ := (hb3.alloc hb3.size (.cells #[.slice (some ⟨g, 0, none⟩) l.length cap, .int .i64 n] 54)); clear ho3 hb3' hb3 hb2))
    obtain ⟨W4, hW4⟩ : ∃ W, W = w3.alloc (.cells #[.slice (some ⟨g, 0, none⟩) l.length cap, .int .i64 n] 54) := ⟨_, rfl⟩
    rw [← hW4] at HP4 HB4 HI4
    rw [← hW4]
    obtain ⟨b, hb⟩ : ∃ b, b = w3.heap.size := ⟨_, rfl⟩
    rw [← hb] at HP4
    rw [← hb]
    clear hb hW4 HPo HS HP HZ
    refine Calls.mono (HHas.out _ _ _ _ _ HI4.out) ?_
    rintro e w5 ⟨rfl, hb5'⟩
    have HB5 : Hid (Below w.heap.size w w5) := HB4.out.trans (hb5'.mono HB4.out.size)
    have HP5 : Hid (PileAt w5 b w.heap.size l n) := HP4.out.below hb5'
    clear hb5' HP4 HB4 HI4 HHas
    go_wp2_with fail
    refine Calls.mono (HMv.out _ _ HB5.out.size HP5.out) ?_
    rintro e w6 ⟨rfl, hp6, hb6'⟩
    have HB6 : Hid (Below w.heap.size w w6) := HB5.out.trans hb6'
    obtain ⟨g6, cap6, c0, c1, _, ho6⟩ := pile_cells hp6
    have HO6 : Hid _ := ho6
    clear hp6 hb6' HMv HP5 HB5 ho6
    go_wp2_with fail
    go_ret3
    exact ⟨⟨_, rfl, HO6.out⟩, HB6.out⟩
  · have hB : tcB l y N = false := by rw [hB0, decide_eq_false h4]
    rw [hB, (tc_no hB).1, (tc_no hB).2]
    rw [h1] at HS
    rw [h2] at HP
    rw [h3] at HZ
    have hd4 : N < (l.length : Int) := by omega
    clear hB0 hB h1 h2 h3 ha h4
    go_enter Try.func26, Try.ntmps26
    go_wp2_with (first
      | (go_at_call 52; refine Calls.mono HS.out ?_; rintro e w2 ⟨rfl, hb2⟩)
      | (go_at_call 53; refine Calls.mono (HP.out _) ?_; rintro e w' ⟨rfl, hw⟩; obtain rfl := hw.symm)
      | (go_at_call 54; refine Calls.mono (HZ.out _) ?_; rintro e w' ⟨rfl, hw⟩; obtain rfl := hw.symm))
    go_ret3
    exact ⟨⟨_, rfl, intsIn.nil _ _⟩, hb2⟩

set_option maxHeartbeats 1600000 in
theorem specTouch_any (a : Option Addr) (ca : Nat) (l : List Int) (y N : Int) (w : World) (lo hi : Nat) (hl : l.length ≤ 1048576) (hca : l.length ≤ ca) (ha : IL w a l lo hi) :
    Calls Try.prog 27 #[.slice a l.length ca, .int .i64 y, .int .i64 N] w fun e w' => (∃ r, e = .returned (.tuple #[r, .bool (tcH l y N), .bool (tcB l y N)]) ∧ intsIn w' w.heap.size r (tcL l y N)) ∧ Below w.heap.size w w' := by
  have HS : Hid _ := l10Stack_any a ca l N w lo hi hca (by omega) ha
  have HP : Hid (∀ w, Calls Try.prog 42 #[.int .i64 y, .int .i64 0, .int .i64 99] w fun e w' => e = .returned (.bool (pgB y)) ∧ w' = w) := fun w => l1In_any y 0 99 w
  cases h1 : stkS l N
  · have hB : tcB l y N = false := by unfold tcB; rw [h1]; rfl
    rw [hB, (tc_no hB).1, (tc_no hB).2]
    rw [h1] at HS
    clear hB h1 ha
    go_enter Try.func27, Try.ntmps27
    go_wp2_with (go_at_call 56; refine Calls.mono HS.out ?_; rintro e w' ⟨rfl, hw⟩; obtain rfl := hw.symm)
    go_ret3
    exact ⟨⟨_, rfl, intsIn.nil _ _⟩, Below.refl _ _⟩
  cases h2 : pgB y
  · have hB : tcB l y N = false := by unfold tcB; rw [h2, Bool.and_false]
    rw [hB, (tc_no hB).1, (tc_no hB).2]
    rw [h1] at HS
    rw [h2] at HP
    clear hB h1 h2 ha
    go_enter Try.func27, Try.ntmps27
    go_wp2_with (first
      | (go_at_call 56; refine Calls.mono HS.out ?_; rintro e w' ⟨rfl, hw⟩; obtain rfl := hw.symm)
      | (go_at_call 42; refine Calls.mono (HP.out _) ?_; rintro e w' ⟨rfl, hw⟩; obtain rfl := hw.symm))
    go_ret3
    exact ⟨⟨_, rfl, intsIn.nil _ _⟩, Below.refl _ _⟩
  have hB : tcB l y N = true := by unfold tcB; rw [h1, h2]; rfl
  rw [hB, (tc_yes hB).1, (tc_yes hB).2]
  obtain ⟨hnd, h3, h4⟩ := tc_parts hB
  obtain ⟨z0, z1⟩ := sz_iff.1 h3
  obtain ⟨n, hn⟩ := Int.eq_ofNat_of_zero_le z0
  subst hn
  rw [Int.toNat_natCast]
  rw [h1] at HS
  rw [h2] at HP
  have HT : Hid _ := l10Touch_any a ca l y n w lo hi (by omega) ha
  have hLl := tchN_len n l y
  obtain ⟨cb, hcb⟩ : ∃ c, c = l.contains y := ⟨_, rfl⟩
  rw [← hcb] at HT ⊢
  generalize tchN n l y = L at *
  clear hB h1 h2 h3 h4 hcb hnd z0 ha
  go_enter Try.func27, Try.ntmps27
  go_wp2_with (first
    | (go_at_call 56; refine Calls.mono HS.out ?_; rintro e w' ⟨rfl, hw⟩; obtain rfl := hw.symm)
    | (go_at_call 42; refine Calls.mono (HP.out _) ?_; rintro e w' ⟨rfl, hw⟩; obtain rfl := hw.symm)
    | (go_at_call 57; refine Calls.mono HT.out ?_; rintro e w2 ⟨⟨r, rfl, hr⟩, hb2⟩; have hm : intsIn (w2.alloc (.cells #[] 3)) w.heap.size (.slice (some ⟨w2.heap.size, 0, none⟩) 0 0) [] := (intsIn.made w2 _ hb2.size); have hsr : SrcI (w2.alloc (.cells #[] 3)) r L := (srcI_in (hr.alloc _)); have hbm := hb2.alloc hb2.size (.cells #[] 3))
    | (at_builtin; refine wpList_append_srcI _ rfl _ _ rfl w.heap.size _ [] (by rfl) hm _ L (by rfl) hsr (by simp; omega) hbm.size w hbm ?_))
  intro v3 w3 hown3 hb3 _
  have HO3 : Hid (intsIn w3 w.heap.size v3 L) := hown3
  have HB3 : Hid _ := hb3
  clear hown3 hb3 hm hsr hbm
  go_wp2_with fail
  go_ret3
  exact ⟨⟨_, rfl, HO3.out⟩, HB3.out⟩

end Go.Proofs.Yteniompfkfhemaa.Iia
