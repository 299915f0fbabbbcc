/-
  Walks: laws.sameInts; what is drawn for the laws of chapter 10.
-/
import Derived.Test.YteniompfkfhemaaIit
namespace Go.Proofs.Yteniompfkfhemaa.Iit
open Go.RowKit
open Go.Proofs.Yteniompfkfhemaa.Cur (Cursor But ButB among_any pick_any pick_at one_at bcells CodeIn CodeArg)
open Go.Proofs.Yteniompfkfhemaa.Iia (intsIn intsIn.nil wpList_append_int iw_of IW IL flI flI_at goodS_any refsB refs_parts l10Play_any run_inv runM)

set_option maxHeartbeats 800000 in
theorem sameI_any (a b : Option Addr) (ca cb : Nat) (l : List Int) (w : World) (lo hi lo' hi' : Nat) (hl : l.length ≤ 2000000) (ha : IL w a l lo hi) (hb : IL w b l lo' hi') :
    Calls Try.prog 17 #[.slice a l.length ca, .slice b l.length cb] w fun e w' => e = .returned (.bool true) ∧ Below w.heap.size w w' := by
  have HA : Hid (IL w a l lo hi) := ha
  have HB : Hid (IL w b l lo' hi') := hb
  clear ha hb
  go_enter Try.func17, Try.ntmps17
  go_wp2_with fail
  go_loopw [13] (fun i wr => ∃ k : Nat, k ≤ l.length ∧ i = .int .i64 k ∧ Below w.heap.size w wr) (fun i _ => l.length - (intOf i).toNat)
  case atStart => exact ⟨0, by omega, rfl, Below.refl _ _⟩
  case round =>
    obtain ⟨k, hk, rfl, hbel⟩ := hrel
    by_cases hlt : k < l.length
    · obtain ⟨ad, rfl, ca'⟩ := (HA.out.below hbel).cell hlt
      obtain ⟨bd, rfl, cb'⟩ := (HB.out.below hbel).cell hlt
      go_wp2_with fail
      go_quiet (fail)
      go_wp2_with fail
      go_roundw
      case rel => exact ⟨k + 1, by omega, by go_num, hbel.trans ((Iia.below_drewN _ _).mono hbel.size)⟩
      case measure => simp [intOf]; omega
    · go_wp2_with fail
      go_ret
      exact ⟨rfl, hbel⟩

theorem iw_cap {w : World} {B : Nat} {v : Value} {l : List Int} (h : intsIn w B v l) : ∃ a cap, v = .slice a l.length cap ∧ IW w a l B w.heap.size ∧ l.length ≤ cap ∧ cap ≤ maxLen := by
  obtain ⟨a, cap, hv, hw⟩ := iw_of h
  refine ⟨a, cap, hv, hw, ?_⟩
  rcases h.2 with ⟨hn, h0⟩ | ⟨g, c, cur, he, _, _, h1, h2, _⟩
  · rw [hv] at hn
    injection hn with _ _ h3
    rw [h0, h3]; exact ⟨Nat.zero_le _, Nat.zero_le _⟩
  · rw [hv] at he
    injection he with _ _ h3
    rw [h3]; exact ⟨h1, h2⟩

theorem drawRefs_any (v : Value) (n : Nat) (w : World) (hA : CodeArg w v n) (hn : n ≤ 2000000) :
    Calls Try.prog 44 #[v] w fun e w' => ∃ (r : Value) (l : List Int), e = .returned r ∧ l.length ≤ 201 ∧ intsIn w' w.heap.size r l ∧ Below w.heap.size w w' := by
  obtain ⟨o, cap, rfl⟩ := hA.form
  have HC0 : Hid _ := Cur.start hA hn 47
  have HB0 : Hid _ := (Below.refl w.heap.size w).alloc (Nat.le_refl _) (.cells #[.slice o n cap, .int .i64 0, .int .u64 0] 47)
  have hs0 : (w.alloc (.cells #[.slice o n cap, .int .i64 0, .int .u64 0] 47)).heap.size = w.heap.size + 1 := by simp
  clear hA
  go_enter Try.func44, Try.ntmps44
  go_wp2_with fail
  refine (refs_any _ _ n _ _ HC0.out (by omega)).mono ?_
  rintro e w1 ⟨r, l, rfl, hl, hown, hC1, hb1⟩
  have HB1 : Hid (Below w.heap.size w w1) := HB0.out.trans (hb1.below (Nat.le_refl _) (by omega))
  have HO1 : Hid (intsIn w1 w.heap.size r l) := hown.base (by omega)
  clear HC0 HB0 hC1 hb1 hown
  go_wp2_with fail
  go_ret
  exact ⟨r, l, rfl, hl, HO1.out, HB1.out⟩
theorem drawHits_any (v : Value) (n : Nat) (w : World) (hA : CodeArg w v n) (hn : n ≤ 2000000) :
    Calls Try.prog 19 #[v] w fun e w' => ∃ (r : Value) (l : List Int), e = .returned r ∧ l.length ≤ 201 ∧ intsIn w' w.heap.size r l ∧ Below w.heap.size w w' := by
  have HC : Hid _ := drawRefs_any v n w hA hn
  clear hA
  go_enter Try.func19, Try.ntmps19
  go_wp2_with (go_at_call 44; refine Calls.mono HC.out ?_; rintro e w1 ⟨r, l, rfl, hl, hown, hb1⟩)
  have HO1 : Hid _ := hown
  clear hown
  go_ret
  exact ⟨r, l, rfl, hl, HO1.out, hb1⟩
theorem drawLru_any (v : Value) (n : Nat) (w : World) (hA : CodeArg w v n) (hn : n ≤ 2000000) :
    Calls Try.prog 14 #[v] w fun e w' => ∃ (r : Value) (l : List Int) (N : Int), e = .returned (.tuple #[r, .int .i64 N]) ∧ l.length ≤ 201 ∧ intsIn w' w.heap.size r l ∧ Below w.heap.size w w' := by
  obtain ⟨o, cap, rfl⟩ := hA.form
  have HC0 : Hid _ := Cur.start hA hn 47
  have HB0 : Hid _ := (Below.refl w.heap.size w).alloc (Nat.le_refl _) (.cells #[.slice o n cap, .int .i64 0, .int .u64 0] 47)
  have hs0 : (w.alloc (.cells #[.slice o n cap, .int .i64 0, .int .u64 0] 47)).heap.size = w.heap.size + 1 := by simp
  clear hA
  go_enter Try.func14, Try.ntmps14
  go_wp2_with fail
  refine (refs_any _ _ n _ _ HC0.out (by omega)).mono ?_
  rintro e w1 ⟨r, l, rfl, hl, hown, hC1, hb1⟩
  have HB1 : Hid (Below w.heap.size w w1) := HB0.out.trans (hb1.below (Nat.le_refl _) (by omega))
  have HO1 : Hid (intsIn w1 (w.heap.size + 1) r l) := by rw [hs0] at hown; exact hown
  have HC1 : Hid _ := hC1
  have hcb : w.heap.size < w1.heap.size := hC1.2.2.1
  clear HC0 HB0 hC1 hb1 hown
  go_wp2_with fail
  refine (size_any _ _ n _ _ HC1.out (by omega)).mono ?_
  rintro e w2 ⟨N, rfl, _, hC2, hb2⟩
  have HB2 : Hid (Below w.heap.size w w2) := HB1.out.trans (hb2.below (Nat.le_refl _) (by omega))
  have HO2 : Hid (intsIn w2 w.heap.size r l) := (ints_but HO1.out hb2 (by omega)).base (by omega)
  clear HC1 HB1 hC2 hb2 HO1
  go_wp2_with fail
  go_ret2
  exact ⟨r, l, N, rfl, hl, HO2.out, HB2.out⟩
theorem drawWork_any (v : Value) (n : Nat) (w : World) (hA : CodeArg w v n) (hn : n ≤ 2000000) :
    Calls Try.prog 28 #[v] w fun e w' => ∃ (r : Value) (l : List Int) (N : Int), e = .returned (.tuple #[r, .int .i64 N]) ∧ l.length ≤ 201 ∧ intsIn w' w.heap.size r l ∧ Below w.heap.size w w' := by
  obtain ⟨o, cap, rfl⟩ := hA.form
  have HC0 : Hid _ := Cur.start hA hn 47
  have HB0 : Hid _ := (Below.refl w.heap.size w).alloc (Nat.le_refl _) (.cells #[.slice o n cap, .int .i64 0, .int .u64 0] 47)
  have hs0 : (w.alloc (.cells #[.slice o n cap, .int .i64 0, .int .u64 0] 47)).heap.size = w.heap.size + 1 := by simp
  clear hA
  go_enter Try.func28, Try.ntmps28
  go_wp2_with fail
  refine (refs_any _ _ n _ _ HC0.out (by omega)).mono ?_
  rintro e w1 ⟨r, l, rfl, hl, hown, hC1, hb1⟩
  have HB1 : Hid (Below w.heap.size w w1) := HB0.out.trans (hb1.below (Nat.le_refl _) (by omega))
  have HO1 : Hid (intsIn w1 (w.heap.size + 1) r l) := by rw [hs0] at hown; exact hown
  have HC1 : Hid _ := hC1
  have hcb : w.heap.size < w1.heap.size := hC1.2.2.1
  clear HC0 HB0 hC1 hb1 hown
  go_wp2_with fail
  refine (amongI (fun _ => True) [0, 1, 2, 5, 10, 200, 201] 7 rfl (by omega) (by omega) (fun _ _ => trivial) _ _ n _ _ HC1.out (by omega)).mono ?_
  rintro e w2 ⟨N, rfl, _, hC2, hb2⟩
  have HB2 : Hid (Below w.heap.size w w2) := HB1.out.trans (hb2.below (Nat.le_refl _) (by omega))
  have HO2 : Hid (intsIn w2 w.heap.size r l) := (ints_but HO1.out hb2 (by omega)).base (by omega)
  clear HC1 HB1 hC2 hb2 HO1
  go_wp2_with fail
  go_ret2
  exact ⟨r, l, N, rfl, hl, HO2.out, HB2.out⟩

set_option maxRecDepth 20000 in
set_option maxHeartbeats 3200000 in
theorem drawTouch_any (v : Value) (n : Nat) (w : World) (hA : CodeArg w v n) (hn : n ≤ 2000000) :
    Calls Try.prog 25 #[v] w fun e w' => ∃ (r : Value) (l : List Int) (y N : Int), e = .returned (.tuple #[r, .int .i64 y, .int .i64 N]) ∧ l.length ≤ 1000 ∧ intsIn w' w.heap.size r l ∧ Below w.heap.size w w' := by
  obtain ⟨o, cap, rfl⟩ := hA.form
  have HC0 : Hid _ := Cur.start hA hn 47
  have HB0 : Hid _ := (Below.refl w.heap.size w).alloc (Nat.le_refl _) (.cells #[.slice o n cap, .int .i64 0, .int .u64 0] 47)
  have hs0 : (w.alloc (.cells #[.slice o n cap, .int .i64 0, .int .u64 0] 47)).heap.size = w.heap.size + 1 := by simp
  clear hA
  go_enter Try.func25, Try.ntmps25
  go_wp2_with fail
  refine (size_any _ _ n _ _ HC0.out (by omega)).mono ?_
  rintro e w1 ⟨N, rfl, hN, hC1, hb1⟩
  have HB1 : Hid (Below w.heap.size w w1) := HB0.out.trans (hb1.below (Nat.le_refl _) (by omega))
  have HC1 : Hid _ := hC1
  have hcb : w.heap.size < w1.heap.size := hC1.2.2.1
  clear HC0 HB0 hC1 hb1
  go_wp2_with fail
  refine (refs_any _ _ n _ _ HC1.out (by omega)).mono ?_
  rintro e w2 ⟨r, l, rfl, hl, hown, hC2, hb2⟩
  have HB2 : Hid (Below w.heap.size w w2) := HB1.out.trans (hb2.below (Nat.le_refl _) (by omega))
  obtain ⟨la, lc, hlv, hIW⟩ := iw_of (hown.base (show w.heap.size + 1 ≤ w1.heap.size by omega))
  subst hlv
  have HI2 : Hid (IL w2 la l (w.heap.size + 1) w2.heap.size) := hIW.il
  have HC2 : Hid _ := hC2
  have hcb2 : w.heap.size < w2.heap.size := hC2.2.2.1
  have HG : Hid _ := goodS_any la lc l w2 _ _ (by omega) HI2.out
  clear HC1 HB1 hC2 hb2 hown hIW
  by_cases hgo : refsB l = true ∧ 0 ≤ N
  · obtain ⟨hg, h0⟩ := hgo
    obtain ⟨m, hm⟩ := Int.eq_ofNat_of_zero_le h0
    subst hm
    rw [hg] at HG
    have HPl : Hid _ := l10Play_any la lc l m w2 _ _ (by omega) (by omega) HI2.out
    have hsl := (run_inv true m l).2
    generalize runM true m l = R at *
    clear hg HI2
    go_wp2_with (first
      | (go_at_call 31; refine Calls.mono HG.out ?_; rintro e w' ⟨rfl, hw⟩; obtain rfl := hw.symm)
      | (go_at_call 43; refine Calls.mono HPl.out ?_; rintro e w3 ⟨⟨sv, rfl, hsv⟩, hb3⟩))
    have hsl2 : R.1.length ≤ 300 := by omega
    have HS3 : Hid (intsIn w3 (w.heap.size + 1) sv R.1) := hsv.base (by omega)
    have HB3 : Hid (Below w.heap.size w w3) := HB2.out.trans (hb3.mono HB2.out.size)
    have HC3 : Hid (Cursor w3 w.heap.size (.slice o n cap) n 700) := Cursor.mono (Cursor.below HC2.out hb3) (by omega)
    clear hsv hb3 HB2 HC2 HG HPl hsl
    generalize R.1 = s at *
    refine (one_at 20 _ rfl _ _ n _ _ HC3.out (by omega) (by omega) (by omega)).mono ?_
    rintro e w4 ⟨b, rfl, hC4, hb4⟩
    have HB4 : Hid (Below w.heap.size w w4) := HB3.out.trans (hb4.below (Nat.le_refl _) HB3.out.size)
    have HS4 : Hid (intsIn w4 (w.heap.size + 1) sv s) := ints_but HS3.out hb4 (by omega)
    have HC4 : Hid _ := hC4
    clear HB3 HS3 HC3 hC4 hb4
    cases b
    · go_wp2_with fail
      refine (pick_at 12 _ rfl _ _ n _ _ HC4.out (by omega) (by omega) (by omega)).mono ?_
      rintro e w5 ⟨y, rfl, hy, hC5, hb5⟩
      have HB5 : Hid (Below w.heap.size w w5) := HB4.out.trans (hb5.below (Nat.le_refl _) HB4.out.size)
      have HS5 : Hid (intsIn w5 w.heap.size sv s) := (ints_but HS4.out hb5 (by omega)).base (by omega)
      clear HB4 HS4 HC4 hC5 hb5
      go_wp2_with fail
      go_ret3
      exact ⟨_, s, _, _, rfl, by omega, HS5.out, HB5.out⟩
    · go_wp2_with fail
      refine (pick_at 5 _ rfl _ _ n _ _ HC4.out (by omega) (by omega) (by omega)).mono ?_
      rintro e w5 ⟨z, rfl, hz, hC5, hb5⟩
      have HB5 : Hid (Below w.heap.size w w5) := HB4.out.trans (hb5.below (Nat.le_refl _) HB4.out.size)
      have hS5 : intsIn w5 (w.heap.size + 1) sv s := ints_but HS4.out hb5 (by omega)
      have HC5 : Hid _ := hC5
      have hsz5 : w.heap.size + 1 ≤ w5.heap.size := by have := hC5.2.2.1; omega
      clear HB4 HS4 HC4 hC5 hb5
      go_wp2_with (at_builtin; refine wpList_append_int w5 rfl _ _ rfl (w.heap.size + 1) _ s (by rfl) hS5 (z : Int) _ rfl ?q3 hsz5 (w.heap.size + 1) (Nat.le_refl _) w5 (Below.refl _ _) ?_)
      case q3 => omega
      intro v6 w6 hown6 hb6
      have HS6 : Hid (intsIn w6 (w.heap.size + 1) v6 (s ++ [(z : Int)])) := hown6
      have HB6 : Hid (Below w.heap.size w w6) := HB5.out.trans (hb6.mono (by omega))
      have HC6 : Hid _ := Cursor.belowB HC5.out (Nat.lt_succ_self _) hb6
      clear hown6 hb6 HC5 HB5 hS5
      go_wp2_with fail
      refine (pick_at 12 _ rfl _ _ n _ _ HC6.out (by omega) (by omega) (by omega)).mono ?_
      rintro e w7 ⟨y, rfl, hy, hC7, hb7⟩
      have HB7 : Hid (Below w.heap.size w w7) := HB6.out.trans (hb7.below (Nat.le_refl _) HB6.out.size)
      have HS7 : Hid (intsIn w7 w.heap.size v6 (s ++ [(z : Int)])) := (ints_but HS6.out hb7 (by omega)).base (by omega)
      clear HB6 HS6 HC6 hC7 hb7
      go_wp2_with fail
      go_ret3
      exact ⟨_, s ++ [(z : Int)], _, _, rfl, by simp; omega, HS7.out, HB7.out⟩
  · have HS3 : Hid (intsIn w2 (w.heap.size + 1) (.slice none 0 0) []) := intsIn.nil _ _
    have HB3 : Hid (Below w.heap.size w w2) := HB2.out
    have HC3 : Hid (Cursor w2 w.heap.size (.slice o n cap) n 700) := Cursor.mono HC2.out (by omega)
    have hsl2 : ([] : List Int).length ≤ 300 := by simp
    obtain ⟨s, hse⟩ : ∃ s : List Int, s = [] := ⟨_, rfl⟩
    rw [← hse] at HS3 hsl2
    clear hse HB2 HC2 HI2
    cases hg : refsB l
    · rw [hg] at HG
      clear hgo hg
      go_wp2_with (go_at_call 31; refine Calls.mono HG.out ?_; rintro e w' ⟨rfl, hw⟩; obtain rfl := hw.symm)
      refine (one_at 20 _ rfl _ _ n _ _ HC3.out (by omega) (by omega) (by omega)).mono ?_
      rintro e w4 ⟨b, rfl, hC4, hb4⟩
      have HB4 : Hid (Below w.heap.size w w4) := HB3.out.trans (hb4.below (Nat.le_refl _) HB3.out.size)
      have HS4 : Hid (intsIn w4 (w.heap.size + 1) (.slice none 0 0) s) := ints_but HS3.out hb4 (by omega)
      have HC4 : Hid _ := hC4
      clear HB3 HS3 HC3 hC4 hb4
      cases b
      · go_wp2_with fail
        refine (pick_at 12 _ rfl _ _ n _ _ HC4.out (by omega) (by omega) (by omega)).mono ?_
        rintro e w5 ⟨y, rfl, hy, hC5, hb5⟩
        have HB5 : Hid (Below w.heap.size w w5) := HB4.out.trans (hb5.below (Nat.le_refl _) HB4.out.size)
        have HS5 : Hid (intsIn w5 w.heap.size (.slice none 0 0) s) := (ints_but HS4.out hb5 (by omega)).base (by omega)
        clear HB4 HS4 HC4 hC5 hb5
        go_wp2_with fail
        go_ret3
        exact ⟨_, s, _, _, rfl, by omega, HS5.out, HB5.out⟩
      · go_wp2_with fail
        refine (pick_at 5 _ rfl _ _ n _ _ HC4.out (by omega) (by omega) (by omega)).mono ?_
        rintro e w5 ⟨z, rfl, hz, hC5, hb5⟩
        have HB5 : Hid (Below w.heap.size w w5) := HB4.out.trans (hb5.below (Nat.le_refl _) HB4.out.size)
        have hS5 : intsIn w5 (w.heap.size + 1) (.slice none 0 0) s := ints_but HS4.out hb5 (by omega)
        have HC5 : Hid _ := hC5
        have hsz5 : w.heap.size + 1 ≤ w5.heap.size := by have := hC5.2.2.1; omega
        clear HB4 HS4 HC4 hC5 hb5
        go_wp2_with (at_builtin; refine wpList_append_int w5 rfl _ _ rfl (w.heap.size + 1) _ s (by rfl) hS5 (z : Int) _ rfl ?q3 hsz5 (w.heap.size + 1) (Nat.le_refl _) w5 (Below.refl _ _) ?_)
        case q3 => omega
        intro v6 w6 hown6 hb6
        have HS6 : Hid (intsIn w6 (w.heap.size + 1) v6 (s ++ [(z : Int)])) := hown6
        have HB6 : Hid (Below w.heap.size w w6) := HB5.out.trans (hb6.mono (by omega))
        have HC6 : Hid _ := Cursor.belowB HC5.out (Nat.lt_succ_self _) hb6
        clear hown6 hb6 HC5 HB5 hS5
        go_wp2_with fail
        refine (pick_at 12 _ rfl _ _ n _ _ HC6.out (by omega) (by omega) (by omega)).mono ?_
        rintro e w7 ⟨y, rfl, hy, hC7, hb7⟩
        have HB7 : Hid (Below w.heap.size w w7) := HB6.out.trans (hb7.below (Nat.le_refl _) HB6.out.size)
        have HS7 : Hid (intsIn w7 w.heap.size v6 (s ++ [(z : Int)])) := (ints_but HS6.out hb7 (by omega)).base (by omega)
        clear HB6 HS6 HC6 hC7 hb7
        go_wp2_with fail
        go_ret3
        exact ⟨_, s ++ [(z : Int)], _, _, rfl, by simp; omega, HS7.out, HB7.out⟩
    · have h0 : ¬ (0 ≤ N) := fun h => hgo ⟨hg, h⟩
      have hd0 : decide (0 ≤ N) = false := decide_eq_false h0
      rw [hg] at HG
      clear hgo hg
      go_wp2_with (go_at_call 31; refine Calls.mono HG.out ?_; rintro e w' ⟨rfl, hw⟩; obtain rfl := hw.symm)
      refine (one_at 20 _ rfl _ _ n _ _ HC3.out (by omega) (by omega) (by omega)).mono ?_
      rintro e w4 ⟨b, rfl, hC4, hb4⟩
      have HB4 : Hid (Below w.heap.size w w4) := HB3.out.trans (hb4.below (Nat.le_refl _) HB3.out.size)
      have HS4 : Hid (intsIn w4 (w.heap.size + 1) (.slice none 0 0) s) := ints_but HS3.out hb4 (by omega)
      have HC4 : Hid _ := hC4
      clear HB3 HS3 HC3 hC4 hb4
      cases b
      · go_wp2_with fail
        refine (pick_at 12 _ rfl _ _ n _ _ HC4.out (by omega) (by omega) (by omega)).mono ?_
        rintro e w5 ⟨y, rfl, hy, hC5, hb5⟩
        have HB5 : Hid (Below w.heap.size w w5) := HB4.out.trans (hb5.below (Nat.le_refl _) HB4.out.size)
        have HS5 : Hid (intsIn w5 w.heap.size (.slice none 0 0) s) := (ints_but HS4.out hb5 (by omega)).base (by omega)
        clear HB4 HS4 HC4 hC5 hb5
        go_wp2_with fail
        go_ret3
        exact ⟨_, s, _, _, rfl, by omega, HS5.out, HB5.out⟩
      · go_wp2_with fail
        refine (pick_at 5 _ rfl _ _ n _ _ HC4.out (by omega) (by omega) (by omega)).mono ?_
        rintro e w5 ⟨z, rfl, hz, hC5, hb5⟩
        have HB5 : Hid (Below w.heap.size w w5) := HB4.out.trans (hb5.below (Nat.le_refl _) HB4.out.size)
        have hS5 : intsIn w5 (w.heap.size + 1) (.slice none 0 0) s := ints_but HS4.out hb5 (by omega)
        have HC5 : Hid _ := hC5
        have hsz5 : w.heap.size + 1 ≤ w5.heap.size := by have := hC5.2.2.1; omega
        clear HB4 HS4 HC4 hC5 hb5
        go_wp2_with (at_builtin; refine wpList_append_int w5 rfl _ _ rfl (w.heap.size + 1) _ s (by rfl) hS5 (z : Int) _ rfl ?q3 hsz5 (w.heap.size + 1) (Nat.le_refl _) w5 (Below.refl _ _) ?_)
        case q3 => omega
        intro v6 w6 hown6 hb6
        have HS6 : Hid (intsIn w6 (w.heap.size + 1) v6 (s ++ [(z : Int)])) := hown6
        have HB6 : Hid (Below w.heap.size w w6) := HB5.out.trans (hb6.mono (by omega))
        have HC6 : Hid _ := Cursor.belowB HC5.out (Nat.lt_succ_self _) hb6
        clear hown6 hb6 HC5 HB5 hS5
        go_wp2_with fail
        refine (pick_at 12 _ rfl _ _ n _ _ HC6.out (by omega) (by omega) (by omega)).mono ?_
        rintro e w7 ⟨y, rfl, hy, hC7, hb7⟩
        have HB7 : Hid (Below w.heap.size w w7) := HB6.out.trans (hb7.below (Nat.le_refl _) HB6.out.size)
        have HS7 : Hid (intsIn w7 w.heap.size v6 (s ++ [(z : Int)])) := (ints_but HS6.out hb7 (by omega)).base (by omega)
        clear HB6 HS6 HC6 hC7 hb7
        go_wp2_with fail
        go_ret3
        exact ⟨_, s ++ [(z : Int)], _, _, rfl, by simp; omega, HS7.out, HB7.out⟩

end Go.Proofs.Yteniompfkfhemaa.Iit
