/-
  Walks: the law FnDays.
-/
import Derived.Test.YtnjpagejeiiphaaDoorDrs
import Derived.Test.YtnjpagejeiiphaaDoorDmv
import Derived.Test.YtnjpagejeiiphaaDoorLwd
namespace Go.Proofs.YtnjpagejeiiphaaDoor.Fdl
open Go.RowKit
open Go.Proofs.YtnjpagejeiiphaaDoor.Dmt
open Go.Proofs.YtnjpagejeiiphaaDoor.Dwa
open Go.Proofs.YtnjpagejeiiphaaDoor.Cur (CodeArg drawSec_any drawAt_any)

set_option maxHeartbeats 1600000 in

theorem wk_no (days : Int) (w : World) (h2 : 2932896 < days) :
    Calls Tryd.prog 15 #[.int .i64 days] w fun e w' => e = .returned (.tuple #[.int .i64 0, .bool false]) ∧ w' = w := by
  have hd : decide (days ≤ 2932896) = false := decide_eq_false (by omega)
  go_enter Tryd.func15, Tryd.ntmps15
  go_wp2
  go_ret2
  exact ⟨rfl, rfl⟩
theorem wk_yes (days : Int) (w : World) (h1 : 0 ≤ days) (h2 : days ≤ 2932896) :
    Calls Tryd.prog 15 #[.int .i64 days] w fun e w' => e = .returned (.tuple #[.int .i64 ((days + 4) % 7), .bool true]) ∧ w' = w := by
  have hd : decide (days ≤ 2932896) = true := decide_eq_true h2
  go_enter Tryd.func15, Tryd.ntmps15
  go_wp2
  go_ret2
  exact ⟨rfl, rfl⟩
theorem leap_yes (y : Int) (w : World) (h1 : 1970 ≤ y) (h2 : y ≤ 9999) :
    Calls Tryd.prog 16 #[.int .i64 y] w fun e w' => e = .returned (.tuple #[.bool (leapB y), .bool true]) ∧ w' = w := by
  have hd : decide (y ≤ 9999) = true := decide_eq_true h2
  go_enter Tryd.func16, Tryd.ntmps16
  go_wp2_with (first
    | (go_at_call 32; refine (implLeap_any y _ (by omega) (by omega)).mono ?_; rintro e w' ⟨rfl, hw⟩; obtain rfl := hw.symm)
    | go_in)
  go_ret2
  exact ⟨rfl, rfl⟩

/-- Cells of an own block that a callee leaves. -/
theorem keepD {W wk : World} {b : Nat} {cs : Array Value} (h : ∀ i, W.cell? ⟨b, i, none⟩ = cs[i]?) (hb : b < W.heap.size) (k : Below W.heap.size W wk) : ∀ i, wk.cell? ⟨b, i, none⟩ = cs[i]? := fun i => (k.cell (p := ⟨b, i, none⟩) hb).trans (h i)

set_option maxRecDepth 100000 in
set_option maxHeartbeats 12800000 in
theorem walk (u v : Value) (n k : Nat) (w : World) (hU : CodeArg w u n) (hV : CodeArg w v k) (hn : n ≤ 140737488355328) (hk : k ≤ 140737488355328) (hT : Tab w) :
    Calls Tryd.prog 3 #[u, v] w fun e w' => e = .returned (.bool true) ∧ Below w.heap.size w w' := by
  obtain ⟨o, c, rfl⟩ := hU.form
  obtain ⟨o', c', rfl⟩ := hV.form
  have hl := hT.lt
  by_cases hs : n + k ≤ 1048576
  · have HU : Hid _ := hU
    have HV : Hid _ := hV
    clear hU hV
    go_enter Tryd.func3, Tryd.ntmps3
    go_wp2_with fail
    refine (drawSec_any _ n _ HU.out (by omega)).mono ?_
    rintro e w1 ⟨y, m, d, h, i, s, rfl, hb1⟩
    have hs1 := hb1.size
    cases hg : goodB y m d h i s
    · go_wp2_with fail
      refine (implSecondsOf_no y m d h i s _ ((hT.below hb1 hl).alloc _) hg).mono ?_
      rintro e w2 ⟨rfl, hb2⟩
      obtain ⟨hc2, hf2, hz2⟩ := zcells hb2
      have hB2 : Below w.heap.size w w2 := (hb1.alloc hs1 _).trans (hb2.mono (by simp; omega))
      clear hb2 hf2
      go_wp2_with fail
      refine (specSecondsOf_no y m d h i s _ hg).mono ?_
      rintro e w3 ⟨rfl, hb3⟩
      have hc3 := keepD hc2 hz2 hb3
      have hz3 := Nat.lt_of_lt_of_le hz2 hb3.size
      have hB3 : Below w.heap.size w w3 := hB2.trans (hb3.mono hB2.size)
      clear hb3 hc2
      go_wp2_with fail
      refine (implGood_any y m d h i s _ (hT.below hB3 hl)).mono ?_
      rintro e w4 ⟨rfl, hb4⟩
      have hB4 : Below w.heap.size w w4 := hB3.trans (hb4.mono hB3.size)
      clear hb4 hc3
      rw [hg]
      go_wp2_with fail
      refine (drawAt_any _ k _ (CodeArg.below HV.out (Nat.le_refl _) hB4) (by omega)).mono ?_
      rintro e w12 ⟨t, rfl, hb12⟩
      have hB12 : Below w.heap.size w w12 := Below.trans hB4 (hb12.mono (Below.size hB4))
      clear hb12
      by_cases ht : 0 ≤ t ∧ t ≤ 253402300799
      · obtain ⟨Y, M, E, H', I', S', eA, eG, eS⟩ : ∃ Y M E H' I' S' : Int, atV t = dateV Y M E H' I' S' ∧ goodB Y M E H' I' S' = true ∧ secI Y M E H' I' S' = t := ⟨_, _, _, _, _, _, rfl, good_at t ht.1 ht.2, sec_at t ht.1 ht.2⟩
        have I13 := fun w hT => implAt_yes t w hT ht.1 ht.2
        have C14 := fun w => specDateAt_yes t w ht.1 ht.2
        have S15 := fun w hT => implSecondsOf_yes Y M E H' I' S' w hT eG
        rw [eA] at I13 C14
        rw [eS] at S15
        unfold dateV at I13 C14 S15
        have H13 : Hid _ := I13
        have H14 : Hid _ := C14
        have H15 : Hid _ := S15
        clear I13 C14 S15 eA eG eS
        go_wp2_with fail
        refine (H13.out _ (hT.below hB12 hl)).mono ?_
        rintro e w13 ⟨rfl, hb13⟩
        have hB13 : Below w.heap.size w w13 := hB12.trans (hb13.mono hB12.size)
        clear hb13
        go_wp2_with fail
        refine (H14.out _).mono ?_
        rintro e w14 ⟨rfl, hb14⟩
        obtain ⟨hc14, hf14, hz14⟩ := zcells hb14
        have hB14 : Below w.heap.size w w14 := (hB13.alloc hB13.size _).trans (hb14.mono (by have := hB13.size; simp; omega))
        clear hb14 hf14
        go_wp2_with fail
        refine (H15.out _ ((hT.below hB14 hl).alloc _)).mono ?_
        rintro e w15 ⟨rfl, hb15⟩
        have hB15 : Below w.heap.size w w15 := (hB14.alloc hB14.size _).trans (hb15.mono (by have := hB14.size; simp; omega))
        clear hb15
        go_wp2_with fail
        go_ret
        exact ⟨ret_bool (by first | rfl | simp), hB15⟩
      · have ht' : t < 0 ∨ 253402300799 < t := by omega
        have I13 := fun w => implAt_no t w ht'
        have C14 := fun w => specDateAt_no t w ht'
        unfold dateV at I13 C14
        have H13 : Hid _ := I13
        have H14 : Hid _ := C14
        clear I13 C14
        go_wp2_with fail
        refine (H13.out _).mono ?_
        rintro e w13 ⟨rfl, hb13⟩
        have hB13 : Below w.heap.size w w13 := hB12.trans (hb13.mono hB12.size)
        clear hb13
        go_wp2_with fail
        refine (H14.out _).mono ?_
        rintro e w14 ⟨rfl, hb14⟩
        obtain ⟨hc14, hf14, hz14⟩ := zcells hb14
        have hB14 : Below w.heap.size w w14 := (hB13.alloc hB13.size _).trans (hb14.mono (by have := hB13.size; simp; omega))
        clear hb14 hf14
        go_wp2_with fail
        go_ret
        exact ⟨ret_bool (by first | rfl | simp), hB14.alloc hB14.size _⟩
    · obtain ⟨g1, ⟨q1, q2⟩, ⟨q3, q4⟩, q5, q6⟩ := good_parts hg
      obtain ⟨⟨g3, g4⟩, ⟨g5, g6⟩, g7, g8⟩ := day_parts g1
      have g9 := long_hi y m
      obtain ⟨t1, t2, t3, t4⟩ := sec_bd hg
      obtain ⟨a1, a2, a3, a4, a5, a6⟩ := at_sec hg
      have dt := days_top g1
      have j1 : dayB y 1 1 = true := by unfold dayB; rw [decide_eq_true ⟨g3, g4⟩]; rfl
      have j2 : dayB y 12 31 = true := by unfold dayB; rw [decide_eq_true ⟨g3, g4⟩]; rfl
      have yl := year_len y
      have dt1 := days_top j1
      have dt2 := days_top j2
      have e1 : (daysI y m d != secI y m d h i s / 86400) = false := by rw [t3]; simp
      have hA : atV (secI y m d h i s) = dateV y m d h i s := by
        show dateV (yrI (secI y m d h i s)) (moI (secI y m d h i s)) (dyI (secI y m d h i s)) _ _ _ = _
        rw [a1, a2, a3, a4, a5, a6]
      have I5 := fun w hT => implAt_yes (secI y m d h i s) w hT t1 t2
      rw [hA] at I5
      unfold dateV at I5
      have H5 : Hid _ := I5
      clear I5 hA a1 a2 a3 a4 a5 a6 t4 q1 q2 q3 q4 q5 q6
      go_wp2_with fail
      refine (implSecondsOf_yes y m d h i s _ ((hT.below hb1 hl).alloc _) hg).mono ?_
      rintro e w2 ⟨rfl, hb2⟩
      obtain ⟨hc2, hf2, hz2⟩ := zcells hb2
      have hB2 : Below w.heap.size w w2 := (hb1.alloc hs1 _).trans (hb2.mono (by simp; omega))
      clear hb2 hf2
      go_wp2_with fail
      refine (specSecondsOf_yes y m d h i s _ hg).mono ?_
      rintro e w3 ⟨rfl, hb3⟩
      have hc3 := keepD hc2 hz2 hb3
      have hz3 := Nat.lt_of_lt_of_le hz2 hb3.size
      have hB3 : Below w.heap.size w w3 := hB2.trans (hb3.mono hB2.size)
      clear hb3 hc2
      go_wp2_with fail
      refine (implGood_any y m d h i s _ (hT.below hB3 hl)).mono ?_
      rintro e w4 ⟨rfl, hb4⟩
      have hc4 := keepD hc3 hz3 hb4
      have hz4 := Nat.lt_of_lt_of_le hz3 hb4.size
      have hB4 : Below w.heap.size w w4 := hB3.trans (hb4.mono hB3.size)
      clear hb4 hc3
      rw [hg]
      go_wp2_with fail
      refine (H5.out _ (hT.below hB4 hl)).mono ?_
      rintro e w5 ⟨rfl, hb5⟩
      have hc5 := keepD hc4 hz4 hb5
      have hz5 := Nat.lt_of_lt_of_le hz4 hb5.size
      have hB5 : Below w.heap.size w w5 := hB4.trans (hb5.mono hB4.size)
      have hBP : Below w.heap.size w (w5.alloc (.cells #[.int .i64 y, .int .i64 m, .int .i64 d, .int .i64 h, .int .i64 i, .int .i64 s] 24)) := hB5.alloc hB5.size _
      clear hb5 hc4 t3
      cases hlp : leapB y
      case false =>
        have L9 : Hid (∀ w, Calls Tryd.prog 16 #[.int .i64 y] w fun e w' => e = .returned (.tuple #[.bool false, .bool true]) ∧ w' = w) := by show ∀ w, _; intro w; have := leap_yes y w g3 g4; rw [hlp] at this; exact this
        by_cases hnx : daysI y m d + 1 ≤ 2932896
        · have ew : ((daysI y m d + 1 + 4) % 7 != ((daysI y m d + 4) % 7 + 1) % 7) = false := by rw [show (daysI y m d + 1 + 4) % 7 = ((daysI y m d + 4) % 7 + 1) % 7 from by omega]; simp
          have hyl : daysI y 12 31 - daysI y 1 1 + 1 = 365 := by rw [yl, hlp]; rfl
          go_wp2_with fail
          refine (implDays_yes y m d _ ((hT.below hB5 hl).alloc _) g1).mono ?_
          rintro e w6 ⟨rfl, hw⟩
          obtain rfl := hw.symm
          go_wp2_with fail
          refine (wk_yes (daysI y m d) _ dt.1 dt.2).mono ?_
          rintro e w7 ⟨rfl, hw⟩
          obtain rfl := hw.symm
          go_wp2_with fail
          refine (wk_yes (daysI y m d + 1) _ (by omega) hnx).mono ?_
          rintro e w8 ⟨rfl, hw⟩
          obtain rfl := hw.symm
          go_wp2_with fail
          refine (L9.out _).mono ?_
          rintro e w9 ⟨rfl, hw⟩
          obtain rfl := hw.symm
          go_wp2_with fail
          refine (implDays_yes y 1 1 _ ((hT.below hB5 hl).alloc _) j1).mono ?_
          rintro e w10 ⟨rfl, hw⟩
          obtain rfl := hw.symm
          go_wp2_with fail
          refine (implDays_yes y 12 31 _ ((hT.below hB5 hl).alloc _) j2).mono ?_
          rintro e w11 ⟨rfl, hw⟩
          obtain rfl := hw.symm
          go_wp2_with fail
          refine (drawAt_any _ k _ (CodeArg.below HV.out (Nat.le_refl _) hBP) (by omega)).mono ?_
          rintro e w12 ⟨t, rfl, hb12⟩
          have hB12 : Below w.heap.size w w12 := Below.trans hBP (hb12.mono (Below.size hBP))
          clear hb12
          by_cases ht : 0 ≤ t ∧ t ≤ 253402300799
          · obtain ⟨Y, M, E, H', I', S', eA, eG, eS⟩ : ∃ Y M E H' I' S' : Int, atV t = dateV Y M E H' I' S' ∧ goodB Y M E H' I' S' = true ∧ secI Y M E H' I' S' = t := ⟨_, _, _, _, _, _, rfl, good_at t ht.1 ht.2, sec_at t ht.1 ht.2⟩
            have I13 := fun w hT => implAt_yes t w hT ht.1 ht.2
            have C14 := fun w => specDateAt_yes t w ht.1 ht.2
            have S15 := fun w hT => implSecondsOf_yes Y M E H' I' S' w hT eG
            rw [eA] at I13 C14
            rw [eS] at S15
            unfold dateV at I13 C14 S15
            have H13 : Hid _ := I13
            have H14 : Hid _ := C14
            have H15 : Hid _ := S15
            clear I13 C14 S15 eA eG eS
            go_wp2_with fail
            refine (H13.out _ (hT.below hB12 hl)).mono ?_
            rintro e w13 ⟨rfl, hb13⟩
            have hB13 : Below w.heap.size w w13 := hB12.trans (hb13.mono hB12.size)
            clear hb13
            go_wp2_with fail
            refine (H14.out _).mono ?_
            rintro e w14 ⟨rfl, hb14⟩
            obtain ⟨hc14, hf14, hz14⟩ := zcells hb14
            have hB14 : Below w.heap.size w w14 := (hB13.alloc hB13.size _).trans (hb14.mono (by have := hB13.size; simp; omega))
            clear hb14 hf14
            go_wp2_with fail
            refine (H15.out _ ((hT.below hB14 hl).alloc _)).mono ?_
            rintro e w15 ⟨rfl, hb15⟩
            have hB15 : Below w.heap.size w w15 := (hB14.alloc hB14.size _).trans (hb15.mono (by have := hB14.size; simp; omega))
            clear hb15
            go_wp2_with fail
            go_ret
            exact ⟨ret_bool (by first | rfl | simp), hB15⟩
          · have ht' : t < 0 ∨ 253402300799 < t := by omega
            have I13 := fun w => implAt_no t w ht'
            have C14 := fun w => specDateAt_no t w ht'
            unfold dateV at I13 C14
            have H13 : Hid _ := I13
            have H14 : Hid _ := C14
            clear I13 C14
            go_wp2_with fail
            refine (H13.out _).mono ?_
            rintro e w13 ⟨rfl, hb13⟩
            have hB13 : Below w.heap.size w w13 := hB12.trans (hb13.mono hB12.size)
            clear hb13
            go_wp2_with fail
            refine (H14.out _).mono ?_
            rintro e w14 ⟨rfl, hb14⟩
            obtain ⟨hc14, hf14, hz14⟩ := zcells hb14
            have hB14 : Below w.heap.size w w14 := (hB13.alloc hB13.size _).trans (hb14.mono (by have := hB13.size; simp; omega))
            clear hb14 hf14
            go_wp2_with fail
            go_ret
            exact ⟨ret_bool (by first | rfl | simp), hB14.alloc hB14.size _⟩
        · have ew : ((daysI y m d + 1 + 4) % 7 != ((daysI y m d + 4) % 7 + 1) % 7) = false := by rw [show (daysI y m d + 1 + 4) % 7 = ((daysI y m d + 4) % 7 + 1) % 7 from by omega]; simp
          have hyl : daysI y 12 31 - daysI y 1 1 + 1 = 365 := by rw [yl, hlp]; rfl
          go_wp2_with fail
          refine (implDays_yes y m d _ ((hT.below hB5 hl).alloc _) g1).mono ?_
          rintro e w6 ⟨rfl, hw⟩
          obtain rfl := hw.symm
          go_wp2_with fail
          refine (wk_yes (daysI y m d) _ dt.1 dt.2).mono ?_
          rintro e w7 ⟨rfl, hw⟩
          obtain rfl := hw.symm
          go_wp2_with fail
          refine (wk_no (daysI y m d + 1) _ (by omega)).mono ?_
          rintro e w8 ⟨rfl, hw⟩
          obtain rfl := hw.symm
          go_wp2_with fail
          refine (L9.out _).mono ?_
          rintro e w9 ⟨rfl, hw⟩
          obtain rfl := hw.symm
          go_wp2_with fail
          refine (implDays_yes y 1 1 _ ((hT.below hB5 hl).alloc _) j1).mono ?_
          rintro e w10 ⟨rfl, hw⟩
          obtain rfl := hw.symm
          go_wp2_with fail
          refine (implDays_yes y 12 31 _ ((hT.below hB5 hl).alloc _) j2).mono ?_
          rintro e w11 ⟨rfl, hw⟩
          obtain rfl := hw.symm
          go_wp2_with fail
          refine (drawAt_any _ k _ (CodeArg.below HV.out (Nat.le_refl _) hBP) (by omega)).mono ?_
          rintro e w12 ⟨t, rfl, hb12⟩
          have hB12 : Below w.heap.size w w12 := Below.trans hBP (hb12.mono (Below.size hBP))
          clear hb12
          by_cases ht : 0 ≤ t ∧ t ≤ 253402300799
          · obtain ⟨Y, M, E, H', I', S', eA, eG, eS⟩ : ∃ Y M E H' I' S' : Int, atV t = dateV Y M E H' I' S' ∧ goodB Y M E H' I' S' = true ∧ secI Y M E H' I' S' = t := ⟨_, _, _, _, _, _, rfl, good_at t ht.1 ht.2, sec_at t ht.1 ht.2⟩
            have I13 := fun w hT => implAt_yes t w hT ht.1 ht.2
            have C14 := fun w => specDateAt_yes t w ht.1 ht.2
            have S15 := fun w hT => implSecondsOf_yes Y M E H' I' S' w hT eG
            rw [eA] at I13 C14
            rw [eS] at S15
            unfold dateV at I13 C14 S15
            have H13 : Hid _ := I13
            have H14 : Hid _ := C14
            have H15 : Hid _ := S15
            clear I13 C14 S15 eA eG eS
            go_wp2_with fail
            refine (H13.out _ (hT.below hB12 hl)).mono ?_
            rintro e w13 ⟨rfl, hb13⟩
            have hB13 : Below w.heap.size w w13 := hB12.trans (hb13.mono hB12.size)
            clear hb13
            go_wp2_with fail
            refine (H14.out _).mono ?_
            rintro e w14 ⟨rfl, hb14⟩
            obtain ⟨hc14, hf14, hz14⟩ := zcells hb14
            have hB14 : Below w.heap.size w w14 := (hB13.alloc hB13.size _).trans (hb14.mono (by have := hB13.size; simp; omega))
            clear hb14 hf14
            go_wp2_with fail
            refine (H15.out _ ((hT.below hB14 hl).alloc _)).mono ?_
            rintro e w15 ⟨rfl, hb15⟩
            have hB15 : Below w.heap.size w w15 := (hB14.alloc hB14.size _).trans (hb15.mono (by have := hB14.size; simp; omega))
            clear hb15
            go_wp2_with fail
            go_ret
            exact ⟨ret_bool (by first | rfl | simp), hB15⟩
          · have ht' : t < 0 ∨ 253402300799 < t := by omega
            have I13 := fun w => implAt_no t w ht'
            have C14 := fun w => specDateAt_no t w ht'
            unfold dateV at I13 C14
            have H13 : Hid _ := I13
            have H14 : Hid _ := C14
            clear I13 C14
            go_wp2_with fail
            refine (H13.out _).mono ?_
            rintro e w13 ⟨rfl, hb13⟩
            have hB13 : Below w.heap.size w w13 := hB12.trans (hb13.mono hB12.size)
            clear hb13
            go_wp2_with fail
            refine (H14.out _).mono ?_
            rintro e w14 ⟨rfl, hb14⟩
            obtain ⟨hc14, hf14, hz14⟩ := zcells hb14
            have hB14 : Below w.heap.size w w14 := (hB13.alloc hB13.size _).trans (hb14.mono (by have := hB13.size; simp; omega))
            clear hb14 hf14
            go_wp2_with fail
            go_ret
            exact ⟨ret_bool (by first | rfl | simp), hB14.alloc hB14.size _⟩
      case true =>
        have L9 : Hid (∀ w, Calls Tryd.prog 16 #[.int .i64 y] w fun e w' => e = .returned (.tuple #[.bool true, .bool true]) ∧ w' = w) := by show ∀ w, _; intro w; have := leap_yes y w g3 g4; rw [hlp] at this; exact this
        by_cases hnx : daysI y m d + 1 ≤ 2932896
        · have ew : ((daysI y m d + 1 + 4) % 7 != ((daysI y m d + 4) % 7 + 1) % 7) = false := by rw [show (daysI y m d + 1 + 4) % 7 = ((daysI y m d + 4) % 7 + 1) % 7 from by omega]; simp
          have hyl : daysI y 12 31 - daysI y 1 1 + 1 = 366 := by rw [yl, hlp]; rfl
          go_wp2_with fail
          refine (implDays_yes y m d _ ((hT.below hB5 hl).alloc _) g1).mono ?_
          rintro e w6 ⟨rfl, hw⟩
          obtain rfl := hw.symm
          go_wp2_with fail
          refine (wk_yes (daysI y m d) _ dt.1 dt.2).mono ?_
          rintro e w7 ⟨rfl, hw⟩
          obtain rfl := hw.symm
          go_wp2_with fail
          refine (wk_yes (daysI y m d + 1) _ (by omega) hnx).mono ?_
          rintro e w8 ⟨rfl, hw⟩
          obtain rfl := hw.symm
          go_wp2_with fail
          refine (L9.out _).mono ?_
          rintro e w9 ⟨rfl, hw⟩
          obtain rfl := hw.symm
          go_wp2_with fail
          refine (implDays_yes y 1 1 _ ((hT.below hB5 hl).alloc _) j1).mono ?_
          rintro e w10 ⟨rfl, hw⟩
          obtain rfl := hw.symm
          go_wp2_with fail
          refine (implDays_yes y 12 31 _ ((hT.below hB5 hl).alloc _) j2).mono ?_
          rintro e w11 ⟨rfl, hw⟩
          obtain rfl := hw.symm
          go_wp2_with fail
          refine (drawAt_any _ k _ (CodeArg.below HV.out (Nat.le_refl _) hBP) (by omega)).mono ?_
          rintro e w12 ⟨t, rfl, hb12⟩
          have hB12 : Below w.heap.size w w12 := Below.trans hBP (hb12.mono (Below.size hBP))
          clear hb12
          by_cases ht : 0 ≤ t ∧ t ≤ 253402300799
          · obtain ⟨Y, M, E, H', I', S', eA, eG, eS⟩ : ∃ Y M E H' I' S' : Int, atV t = dateV Y M E H' I' S' ∧ goodB Y M E H' I' S' = true ∧ secI Y M E H' I' S' = t := ⟨_, _, _, _, _, _, rfl, good_at t ht.1 ht.2, sec_at t ht.1 ht.2⟩
            have I13 := fun w hT => implAt_yes t w hT ht.1 ht.2
            have C14 := fun w => specDateAt_yes t w ht.1 ht.2
            have S15 := fun w hT => implSecondsOf_yes Y M E H' I' S' w hT eG
            rw [eA] at I13 C14
            rw [eS] at S15
            unfold dateV at I13 C14 S15
            have H13 : Hid _ := I13
            have H14 : Hid _ := C14
            have H15 : Hid _ := S15
            clear I13 C14 S15 eA eG eS
            go_wp2_with fail
            refine (H13.out _ (hT.below hB12 hl)).mono ?_
            rintro e w13 ⟨rfl, hb13⟩
            have hB13 : Below w.heap.size w w13 := hB12.trans (hb13.mono hB12.size)
            clear hb13
            go_wp2_with fail
            refine (H14.out _).mono ?_
            rintro e w14 ⟨rfl, hb14⟩
            obtain ⟨hc14, hf14, hz14⟩ := zcells hb14
            have hB14 : Below w.heap.size w w14 := (hB13.alloc hB13.size _).trans (hb14.mono (by have := hB13.size; simp; omega))
            clear hb14 hf14
            go_wp2_with fail
            refine (H15.out _ ((hT.below hB14 hl).alloc _)).mono ?_
            rintro e w15 ⟨rfl, hb15⟩
            have hB15 : Below w.heap.size w w15 := (hB14.alloc hB14.size _).trans (hb15.mono (by have := hB14.size; simp; omega))
            clear hb15
            go_wp2_with fail
            go_ret
            exact ⟨ret_bool (by first | rfl | simp), hB15⟩
          · have ht' : t < 0 ∨ 253402300799 < t := by omega
            have I13 := fun w => implAt_no t w ht'
            have C14 := fun w => specDateAt_no t w ht'
            unfold dateV at I13 C14
            have H13 : Hid _ := I13
            have H14 : Hid _ := C14
            clear I13 C14
            go_wp2_with fail
            refine (H13.out _).mono ?_
            rintro e w13 ⟨rfl, hb13⟩
            have hB13 : Below w.heap.size w w13 := hB12.trans (hb13.mono hB12.size)
            clear hb13
            go_wp2_with fail
            refine (H14.out _).mono ?_
            rintro e w14 ⟨rfl, hb14⟩
            obtain ⟨hc14, hf14, hz14⟩ := zcells hb14
            have hB14 : Below w.heap.size w w14 := (hB13.alloc hB13.size _).trans (hb14.mono (by have := hB13.size; simp; omega))
            clear hb14 hf14
            go_wp2_with fail
            go_ret
            exact ⟨ret_bool (by first | rfl | simp), hB14.alloc hB14.size _⟩
        · have ew : ((daysI y m d + 1 + 4) % 7 != ((daysI y m d + 4) % 7 + 1) % 7) = false := by rw [show (daysI y m d + 1 + 4) % 7 = ((daysI y m d + 4) % 7 + 1) % 7 from by omega]; simp
          have hyl : daysI y 12 31 - daysI y 1 1 + 1 = 366 := by rw [yl, hlp]; rfl
          go_wp2_with fail
          refine (implDays_yes y m d _ ((hT.below hB5 hl).alloc _) g1).mono ?_
          rintro e w6 ⟨rfl, hw⟩
          obtain rfl := hw.symm
          go_wp2_with fail
          refine (wk_yes (daysI y m d) _ dt.1 dt.2).mono ?_
          rintro e w7 ⟨rfl, hw⟩
          obtain rfl := hw.symm
          go_wp2_with fail
          refine (wk_no (daysI y m d + 1) _ (by omega)).mono ?_
          rintro e w8 ⟨rfl, hw⟩
          obtain rfl := hw.symm
          go_wp2_with fail
          refine (L9.out _).mono ?_
          rintro e w9 ⟨rfl, hw⟩
          obtain rfl := hw.symm
          go_wp2_with fail
          refine (implDays_yes y 1 1 _ ((hT.below hB5 hl).alloc _) j1).mono ?_
          rintro e w10 ⟨rfl, hw⟩
          obtain rfl := hw.symm
          go_wp2_with fail
          refine (implDays_yes y 12 31 _ ((hT.below hB5 hl).alloc _) j2).mono ?_
          rintro e w11 ⟨rfl, hw⟩
          obtain rfl := hw.symm
          go_wp2_with fail
          refine (drawAt_any _ k _ (CodeArg.below HV.out (Nat.le_refl _) hBP) (by omega)).mono ?_
          rintro e w12 ⟨t, rfl, hb12⟩
          have hB12 : Below w.heap.size w w12 := Below.trans hBP (hb12.mono (Below.size hBP))
          clear hb12
          by_cases ht : 0 ≤ t ∧ t ≤ 253402300799
          · obtain ⟨Y, M, E, H', I', S', eA, eG, eS⟩ : ∃ Y M E H' I' S' : Int, atV t = dateV Y M E H' I' S' ∧ goodB Y M E H' I' S' = true ∧ secI Y M E H' I' S' = t := ⟨_, _, _, _, _, _, rfl, good_at t ht.1 ht.2, sec_at t ht.1 ht.2⟩
            have I13 := fun w hT => implAt_yes t w hT ht.1 ht.2
            have C14 := fun w => specDateAt_yes t w ht.1 ht.2
            have S15 := fun w hT => implSecondsOf_yes Y M E H' I' S' w hT eG
            rw [eA] at I13 C14
            rw [eS] at S15
            unfold dateV at I13 C14 S15
            have H13 : Hid _ := I13
            have H14 : Hid _ := C14
            have H15 : Hid _ := S15
            clear I13 C14 S15 eA eG eS
            go_wp2_with fail
            refine (H13.out _ (hT.below hB12 hl)).mono ?_
            rintro e w13 ⟨rfl, hb13⟩
            have hB13 : Below w.heap.size w w13 := hB12.trans (hb13.mono hB12.size)
            clear hb13
            go_wp2_with fail
            refine (H14.out _).mono ?_
            rintro e w14 ⟨rfl, hb14⟩
            obtain ⟨hc14, hf14, hz14⟩ := zcells hb14
            have hB14 : Below w.heap.size w w14 := (hB13.alloc hB13.size _).trans (hb14.mono (by have := hB13.size; simp; omega))
            clear hb14 hf14
            go_wp2_with fail
            refine (H15.out _ ((hT.below hB14 hl).alloc _)).mono ?_
            rintro e w15 ⟨rfl, hb15⟩
            have hB15 : Below w.heap.size w w15 := (hB14.alloc hB14.size _).trans (hb15.mono (by have := hB14.size; simp; omega))
            clear hb15
            go_wp2_with fail
            go_ret
            exact ⟨ret_bool (by first | rfl | simp), hB15⟩
          · have ht' : t < 0 ∨ 253402300799 < t := by omega
            have I13 := fun w => implAt_no t w ht'
            have C14 := fun w => specDateAt_no t w ht'
            unfold dateV at I13 C14
            have H13 : Hid _ := I13
            have H14 : Hid _ := C14
            clear I13 C14
            go_wp2_with fail
            refine (H13.out _).mono ?_
            rintro e w13 ⟨rfl, hb13⟩
            have hB13 : Below w.heap.size w w13 := hB12.trans (hb13.mono hB12.size)
            clear hb13
            go_wp2_with fail
            refine (H14.out _).mono ?_
            rintro e w14 ⟨rfl, hb14⟩
            obtain ⟨hc14, hf14, hz14⟩ := zcells hb14
            have hB14 : Below w.heap.size w w14 := (hB13.alloc hB13.size _).trans (hb14.mono (by have := hB13.size; simp; omega))
            clear hb14 hf14
            go_wp2_with fail
            go_ret
            exact ⟨ret_bool (by first | rfl | simp), hB14.alloc hB14.size _⟩
  · have HU : Hid _ := hU
    have HV : Hid _ := hV
    clear hU hV
    go_enter Tryd.func3, Tryd.ntmps3
    go_wp2_with fail
    go_ret
    exact ⟨rfl, Below.refl _ _⟩

end Go.Proofs.YtnjpagejeiiphaaDoor.Fdl
