/-
  Walks: spec.DateAt, spec.DaysOf, impl.SecondsOf, spec.SecondsOf.
-/
import Derived.Test.YtnjpagejeiiphaaDoorDax
namespace Go.Proofs.YtnjpagejeiiphaaDoor.Dwa
open Go.RowKit
open Go.Proofs.YtnjpagejeiiphaaDoor.Dmt

set_option maxHeartbeats 800000 in
theorem specDateAt_yes (t : Int) (w : World) (h1 : 0 ≤ t) (h2 : t ≤ 253402300799) :
    Calls Tryd.prog 18 #[.int .i64 t] w fun e w' => e = .returned (.tuple #[atV t, .bool true]) ∧ Below w.heap.size w w' := by
  obtain ⟨Y, M, D, hY, hM, hD, hA⟩ := atV_is t
  have C := fun w => specAt_any t w h1 h2
  rw [hA] at C ⊢
  unfold dateV at C ⊢
  clear hA hY hM hD
  have HC := C
  clear C
  go_enter Tryd.func18, Tryd.ntmps18
  go_wp2_with (first
    | (go_at_call 34; refine (in_yes _ _ _ _ h1 h2).mono ?_; rintro e w' ⟨rfl, hw⟩; obtain rfl := hw.symm)
    | (go_at_call 35; refine (HC _).mono ?_; rintro e w1 ⟨rfl, hb1⟩; obtain ⟨hc1, hf1, hsz⟩ := zcells hb1))
  have hfin : Below w.heap.size w w1 := ((Below.refl _ _).alloc (Nat.le_refl _) _).trans (hb1.mono (by simp))
  exact bodyPost_ret (v := .tuple #[.agg #[.int .i64 Y, .int .i64 M, .int .i64 D, .int .i64 (t % 86400 / 3600), .int .i64 (t % 86400 / 60 % 60), .int .i64 (t % 86400 % 60)], .bool true]) (by simp [results, Tryd.results18, go_sem, hc1]) rfl ⟨rfl, (((((hfin.setCell (Nat.le_refl _) _).setCell (Nat.le_refl _) _).setCell (Nat.le_refl _) _).setCell (Nat.le_refl _) _).setCell (Nat.le_refl _) _).setCell (Nat.le_refl _) _⟩

theorem specDateAt_no (t : Int) (w : World) (h1 : t < 0 ∨ 253402300799 < t) :
    Calls Tryd.prog 18 #[.int .i64 t] w fun e w' => e = .returned (.tuple #[dateV 0 0 0 0 0 0, .bool false]) ∧ Below w.heap.size w w' := by
  go_enter Tryd.func18, Tryd.ntmps18
  go_wp2_with (first
    | (go_at_call 34; refine (in_no _ _ _ _ h1).mono ?_; rintro e w' ⟨rfl, hw⟩; obtain rfl := hw.symm))
  exact bodyPost_ret (v := .tuple #[dateV 0 0 0 0 0 0, .bool false]) (by simp [results, Tryd.results18, go_sem, dateV]) rfl ⟨rfl, by repeat (first | exact Below.refl _ _ | refine Below.alloc ?_ (by simp <;> omega) _ | refine Below.setCell ?_ (by simp <;> omega) _)⟩

theorem specDaysOf_yes (y m d : Int) (w : World) (h : dayB y m d = true) :
    Calls Tryd.prog 21 #[.int .i64 y, .int .i64 m, .int .i64 d] w fun e w' => e = .returned (.tuple #[.int .i64 (daysI y m d), .bool true]) ∧ Below w.heap.size w w' := by
  obtain ⟨⟨h1, h2⟩, ⟨h3, h4⟩, h5, h6⟩ := day_parts h
  have g3 := long_hi y m
  go_enter Tryd.func21, Tryd.ntmps21
  go_wp2_with (first
    | (go_at_call 19; refine (specGood_any _ _ _ _ _ _ _).mono ?_; rintro e w1 ⟨rfl, hb1⟩; rw [good0, h])
    | (go_at_call 38; refine (specDays_any y m d _ h1 h2 h3 h4 h5 (by omega)).mono ?_; rintro e w' ⟨rfl, hw⟩; obtain rfl := hw.symm))
  go_ret2
  exact ⟨rfl, by first | exact hb1 | exact ((Below.refl _ _).alloc (Nat.le_refl _) _).trans (hb1.mono (by simp))⟩

theorem specDaysOf_no (y m d : Int) (w : World) (h : dayB y m d = false) :
    Calls Tryd.prog 21 #[.int .i64 y, .int .i64 m, .int .i64 d] w fun e w' => e = .returned (.tuple #[.int .i64 0, .bool false]) ∧ Below w.heap.size w w' := by
  go_enter Tryd.func21, Tryd.ntmps21
  go_wp2_with (first
    | (go_at_call 19; refine (specGood_any _ _ _ _ _ _ _).mono ?_; rintro e w1 ⟨rfl, hb1⟩; rw [good0, h]))
  go_ret2
  exact ⟨rfl, by first | exact hb1 | exact ((Below.refl _ _).alloc (Nat.le_refl _) _).trans (hb1.mono (by simp))⟩

theorem specSec_any (y m d h i s : Int) (w : World) (hg : goodB y m d h i s = true) :
    Calls Tryd.prog 26 #[dateV y m d h i s] w fun e w' => e = .returned (.int .i64 (secI y m d h i s)) ∧ Below w.heap.size w w' := by
  obtain ⟨hd, ⟨k1, k2⟩, ⟨k3, k4⟩, k5, k6⟩ := good_parts hg
  obtain ⟨⟨h1, h2⟩, ⟨h3, h4⟩, h5, h6⟩ := day_parts hd
  have g3 := long_hi y m
  have hdb := days_bd (y := y) (m := m) (d := d) h1 h2 h5 (by omega)
  have HR : Hid (86400 * daysI y m d + 3600 * h + 60 * i + s = secI y m d h i s) := rfl
  clear hd hg
  unfold dateV
  go_enter Tryd.func26, Tryd.ntmps26
  go_wp2_with fail
  go_quiet ((go_at_call 38; exact Calls.quiet_of_same (specDays_any y m d _ h1 h2 h3 h4 h5 (by omega))))
  go_wp2
  go_ret
  exact ⟨ret_int HR.out, bel_drewN ((Below.refl _ _).alloc (Nat.le_refl _) _) _⟩

theorem specSecondsOf_yes (y m d h i s : Int) (w : World) (hg : goodB y m d h i s = true) :
    Calls Tryd.prog 11 #[dateV y m d h i s] w fun e w' => e = .returned (.tuple #[.int .i64 (secI y m d h i s), .bool true]) ∧ Below w.heap.size w w' := by
  have C := fun w => specSec_any y m d h i s w hg
  have G := fun w => specGood_any y m d h i s w
  unfold dateV at C ⊢
  go_enter Tryd.func11, Tryd.ntmps11
  go_wp2_with (first
    | (go_at_call 19; refine (G _).mono ?_; rintro e w1 ⟨rfl, hb1⟩; obtain ⟨hc1, hf1, hsz⟩ := zcells hb1; rw [hg])
    | (go_at_call 26; refine (C _).mono ?_; rintro e w2 ⟨rfl, hb2⟩))
  go_ret2
  exact ⟨rfl, ((Below.refl _ _).alloc (Nat.le_refl _) _).trans ((hb1.trans (hb2.mono hb1.size)).mono (by simp))⟩

theorem specSecondsOf_no (y m d h i s : Int) (w : World) (hg : goodB y m d h i s = false) :
    Calls Tryd.prog 11 #[dateV y m d h i s] w fun e w' => e = .returned (.tuple #[.int .i64 0, .bool false]) ∧ Below w.heap.size w w' := by
  have G := fun w => specGood_any y m d h i s w
  unfold dateV
  go_enter Tryd.func11, Tryd.ntmps11
  go_wp2_with (first
    | (go_at_call 19; refine (G _).mono ?_; rintro e w1 ⟨rfl, hb1⟩; obtain ⟨hc1, hf1, hsz⟩ := zcells hb1; rw [hg]))
  go_ret2
  exact ⟨rfl, ((Below.refl _ _).alloc (Nat.le_refl _) _).trans (hb1.mono (by simp))⟩

theorem implSecondsOf_yes (y m d h i s : Int) (w : World) (hT : Tab w) (hg : goodB y m d h i s = true) :
    Calls Tryd.prog 10 #[dateV y m d h i s] w fun e w' => e = .returned (.tuple #[.int .i64 (secI y m d h i s), .bool true]) ∧ Below w.heap.size w w' := by
  obtain ⟨hd, ⟨k1, k2⟩, ⟨k3, k4⟩, k5, k6⟩ := good_parts hg
  obtain ⟨⟨h1, h2⟩, ⟨h3, h4⟩, h5, h6⟩ := day_parts hd
  have g3 := long_hi y m
  have hdb := days_bd (y := y) (m := m) (d := d) h1 h2 h5 (by omega)
  have HR : Hid (daysI y m d * 86400 + (h * 60 + i) * 60 + s = secI y m d h i s) := by show _ = _; unfold secI; omega
  have G := fun w hT => implGood_any y m d h i s w hT
  have hT0 := hT.alloc (.cells #[.int .i64 y, .int .i64 m, .int .i64 d, .int .i64 h, .int .i64 i, .int .i64 s] 24)
  have hl0 := hT0.lt
  unfold dateV
  go_enter Tryd.func10, Tryd.ntmps10
  go_wp2_with (first
    | (go_at_call 12; refine (G _ hT0).mono ?_; rintro e w1 ⟨rfl, hb1⟩; obtain ⟨hc1, hf1, hsz⟩ := zcells hb1; rw [hg])
    | (go_at_call 14; refine (implDays_yes y m d _ (hT0.below hb1 hl0) hd).mono ?_; rintro e w' ⟨rfl, hw⟩; obtain rfl := hw.symm))
  go_ret2
  exact ⟨ret_two HR.out, ((Below.refl _ _).alloc (Nat.le_refl _) _).trans (hb1.mono (by simp))⟩

theorem implSecondsOf_no (y m d h i s : Int) (w : World) (hT : Tab w) (hg : goodB y m d h i s = false) :
    Calls Tryd.prog 10 #[dateV y m d h i s] w fun e w' => e = .returned (.tuple #[.int .i64 0, .bool false]) ∧ Below w.heap.size w w' := by
  have G := fun w hT => implGood_any y m d h i s w hT
  unfold dateV
  go_enter Tryd.func10, Tryd.ntmps10
  go_wp2_with (first
    | (go_at_call 12; refine (G _ (hT.alloc _)).mono ?_; rintro e w1 ⟨rfl, hb1⟩; obtain ⟨hc1, hf1, hsz⟩ := zcells hb1; rw [hg]))
  go_ret2
  exact ⟨rfl, ((Below.refl _ _).alloc (Nat.le_refl _) _).trans (hb1.mono (by simp))⟩

end Go.Proofs.YtnjpagejeiiphaaDoor.Dwa
