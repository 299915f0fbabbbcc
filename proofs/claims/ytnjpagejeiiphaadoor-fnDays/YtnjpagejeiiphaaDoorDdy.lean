/-
  Walks: days: impl.isDay, impl.GoodDate, impl.DaysOf, spec.GoodDate, spec.l2Days, spec.DaysOf.
-/
import Derived.Test.YtnjpagejeiiphaaDoorDwa
import Derived.Deep.QuietTactic
import Derived.BigQuiet
namespace Go.Proofs.YtnjpagejeiiphaaDoor.Dwa
open Go.RowKit
open Go.Proofs.YtnjpagejeiiphaaDoor.Dmt

theorem day_cases (y m d : Int) : ((y < 1970 ∨ 9999 < y) ∧ dayB y m d = false) ∨ (1970 ≤ y ∧ y ≤ 9999 ∧ (m < 1 ∨ 12 < m) ∧ dayB y m d = false) ∨
    (1970 ≤ y ∧ y ≤ 9999 ∧ 1 ≤ m ∧ m ≤ 12 ∧ (d < 1 ∨ longI y m < d) ∧ dayB y m d = false) ∨ (1970 ≤ y ∧ y ≤ 9999 ∧ 1 ≤ m ∧ m ≤ 12 ∧ 1 ≤ d ∧ d ≤ longI y m ∧ dayB y m d = true) := by
  unfold dayB
  by_cases h1 : 1970 ≤ y ∧ y ≤ 9999
  · by_cases h2 : 1 ≤ m ∧ m ≤ 12
    · by_cases h3 : 1 ≤ d ∧ d ≤ longI y m
      · right; right; right; refine ⟨h1.1, h1.2, h2.1, h2.2, h3.1, h3.2, ?_⟩; simp only [h1, h2, h3, and_self, decide_true, Bool.and_self]
      · right; right; left; refine ⟨h1.1, h1.2, h2.1, h2.2, by omega, ?_⟩; rw [decide_eq_false h3]; simp
    · right; left; refine ⟨h1.1, h1.2, by omega, ?_⟩; rw [decide_eq_false h2]; simp
  · left; refine ⟨by omega, ?_⟩; rw [decide_eq_false h1]; simp

theorem implDay_any (y m d : Int) (w : World) (hT : Tab w) :
    Calls Tryd.prog 27 #[.int .i64 y, .int .i64 m, .int .i64 d] w fun e w' => e = .returned (.bool (dayB y m d)) ∧ w' = w := by
  rcases day_cases y m d with ⟨h1, hr⟩ | ⟨h1, h2, h3, hr⟩ | ⟨h1, h2, h3, h4, h5, hr⟩ | ⟨h1, h2, h3, h4, h5, h6, hr⟩
  · have HR : Hid (dayB y m d = _) := hr
    clear hr
    rcases h1 with h1 | h1
    all_goals
      go_enter Tryd.func27, Tryd.ntmps27
      go_wp2
      go_ret
      exact ⟨ret_bool (by rw [HR.out]; try (first | rfl | exact decide_eq_false (by omega) | exact decide_eq_true (by omega))), rfl⟩
  · have HR : Hid (dayB y m d = _) := hr
    clear hr
    rcases h3 with h3 | h3
    all_goals
      go_enter Tryd.func27, Tryd.ntmps27
      go_wp2
      go_ret
      exact ⟨ret_bool (by rw [HR.out]; try (first | rfl | exact decide_eq_false (by omega) | exact decide_eq_true (by omega))), rfl⟩
  · have HR : Hid (dayB y m d = _) := hr
    clear hr
    have g1 := long_lo y m
    have g2 := long_hi y m
    rcases h5 with h5 | h5
    all_goals
      go_enter Tryd.func27, Tryd.ntmps27
      go_wp2_with (first | (go_at_call 31; refine (implLong_any y m _ hT (by omega) (by omega) h3 h4).mono ?_; rintro e w' ⟨rfl, rfl⟩) | go_in)
      go_ret
      exact ⟨ret_bool (by rw [HR.out]; try (first | rfl | exact decide_eq_false (by omega) | exact decide_eq_true (by omega))), rfl⟩
  · have HR : Hid (dayB y m d = _) := hr
    clear hr
    have g1 := long_lo y m
    have g2 := long_hi y m
    go_enter Tryd.func27, Tryd.ntmps27
    go_wp2_with (first | (go_at_call 31; refine (implLong_any y m _ hT (by omega) (by omega) h3 h4).mono ?_; rintro e w' ⟨rfl, rfl⟩) | go_in)
    go_ret
    exact ⟨ret_bool (by rw [HR.out]; try (first | rfl | exact decide_eq_false (by omega) | exact decide_eq_true (by omega))), rfl⟩

theorem time_cases (y m d h i s : Int) : (dayB y m d = false ∧ goodB y m d h i s = false) ∨ (dayB y m d = true ∧ (h < 0 ∨ 23 < h) ∧ goodB y m d h i s = false) ∨ (dayB y m d = true ∧ 0 ≤ h ∧ h ≤ 23 ∧ (i < 0 ∨ 59 < i) ∧ goodB y m d h i s = false) ∨
    (dayB y m d = true ∧ 0 ≤ h ∧ h ≤ 23 ∧ 0 ≤ i ∧ i ≤ 59 ∧ (s < 0 ∨ 59 < s) ∧ goodB y m d h i s = false) ∨ (dayB y m d = true ∧ 0 ≤ h ∧ h ≤ 23 ∧ 0 ≤ i ∧ i ≤ 59 ∧ 0 ≤ s ∧ s ≤ 59 ∧ goodB y m d h i s = true) := by
  unfold goodB
  cases hd : dayB y m d
  · left; simp
  · by_cases h1 : 0 ≤ h ∧ h ≤ 23
    · by_cases h2 : 0 ≤ i ∧ i ≤ 59
      · by_cases h3 : 0 ≤ s ∧ s ≤ 59
        · right; right; right; right; refine ⟨rfl, h1.1, h1.2, h2.1, h2.2, h3.1, h3.2, ?_⟩; simp only [h1, h2, h3, and_self, decide_true, Bool.and_self]
        · right; right; right; left; refine ⟨rfl, h1.1, h1.2, h2.1, h2.2, by omega, ?_⟩; rw [decide_eq_false h3]; simp
      · right; right; left; refine ⟨rfl, h1.1, h1.2, by omega, ?_⟩; rw [decide_eq_false h2]; simp
    · right; left; refine ⟨rfl, by omega, ?_⟩; rw [decide_eq_false h1]; simp

theorem implGood_any (y m d h i s : Int) (w : World) (hT : Tab w) :
    Calls Tryd.prog 12 #[.agg #[.int .i64 y, .int .i64 m, .int .i64 d, .int .i64 h, .int .i64 i, .int .i64 s]] w fun e w' => e = .returned (.bool (goodB y m d h i s)) ∧ Below w.heap.size w w' := by
  rcases time_cases y m d h i s with ⟨hd, hr⟩ | ⟨hd, h1, hr⟩ | ⟨hd, h1, h2, h3, hr⟩ | ⟨hd, h1, h2, h3, h4, h5, hr⟩ | ⟨hd, h1, h2, h3, h4, h5, h6, hr⟩
  all_goals
    have HR : Hid (goodB y m d h i s = _) := hr
    clear hr
  · go_enter Tryd.func12, Tryd.ntmps12
    go_wp2_with (first | (go_at_call 27; refine (implDay_any y m d _ (hT.alloc _)).mono ?_; rintro e w' ⟨rfl, rfl⟩) | go_in)
    go_ret
    exact ⟨ret_bool (by rw [HR.out]; try (first | rfl | exact decide_eq_false (by omega) | exact decide_eq_true (by omega))), (Below.refl _ _).alloc (Nat.le_refl _) _⟩
  · rcases h1 with h1 | h1
    all_goals
      go_enter Tryd.func12, Tryd.ntmps12
      go_wp2_with (first | (go_at_call 27; refine (implDay_any y m d _ (hT.alloc _)).mono ?_; rintro e w' ⟨rfl, rfl⟩) | go_in)
      go_ret
      exact ⟨ret_bool (by rw [HR.out]; try (first | rfl | exact decide_eq_false (by omega) | exact decide_eq_true (by omega))), (Below.refl _ _).alloc (Nat.le_refl _) _⟩
  · rcases h3 with h3 | h3
    all_goals
      go_enter Tryd.func12, Tryd.ntmps12
      go_wp2_with (first | (go_at_call 27; refine (implDay_any y m d _ (hT.alloc _)).mono ?_; rintro e w' ⟨rfl, rfl⟩) | go_in)
      go_ret
      exact ⟨ret_bool (by rw [HR.out]; try (first | rfl | exact decide_eq_false (by omega) | exact decide_eq_true (by omega))), (Below.refl _ _).alloc (Nat.le_refl _) _⟩
  · rcases h5 with h5 | h5
    all_goals
      go_enter Tryd.func12, Tryd.ntmps12
      go_wp2_with (first | (go_at_call 27; refine (implDay_any y m d _ (hT.alloc _)).mono ?_; rintro e w' ⟨rfl, rfl⟩) | go_in)
      go_ret
      exact ⟨ret_bool (by rw [HR.out]; try (first | rfl | exact decide_eq_false (by omega) | exact decide_eq_true (by omega))), (Below.refl _ _).alloc (Nat.le_refl _) _⟩
  · go_enter Tryd.func12, Tryd.ntmps12
    go_wp2_with (first | (go_at_call 27; refine (implDay_any y m d _ (hT.alloc _)).mono ?_; rintro e w' ⟨rfl, rfl⟩) | go_in)
    go_ret
    exact ⟨ret_bool (by rw [HR.out]; try (first | rfl | exact decide_eq_false (by omega) | exact decide_eq_true (by omega))), (Below.refl _ _).alloc (Nat.le_refl _) _⟩

theorem in_yes (n lo hi : Int) (w : World) (h1 : lo ≤ n) (h2 : n ≤ hi) : Calls Tryd.prog 34 #[.int .i64 n, .int .i64 lo, .int .i64 hi] w fun e w' => e = .returned (.bool true) ∧ w' = w := by
  go_enter Tryd.func34, Tryd.ntmps34
  go_wp2
  go_ret
  exact ⟨ret_bool (by first | rfl | exact decide_eq_true h2), rfl⟩
theorem in_no (n lo hi : Int) (w : World) (h1 : n < lo ∨ hi < n) : Calls Tryd.prog 34 #[.int .i64 n, .int .i64 lo, .int .i64 hi] w fun e w' => e = .returned (.bool false) ∧ w' = w := by
  by_cases h2 : n < lo
  · clear h1
    go_enter Tryd.func34, Tryd.ntmps34
    go_wp2
    go_ret
    exact ⟨rfl, rfl⟩
  · have h3 : hi < n := by omega
    clear h1
    go_enter Tryd.func34, Tryd.ntmps34
    go_wp2
    go_ret
    exact ⟨ret_bool (by first | rfl | exact decide_eq_false (by omega)), rfl⟩
theorem year_yes (y : Int) (w : World) (h1 : 1970 ≤ y) (h2 : y ≤ 9999) : Calls Tryd.prog 36 #[.int .i64 y] w fun e w' => e = .returned (.bool true) ∧ w' = w := by
  go_enter Tryd.func36, Tryd.ntmps36
  go_wp2_with (go_at_call 34; refine (in_yes _ _ _ _ h1 h2).mono ?_; rintro e w' ⟨rfl, rfl⟩)
  go_ret
  exact ⟨rfl, rfl⟩
theorem year_no (y : Int) (w : World) (h1 : y < 1970 ∨ 9999 < y) : Calls Tryd.prog 36 #[.int .i64 y] w fun e w' => e = .returned (.bool false) ∧ w' = w := by
  go_enter Tryd.func36, Tryd.ntmps36
  go_wp2_with (go_at_call 34; refine (in_no _ _ _ _ h1).mono ?_; rintro e w' ⟨rfl, rfl⟩)
  go_ret
  exact ⟨rfl, rfl⟩

theorem bel_drewN {B : Nat} {w w1 : World} (h : Below B w w1) (n : Nat) : Below B w (w1.drewN n) :=
  h.trans ⟨rfl, rfl, rfl, Nat.le_refl _, fun _ _ => rfl⟩

theorem specGood_any (y m d h i s : Int) (w : World) :
    Calls Tryd.prog 19 #[.agg #[.int .i64 y, .int .i64 m, .int .i64 d, .int .i64 h, .int .i64 i, .int .i64 s]] w fun e w' => e = .returned (.bool (goodB y m d h i s)) ∧ Below w.heap.size w w' := by
  rcases time_cases y m d h i s with ⟨hd, hr⟩ | ⟨hd, h1, hr⟩ | ⟨hd, h1, h2, h3, hr⟩ | ⟨hd, h1, h2, h3, h4, h5, hr⟩ | ⟨hd, h1, h2, h3, h4, h5, h6, hr⟩
  all_goals
    have HR : Hid (goodB y m d h i s = _) := hr
    clear hr
  · rcases day_cases y m d with ⟨h1, hr⟩ | ⟨h1, h2, h3, hr⟩ | ⟨h1, h2, h3, h4, h5, hr⟩ | ⟨h1, h2, h3, h4, h5, h6, hr⟩
    · clear hr hd
      rcases h1 with h1 | h1
      all_goals
        go_enter Tryd.func19, Tryd.ntmps19
        go_wp2_with fail
        go_quiet (first
          | (go_at_call 34; exact Calls.quiet_of_same (in_yes _ _ _ _ (by omega) (by omega)))
          | (go_at_call 34; exact Calls.quiet_of_same (in_no _ _ _ _ (by omega)))
          | (go_at_call 36; exact Calls.quiet_of_same (year_yes _ _ (by omega) (by omega)))
          | (go_at_call 36; exact Calls.quiet_of_same (year_no _ _ (by omega)))
          | (go_at_call 37; exact Calls.quiet_of_same (specLong_any y m _ (by omega) (by omega) (by omega) (by omega))))
        go_wp2
        go_ret
        exact ⟨ret_bool (by rw [HR.out]; try (first | rfl | exact decide_eq_false (by omega) | exact decide_eq_true (by omega))), bel_drewN ((Below.refl _ _).alloc (Nat.le_refl _) _) _⟩
    · clear hr hd
      rcases h3 with h3 | h3
      all_goals
        go_enter Tryd.func19, Tryd.ntmps19
        go_wp2_with fail
        go_quiet (first
          | (go_at_call 34; exact Calls.quiet_of_same (in_yes _ _ _ _ (by omega) (by omega)))
          | (go_at_call 34; exact Calls.quiet_of_same (in_no _ _ _ _ (by omega)))
          | (go_at_call 36; exact Calls.quiet_of_same (year_yes _ _ (by omega) (by omega)))
          | (go_at_call 36; exact Calls.quiet_of_same (year_no _ _ (by omega)))
          | (go_at_call 37; exact Calls.quiet_of_same (specLong_any y m _ (by omega) (by omega) (by omega) (by omega))))
        go_wp2
        go_ret
        exact ⟨ret_bool (by rw [HR.out]; try (first | rfl | exact decide_eq_false (by omega) | exact decide_eq_true (by omega))), bel_drewN ((Below.refl _ _).alloc (Nat.le_refl _) _) _⟩
    · clear hr hd
      have g1 := long_lo y m
      have g2 := long_hi y m
      rcases h5 with h5 | h5
      all_goals
        go_enter Tryd.func19, Tryd.ntmps19
        go_wp2_with fail
        go_quiet (first
          | (go_at_call 34; exact Calls.quiet_of_same (in_yes _ _ _ _ (by omega) (by omega)))
          | (go_at_call 34; exact Calls.quiet_of_same (in_no _ _ _ _ (by omega)))
          | (go_at_call 36; exact Calls.quiet_of_same (year_yes _ _ (by omega) (by omega)))
          | (go_at_call 36; exact Calls.quiet_of_same (year_no _ _ (by omega)))
          | (go_at_call 37; exact Calls.quiet_of_same (specLong_any y m _ (by omega) (by omega) (by omega) (by omega))))
        go_wp2
        go_ret
        exact ⟨ret_bool (by rw [HR.out]; try (first | rfl | exact decide_eq_false (by omega) | exact decide_eq_true (by omega))), bel_drewN ((Below.refl _ _).alloc (Nat.le_refl _) _) _⟩
    · rw [hd] at hr; cases hr
  all_goals
    obtain ⟨⟨k1, k2⟩, ⟨k3, k4⟩, k5, k6⟩ := day_parts hd
    have g1 := long_lo y m
    have g2 := long_hi y m
    clear hd
  · rcases h1 with h1 | h1
    all_goals
      go_enter Tryd.func19, Tryd.ntmps19
      go_wp2_with fail
      go_quiet (first
        | (go_at_call 34; exact Calls.quiet_of_same (in_yes _ _ _ _ (by omega) (by omega)))
        | (go_at_call 34; exact Calls.quiet_of_same (in_no _ _ _ _ (by omega)))
        | (go_at_call 36; exact Calls.quiet_of_same (year_yes _ _ (by omega) (by omega)))
        | (go_at_call 36; exact Calls.quiet_of_same (year_no _ _ (by omega)))
        | (go_at_call 37; exact Calls.quiet_of_same (specLong_any y m _ (by omega) (by omega) (by omega) (by omega))))
      go_wp2
      go_ret
      exact ⟨ret_bool (by rw [HR.out]; try (first | rfl | exact decide_eq_false (by omega) | exact decide_eq_true (by omega))), bel_drewN ((Below.refl _ _).alloc (Nat.le_refl _) _) _⟩
  · rcases h3 with h3 | h3
    all_goals
      go_enter Tryd.func19, Tryd.ntmps19
      go_wp2_with fail
      go_quiet (first
        | (go_at_call 34; exact Calls.quiet_of_same (in_yes _ _ _ _ (by omega) (by omega)))
        | (go_at_call 34; exact Calls.quiet_of_same (in_no _ _ _ _ (by omega)))
        | (go_at_call 36; exact Calls.quiet_of_same (year_yes _ _ (by omega) (by omega)))
        | (go_at_call 36; exact Calls.quiet_of_same (year_no _ _ (by omega)))
        | (go_at_call 37; exact Calls.quiet_of_same (specLong_any y m _ (by omega) (by omega) (by omega) (by omega))))
      go_wp2
      go_ret
      exact ⟨ret_bool (by rw [HR.out]; try (first | rfl | exact decide_eq_false (by omega) | exact decide_eq_true (by omega))), bel_drewN ((Below.refl _ _).alloc (Nat.le_refl _) _) _⟩
  · rcases h5 with h5 | h5
    all_goals
      go_enter Tryd.func19, Tryd.ntmps19
      go_wp2_with fail
      go_quiet (first
        | (go_at_call 34; exact Calls.quiet_of_same (in_yes _ _ _ _ (by omega) (by omega)))
        | (go_at_call 34; exact Calls.quiet_of_same (in_no _ _ _ _ (by omega)))
        | (go_at_call 36; exact Calls.quiet_of_same (year_yes _ _ (by omega) (by omega)))
        | (go_at_call 36; exact Calls.quiet_of_same (year_no _ _ (by omega)))
        | (go_at_call 37; exact Calls.quiet_of_same (specLong_any y m _ (by omega) (by omega) (by omega) (by omega))))
      go_wp2
      go_ret
      exact ⟨ret_bool (by rw [HR.out]; try (first | rfl | exact decide_eq_false (by omega) | exact decide_eq_true (by omega))), bel_drewN ((Below.refl _ _).alloc (Nat.le_refl _) _) _⟩
  · go_enter Tryd.func19, Tryd.ntmps19
    go_wp2_with fail
    go_quiet (first
      | (go_at_call 34; exact Calls.quiet_of_same (in_yes _ _ _ _ (by omega) (by omega)))
      | (go_at_call 34; exact Calls.quiet_of_same (in_no _ _ _ _ (by omega)))
      | (go_at_call 36; exact Calls.quiet_of_same (year_yes _ _ (by omega) (by omega)))
      | (go_at_call 36; exact Calls.quiet_of_same (year_no _ _ (by omega)))
      | (go_at_call 37; exact Calls.quiet_of_same (specLong_any y m _ (by omega) (by omega) (by omega) (by omega))))
    go_wp2
    go_ret
    exact ⟨ret_bool (by rw [HR.out]; try (first | rfl | exact decide_eq_false (by omega) | exact decide_eq_true (by omega))), bel_drewN ((Below.refl _ _).alloc (Nat.le_refl _) _) _⟩

end Go.Proofs.YtnjpagejeiiphaaDoor.Dwa
