/-
  Walks: days: impl.isDay, impl.GoodDate, impl.DaysOf, spec.GoodDate, spec.l2Days, spec.DaysOf.
  Walks: loops over months and years: spec.l2Days, impl.DaysOf, impl.yearOfDay, impl.dateOfDay, spec.l2At.
  Walks: a date of its seconds: impl.dateOfDay, impl.DateAt, spec.l2At, spec.DateAt.
  Walks: impl.DateAt, spec.DateAt, impl.SecondsOf, spec.SecondsOf, spec.DaysOf.
  Walks: spec.DateAt, spec.DaysOf, impl.SecondsOf, spec.SecondsOf.
  Walks: the laws' own helpers for a date: laws.toDate, laws.eqDate.
-/
import Derived.Test.YtgidmoncocbfiaaGreatDoorMg5
import Derived.Deep.QuietTactic
import Derived.BigQuiet
namespace Go.Proofs.YtgidmoncocbfiaaGreatDoor.Dwa
open Go.RowKit
open Go.Proofs.YtgidmoncocbfiaaGreatDoor.Dmt

theorem day_cases (y m d : Int) : ((y < 1970 ∨ 9999 < y) ∧ dayB y m d = false) ∨ (1970 ≤ y ∧ y ≤ 9999 ∧ (m < 1 ∨ 12 < m) ∧ dayB y m d = false) ∨
    (1970 ≤ y ∧ y ≤ 9999 ∧ 1 ≤ m ∧ m ≤ 12 ∧ (d < 1 ∨ longI y m < d) ∧ dayB y m d = false) ∨ (1970 ≤ y ∧ y ≤ 9999 ∧ 1 ≤ m ∧ m ≤ 12 ∧ 1 ≤ d ∧ d ≤ longI y m ∧ dayB y m d = true) := by
  unfold dayB
  by_cases h1 : 1970 ≤ y ∧ y ≤ 9999
  · by_cases h2 : 1 ≤ m ∧ m ≤ 12
    · by_cases h3 : 1 ≤ d ∧ d ≤ longI y m
      · right; right; right; refine ⟨h1.1, h1.2, h2.1, h2.2, h3.1, h3.2, ?_⟩; simp only [h1, h2, h3, and_self, decide_true, Bool.and_self]
      · right; right; left; refine ⟨h1.1, h1.2, h2.1, h2.2, by omega, ?_⟩; rw [decide_eq_false h3]; simp
    · right; left; refine ⟨h1.1, h1.2, by omega, ?_⟩; rw [decide_eq_false h2]; simp
  · left; refine ⟨by omega, ?_⟩; rw [decide_eq_false h1]; simp

theorem implDay_any (y m d : Int) (w : World) (hT : Tab w) :
    Calls Tryz.prog 149 #[.int .i64 y, .int .i64 m, .int .i64 d] w fun e w' => e = .returned (.bool (dayB y m d)) ∧ w' = w := by
  rcases day_cases y m d with ⟨h1, hr⟩ | ⟨h1, h2, h3, hr⟩ | ⟨h1, h2, h3, h4, h5, hr⟩ | ⟨h1, h2, h3, h4, h5, h6, hr⟩
  · have HR : Hid (dayB y m d = _) := hr
    clear hr
    rcases h1 with h1 | h1
    all_goals
      go_enter Tryz.func149, Tryz.ntmps149
      go_wp2
      go_ret
      exact ⟨ret_bool (by rw [HR.out]; try (first | rfl | exact decide_eq_false (by omega) | exact decide_eq_true (by omega))), rfl⟩
  · have HR : Hid (dayB y m d = _) := hr
    clear hr
    rcases h3 with h3 | h3
    all_goals
      go_enter Tryz.func149, Tryz.ntmps149
      go_wp2
      go_ret
      exact ⟨ret_bool (by rw [HR.out]; try (first | rfl | exact decide_eq_false (by omega) | exact decide_eq_true (by omega))), rfl⟩
  · have HR : Hid (dayB y m d = _) := hr
    clear hr
    have g1 := long_lo y m
    have g2 := long_hi y m
    rcases h5 with h5 | h5
    all_goals
      go_enter Tryz.func149, Tryz.ntmps149
      go_wp2_with (first | (go_at_call 156; refine (implLong_any y m _ hT (by omega) (by omega) h3 h4).mono ?_; rintro e w' ⟨rfl, rfl⟩) | go_in)
      go_ret
      exact ⟨ret_bool (by rw [HR.out]; try (first | rfl | exact decide_eq_false (by omega) | exact decide_eq_true (by omega))), rfl⟩
  · have HR : Hid (dayB y m d = _) := hr
    clear hr
    have g1 := long_lo y m
    have g2 := long_hi y m
    go_enter Tryz.func149, Tryz.ntmps149
    go_wp2_with (first | (go_at_call 156; refine (implLong_any y m _ hT (by omega) (by omega) h3 h4).mono ?_; rintro e w' ⟨rfl, rfl⟩) | go_in)
    go_ret
    exact ⟨ret_bool (by rw [HR.out]; try (first | rfl | exact decide_eq_false (by omega) | exact decide_eq_true (by omega))), rfl⟩

theorem time_cases (y m d h i s : Int) : (dayB y m d = false ∧ goodB y m d h i s = false) ∨ (dayB y m d = true ∧ (h < 0 ∨ 23 < h) ∧ goodB y m d h i s = false) ∨ (dayB y m d = true ∧ 0 ≤ h ∧ h ≤ 23 ∧ (i < 0 ∨ 59 < i) ∧ goodB y m d h i s = false) ∨
    (dayB y m d = true ∧ 0 ≤ h ∧ h ≤ 23 ∧ 0 ≤ i ∧ i ≤ 59 ∧ (s < 0 ∨ 59 < s) ∧ goodB y m d h i s = false) ∨ (dayB y m d = true ∧ 0 ≤ h ∧ h ≤ 23 ∧ 0 ≤ i ∧ i ≤ 59 ∧ 0 ≤ s ∧ s ≤ 59 ∧ goodB y m d h i s = true) := by
  unfold goodB
  cases hd : dayB y m d
  · left; simp
  · by_cases h1 : 0 ≤ h ∧ h ≤ 23
    · by_cases h2 : 0 ≤ i ∧ i ≤ 59
      · by_cases h3 : 0 ≤ s ∧ s ≤ 59
        · right; right; right; right; refine ⟨rfl, h1.1, h1.2, h2.1, h2.2, h3.1, h3.2, ?_⟩; simp only [h1, h2, h3, and_self, decide_true, Bool.and_self]
        · right; right; right; left; refine ⟨rfl, h1.1, h1.2, h2.1, h2.2, by omega, ?_⟩; rw [decide_eq_false h3]; simp
      · right; right; left; refine ⟨rfl, h1.1, h1.2, by omega, ?_⟩; rw [decide_eq_false h2]; simp
    · right; left; refine ⟨rfl, by omega, ?_⟩; rw [decide_eq_false h1]; simp

theorem implGood_any (y m d h i s : Int) (w : World) (hT : Tab w) :
    Calls Tryz.prog 120 #[.agg #[.int .i64 y, .int .i64 m, .int .i64 d, .int .i64 h, .int .i64 i, .int .i64 s]] w fun e w' => e = .returned (.bool (goodB y m d h i s)) ∧ Below w.heap.size w w' := by
  rcases time_cases y m d h i s with ⟨hd, hr⟩ | ⟨hd, h1, hr⟩ | ⟨hd, h1, h2, h3, hr⟩ | ⟨hd, h1, h2, h3, h4, h5, hr⟩ | ⟨hd, h1, h2, h3, h4, h5, h6, hr⟩
  all_goals
    have HR : Hid (goodB y m d h i s = _) := hr
    clear hr
  · go_enter Tryz.func120, Tryz.ntmps120
    go_wp2_with (first | (go_at_call 149; refine (implDay_any y m d _ (hT.alloc _)).mono ?_; rintro e w' ⟨rfl, rfl⟩) | go_in)
    go_ret
    exact ⟨ret_bool (by rw [HR.out]; try (first | rfl | exact decide_eq_false (by omega) | exact decide_eq_true (by omega))), (Below.refl _ _).alloc (Nat.le_refl _) _⟩
  · rcases h1 with h1 | h1
    all_goals
      go_enter Tryz.func120, Tryz.ntmps120
      go_wp2_with (first | (go_at_call 149; refine (implDay_any y m d _ (hT.alloc _)).mono ?_; rintro e w' ⟨rfl, rfl⟩) | go_in)
      go_ret
      exact ⟨ret_bool (by rw [HR.out]; try (first | rfl | exact decide_eq_false (by omega) | exact decide_eq_true (by omega))), (Below.refl _ _).alloc (Nat.le_refl _) _⟩
  · rcases h3 with h3 | h3
    all_goals
      go_enter Tryz.func120, Tryz.ntmps120
      go_wp2_with (first | (go_at_call 149; refine (implDay_any y m d _ (hT.alloc _)).mono ?_; rintro e w' ⟨rfl, rfl⟩) | go_in)
      go_ret
      exact ⟨ret_bool (by rw [HR.out]; try (first | rfl | exact decide_eq_false (by omega) | exact decide_eq_true (by omega))), (Below.refl _ _).alloc (Nat.le_refl _) _⟩
  · rcases h5 with h5 | h5
    all_goals
      go_enter Tryz.func120, Tryz.ntmps120
      go_wp2_with (first | (go_at_call 149; refine (implDay_any y m d _ (hT.alloc _)).mono ?_; rintro e w' ⟨rfl, rfl⟩) | go_in)
      go_ret
      exact ⟨ret_bool (by rw [HR.out]; try (first | rfl | exact decide_eq_false (by omega) | exact decide_eq_true (by omega))), (Below.refl _ _).alloc (Nat.le_refl _) _⟩
  · go_enter Tryz.func120, Tryz.ntmps120
    go_wp2_with (first | (go_at_call 149; refine (implDay_any y m d _ (hT.alloc _)).mono ?_; rintro e w' ⟨rfl, rfl⟩) | go_in)
    go_ret
    exact ⟨ret_bool (by rw [HR.out]; try (first | rfl | exact decide_eq_false (by omega) | exact decide_eq_true (by omega))), (Below.refl _ _).alloc (Nat.le_refl _) _⟩

theorem in_yes (n lo hi : Int) (w : World) (h1 : lo ≤ n) (h2 : n ≤ hi) : Calls Tryz.prog 29 #[.int .i64 n, .int .i64 lo, .int .i64 hi] w fun e w' => e = .returned (.bool true) ∧ w' = w := by
  go_enter Tryz.func29, Tryz.ntmps29
  go_wp2
  go_ret
  exact ⟨ret_bool (by first | rfl | exact decide_eq_true h2), rfl⟩
theorem in_no (n lo hi : Int) (w : World) (h1 : n < lo ∨ hi < n) : Calls Tryz.prog 29 #[.int .i64 n, .int .i64 lo, .int .i64 hi] w fun e w' => e = .returned (.bool false) ∧ w' = w := by
  by_cases h2 : n < lo
  · clear h1
    go_enter Tryz.func29, Tryz.ntmps29
    go_wp2
    go_ret
    exact ⟨rfl, rfl⟩
  · have h3 : hi < n := by omega
    clear h1
    go_enter Tryz.func29, Tryz.ntmps29
    go_wp2
    go_ret
    exact ⟨ret_bool (by first | rfl | exact decide_eq_false (by omega)), rfl⟩
theorem year_yes (y : Int) (w : World) (h1 : 1970 ≤ y) (h2 : y ≤ 9999) : Calls Tryz.prog 125 #[.int .i64 y] w fun e w' => e = .returned (.bool true) ∧ w' = w := by
  go_enter Tryz.func125, Tryz.ntmps125
  go_wp2_with (go_at_call 29; refine (in_yes _ _ _ _ h1 h2).mono ?_; rintro e w' ⟨rfl, rfl⟩)
  go_ret
  exact ⟨rfl, rfl⟩
theorem year_no (y : Int) (w : World) (h1 : y < 1970 ∨ 9999 < y) : Calls Tryz.prog 125 #[.int .i64 y] w fun e w' => e = .returned (.bool false) ∧ w' = w := by
  go_enter Tryz.func125, Tryz.ntmps125
  go_wp2_with (go_at_call 29; refine (in_no _ _ _ _ h1).mono ?_; rintro e w' ⟨rfl, rfl⟩)
  go_ret
  exact ⟨rfl, rfl⟩

theorem bel_drewN {B : Nat} {w w1 : World} (h : Below B w w1) (n : Nat) : Below B w (w1.drewN n) :=
  h.trans ⟨rfl, rfl, rfl, Nat.le_refl _, fun _ _ => rfl⟩

theorem specGood_any (y m d h i s : Int) (w : World) :
    Calls Tryz.prog 98 #[.agg #[.int .i64 y, .int .i64 m, .int .i64 d, .int .i64 h, .int .i64 i, .int .i64 s]] w fun e w' => e = .returned (.bool (goodB y m d h i s)) ∧ Below w.heap.size w w' := by
  rcases time_cases y m d h i s with ⟨hd, hr⟩ | ⟨hd, h1, hr⟩ | ⟨hd, h1, h2, h3, hr⟩ | ⟨hd, h1, h2, h3, h4, h5, hr⟩ | ⟨hd, h1, h2, h3, h4, h5, h6, hr⟩
  all_goals
    have HR : Hid (goodB y m d h i s = _) := hr
    clear hr
  · rcases day_cases y m d with ⟨h1, hr⟩ | ⟨h1, h2, h3, hr⟩ | ⟨h1, h2, h3, h4, h5, hr⟩ | ⟨h1, h2, h3, h4, h5, h6, hr⟩
    · clear hr hd
      rcases h1 with h1 | h1
      all_goals
        go_enter Tryz.func98, Tryz.ntmps98
        go_wp2_with fail
        go_quiet (first
          | (go_at_call 29; exact Calls.quiet_of_same (in_yes _ _ _ _ (by omega) (by omega)))
          | (go_at_call 29; exact Calls.quiet_of_same (in_no _ _ _ _ (by omega)))
          | (go_at_call 125; exact Calls.quiet_of_same (year_yes _ _ (by omega) (by omega)))
          | (go_at_call 125; exact Calls.quiet_of_same (year_no _ _ (by omega)))
          | (go_at_call 77; exact Calls.quiet_of_same (specLong_any y m _ (by omega) (by omega) (by omega) (by omega))))
        go_wp2
        go_ret
        exact ⟨ret_bool (by rw [HR.out]; try (first | rfl | exact decide_eq_false (by omega) | exact decide_eq_true (by omega))), bel_drewN ((Below.refl _ _).alloc (Nat.le_refl _) _) _⟩
    · clear hr hd
      rcases h3 with h3 | h3
      all_goals
        go_enter Tryz.func98, Tryz.ntmps98
        go_wp2_with fail
        go_quiet (first
          | (go_at_call 29; exact Calls.quiet_of_same (in_yes _ _ _ _ (by omega) (by omega)))
          | (go_at_call 29; exact Calls.quiet_of_same (in_no _ _ _ _ (by omega)))
          | (go_at_call 125; exact Calls.quiet_of_same (year_yes _ _ (by omega) (by omega)))
          | (go_at_call 125; exact Calls.quiet_of_same (year_no _ _ (by omega)))
          | (go_at_call 77; exact Calls.quiet_of_same (specLong_any y m _ (by omega) (by omega) (by omega) (by omega))))
        go_wp2
        go_ret
        exact ⟨ret_bool (by rw [HR.out]; try (first | rfl | exact decide_eq_false (by omega) | exact decide_eq_true (by omega))), bel_drewN ((Below.refl _ _).alloc (Nat.le_refl _) _) _⟩
    · clear hr hd
      have g1 := long_lo y m
      have g2 := long_hi y m
      rcases h5 with h5 | h5
      all_goals
        go_enter Tryz.func98, Tryz.ntmps98
        go_wp2_with fail
        go_quiet (first
          | (go_at_call 29; exact Calls.quiet_of_same (in_yes _ _ _ _ (by omega) (by omega)))
          | (go_at_call 29; exact Calls.quiet_of_same (in_no _ _ _ _ (by omega)))
          | (go_at_call 125; exact Calls.quiet_of_same (year_yes _ _ (by omega) (by omega)))
          | (go_at_call 125; exact Calls.quiet_of_same (year_no _ _ (by omega)))
          | (go_at_call 77; exact Calls.quiet_of_same (specLong_any y m _ (by omega) (by omega) (by omega) (by omega))))
        go_wp2
        go_ret
        exact ⟨ret_bool (by rw [HR.out]; try (first | rfl | exact decide_eq_false (by omega) | exact decide_eq_true (by omega))), bel_drewN ((Below.refl _ _).alloc (Nat.le_refl _) _) _⟩
    · rw [hd] at hr; cases hr
  all_goals
    obtain ⟨⟨k1, k2⟩, ⟨k3, k4⟩, k5, k6⟩ := day_parts hd
    have g1 := long_lo y m
    have g2 := long_hi y m
    clear hd
  · rcases h1 with h1 | h1
    all_goals
      go_enter Tryz.func98, Tryz.ntmps98
      go_wp2_with fail
      go_quiet (first
        | (go_at_call 29; exact Calls.quiet_of_same (in_yes _ _ _ _ (by omega) (by omega)))
        | (go_at_call 29; exact Calls.quiet_of_same (in_no _ _ _ _ (by omega)))
        | (go_at_call 125; exact Calls.quiet_of_same (year_yes _ _ (by omega) (by omega)))
        | (go_at_call 125; exact Calls.quiet_of_same (year_no _ _ (by omega)))
        | (go_at_call 77; exact Calls.quiet_of_same (specLong_any y m _ (by omega) (by omega) (by omega) (by omega))))
      go_wp2
      go_ret
      exact ⟨ret_bool (by rw [HR.out]; try (first | rfl | exact decide_eq_false (by omega) | exact decide_eq_true (by omega))), bel_drewN ((Below.refl _ _).alloc (Nat.le_refl _) _) _⟩
  · rcases h3 with h3 | h3
    all_goals
      go_enter Tryz.func98, Tryz.ntmps98
      go_wp2_with fail
      go_quiet (first
        | (go_at_call 29; exact Calls.quiet_of_same (in_yes _ _ _ _ (by omega) (by omega)))
        | (go_at_call 29; exact Calls.quiet_of_same (in_no _ _ _ _ (by omega)))
        | (go_at_call 125; exact Calls.quiet_of_same (year_yes _ _ (by omega) (by omega)))
        | (go_at_call 125; exact Calls.quiet_of_same (year_no _ _ (by omega)))
        | (go_at_call 77; exact Calls.quiet_of_same (specLong_any y m _ (by omega) (by omega) (by omega) (by omega))))
      go_wp2
      go_ret
      exact ⟨ret_bool (by rw [HR.out]; try (first | rfl | exact decide_eq_false (by omega) | exact decide_eq_true (by omega))), bel_drewN ((Below.refl _ _).alloc (Nat.le_refl _) _) _⟩
  · rcases h5 with h5 | h5
    all_goals
      go_enter Tryz.func98, Tryz.ntmps98
      go_wp2_with fail
      go_quiet (first
        | (go_at_call 29; exact Calls.quiet_of_same (in_yes _ _ _ _ (by omega) (by omega)))
        | (go_at_call 29; exact Calls.quiet_of_same (in_no _ _ _ _ (by omega)))
        | (go_at_call 125; exact Calls.quiet_of_same (year_yes _ _ (by omega) (by omega)))
        | (go_at_call 125; exact Calls.quiet_of_same (year_no _ _ (by omega)))
        | (go_at_call 77; exact Calls.quiet_of_same (specLong_any y m _ (by omega) (by omega) (by omega) (by omega))))
      go_wp2
      go_ret
      exact ⟨ret_bool (by rw [HR.out]; try (first | rfl | exact decide_eq_false (by omega) | exact decide_eq_true (by omega))), bel_drewN ((Below.refl _ _).alloc (Nat.le_refl _) _) _⟩
  · go_enter Tryz.func98, Tryz.ntmps98
    go_wp2_with fail
    go_quiet (first
      | (go_at_call 29; exact Calls.quiet_of_same (in_yes _ _ _ _ (by omega) (by omega)))
      | (go_at_call 29; exact Calls.quiet_of_same (in_no _ _ _ _ (by omega)))
      | (go_at_call 125; exact Calls.quiet_of_same (year_yes _ _ (by omega) (by omega)))
      | (go_at_call 125; exact Calls.quiet_of_same (year_no _ _ (by omega)))
      | (go_at_call 77; exact Calls.quiet_of_same (specLong_any y m _ (by omega) (by omega) (by omega) (by omega))))
    go_wp2
    go_ret
    exact ⟨ret_bool (by rw [HR.out]; try (first | rfl | exact decide_eq_false (by omega) | exact decide_eq_true (by omega))), bel_drewN ((Below.refl _ _).alloc (Nat.le_refl _) _) _⟩

end Go.Proofs.YtgidmoncocbfiaaGreatDoor.Dwa

namespace Go.Proofs.YtgidmoncocbfiaaGreatDoor.Dwa
open Go.RowKit
open Go.Proofs.YtgidmoncocbfiaaGreatDoor.Dmt

theorem ret_two {a b : Int} {c : Bool} (h : a = b) : Ending.returned (.tuple #[.int .i64 a, .bool c]) = .returned (.tuple #[.int .i64 b, .bool c]) := by rw [h]

set_option maxHeartbeats 800000 in
theorem specDays_any (y m d : Int) (w : World) (h1 : 1970 ≤ y) (h2 : y ≤ 9999) (h3 : 1 ≤ m) (h4 : m ≤ 12) (h5 : 1 ≤ d) (h6 : d ≤ 31) :
    Calls Tryz.prog 102 #[.int .i64 y, .int .i64 m, .int .i64 d] w fun e w' => e = .returned (.int .i64 (daysI y m d)) ∧ w' = w := by
  have hbd := ahead_bd h1 (show y ≤ 10000 by omega)
  have HO : Hid (daysI y m d = sumF y m 12 1 (aheadI y) + (d - 1)) := by
    show _ = _; unfold daysI; rw [← sumF_shift]; congr 1; omega
  go_enter Tryz.func102, Tryz.ntmps102
  go_wp2_with (go_at_call 76; refine (specAhead_any y _ h1 (by omega)).mono ?_; rintro e w' ⟨rfl, hw⟩; obtain rfl := hw.symm)
  go_loopw [7, 8] (fun n k wr => ∃ (N K : Int) (f : Nat), n = .int .i64 N ∧ k = .int .i64 K ∧ wr = w ∧ 1 ≤ K ∧ K ≤ m ∧ m ≤ K + f ∧ 0 ≤ N ∧ N + 31 * f ≤ 2940000 ∧ Hid (daysI y m d = sumF y m f K N + (d - 1)))
    (fun _ k _ => (13 - intOf k).toNat)
  case atStart => exact ⟨aheadI y, 1, 12, rfl, rfl, rfl, by omega, h3, by omega, hbd.1, by omega, HO⟩
  case round =>
    obtain ⟨N, K, f, rfl, rfl, rfl, hK, hKm, hf, hN, hN2, HD⟩ := hrel
    clear HO
    by_cases hlt : K < m
    · obtain ⟨f', rfl⟩ : ∃ f', f = f' + 1 := ⟨f - 1, by omega⟩
      have g1 := long_lo y K
      have g2 := long_hi y K
      have HD' : Hid (daysI y m d = sumF y m f' (K + 1) (N + longI y K) + (d - 1)) := by show _ = _; rw [HD.out, sumF_more hlt]
      clear HD
      go_wp2_with (go_at_call 77; refine (specLong_any y K _ (by omega) (by omega) (by omega) (by omega)).mono ?_; rintro e w' ⟨rfl, hw⟩; obtain rfl := hw.symm)
      go_roundw
      case rel => exact ⟨N + longI y K, K + 1, f', by go_num, by go_num, by first | rfl | trivial, by omega, by omega, by omega, by omega, by omega, HD'⟩
      case measure => simp [intOf]; omega
    · have HR : Hid (N + d - 1 = daysI y m d) := by show _ = _; rw [HD.out, sumF_end hlt]; omega
      clear HD
      go_wp2
      go_ret
      exact ⟨ret_int HR.out, rfl⟩

set_option maxHeartbeats 800000 in
theorem implDays_yes (y m d : Int) (w : World) (hT : Tab w) (h : dayB y m d = true) :
    Calls Tryz.prog 124 #[.int .i64 y, .int .i64 m, .int .i64 d] w fun e w' => e = .returned (.tuple #[.int .i64 (daysI y m d), .bool true]) ∧ w' = w := by
  obtain ⟨⟨h1, h2⟩, ⟨h3, h4⟩, h5, h6⟩ := day_parts h
  have g3 := long_hi y m
  have hbd := ahead_bd h1 (show y ≤ 10000 by omega)
  have HO : Hid (daysI y m d = sumF y m 12 1 (aheadI y + d - 1)) := rfl
  go_enter Tryz.func124, Tryz.ntmps124
  go_wp2_with (first
    | (go_at_call 149; refine (implDay_any y m d _ hT).mono ?_; rintro e w' ⟨rfl, hw⟩; obtain rfl := hw.symm; rw [h])
    | (go_at_call 155; refine (implAhead_any y _ h1 (by omega)).mono ?_; rintro e w' ⟨rfl, hw⟩; obtain rfl := hw.symm))
  go_loopw [8, 9] (fun n k wr => ∃ (N K : Int) (f : Nat), n = .int .i64 N ∧ k = .int .i64 K ∧ wr = w ∧ 1 ≤ K ∧ K ≤ m ∧ m ≤ K + f ∧ 0 ≤ N ∧ N + 31 * f ≤ 2940000 ∧ Hid (daysI y m d = sumF y m f K N))
    (fun _ k _ => (13 - intOf k).toNat)
  case atStart => exact ⟨aheadI y + d - 1, 1, 12, by go_num, rfl, rfl, by omega, h3, by omega, by omega, by omega, HO⟩
  case round =>
    obtain ⟨N, K, f, rfl, rfl, rfl, hK, hKm, hf, hN, hN2, HD⟩ := hrel
    clear HO
    by_cases hlt : K < m
    · obtain ⟨f', rfl⟩ : ∃ f', f = f' + 1 := ⟨f - 1, by omega⟩
      have g1 := long_lo y K
      have g2 := long_hi y K
      have HD' : Hid (daysI y m d = sumF y m f' (K + 1) (N + longI y K)) := by show _ = _; rw [HD.out, sumF_more hlt]
      clear HD
      go_wp2_with (go_at_call 156; refine (implLong_any y K _ hT (by omega) (by omega) (by omega) (by omega)).mono ?_; rintro e w' ⟨rfl, hw⟩; obtain rfl := hw.symm)
      go_roundw
      case rel => exact ⟨N + longI y K, K + 1, f', by go_num, by go_num, by first | rfl | trivial, by omega, by omega, by omega, by omega, by omega, HD'⟩
      case measure => simp [intOf]; omega
    · have HR : Hid (N = daysI y m d) := by show _ = _; rw [HD.out, sumF_end hlt]
      clear HD
      go_wp2
      go_ret2
      exact ⟨ret_two HR.out, rfl⟩

theorem implDays_no (y m d : Int) (w : World) (hT : Tab w) (h : dayB y m d = false) :
    Calls Tryz.prog 124 #[.int .i64 y, .int .i64 m, .int .i64 d] w fun e w' => e = .returned (.tuple #[.int .i64 0, .bool false]) ∧ w' = w := by
  go_enter Tryz.func124, Tryz.ntmps124
  go_wp2_with (go_at_call 149; refine (implDay_any y m d _ hT).mono ?_; rintro e w' ⟨rfl, hw⟩; obtain rfl := hw.symm; rw [h])
  go_ret2
  exact ⟨rfl, rfl⟩

set_option maxHeartbeats 800000 in
theorem implYear_any (days : Int) (w : World) (h1 : 0 ≤ days) (h2 : days ≤ 2932896) :
    Calls Tryz.prog 163 #[.int .i64 days] w fun e w' => e = .returned (.int .i64 (yearI days)) ∧ w' = w := by
  have hb := ahead_begin days h1
  have HO : Hid (yearI days = yearF days 9000 (1970 + days / 366)) := rfl
  go_enter Tryz.func163, Tryz.ntmps163
  go_wp2
  go_loopw [3] (fun y wr => ∃ (Y : Int) (f : Nat), y = .int .i64 Y ∧ wr = w ∧ 1970 ≤ Y ∧ Y ≤ 9999 ∧ 10000 ≤ Y + f ∧ Hid (yearI days = yearF days f Y))
    (fun y _ => (10000 - intOf y).toNat)
  case atStart => exact ⟨1970 + days / 366, 9000, by go_num, rfl, by omega, by omega, by omega, HO⟩
  case round =>
    obtain ⟨Y, f, rfl, rfl, hY, hY2, hf, HD⟩ := hrel
    clear HO
    by_cases hlt : aheadI (Y + 1) ≤ days
    · obtain ⟨f', rfl⟩ : ∃ f', f = f' + 1 := ⟨f - 1, by omega⟩
      have hY3 := ahead_last Y days hlt hY2 h2
      have HD' : Hid (yearI days = yearF days f' (Y + 1)) := by show _ = _; rw [HD.out, yearF_more hlt]
      clear HD
      go_wp2_with (go_at_call 155; refine (implAhead_any (Y + 1) _ (by omega) (by omega)).mono ?_; rintro e w' ⟨rfl, hw⟩; obtain rfl := hw.symm)
      go_roundw
      case rel => exact ⟨Y + 1, f', by go_num, by first | rfl | trivial, by omega, by omega, by omega, HD'⟩
      case measure => simp [intOf]; omega
    · have HR : Hid (Y = yearI days) := by show _ = _; rw [HD.out, yearF_end hlt]
      clear HD
      go_wp2_with (go_at_call 155; refine (implAhead_any (Y + 1) _ (by omega) (by omega)).mono ?_; rintro e w' ⟨rfl, hw⟩; obtain rfl := hw.symm)
      go_ret
      exact ⟨ret_int HR.out, rfl⟩

end Go.Proofs.YtgidmoncocbfiaaGreatDoor.Dwa

namespace Go.Proofs.YtgidmoncocbfiaaGreatDoor.Dwa
open Go.RowKit
open Go.Proofs.YtgidmoncocbfiaaGreatDoor.Dmt

theorem ret_agg {y m d m' d' h i s : Int} (h1 : m = m') (h2 : d = d') : Ending.returned (.agg #[.int .i64 y, .int .i64 m, .int .i64 d, .int .i64 h, .int .i64 i, .int .i64 s]) = .returned (.agg #[.int .i64 y, .int .i64 m', .int .i64 d', .int .i64 h, .int .i64 i, .int .i64 s]) := by rw [h1, h2]

/-- Which day of its year a day is. -/
def restI (days : Int) : Int := days - aheadI (yearI days)

theorem rest_bd (days : Int) (h1 : 0 ≤ days) (h2 : days ≤ 2932896) : 0 ≤ restI days ∧ restI days < remI (yearI days) 1 := by
  have h := yearI_ok days h1 h2
  have e := ahead_step (yearI days)
  have r : remI (yearI days) 1 = 365 + (if leapB (yearI days) then 1 else 0) := by unfold remI; rw [if_pos (by omega)]
  unfold restI
  omega

set_option maxHeartbeats 800000 in
theorem implDate_any (days : Int) (w : World) (hT : Tab w) (h1 : 0 ≤ days) (h2 : days ≤ 2932896) :
    Calls Tryz.prog 142 #[.int .i64 days] w fun e w' => e = .returned (.agg #[.int .i64 (yearI days), .int .i64 (monthI (yearI days) (restI days)).1, .int .i64 ((monthI (yearI days) (restI days)).2 + 1), .int .i64 0, .int .i64 0, .int .i64 0]) ∧ Below w.heap.size w w' := by
  have hy := yearI_ok days h1 h2
  have hr := rest_bd days h1 h2
  have HO : Hid (monthI (yearI days) (restI days) = monthF (yearI days) 12 1 (restI days)) := rfl
  have hr0 : restI days = days - aheadI (yearI days) := rfl
  have hab := ahead_bd hy.1 (show yearI days ≤ 10000 by omega)
  obtain ⟨Y, hY⟩ : ∃ Y, Y = yearI days := ⟨_, rfl⟩
  obtain ⟨R, hR⟩ : ∃ R, R = restI days := ⟨_, rfl⟩
  rw [← hY] at hy hr hr0 HO hab ⊢
  rw [← hR] at hr hr0 HO ⊢
  have HY : Hid (Y = yearI days) := hY
  clear hY hR
  go_enter Tryz.func142, Tryz.ntmps142
  go_wp2_with (first
    | (go_at_call 163; refine (implYear_any days _ h1 h2).mono ?_; rintro e w' ⟨rfl, hw⟩; obtain rfl := hw.symm; rw [← HY.out])
    | (go_at_call 155; refine (implAhead_any Y _ hy.1 (by omega)).mono ?_; rintro e w' ⟨rfl, hw⟩; obtain rfl := hw.symm))
  go_loopw [4, 5] (fun r m wr => ∃ (L M : Int) (f : Nat), r = .int .i64 L ∧ m = .int .i64 M ∧ wr = w.alloc (.cells #[.int .i64 0, .int .i64 0, .int .i64 0, .int .i64 0, .int .i64 0, .int .i64 0] 93) ∧ 1 ≤ M ∧ M ≤ 12 ∧ 12 ≤ M + f ∧ 0 ≤ L ∧ L < remI Y M ∧ L ≤ 2940000 ∧ Hid (monthI Y R = monthF Y f M L))
    (fun _ m _ => (13 - intOf m).toNat)
  case atStart => exact ⟨R, 1, 12, by first | rfl | (rw [hr0]; go_num) | (rw [hr0]), rfl, rfl, by omega, by omega, by omega, hr.1, hr.2, by omega, HO⟩
  case round =>
    obtain ⟨L, M, f, rfl, rfl, rfl, hM, hM2, hf, hL, hL2, hL3, HD⟩ := hrel
    clear HO
    have g1 := long_lo Y M
    have g2 := long_hi Y M
    have g3 := rem_step Y M hM hM2
    by_cases hlt : longI Y M ≤ L
    · have hM3 : M ≤ 11 := by
        by_cases h12 : M ≤ 11
        · exact h12
        · have := rem_last Y M (by omega) hM2; omega
      obtain ⟨f', rfl⟩ : ∃ f', f = f' + 1 := ⟨f - 1, by omega⟩
      have HD' : Hid (monthI Y R = monthF Y f' (M + 1) (L - longI Y M)) := by show _ = _; rw [HD.out, monthF_more hlt]
      clear HD
      go_wp2_with (go_at_call 156; refine (implLong_any Y M _ (hT.alloc _) (by omega) (by omega) (by omega) (by omega)).mono ?_; rintro e w' ⟨rfl, hw⟩; obtain rfl := hw.symm)
      go_roundw
      case rel => exact ⟨L - longI Y M, M + 1, f', by go_num, by go_num, by first | rfl | trivial, by omega, by omega, by omega, by omega, by omega, by omega, HD'⟩
      case measure => simp [intOf]; omega
    · have HR1 : Hid (M = (monthI Y R).1) := by show _ = _; rw [HD.out, monthF_end hlt]
      have HR2 : Hid (L + 1 = (monthI Y R).2 + 1) := by show _ = _; rw [HD.out, monthF_end hlt]
      clear HD
      go_wp2_with (go_at_call 156; refine (implLong_any Y M _ (hT.alloc _) (by omega) (by omega) (by omega) (by omega)).mono ?_; rintro e w' ⟨rfl, hw⟩; obtain rfl := hw.symm)
      exact bodyPost_ret (v := .agg #[.int .i64 Y, .int .i64 M, .int .i64 (L + 1), .int .i64 0, .int .i64 0, .int .i64 0]) (by simp [results, Tryz.results142, go_sem]) rfl ⟨ret_agg HR1.out HR2.out, by repeat (first | exact Below.refl _ _ | refine Below.alloc ?_ (by simp <;> omega) _ | refine Below.setCell ?_ (by simp <;> omega) _)⟩

/-- A date's value. -/
def dateV (y m d h i s : Int) : Value := .agg #[.int .i64 y, .int .i64 m, .int .i64 d, .int .i64 h, .int .i64 i, .int .i64 s]

/-- The date that has so many seconds. -/
def atV (t : Int) : Value := dateV (yearI (t / 86400)) (monthI (yearI (t / 86400)) (restI (t / 86400))).1 ((monthI (yearI (t / 86400)) (restI (t / 86400))).2 + 1) (t % 86400 / 3600) (t % 86400 / 60 % 60) (t % 86400 % 60)

set_option maxHeartbeats 1600000 in
theorem specAt_any (t : Int) (w : World) (h1 : 0 ≤ t) (h2 : t ≤ 253402300799) :
    Calls Tryz.prog 47 #[.int .i64 t] w fun e w' => e = .returned (atV t) ∧ Below w.heap.size w w' := by
  have hd1 : 0 ≤ t / 86400 := by omega
  have hd2 : t / 86400 ≤ 2932896 := by omega
  have hy := yearI_ok _ hd1 hd2
  have hr := rest_bd _ hd1 hd2
  have hb := ahead_begin _ hd1
  have HA : Hid (atV t = dateV (yearI (t / 86400)) (monthI (yearI (t / 86400)) (restI (t / 86400))).1 ((monthI (yearI (t / 86400)) (restI (t / 86400))).2 + 1) (t % 86400 / 3600) (t % 86400 / 60 % 60) (t % 86400 % 60)) := rfl
  have HO : Hid (monthI (yearI (t / 86400)) (restI (t / 86400)) = monthF (yearI (t / 86400)) 12 1 (restI (t / 86400))) := rfl
  have HP : Hid (yearI (t / 86400) = yearF (t / 86400) 9000 (1970 + t / 86400 / 366)) := rfl
  have hr0 : restI (t / 86400) = t / 86400 - aheadI (yearI (t / 86400)) := rfl
  have hab := ahead_bd hy.1 (show yearI (t / 86400) ≤ 10000 by omega)
  obtain ⟨Y, hY⟩ : ∃ Y, Y = yearI (t / 86400) := ⟨_, rfl⟩
  obtain ⟨R, hR⟩ : ∃ R, R = restI (t / 86400) := ⟨_, rfl⟩
  rw [← hY] at hy hr hr0 HO HP HA hab
  rw [← hR] at hr hr0 HO HA
  clear hY hR
  go_enter Tryz.func47, Tryz.ntmps47
  go_wp2
  go_loopw [4] (fun y wr => ∃ (X : Int) (f : Nat), y = .int .i64 X ∧ wr = w.alloc (.cells #[.int .i64 0, .int .i64 0, .int .i64 0, .int .i64 0, .int .i64 0, .int .i64 0] 93) ∧ 1970 ≤ X ∧ X ≤ 9999 ∧ 10000 ≤ X + f ∧ Hid (Y = yearF (t / 86400) f X))
    (fun y _ => (10000 - intOf y).toNat)
  case atStart => exact ⟨1970 + t / 86400 / 366, 9000, by go_num, rfl, by omega, by omega, by omega, HP⟩
  case round =>
    obtain ⟨X, f, rfl, rfl, hX, hX2, hf, HD⟩ := hrel
    clear HP
    by_cases hlt : aheadI (X + 1) ≤ t / 86400
    · obtain ⟨f', rfl⟩ : ∃ f', f = f' + 1 := ⟨f - 1, by omega⟩
      have hX3 := ahead_last X _ hlt hX2 hd2
      have HD' : Hid (Y = yearF (t / 86400) f' (X + 1)) := by show _ = _; rw [HD.out, yearF_more hlt]
      clear HD
      go_wp2_with (go_at_call 76; refine (specAhead_any (X + 1) _ (by omega) (by omega)).mono ?_; rintro e w' ⟨rfl, hw⟩; obtain rfl := hw.symm)
      go_roundw
      case rel => exact ⟨X + 1, f', by go_num, by first | rfl | trivial, by omega, by omega, by omega, HD'⟩
      case measure => simp [intOf]; omega
    · have HX : X = Y := by rw [HD.out, yearF_end hlt]
      clear HD
      subst HX
      go_wp2_with (go_at_call 76; refine (specAhead_any _ _ (by omega) (by omega)).mono ?_; rintro e w' ⟨rfl, hw⟩; obtain rfl := hw.symm)
      go_loopw [5, 6] (fun r m wx => ∃ (L M : Int) (f : Nat), r = .int .i64 L ∧ m = .int .i64 M ∧ wx = w.alloc (.cells #[.int .i64 0, .int .i64 0, .int .i64 0, .int .i64 0, .int .i64 0, .int .i64 0] 93) ∧ 1 ≤ M ∧ M ≤ 12 ∧ 12 ≤ M + f ∧ 0 ≤ L ∧ L < remI X M ∧ L ≤ 2940000 ∧ Hid (monthI X R = monthF X f M L))
        (fun _ m _ => (13 - intOf m).toNat)
      case atStart => exact ⟨R, 1, 12, by first | rfl | (rw [hr0]; go_num) | (rw [hr0]), rfl, rfl, by omega, by omega, by omega, hr.1, hr.2, by omega, HO⟩
      case round =>
        obtain ⟨L, M, f, rfl, rfl, rfl, hM, hM2, hf, hL, hL2, hL3, HD⟩ := hrel
        clear HO
        have g1 := long_lo X M
        have g2 := long_hi X M
        have g3 := rem_step X M hM hM2
        by_cases hlt : longI X M ≤ L
        · have hM3 : M ≤ 11 := by
            by_cases h12 : M ≤ 11
            · exact h12
            · have := rem_last X M (by omega) hM2; omega
          obtain ⟨f', rfl⟩ : ∃ f', f = f' + 1 := ⟨f - 1, by omega⟩
          have HD' : Hid (monthI X R = monthF X f' (M + 1) (L - longI X M)) := by show _ = _; rw [HD.out, monthF_more hlt]
          clear HD
          go_wp2_with (go_at_call 77; refine (specLong_any X M _ (by omega) (by omega) (by omega) (by omega)).mono ?_; rintro e w' ⟨rfl, hw⟩; obtain rfl := hw.symm)
          go_roundw
          case rel => exact ⟨L - longI X M, M + 1, f', by go_num, by go_num, by first | rfl | trivial, by omega, by omega, by omega, by omega, by omega, by omega, HD'⟩
          case measure => simp [intOf]; omega
        · have HR1 : Hid (M = (monthI X R).1) := by show _ = _; rw [HD.out, monthF_end hlt]
          have HR2 : Hid (L + 1 = (monthI X R).2 + 1) := by show _ = _; rw [HD.out, monthF_end hlt]
          clear HD
          go_wp2_with (go_at_call 77; refine (specLong_any X M _ (by omega) (by omega) (by omega) (by omega)).mono ?_; rintro e w' ⟨rfl, hw⟩; obtain rfl := hw.symm)
          exact bodyPost_ret (v := .agg #[.int .i64 X, .int .i64 M, .int .i64 (L + 1), .int .i64 (t % 86400 / 3600), .int .i64 (t % 86400 / 60 % 60), .int .i64 (t % 86400 % 60)]) (by simp [results, Tryz.results47, go_sem]) rfl ⟨(ret_agg HR1.out HR2.out).trans (congrArg _ HA.out.symm), by repeat (first | exact Below.refl _ _ | refine Below.alloc ?_ (by simp <;> omega) _ | refine Below.setCell ?_ (by simp <;> omega) _)⟩

end Go.Proofs.YtgidmoncocbfiaaGreatDoor.Dwa

namespace Go.Proofs.YtgidmoncocbfiaaGreatDoor.Dwa
open Go.RowKit
open Go.Proofs.YtgidmoncocbfiaaGreatDoor.Dmt

/-- What lay there before a callee that makes memory alone still reads as it did. -/
theorem bcell {W w1 : World} (hb : Below W.heap.size W w1) : (∀ b o, b < W.heap.size → w1.cell? ⟨b, o, none⟩ = W.cell? ⟨b, o, none⟩) ∧ (∀ b o, b < W.heap.size → w1.frozen? ⟨b, o, none⟩ = W.frozen? ⟨b, o, none⟩) :=
  ⟨fun b o h => hb.cell (p := ⟨b, o, none⟩) h, fun b o h => hb.frozen (p := ⟨b, o, none⟩) h⟩

/-- A block that was made just ahead of a callee that makes memory alone. -/
theorem zcells {w w1 : World} {cs : Array Value} {t : TypeId} (hb : Below (w.alloc (.cells cs t)).heap.size (w.alloc (.cells cs t)) w1) :
    (∀ i, w1.cell? ⟨w.heap.size, i, none⟩ = cs[i]?) ∧ (∀ i, w1.frozen? ⟨w.heap.size, i, none⟩ = false) ∧ w.heap.size < w1.heap.size := by
  have hs : w.heap.size < (w.alloc (.cells cs t)).heap.size := by simp
  refine ⟨fun i => ?_, fun i => ?_, Nat.lt_of_lt_of_le hs hb.size⟩
  · rw [(bcell hb).1 _ i hs]; exact World.cell?_alloc_mark w cs t _ i
  · rw [(bcell hb).2 _ i hs]; exact World.frozen?_alloc_at cs t _ i rfl

theorem atV_is (t : Int) : ∃ Y M D, Y = yearI (t / 86400) ∧ M = (monthI (yearI (t / 86400)) (restI (t / 86400))).1 ∧ D = (monthI (yearI (t / 86400)) (restI (t / 86400))).2 + 1 ∧ atV t = dateV Y M D (t % 86400 / 3600) (t % 86400 / 60 % 60) (t % 86400 % 60) := ⟨_, _, _, rfl, rfl, rfl, rfl⟩

theorem ret_date {t : Int} {v : Value} (h : atV t = v) : Ending.returned (.tuple #[v, .bool true]) = .returned (.tuple #[atV t, .bool true]) := by rw [h]

set_option maxHeartbeats 800000 in
theorem implAt_yes (t : Int) (w : World) (hT : Tab w) (h1 : 0 ≤ t) (h2 : t ≤ 253402300799) :
    Calls Tryz.prog 118 #[.int .i64 t] w fun e w' => e = .returned (.tuple #[atV t, .bool true]) ∧ Below w.heap.size w w' := by
  obtain ⟨Y, M, D, hY, hM, hD, hA⟩ := atV_is t
  rw [show t % 86400 % 60 = t % 60 from by omega] at hA
  have HA : Hid (atV t = dateV Y M D (t % 86400 / 3600) (t % 86400 / 60 % 60) (t % 60)) := hA
  have C := fun w hT => implDate_any (t / 86400) w hT (by omega) (by omega)
  simp only [← hD, ← hM] at C
  simp only [← hY] at C
  have HC : Hid (∀ w, Tab w → Calls Tryz.prog 142 #[.int .i64 (t / 86400)] w fun e w' => e = .returned (.agg #[.int .i64 Y, .int .i64 M, .int .i64 D, .int .i64 0, .int .i64 0, .int .i64 0]) ∧ Below w.heap.size w w') := C
  clear C hY hM hD hA
  go_enter Tryz.func118, Tryz.ntmps118
  go_wp2_with (first
    | (go_at_call 142; refine (HC.out _ (by first | exact hT | exact hT.alloc _ | exact (hT.alloc _).alloc _)).mono ?_; rintro e w1 ⟨rfl, hb1⟩; obtain ⟨hc1, hf1, hsz⟩ := zcells hb1)
    | go_in)
  have hfin : Below w.heap.size w w1 := ((Below.refl _ _).alloc (Nat.le_refl _) _).trans (hb1.mono (by simp))
  exact bodyPost_ret (v := .tuple #[dateV Y M D (t % 86400 / 3600) (t % 86400 / 60 % 60) (t % 60), .bool true]) (by simp [results, Tryz.results118, go_sem, hsz, dateV, hc1]) rfl ⟨ret_date HA.out, ((((((hfin.setCell (Nat.le_refl _) _).setCell (Nat.le_refl _) _).setCell (Nat.le_refl _) _).setCell (Nat.le_refl _) _).setCell (Nat.le_refl _) _).setCell (Nat.le_refl _) _).alloc (Nat.le_of_lt (by simpa using hsz)) _⟩

theorem implAt_no (t : Int) (w : World) (h1 : t < 0 ∨ 253402300799 < t) :
    Calls Tryz.prog 118 #[.int .i64 t] w fun e w' => e = .returned (.tuple #[dateV 0 0 0 0 0 0, .bool false]) ∧ Below w.heap.size w w' := by
  rcases (show t < 0 ∨ (0 ≤ t ∧ 253402300799 < t) from by omega) with h1 | ⟨h0, h1⟩
  · go_enter Tryz.func118, Tryz.ntmps118
    go_wp2
    exact bodyPost_ret (v := .tuple #[dateV 0 0 0 0 0 0, .bool false]) (by simp [results, Tryz.results118, go_sem, dateV]) rfl ⟨rfl, by repeat (first | exact Below.refl _ _ | refine Below.alloc ?_ (by simp <;> omega) _ | refine Below.setCell ?_ (by simp <;> omega) _)⟩
  · have hd : decide (t ≤ 253402300799) = false := decide_eq_false (by omega)
    go_enter Tryz.func118, Tryz.ntmps118
    go_wp2
    exact bodyPost_ret (v := .tuple #[dateV 0 0 0 0 0 0, .bool false]) (by simp [results, Tryz.results118, go_sem, dateV]) rfl ⟨rfl, by repeat (first | exact Below.refl _ _ | refine Below.alloc ?_ (by simp <;> omega) _ | refine Below.setCell ?_ (by simp <;> omega) _)⟩

end Go.Proofs.YtgidmoncocbfiaaGreatDoor.Dwa

namespace Go.Proofs.YtgidmoncocbfiaaGreatDoor.Dwa
open Go.RowKit
open Go.Proofs.YtgidmoncocbfiaaGreatDoor.Dmt

theorem specSec_any (y m d h i s : Int) (w : World) (hg : goodB y m d h i s = true) :
    Calls Tryz.prog 71 #[dateV y m d h i s] w fun e w' => e = .returned (.int .i64 (secI y m d h i s)) ∧ Below w.heap.size w w' := by
  obtain ⟨hd, ⟨k1, k2⟩, ⟨k3, k4⟩, k5, k6⟩ := good_parts hg
  obtain ⟨⟨h1, h2⟩, ⟨h3, h4⟩, h5, h6⟩ := day_parts hd
  have g3 := long_hi y m
  have hdb := days_bd (y := y) (m := m) (d := d) h1 h2 h5 (by omega)
  have HR : Hid (86400 * daysI y m d + 3600 * h + 60 * i + s = secI y m d h i s) := rfl
  clear hd hg
  unfold dateV
  go_enter Tryz.func71, Tryz.ntmps71
  go_wp2_with fail
  go_quiet ((go_at_call 102; exact Calls.quiet_of_same (specDays_any y m d _ h1 h2 h3 h4 h5 (by omega))))
  go_wp2
  go_ret
  exact ⟨ret_int HR.out, bel_drewN ((Below.refl _ _).alloc (Nat.le_refl _) _) _⟩

theorem implSecondsOf_yes (y m d h i s : Int) (w : World) (hT : Tab w) (hg : goodB y m d h i s = true) :
    Calls Tryz.prog 93 #[dateV y m d h i s] w fun e w' => e = .returned (.tuple #[.int .i64 (secI y m d h i s), .bool true]) ∧ Below w.heap.size w w' := by
  obtain ⟨hd, ⟨k1, k2⟩, ⟨k3, k4⟩, k5, k6⟩ := good_parts hg
  obtain ⟨⟨h1, h2⟩, ⟨h3, h4⟩, h5, h6⟩ := day_parts hd
  have g3 := long_hi y m
  have hdb := days_bd (y := y) (m := m) (d := d) h1 h2 h5 (by omega)
  have HR : Hid (daysI y m d * 86400 + (h * 60 + i) * 60 + s = secI y m d h i s) := by show _ = _; unfold secI; omega
  have G := fun w hT => implGood_any y m d h i s w hT
  have hT0 := hT.alloc (.cells #[.int .i64 y, .int .i64 m, .int .i64 d, .int .i64 h, .int .i64 i, .int .i64 s] 93)
  have hl0 := hT0.lt
  unfold dateV
  go_enter Tryz.func93, Tryz.ntmps93
  go_wp2_with (first
    | (go_at_call 120; refine (G _ hT0).mono ?_; rintro e w1 ⟨rfl, hb1⟩; obtain ⟨hc1, hf1, hsz⟩ := zcells hb1; rw [hg])
    | (go_at_call 124; refine (implDays_yes y m d _ (hT0.below hb1 hl0) hd).mono ?_; rintro e w' ⟨rfl, hw⟩; obtain rfl := hw.symm))
  go_ret2
  exact ⟨ret_two HR.out, ((Below.refl _ _).alloc (Nat.le_refl _) _).trans (hb1.mono (by simp))⟩

theorem implSecondsOf_no (y m d h i s : Int) (w : World) (hT : Tab w) (hg : goodB y m d h i s = false) :
    Calls Tryz.prog 93 #[dateV y m d h i s] w fun e w' => e = .returned (.tuple #[.int .i64 0, .bool false]) ∧ Below w.heap.size w w' := by
  have G := fun w hT => implGood_any y m d h i s w hT
  unfold dateV
  go_enter Tryz.func93, Tryz.ntmps93
  go_wp2_with (first
    | (go_at_call 120; refine (G _ (hT.alloc _)).mono ?_; rintro e w1 ⟨rfl, hb1⟩; obtain ⟨hc1, hf1, hsz⟩ := zcells hb1; rw [hg]))
  go_ret2
  exact ⟨rfl, ((Below.refl _ _).alloc (Nat.le_refl _) _).trans (hb1.mono (by simp))⟩

end Go.Proofs.YtgidmoncocbfiaaGreatDoor.Dwa

namespace Go.Proofs.YtgidmoncocbfiaaGreatDoor.Dwa
open Go.RowKit
open Go.Proofs.YtgidmoncocbfiaaGreatDoor.Dmt

end Go.Proofs.YtgidmoncocbfiaaGreatDoor.Dwa

