/-
  Walks: loops over months and years: spec.l2Days, impl.DaysOf, impl.yearOfDay, impl.dateOfDay, spec.l2At.
-/
import Derived.Test.YtnjpagejeiiphaaDoorDdy
namespace Go.Proofs.YtnjpagejeiiphaaDoor.Dwa
open Go.RowKit
open Go.Proofs.YtnjpagejeiiphaaDoor.Dmt

theorem ret_two {a b : Int} {c : Bool} (h : a = b) : Ending.returned (.tuple #[.int .i64 a, .bool c]) = .returned (.tuple #[.int .i64 b, .bool c]) := by rw [h]

set_option maxHeartbeats 800000 in
theorem specDays_any (y m d : Int) (w : World) (h1 : 1970 ≤ y) (h2 : y ≤ 9999) (h3 : 1 ≤ m) (h4 : m ≤ 12) (h5 : 1 ≤ d) (h6 : d ≤ 31) :
    Calls Tryd.prog 38 #[.int .i64 y, .int .i64 m, .int .i64 d] w fun e w' => e = .returned (.int .i64 (daysI y m d)) ∧ w' = w := by
  have hbd := ahead_bd h1 (show y ≤ 10000 by omega)
  have HO : Hid (daysI y m d = sumF y m 12 1 (aheadI y) + (d - 1)) := by
    show _ = _; unfold daysI; rw [← sumF_shift]; congr 1; omega
  go_enter Tryd.func38, Tryd.ntmps38
  go_wp2_with (go_at_call 47; refine (specAhead_any y _ h1 (by omega)).mono ?_; rintro e w' ⟨rfl, hw⟩; obtain rfl := hw.symm)
  go_loopw [7, 8] (fun n k wr => ∃ (N K : Int) (f : Nat), n = .int .i64 N ∧ k = .int .i64 K ∧ wr = w ∧ 1 ≤ K ∧ K ≤ m ∧ m ≤ K + f ∧ 0 ≤ N ∧ N + 31 * f ≤ 2940000 ∧ Hid (daysI y m d = sumF y m f K N + (d - 1)))
    (fun _ k _ => (13 - intOf k).toNat)
  case atStart => exact ⟨aheadI y, 1, 12, rfl, rfl, rfl, by omega, h3, by omega, hbd.1, by omega, HO⟩
  case round =>
    obtain ⟨N, K, f, rfl, rfl, rfl, hK, hKm, hf, hN, hN2, HD⟩ := hrel
    clear HO
    by_cases hlt : K < m
    · obtain ⟨f', rfl⟩ : ∃ f', f = f' + 1 := ⟨f - 1, by omega⟩
      have g1 := long_lo y K
      have g2 := long_hi y K
      have HD' : Hid (daysI y m d = sumF y m f' (K + 1) (N + longI y K) + (d - 1)) := by show _ = _; rw [HD.out, sumF_more hlt]
      clear HD
      go_wp2_with (go_at_call 37; refine (specLong_any y K _ (by omega) (by omega) (by omega) (by omega)).mono ?_; rintro e w' ⟨rfl, hw⟩; obtain rfl := hw.symm)
      go_roundw
      case rel => exact ⟨N + longI y K, K + 1, f', by go_num, by go_num, by first | rfl | trivial, by omega, by omega, by omega, by omega, by omega, HD'⟩
      case measure => simp [intOf]; omega
    · have HR : Hid (N + d - 1 = daysI y m d) := by show _ = _; rw [HD.out, sumF_end hlt]; omega
      clear HD
      go_wp2
      go_ret
      exact ⟨ret_int HR.out, rfl⟩

set_option maxHeartbeats 800000 in
theorem implDays_yes (y m d : Int) (w : World) (hT : Tab w) (h : dayB y m d = true) :
    Calls Tryd.prog 14 #[.int .i64 y, .int .i64 m, .int .i64 d] w fun e w' => e = .returned (.tuple #[.int .i64 (daysI y m d), .bool true]) ∧ w' = w := by
  obtain ⟨⟨h1, h2⟩, ⟨h3, h4⟩, h5, h6⟩ := day_parts h
  have g3 := long_hi y m
  have hbd := ahead_bd h1 (show y ≤ 10000 by omega)
  have HO : Hid (daysI y m d = sumF y m 12 1 (aheadI y + d - 1)) := rfl
  go_enter Tryd.func14, Tryd.ntmps14
  go_wp2_with (first
    | (go_at_call 27; refine (implDay_any y m d _ hT).mono ?_; rintro e w' ⟨rfl, hw⟩; obtain rfl := hw.symm; rw [h])
    | (go_at_call 30; refine (implAhead_any y _ h1 (by omega)).mono ?_; rintro e w' ⟨rfl, hw⟩; obtain rfl := hw.symm))
  go_loopw [8, 9] (fun n k wr => ∃ (N K : Int) (f : Nat), n = .int .i64 N ∧ k = .int .i64 K ∧ wr = w ∧ 1 ≤ K ∧ K ≤ m ∧ m ≤ K + f ∧ 0 ≤ N ∧ N + 31 * f ≤ 2940000 ∧ Hid (daysI y m d = sumF y m f K N))
    (fun _ k _ => (13 - intOf k).toNat)
  case atStart => exact ⟨aheadI y + d - 1, 1, 12, by go_num, rfl, rfl, by omega, h3, by omega, by omega, by omega, HO⟩
  case round =>
    obtain ⟨N, K, f, rfl, rfl, rfl, hK, hKm, hf, hN, hN2, HD⟩ := hrel
    clear HO
    by_cases hlt : K < m
    · obtain ⟨f', rfl⟩ : ∃ f', f = f' + 1 := ⟨f - 1, by omega⟩
      have g1 := long_lo y K
      have g2 := long_hi y K
      have HD' : Hid (daysI y m d = sumF y m f' (K + 1) (N + longI y K)) := by show _ = _; rw [HD.out, sumF_more hlt]
      clear HD
      go_wp2_with (go_at_call 31; refine (implLong_any y K _ hT (by omega) (by omega) (by omega) (by omega)).mono ?_; rintro e w' ⟨rfl, hw⟩; obtain rfl := hw.symm)
      go_roundw
      case rel => exact ⟨N + longI y K, K + 1, f', by go_num, by go_num, by first | rfl | trivial, by omega, by omega, by omega, by omega, by omega, HD'⟩
      case measure => simp [intOf]; omega
    · have HR : Hid (N = daysI y m d) := by show _ = _; rw [HD.out, sumF_end hlt]
      clear HD
      go_wp2
      go_ret2
      exact ⟨ret_two HR.out, rfl⟩

theorem implDays_no (y m d : Int) (w : World) (hT : Tab w) (h : dayB y m d = false) :
    Calls Tryd.prog 14 #[.int .i64 y, .int .i64 m, .int .i64 d] w fun e w' => e = .returned (.tuple #[.int .i64 0, .bool false]) ∧ w' = w := by
  go_enter Tryd.func14, Tryd.ntmps14
  go_wp2_with (go_at_call 27; refine (implDay_any y m d _ hT).mono ?_; rintro e w' ⟨rfl, hw⟩; obtain rfl := hw.symm; rw [h])
  go_ret2
  exact ⟨rfl, rfl⟩

set_option maxHeartbeats 800000 in
theorem implYear_any (days : Int) (w : World) (h1 : 0 ≤ days) (h2 : days ≤ 2932896) :
    Calls Tryd.prog 42 #[.int .i64 days] w fun e w' => e = .returned (.int .i64 (yearI days)) ∧ w' = w := by
  have hb := ahead_begin days h1
  have HO : Hid (yearI days = yearF days 9000 (1970 + days / 366)) := rfl
  go_enter Tryd.func42, Tryd.ntmps42
  go_wp2
  go_loopw [3] (fun y wr => ∃ (Y : Int) (f : Nat), y = .int .i64 Y ∧ wr = w ∧ 1970 ≤ Y ∧ Y ≤ 9999 ∧ 10000 ≤ Y + f ∧ Hid (yearI days = yearF days f Y))
    (fun y _ => (10000 - intOf y).toNat)
  case atStart => exact ⟨1970 + days / 366, 9000, by go_num, rfl, by omega, by omega, by omega, HO⟩
  case round =>
    obtain ⟨Y, f, rfl, rfl, hY, hY2, hf, HD⟩ := hrel
    clear HO
    by_cases hlt : aheadI (Y + 1) ≤ days
    · obtain ⟨f', rfl⟩ : ∃ f', f = f' + 1 := ⟨f - 1, by omega⟩
      have hY3 := ahead_last Y days hlt hY2 h2
      have HD' : Hid (yearI days = yearF days f' (Y + 1)) := by show _ = _; rw [HD.out, yearF_more hlt]
      clear HD
      go_wp2_with (go_at_call 30; refine (implAhead_any (Y + 1) _ (by omega) (by omega)).mono ?_; rintro e w' ⟨rfl, hw⟩; obtain rfl := hw.symm)
      go_roundw
      case rel => exact ⟨Y + 1, f', by go_num, by first | rfl | trivial, by omega, by omega, by omega, HD'⟩
      case measure => simp [intOf]; omega
    · have HR : Hid (Y = yearI days) := by show _ = _; rw [HD.out, yearF_end hlt]
      clear HD
      go_wp2_with (go_at_call 30; refine (implAhead_any (Y + 1) _ (by omega) (by omega)).mono ?_; rintro e w' ⟨rfl, hw⟩; obtain rfl := hw.symm)
      go_ret
      exact ⟨ret_int HR.out, rfl⟩

end Go.Proofs.YtnjpagejeiiphaaDoor.Dwa
