/-
  Walks: a date of its seconds: impl.dateOfDay, impl.DateAt, spec.l2At, spec.DateAt.
-/
import Derived.Test.YtnjpagejeiiphaaDoorDlo
namespace Go.Proofs.YtnjpagejeiiphaaDoor.Dwa
open Go.RowKit
open Go.Proofs.YtnjpagejeiiphaaDoor.Dmt

theorem ret_agg {y m d m' d' h i s : Int} (h1 : m = m') (h2 : d = d') : Ending.returned (.agg #[.int .i64 y, .int .i64 m, .int .i64 d, .int .i64 h, .int .i64 i, .int .i64 s]) = .returned (.agg #[.int .i64 y, .int .i64 m', .int .i64 d', .int .i64 h, .int .i64 i, .int .i64 s]) := by rw [h1, h2]

/-- Which day of its year a day is. -/
def restI (days : Int) : Int := days - aheadI (yearI days)

theorem rest_bd (days : Int) (h1 : 0 ≤ days) (h2 : days ≤ 2932896) : 0 ≤ restI days ∧ restI days < remI (yearI days) 1 := by
  have h := yearI_ok days h1 h2
  have e := ahead_step (yearI days)
  have r : remI (yearI days) 1 = 365 + (if leapB (yearI days) then 1 else 0) := by unfold remI; rw [if_pos (by omega)]
  unfold restI
  omega

set_option maxHeartbeats 800000 in
theorem implDate_any (days : Int) (w : World) (hT : Tab w) (h1 : 0 ≤ days) (h2 : days ≤ 2932896) :
    Calls Tryd.prog 29 #[.int .i64 days] w fun e w' => e = .returned (.agg #[.int .i64 (yearI days), .int .i64 (monthI (yearI days) (restI days)).1, .int .i64 ((monthI (yearI days) (restI days)).2 + 1), .int .i64 0, .int .i64 0, .int .i64 0]) ∧ Below w.heap.size w w' := by
  have hy := yearI_ok days h1 h2
  have hr := rest_bd days h1 h2
  have HO : Hid (monthI (yearI days) (restI days) = monthF (yearI days) 12 1 (restI days)) := rfl
  have hr0 : restI days = days - aheadI (yearI days) := rfl
  have hab := ahead_bd hy.1 (show yearI days ≤ 10000 by omega)
  obtain ⟨Y, hY⟩ : ∃ Y, Y = yearI days := ⟨_, rfl⟩
  obtain ⟨R, hR⟩ : ∃ R, R = restI days := ⟨_, rfl⟩
  rw [← hY] at hy hr hr0 HO hab ⊢
  rw [← hR] at hr hr0 HO ⊢
  have HY : Hid (Y = yearI days) := hY
  clear hY hR
  go_enter Tryd.func29, Tryd.ntmps29
  go_wp2_with (first
    | (go_at_call 42; refine (implYear_any days _ h1 h2).mono ?_; rintro e w' ⟨rfl, hw⟩; obtain rfl := hw.symm; rw [← HY.out])
    | (go_at_call 30; refine (implAhead_any Y _ hy.1 (by omega)).mono ?_; rintro e w' ⟨rfl, hw⟩; obtain rfl := hw.symm))
  go_loopw [4, 5] (fun r m wr => ∃ (L M : Int) (f : Nat), r = .int .i64 L ∧ m = .int .i64 M ∧ wr = w.alloc (.cells #[.int .i64 0, .int .i64 0, .int .i64 0, .int .i64 0, .int .i64 0, .int .i64 0] 24) ∧ 1 ≤ M ∧ M ≤ 12 ∧ 12 ≤ M + f ∧ 0 ≤ L ∧ L < remI Y M ∧ L ≤ 2940000 ∧ Hid (monthI Y R = monthF Y f M L))
    (fun _ m _ => (13 - intOf m).toNat)
  case atStart => exact ⟨R, 1, 12, by first | rfl | (rw [hr0]; go_num) | (rw [hr0]), rfl, rfl, by omega, by omega, by omega, hr.1, hr.2, by omega, HO⟩
  case round =>
    obtain ⟨L, M, f, rfl, rfl, rfl, hM, hM2, hf, hL, hL2, hL3, HD⟩ := hrel
    clear HO
    have g1 := long_lo Y M
    have g2 := long_hi Y M
    have g3 := rem_step Y M hM hM2
    by_cases hlt : longI Y M ≤ L
    · have hM3 : M ≤ 11 := by
        by_cases h12 : M ≤ 11
        · exact h12
        · have := rem_last Y M (by omega) hM2; omega
      obtain ⟨f', rfl⟩ : ∃ f', f = f' + 1 := ⟨f - 1, by omega⟩
      have HD' : Hid (monthI Y R = monthF Y f' (M + 1) (L - longI Y M)) := by show _ = _; rw [HD.out, monthF_more hlt]
      clear HD
      go_wp2_with (go_at_call 31; refine (implLong_any Y M _ (hT.alloc _) (by omega) (by omega) (by omega) (by omega)).mono ?_; rintro e w' ⟨rfl, hw⟩; obtain rfl := hw.symm)
      go_roundw
      case rel => exact ⟨L - longI Y M, M + 1, f', by go_num, by go_num, by first | rfl | trivial, by omega, by omega, by omega, by omega, by omega, by omega, HD'⟩
      case measure => simp [intOf]; omega
    · have HR1 : Hid (M = (monthI Y R).1) := by show _ = _; rw [HD.out, monthF_end hlt]
      have HR2 : Hid (L + 1 = (monthI Y R).2 + 1) := by show _ = _; rw [HD.out, monthF_end hlt]
      clear HD
      go_wp2_with (go_at_call 31; refine (implLong_any Y M _ (hT.alloc _) (by omega) (by omega) (by omega) (by omega)).mono ?_; rintro e w' ⟨rfl, hw⟩; obtain rfl := hw.symm)
      exact bodyPost_ret (v := .agg #[.int .i64 Y, .int .i64 M, .int .i64 (L + 1), .int .i64 0, .int .i64 0, .int .i64 0]) (by simp [results, Tryd.results29, go_sem]) rfl ⟨ret_agg HR1.out HR2.out, by repeat (first | exact Below.refl _ _ | refine Below.alloc ?_ (by simp <;> omega) _ | refine Below.setCell ?_ (by simp <;> omega) _)⟩

/-- A date's value. -/
def dateV (y m d h i s : Int) : Value := .agg #[.int .i64 y, .int .i64 m, .int .i64 d, .int .i64 h, .int .i64 i, .int .i64 s]

/-- The date that has so many seconds. -/
def atV (t : Int) : Value := dateV (yearI (t / 86400)) (monthI (yearI (t / 86400)) (restI (t / 86400))).1 ((monthI (yearI (t / 86400)) (restI (t / 86400))).2 + 1) (t % 86400 / 3600) (t % 86400 / 60 % 60) (t % 86400 % 60)

set_option maxHeartbeats 1600000 in
theorem specAt_any (t : Int) (w : World) (h1 : 0 ≤ t) (h2 : t ≤ 253402300799) :
    Calls Tryd.prog 35 #[.int .i64 t] w fun e w' => e = .returned (atV t) ∧ Below w.heap.size w w' := by
  have hd1 : 0 ≤ t / 86400 := by omega
  have hd2 : t / 86400 ≤ 2932896 := by omega
  have hy := yearI_ok _ hd1 hd2
  have hr := rest_bd _ hd1 hd2
  have hb := ahead_begin _ hd1
  have HA : Hid (atV t = dateV (yearI (t / 86400)) (monthI (yearI (t / 86400)) (restI (t / 86400))).1 ((monthI (yearI (t / 86400)) (restI (t / 86400))).2 + 1) (t % 86400 / 3600) (t % 86400 / 60 % 60) (t % 86400 % 60)) := rfl
  have HO : Hid (monthI (yearI (t / 86400)) (restI (t / 86400)) = monthF (yearI (t / 86400)) 12 1 (restI (t / 86400))) := rfl
  have HP : Hid (yearI (t / 86400) = yearF (t / 86400) 9000 (1970 + t / 86400 / 366)) := rfl
  have hr0 : restI (t / 86400) = t / 86400 - aheadI (yearI (t / 86400)) := rfl
  have hab := ahead_bd hy.1 (show yearI (t / 86400) ≤ 10000 by omega)
  obtain ⟨Y, hY⟩ : ∃ Y, Y = yearI (t / 86400) := ⟨_, rfl⟩
  obtain ⟨R, hR⟩ : ∃ R, R = restI (t / 86400) := ⟨_, rfl⟩
  rw [← hY] at hy hr hr0 HO HP HA hab
  rw [← hR] at hr hr0 HO HA
  clear hY hR
  go_enter Tryd.func35, Tryd.ntmps35
  go_wp2
  go_loopw [4] (fun y wr => ∃ (X : Int) (f : Nat), y = .int .i64 X ∧ wr = w.alloc (.cells #[.int .i64 0, .int .i64 0, .int .i64 0, .int .i64 0, .int .i64 0, .int .i64 0] 24) ∧ 1970 ≤ X ∧ X ≤ 9999 ∧ 10000 ≤ X + f ∧ Hid (Y = yearF (t / 86400) f X))
    (fun y _ => (10000 - intOf y).toNat)
  case atStart => exact ⟨1970 + t / 86400 / 366, 9000, by go_num, rfl, by omega, by omega, by omega, HP⟩
  case round =>
    obtain ⟨X, f, rfl, rfl, hX, hX2, hf, HD⟩ := hrel
    clear HP
    by_cases hlt : aheadI (X + 1) ≤ t / 86400
    · obtain ⟨f', rfl⟩ : ∃ f', f = f' + 1 := ⟨f - 1, by omega⟩
      have hX3 := ahead_last X _ hlt hX2 hd2
      have HD' : Hid (Y = yearF (t / 86400) f' (X + 1)) := by show _ = _; rw [HD.out, yearF_more hlt]
      clear HD
      go_wp2_with (go_at_call 47; refine (specAhead_any (X + 1) _ (by omega) (by omega)).mono ?_; rintro e w' ⟨rfl, hw⟩; obtain rfl := hw.symm)
      go_roundw
      case rel => exact ⟨X + 1, f', by go_num, by first | rfl | trivial, by omega, by omega, by omega, HD'⟩
      case measure => simp [intOf]; omega
    · have HX : X = Y := by rw [HD.out, yearF_end hlt]
      clear HD
      subst HX
      go_wp2_with (go_at_call 47; refine (specAhead_any _ _ (by omega) (by omega)).mono ?_; rintro e w' ⟨rfl, hw⟩; obtain rfl := hw.symm)
      go_loopw [5, 6] (fun r m wx => ∃ (L M : Int) (f : Nat), r = .int .i64 L ∧ m = .int .i64 M ∧ wx = w.alloc (.cells #[.int .i64 0, .int .i64 0, .int .i64 0, .int .i64 0, .int .i64 0, .int .i64 0] 24) ∧ 1 ≤ M ∧ M ≤ 12 ∧ 12 ≤ M + f ∧ 0 ≤ L ∧ L < remI X M ∧ L ≤ 2940000 ∧ Hid (monthI X R = monthF X f M L))
        (fun _ m _ => (13 - intOf m).toNat)
      case atStart => exact ⟨R, 1, 12, by first | rfl | (rw [hr0]; go_num) | (rw [hr0]), rfl, rfl, by omega, by omega, by omega, hr.1, hr.2, by omega, HO⟩
      case round =>
        obtain ⟨L, M, f, rfl, rfl, rfl, hM, hM2, hf, hL, hL2, hL3, HD⟩ := hrel
        clear HO
        have g1 := long_lo X M
        have g2 := long_hi X M
        have g3 := rem_step X M hM hM2
        by_cases hlt : longI X M ≤ L
        · have hM3 : M ≤ 11 := by
            by_cases h12 : M ≤ 11
            · exact h12
            · have := rem_last X M (by omega) hM2; omega
          obtain ⟨f', rfl⟩ : ∃ f', f = f' + 1 := ⟨f - 1, by omega⟩
          have HD' : Hid (monthI X R = monthF X f' (M + 1) (L - longI X M)) := by show _ = _; rw [HD.out, monthF_more hlt]
          clear HD
          go_wp2_with (go_at_call 37; refine (specLong_any X M _ (by omega) (by omega) (by omega) (by omega)).mono ?_; rintro e w' ⟨rfl, hw⟩; obtain rfl := hw.symm)
          go_roundw
          case rel => exact ⟨L - longI X M, M + 1, f', by go_num, by go_num, by first | rfl | trivial, by omega, by omega, by omega, by omega, by omega, by omega, HD'⟩
          case measure => simp [intOf]; omega
        · have HR1 : Hid (M = (monthI X R).1) := by show _ = _; rw [HD.out, monthF_end hlt]
          have HR2 : Hid (L + 1 = (monthI X R).2 + 1) := by show _ = _; rw [HD.out, monthF_end hlt]
          clear HD
          go_wp2_with (go_at_call 37; refine (specLong_any X M _ (by omega) (by omega) (by omega) (by omega)).mono ?_; rintro e w' ⟨rfl, hw⟩; obtain rfl := hw.symm)
          exact bodyPost_ret (v := .agg #[.int .i64 X, .int .i64 M, .int .i64 (L + 1), .int .i64 (t % 86400 / 3600), .int .i64 (t % 86400 / 60 % 60), .int .i64 (t % 86400 % 60)]) (by simp [results, Tryd.results35, go_sem]) rfl ⟨(ret_agg HR1.out HR2.out).trans (congrArg _ HA.out.symm), by repeat (first | exact Below.refl _ _ | refine Below.alloc ?_ (by simp <;> omega) _ | refine Below.setCell ?_ (by simp <;> omega) _)⟩

end Go.Proofs.YtnjpagejeiiphaaDoor.Dwa
