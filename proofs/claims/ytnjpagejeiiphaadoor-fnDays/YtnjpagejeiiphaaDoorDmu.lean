/-
  Plain facts on days: where a day lies in its year. No program.
-/
import Derived.Test.YtnjpagejeiiphaaDoorDmt
namespace Go.Proofs.YtnjpagejeiiphaaDoor.Dmt

theorem sumF_rem (y m : Int) (hm : m ≤ 12) : ∀ (f : Nat) (k n : Int), 1 ≤ k → k ≤ m → m ≤ k + f → sumF y m f k n + remI y m = n + remI y k
  | 0, k, n, h1, h2, h3 => by
    obtain rfl : k = m := by omega
    rfl
  | f + 1, k, n, h1, h2, h3 => by
    by_cases h : k < m
    · rw [sumF_more h, sumF_rem y m hm f (k + 1) (n + longI y k) (by omega) (by omega) (by omega)]
      have := rem_step y k h1 (by omega)
      omega
    · obtain rfl : k = m := by omega
      rw [sumF_end h]

theorem rem_one (y : Int) : remI y 1 = 365 + (if leapB y then 1 else 0) := by unfold remI; rw [if_pos (by omega)]
theorem days_rem (y m d : Int) (h1 : 1 ≤ m) (h2 : m ≤ 12) : daysI y m d + remI y m = aheadI (y + 1) + d - 1 := by
  have := sumF_rem y m h2 12 1 (aheadI y + d - 1) (by omega) h1 (by omega)
  rw [rem_one] at this
  rw [ahead_step]
  unfold daysI
  omega
theorem rem_lo (y m : Int) : 0 ≤ remI y m := by
  unfold remI; split <;> (try split) <;> (try split) <;> (try split) <;> (try split) <;> (try split) <;> (try split) <;> (try split) <;> (try split) <;> (try split) <;> (try split) <;> (try split) <;> (try split) <;> (try split) <;> omega
theorem rem_ge (y m : Int) (h1 : 1 ≤ m) (h2 : m ≤ 12) : longI y m ≤ remI y m := by
  have := rem_step y m h1 h2
  have := rem_lo y (m + 1)
  omega
/-- A day that is there lies within its year. -/
theorem days_in {y m d : Int} (h : dayB y m d = true) : aheadI y ≤ daysI y m d ∧ daysI y m d < aheadI (y + 1) := by
  obtain ⟨⟨h1, h2⟩, ⟨h3, h4⟩, h5, h6⟩ := day_parts h
  have a := days_rem y m d h3 h4
  have b := rem_ge y m h3 h4
  have c := (sumF_bd y m 12 1 (aheadI y + d - 1)).1
  refine ⟨?_, by omega⟩
  unfold daysI
  omega
theorem days_top {y m d : Int} (h : dayB y m d = true) : 0 ≤ daysI y m d ∧ daysI y m d ≤ 2932896 := by
  have a := days_in h
  obtain ⟨⟨h1, h2⟩, _⟩ := day_parts h
  have b := ahead_bd h1 (show y ≤ 10000 by omega)
  have c := ahead_bd (show 1970 ≤ y + 1 by omega) (show y + 1 ≤ 10000 by omega)
  omega

/-- A day's place in the week. -/
def wdI (y m d : Int) : Int := (daysI y m d + 4) % 7

end Go.Proofs.YtnjpagejeiiphaaDoor.Dmt
