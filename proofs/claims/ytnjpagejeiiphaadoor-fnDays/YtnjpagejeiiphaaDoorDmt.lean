/-
  Plain facts on dates: no program.
-/
namespace Go.Proofs.YtnjpagejeiiphaaDoor.Dmt

/-- Whether a year is a leap one. -/
def leapB (y : Int) : Bool := decide (y % 4 = 0) && (decide (y % 100 ≠ 0) || decide (y % 400 = 0))

/-- How many days a month has. -/
def longI (y m : Int) : Int := if m = 2 then (if leapB y then 29 else 28) else if m = 4 ∨ m = 6 ∨ m = 9 ∨ m = 11 then 30 else 31

/-- How many days lie between 1970 and a year. -/
def aheadI (y : Int) : Int := 365 * (y - 1) + (y - 1) / 4 - (y - 1) / 100 + (y - 1) / 400 - 719162

/-- Whether a day is there. -/
def dayB (y m d : Int) : Bool := decide (1970 ≤ y ∧ y ≤ 9999) && decide (1 ≤ m ∧ m ≤ 12) && decide (1 ≤ d ∧ d ≤ longI y m)

/-- Whether a date is good. -/
def goodB (y m d h i s : Int) : Bool := dayB y m d && decide (0 ≤ h ∧ h ≤ 23) && decide (0 ≤ i ∧ i ≤ 59) && decide (0 ≤ s ∧ s ≤ 59)

theorem long_lo (y m : Int) : 28 ≤ longI y m := by unfold longI; split <;> (try split) <;> omega
theorem long_hi (y m : Int) : longI y m ≤ 31 := by unfold longI; split <;> (try split) <;> omega

/-- The days of the months from k on that are below m, k - 1 of them having been counted. -/
def sumF (y m : Int) : Nat → Int → Int → Int
  | 0, _, n => n
  | f + 1, k, n => if k < m then sumF y m f (k + 1) (n + longI y k) else n

theorem sumF_end {y m k n : Int} {f : Nat} (h : ¬ k < m) : sumF y m f k n = n := by
  cases f with
  | zero => rfl
  | succ f => simp only [sumF]; rw [if_neg h]
theorem sumF_more {y m k n : Int} {f : Nat} (h : k < m) : sumF y m (f + 1) k n = sumF y m f (k + 1) (n + longI y k) := by
  simp only [sumF]; rw [if_pos h]
theorem sumF_bd (y m : Int) : ∀ (f : Nat) (k n : Int), n ≤ sumF y m f k n ∧ sumF y m f k n ≤ n + 31 * f
  | 0, _, n => ⟨Int.le_refl _, by show n ≤ _; omega⟩
  | f + 1, k, n => by
    by_cases h : k < m
    · rw [sumF_more h]
      have := sumF_bd y m f (k + 1) (n + longI y k)
      have a := long_lo y k
      have b := long_hi y k
      omega
    · rw [sumF_end h]; omega

/-- How many days lie ahead of a day. -/
def daysI (y m d : Int) : Int := sumF y m 12 1 (aheadI y + d - 1)

theorem sumF_shift (y m : Int) : ∀ (f : Nat) (k n c : Int), sumF y m f k (n + c) = sumF y m f k n + c
  | 0, _, _, _ => rfl
  | f + 1, k, n, c => by
    by_cases h : k < m
    · rw [sumF_more h, sumF_more h, ← sumF_shift y m f (k + 1) (n + longI y k) c]
      congr 1; omega
    · rw [sumF_end h, sumF_end h]

theorem ahead_bd {y : Int} (h1 : 1970 ≤ y) (h2 : y ≤ 10000) : 0 ≤ aheadI y ∧ aheadI y ≤ 2932897 := by
  unfold aheadI; omega

theorem days_bd {y m d : Int} (h1 : 1970 ≤ y) (h2 : y ≤ 9999) (h3 : 1 ≤ d) (h4 : d ≤ 31) : 0 ≤ daysI y m d ∧ daysI y m d ≤ 2940000 := by
  have a := ahead_bd h1 (by omega)
  have b := sumF_bd y m 12 1 (aheadI y + d - 1)
  unfold daysI
  omega

theorem day_parts {y m d : Int} (h : dayB y m d = true) : (1970 ≤ y ∧ y ≤ 9999) ∧ (1 ≤ m ∧ m ≤ 12) ∧ (1 ≤ d ∧ d ≤ longI y m) := by
  unfold dayB at h
  simp only [Bool.and_eq_true, decide_eq_true_eq] at h
  exact ⟨h.1.1, h.1.2, h.2⟩
theorem good_parts {y m d h i s : Int} (g : goodB y m d h i s = true) : dayB y m d = true ∧ (0 ≤ h ∧ h ≤ 23) ∧ (0 ≤ i ∧ i ≤ 59) ∧ (0 ≤ s ∧ s ≤ 59) := by
  unfold goodB at g
  simp only [Bool.and_eq_true, decide_eq_true_eq] at g
  exact ⟨g.1.1.1, g.1.1.2, g.1.2, g.2⟩

/-- The year in which a day lies, looked for from a year on. -/
def yearF (days : Int) : Nat → Int → Int
  | 0, y => y
  | f + 1, y => if aheadI (y + 1) ≤ days then yearF days f (y + 1) else y
theorem yearF_end {days y : Int} {f : Nat} (h : ¬ aheadI (y + 1) ≤ days) : yearF days f y = y := by
  cases f with
  | zero => rfl
  | succ f => simp only [yearF]; rw [if_neg h]
theorem yearF_more {days y : Int} {f : Nat} (h : aheadI (y + 1) ≤ days) : yearF days (f + 1) y = yearF days f (y + 1) := by
  simp only [yearF]; rw [if_pos h]

/-- The month and the day, looked for from a month on. -/
def monthF (y : Int) : Nat → Int → Int → Int × Int
  | 0, m, left => (m, left)
  | f + 1, m, left => if longI y m ≤ left then monthF y f (m + 1) (left - longI y m) else (m, left)
theorem monthF_end {y m left : Int} {f : Nat} (h : ¬ longI y m ≤ left) : monthF y f m left = (m, left) := by
  cases f with
  | zero => rfl
  | succ f => simp only [monthF]; rw [if_neg h]
theorem monthF_more {y m left : Int} {f : Nat} (h : longI y m ≤ left) : monthF y (f + 1) m left = monthF y f (m + 1) (left - longI y m) := by
  simp only [monthF]; rw [if_pos h]

/-- How many days are left in a year from a month on. -/
def remI (y m : Int) : Int :=
  if m ≤ 1 then 365 + (if leapB y then 1 else 0) else if m = 2 then 334 + (if leapB y then 1 else 0) else if m = 3 then 306 else if m = 4 then 275 else if m = 5 then 245 else if m = 6 then 214 else if m = 7 then 184 else if m = 8 then 153
  else if m = 9 then 122 else if m = 10 then 92 else if m = 11 then 61 else if m = 12 then 31 else 0

theorem rem_step (y m : Int) (h1 : 1 ≤ m) (h2 : m ≤ 12) : remI y m = longI y m + remI y (m + 1) := by
  have : m = 1 ∨ m = 2 ∨ m = 3 ∨ m = 4 ∨ m = 5 ∨ m = 6 ∨ m = 7 ∨ m = 8 ∨ m = 9 ∨ m = 10 ∨ m = 11 ∨ m = 12 := by omega
  clear h1 h2
  rcases this with rfl | rfl | rfl | rfl | rfl | rfl | rfl | rfl | rfl | rfl | rfl | rfl
  all_goals
    cases h : leapB y <;> simp [remI, longI, h]

theorem rem_last (y m : Int) (h1 : 12 ≤ m) (h2 : m ≤ 12) : remI y m = longI y m := by
  obtain rfl : m = 12 := by omega
  simp [remI, longI]

theorem ahead_step (y : Int) : aheadI (y + 1) = aheadI y + (365 + (if leapB y then 1 else 0)) := by
  unfold aheadI leapB
  by_cases h4 : y % 4 = 0 <;> by_cases h1 : y % 100 = 0 <;> by_cases h2 : y % 400 = 0 <;> simp [h4, h1, h2] <;> omega

theorem ahead_begin (days : Int) (h : 0 ≤ days) : aheadI (1970 + days / 366) ≤ days := by
  unfold aheadI; omega
theorem ahead_last (y days : Int) (h : aheadI (y + 1) ≤ days) (h1 : y ≤ 9999) (h2 : days ≤ 2932896) : y + 1 ≤ 9999 := by
  by_cases h3 : y + 1 ≤ 9999
  · exact h3
  · obtain rfl : y = 9999 := by omega
    unfold aheadI at h
    omega

def yearI (days : Int) : Int := yearF days 9000 (1970 + days / 366)

theorem yearF_ok (days : Int) (h2 : days ≤ 2932896) : ∀ (f : Nat) (y : Int), 1970 ≤ y → y ≤ 9999 → 10000 ≤ y + f → aheadI y ≤ days →
    1970 ≤ yearF days f y ∧ yearF days f y ≤ 9999 ∧ aheadI (yearF days f y) ≤ days ∧ days < aheadI (yearF days f y + 1)
  | 0, y, h3, h4, h5, h6 => by exfalso; omega
  | f + 1, y, h3, h4, h5, h6 => by
    by_cases h : aheadI (y + 1) ≤ days
    · rw [yearF_more h]
      exact yearF_ok days h2 f (y + 1) (by omega) (ahead_last y days h h4 h2) (by omega) h
    · rw [yearF_end h]
      exact ⟨h3, h4, h6, by omega⟩
theorem yearI_ok (days : Int) (h1 : 0 ≤ days) (h2 : days ≤ 2932896) : 1970 ≤ yearI days ∧ yearI days ≤ 9999 ∧ aheadI (yearI days) ≤ days ∧ days < aheadI (yearI days + 1) :=
  yearF_ok days h2 9000 _ (by omega) (by omega) (by omega) (ahead_begin days h1)

/-- The month and the day of a year's day. -/
def monthI (y rest : Int) : Int × Int := monthF y 12 1 rest

/-- A date's seconds. -/
def secI (y m d h i s : Int) : Int := 86400 * daysI y m d + 3600 * h + 60 * i + s

theorem good0 (y m d : Int) : goodB y m d 0 0 0 = dayB y m d := by
  unfold goodB; simp

end Go.Proofs.YtnjpagejeiiphaaDoor.Dmt
