/-
  Plain facts on dates: a date comes back from its seconds, and seconds from their date. No program.
-/
import Derived.Test.YtnjpagejeiiphaaDoorDmu
namespace Go.Proofs.YtnjpagejeiiphaaDoor.Dmt

theorem ahead_mono (a b : Int) (h : a ≤ b) : aheadI a ≤ aheadI b := by unfold aheadI; omega

theorem rem_anti (y : Int) : ∀ (n : Nat) (a : Int), 1 ≤ a → a + n ≤ 13 → remI y (a + n) ≤ remI y a
  | 0, a, h1, h2 => by simp
  | n + 1, a, h1, h2 => by
    have h := rem_anti y n (a + 1) (by omega) (by omega)
    have e : a + 1 + (n : Int) = a + ((n + 1 : Nat) : Int) := by omega
    rw [e] at h
    have := rem_step y a h1 (by omega)
    have := long_lo y a
    omega
theorem rem_le (y a b : Int) (h1 : 1 ≤ a) (h2 : a ≤ b) (h3 : b ≤ 13) : remI y b ≤ remI y a := by
  have := rem_anti y (b - a).toNat a h1 (by omega)
  rwa [show a + ((b - a).toNat : Int) = b from by omega] at this

/-- Where a day of a year lies: its month and day. -/
theorem monthF_ok (y : Int) : ∀ (f : Nat) (m left : Int), 1 ≤ m → m ≤ 12 → 12 ≤ m + f → 0 ≤ left → left < remI y m →
    1 ≤ (monthF y f m left).1 ∧ (monthF y f m left).1 ≤ 12 ∧ 0 ≤ (monthF y f m left).2 ∧ (monthF y f m left).2 < longI y (monthF y f m left).1 ∧ (monthF y f m left).2 + remI y m = left + remI y (monthF y f m left).1
  | 0, m, left, h1, h2, h3, h4, h5 => by
    obtain rfl : m = 12 := by omega
    have := rem_last y 12 (by omega) (by omega)
    show 1 ≤ 12 ∧ 12 ≤ 12 ∧ 0 ≤ left ∧ left < longI y 12 ∧ left + remI y 12 = left + remI y 12
    omega
  | f + 1, m, left, h1, h2, h3, h4, h5 => by
    have e := rem_step y m h1 h2
    by_cases h : longI y m ≤ left
    · have h12 : m ≤ 11 := by
        by_cases h12 : m ≤ 11
        · exact h12
        · have := rem_last y m (by omega) h2; omega
      rw [monthF_more h]
      have := monthF_ok y f (m + 1) (left - longI y m) (by omega) (by omega) (by omega) (by omega) (by omega)
      omega
    · rw [monthF_end h]
      exact ⟨h1, h2, h4, by show left < longI y m; omega, rfl⟩

/-- The date of a number of seconds, by its parts. -/
def yrI (t : Int) : Int := yearI (t / 86400)
def moI (t : Int) : Int := (monthI (yearI (t / 86400)) (t / 86400 - aheadI (yearI (t / 86400)))).1
def dyI (t : Int) : Int := (monthI (yearI (t / 86400)) (t / 86400 - aheadI (yearI (t / 86400)))).2 + 1

theorem at_ok (t : Int) (h1 : 0 ≤ t) (h2 : t ≤ 253402300799) : dayB (yrI t) (moI t) (dyI t) = true ∧ daysI (yrI t) (moI t) (dyI t) = t / 86400 := by
  have hy := yearI_ok (t / 86400) (by omega) (by omega)
  have e := ahead_step (yearI (t / 86400))
  have r := rem_one (yearI (t / 86400))
  have hm := monthF_ok (yearI (t / 86400)) 12 1 (t / 86400 - aheadI (yearI (t / 86400))) (by omega) (by omega) (by omega) (by omega) (by omega)
  have hm' : monthI (yearI (t / 86400)) (t / 86400 - aheadI (yearI (t / 86400))) = monthF (yearI (t / 86400)) 12 1 (t / 86400 - aheadI (yearI (t / 86400))) := rfl
  unfold yrI moI dyI
  rw [hm']
  generalize yearI (t / 86400) = Y at *
  generalize monthF Y 12 1 (t / 86400 - aheadI Y) = p at *
  obtain ⟨k1, k2, k3, k4, k5⟩ := hm
  constructor
  · unfold dayB
    rw [decide_eq_true ⟨hy.1, hy.2.1⟩, decide_eq_true ⟨k1, k2⟩, decide_eq_true ⟨show 1 ≤ p.2 + 1 by omega, show p.2 + 1 ≤ longI Y p.1 by omega⟩]
    rfl
  · have := days_rem Y p.1 (p.2 + 1) k1 k2
    omega

theorem sec_at (t : Int) (h1 : 0 ≤ t) (h2 : t ≤ 253402300799) : secI (yrI t) (moI t) (dyI t) (t % 86400 / 3600) (t % 86400 / 60 % 60) (t % 86400 % 60) = t := by
  unfold secI
  rw [(at_ok t h1 h2).2]
  omega
theorem good_at (t : Int) (h1 : 0 ≤ t) (h2 : t ≤ 253402300799) : goodB (yrI t) (moI t) (dyI t) (t % 86400 / 3600) (t % 86400 / 60 % 60) (t % 86400 % 60) = true := by
  unfold goodB
  rw [(at_ok t h1 h2).1, decide_eq_true (show 0 ≤ t % 86400 / 3600 ∧ t % 86400 / 3600 ≤ 23 by omega), decide_eq_true (show 0 ≤ t % 86400 / 60 % 60 ∧ t % 86400 / 60 % 60 ≤ 59 by omega), decide_eq_true (show 0 ≤ t % 86400 % 60 ∧ t % 86400 % 60 ≤ 59 by omega)]
  rfl

/-- A day that is there is told by its number alone. -/
theorem day_one {y m d y' m' d' : Int} (h : dayB y m d = true) (h' : dayB y' m' d' = true) (e : daysI y m d = daysI y' m' d') : y = y' ∧ m = m' ∧ d = d' := by
  have a := days_in h
  have a' := days_in h'
  have ey : y = y' := by
    rcases (show y < y' ∨ y' < y ∨ y = y' by omega) with l | l | l
    · have := ahead_mono (y + 1) y' (by omega); omega
    · have := ahead_mono (y' + 1) y (by omega); omega
    · exact l
  subst ey
  obtain ⟨⟨h1, h2⟩, ⟨h3, h4⟩, h5, h6⟩ := day_parts h
  obtain ⟨_, ⟨g3, g4⟩, g5, g6⟩ := day_parts h'
  have r := days_rem y m d h3 h4
  have r' := days_rem y m' d' g3 g4
  have s := rem_step y m h3 h4
  have s' := rem_step y m' g3 g4
  have em : m = m' := by
    rcases (show m < m' ∨ m' < m ∨ m = m' by omega) with l | l | l
    · have := rem_le y (m + 1) m' (by omega) (by omega) (by omega); omega
    · have := rem_le y (m' + 1) m (by omega) (by omega) (by omega); omega
    · exact l
  subst em
  exact ⟨rfl, rfl, by omega⟩

theorem sec_bd {y m d h i s : Int} (g : goodB y m d h i s = true) : 0 ≤ secI y m d h i s ∧ secI y m d h i s ≤ 253402300799 ∧ secI y m d h i s / 86400 = daysI y m d ∧ secI y m d h i s % 86400 = 3600 * h + 60 * i + s := by
  obtain ⟨hd, ⟨q1, q2⟩, ⟨q3, q4⟩, q5, q6⟩ := good_parts g
  have t := days_top hd
  unfold secI
  omega
/-- A date comes back from its seconds. -/
theorem at_sec {y m d h i s : Int} (g : goodB y m d h i s = true) : yrI (secI y m d h i s) = y ∧ moI (secI y m d h i s) = m ∧ dyI (secI y m d h i s) = d ∧ secI y m d h i s % 86400 / 3600 = h ∧ secI y m d h i s % 86400 / 60 % 60 = i ∧ secI y m d h i s % 86400 % 60 = s := by
  obtain ⟨hd, ⟨q1, q2⟩, ⟨q3, q4⟩, q5, q6⟩ := good_parts g
  obtain ⟨b1, b2, b3, b4⟩ := sec_bd g
  have k := at_ok _ b1 b2
  have := day_one k.1 hd (by rw [k.2, b3])
  refine ⟨this.1, this.2.1, this.2.2, ?_, ?_, ?_⟩ <;> rw [b4] <;> omega

/-- A year's length, by its first and last day. -/
theorem year_len (y : Int) : daysI y 12 31 - daysI y 1 1 + 1 = 365 + (if leapB y then 1 else 0) := by
  have a := days_rem y 12 31 (by omega) (by omega)
  have b := days_rem y 1 1 (by omega) (by omega)
  have r := rem_one y
  have l : remI y 12 = 31 := rfl
  omega

end Go.Proofs.YtnjpagejeiiphaaDoor.Dmt
