/-
  Walks: two digits and a day's time told: impl.twoDigits, impl.clockText, spec.l2Two, spec.l2Clock.
  Plain facts on dates: no program.
  Plain facts on days: where a day lies in its year. No program.
  Walks: leap years, months' and years' days: the small functions of impl and spec.
-/
import Derived.Test.YtgidmoncocbfiaaGreatDoorNum
import Derived.Deep.RegionHeld
import Derived.Test.YtgidmoncocbfiaaGreatDoorProg
import Derived.WalkKit
import Derived.WalkLawsBesides
import Derived.Below
namespace Go.Proofs.YtgidmoncocbfiaaGreatDoor.Num
open Go.RowKit

/-- Two digits. -/
def two (n : Nat) : ByteArray := num (n / 10) ++ num (n % 10)
theorem two_small {n : Nat} (h : n < 10) : two n = ⟨#[48]⟩ ++ num n := by
  unfold two; rw [Nat.div_eq_of_lt h, Nat.mod_eq_of_lt h, num_one (n := 0) (by omega)]; rfl
theorem two_great {n : Nat} (h : ¬ n < 10) : two n = num n := by
  rw [num_more h]; unfold two; rw [num_one (n := n % 10) (by omega)]
theorem two_size (n : Nat) (h : n < 100) : (two n).size ≤ 2 := by
  unfold two; rw [ByteArray.size_append, num_one (n := n % 10) (by omega), num_one (n := n / 10) (by omega)]
  exact Nat.le_refl 2

theorem implTwo_any (n : Nat) (w : World) (h : n < 100) (htab : Lib.TabIs Tryz.prog w "internal/strconv.uint64pow10" .u64 Lib.pow10Tab) :
    Calls Tryz.prog 151 #[.int .i64 n] w fun e w' => e = .returned (.string (two n)) ∧ Below w.heap.size w w' := by
  obtain ⟨T, hT⟩ : ∃ T, T = num n := ⟨_, rfl⟩
  have hsz : T.size ≤ 7 := by rw [hT]; exact num_size_le 6 n (by omega)
  have HT : Hid (T = num n) := hT
  by_cases h1 : n < 10
  · have HR : Hid (two n = ⟨#[48]⟩ ++ T) := by show _ = _; rw [hT]; exact two_small h1
    clear hT
    go_enter Tryz.func151, Tryz.ntmps151
    go_wp2_with (go_at_call 153; refine (itoa_any n _ (by omega) htab).mono ?_; rintro e w1 ⟨rfl, hb1⟩; rw [← HT.out])
    go_ret
    exact ⟨ret_str HR.out.symm, hb1⟩
  · have HR : Hid (two n = T) := by show _ = _; rw [hT]; exact two_great h1
    clear hT
    go_enter Tryz.func151, Tryz.ntmps151
    go_wp2_with (go_at_call 153; refine (itoa_any n _ (by omega) htab).mono ?_; rintro e w1 ⟨rfl, hb1⟩; rw [← HT.out])
    go_ret
    exact ⟨ret_str HR.out.symm, hb1⟩

theorem specTwo_any (n : Nat) (w : World) (h : n < 100) :
    Calls Tryz.prog 73 #[.int .i64 n] w fun e w' => e = .returned (.string (two n)) ∧ Below w.heap.size w w' := by
  obtain ⟨A, hA⟩ : ∃ A, A = num (n / 10) := ⟨_, rfl⟩
  obtain ⟨B, hB⟩ : ∃ B, B = num (n % 10) := ⟨_, rfl⟩
  have hsA : A.size ≤ 7 := by rw [hA]; exact num_size_le 6 _ (by omega)
  have hsB : B.size ≤ 7 := by rw [hB]; exact num_size_le 6 _ (by omega)
  have HR : Hid (two n = A ++ B) := by show _ = _; rw [hA, hB]; rfl
  have NA := fun w => num_any 5 (n / 10) w (by omega) (by omega)
  have NB := fun w => num_any 5 (n % 10) w (by omega) (by omega)
  rw [← hA] at NA
  rw [← hB] at NB
  rw [show ((n / 10 : Nat) : Int) = (n : Int) / 10 from by omega] at NA
  rw [show ((n % 10 : Nat) : Int) = (n : Int) % 10 from by omega] at NB
  clear hA hB
  go_enter Tryz.func73, Tryz.ntmps73
  go_wp2_with (first
    | (go_at_call 74; with_reducible refine (NA _).mono ?_; rintro e w1 ⟨rfl, hb1⟩)
    | (go_at_call 74; with_reducible refine (NB _).mono ?_; rintro e w2 ⟨rfl, hb2⟩))
  go_ret
  exact ⟨ret_str HR.out.symm, hb1.trans (hb2.mono hb1.size)⟩

def col : ByteArray := ⟨#[58]⟩
/-- A day's time. -/
def clockB (h i s : Nat) : ByteArray := two h ++ col ++ two i ++ col ++ two s
theorem clock_size (h i s : Nat) (h1 : h < 100) (h2 : i < 100) (h3 : s < 100) : (clockB h i s).size ≤ 8 := by
  have a := two_size h h1
  have b := two_size i h2
  have c := two_size s h3
  have d : col.size = 1 := rfl
  unfold clockB
  simp only [ByteArray.size_append]
  omega

theorem keep_first (W : World) : Below W.heap.size W W.drew := ⟨rfl, rfl, rfl, Nat.le_refl _, fun _ _ => rfl⟩
theorem keep_next {W w0 w1 : World} (h : Below W.heap.size W w0) (hb : Below w0.heap.size w0 w1) : Below W.heap.size W w1 := h.trans (hb.mono h.size)
theorem keep_cell {W w0 w1 : World} {n i : Nat} {v : Option Value} (hn : n < W.heap.size) (h : Below W.heap.size W w0) (hb : Below w0.heap.size w0 w1) (hc : w0.cell? ⟨n, i, none⟩ = v) : w1.cell? ⟨n, i, none⟩ = v :=
  (hb.cell (p := ⟨n, i, none⟩) (Nat.lt_of_lt_of_le hn h.size)).trans hc

theorem and7 {a b c d e f g : Prop} (h : a ∧ b ∧ c ∧ d ∧ e ∧ f ∧ g) : g := h.2.2.2.2.2.2
theorem keep6 {W w0 w1 : World} {n : Nat} {u0 u1 u2 u3 u4 u5 : Option Value} (hn : n < W.heap.size) (h : w0.cell? ⟨n, 0, none⟩ = u0 ∧ w0.cell? ⟨n, 1, none⟩ = u1 ∧ w0.cell? ⟨n, 2, none⟩ = u2 ∧ w0.cell? ⟨n, 3, none⟩ = u3 ∧ w0.cell? ⟨n, 4, none⟩ = u4 ∧ w0.cell? ⟨n, 5, none⟩ = u5 ∧ Below W.heap.size W w0) (hb : Below w0.heap.size w0 w1) :
    w1.cell? ⟨n, 0, none⟩ = u0 ∧ w1.cell? ⟨n, 1, none⟩ = u1 ∧ w1.cell? ⟨n, 2, none⟩ = u2 ∧ w1.cell? ⟨n, 3, none⟩ = u3 ∧ w1.cell? ⟨n, 4, none⟩ = u4 ∧ w1.cell? ⟨n, 5, none⟩ = u5 ∧ Below W.heap.size W w1 :=
  ⟨keep_cell hn h.2.2.2.2.2.2 hb h.1, keep_cell hn h.2.2.2.2.2.2 hb h.2.1, keep_cell hn h.2.2.2.2.2.2 hb h.2.2.1, keep_cell hn h.2.2.2.2.2.2 hb h.2.2.2.1, keep_cell hn h.2.2.2.2.2.2 hb h.2.2.2.2.1, keep_cell hn h.2.2.2.2.2.2 hb h.2.2.2.2.2.1, keep_next h.2.2.2.2.2.2 hb⟩

set_option maxHeartbeats 1600000 in
theorem implClock_any (y m d : Int) (h i s : Nat) (w : World) (h1 : h < 100) (h2 : i < 100) (h3 : s < 100) (htab : Lib.TabIs Tryz.prog w "internal/strconv.uint64pow10" .u64 Lib.pow10Tab) :
    Calls Tryz.prog 154 #[.agg #[.int .i64 y, .int .i64 m, .int .i64 d, .int .i64 h, .int .i64 i, .int .i64 s]] w fun e w' => e = .returned (.string (clockB h i s)) ∧ Below w.heap.size w w' := by
  obtain ⟨A, hA⟩ : ∃ A, A = two h := ⟨_, rfl⟩
  obtain ⟨B, hB⟩ : ∃ B, B = two i := ⟨_, rfl⟩
  obtain ⟨C, hC⟩ : ∃ C, C = two s := ⟨_, rfl⟩
  have hsA : A.size ≤ 2 := by rw [hA]; exact two_size _ h1
  have hsB : B.size ≤ 2 := by rw [hB]; exact two_size _ h2
  have hsC : C.size ≤ 2 := by rw [hC]; exact two_size _ h3
  have HR : Hid (clockB h i s = A ++ col ++ B ++ col ++ C) := by show _ = _; rw [hA, hB, hC]; rfl
  have NA := fun w t => implTwo_any h w h1 t
  have NB := fun w t => implTwo_any i w h2 t
  have NC := fun w t => implTwo_any s w h3 t
  rw [← hA] at NA
  rw [← hB] at NB
  rw [← hC] at NC
  clear hA hB hC
  have k1 : ¬ 9223372036854775807 < A.size + 1 := by omega
  have k2 : ¬ 9223372036854775807 < A.size + 1 + B.size := by omega
  have k3 : ¬ 9223372036854775807 < A.size + 1 + B.size + 1 := by omega
  have k4 : ¬ 9223372036854775807 < A.size + 1 + B.size + 1 + C.size := by omega
  have t0 := tab_alloc htab (.cells #[.int .i64 y, .int .i64 m, .int .i64 d, .int .i64 h, .int .i64 i, .int .i64 s] 93)
  have l0 := tab_lt t0
  go_enter Tryz.func154, Tryz.ntmps154
  go_wp2_with fail
  obtain ⟨W, hW⟩ : ∃ W, W = w.alloc (.cells #[.int .i64 y, .int .i64 m, .int .i64 d, .int .i64 h, .int .i64 i, .int .i64 s] 93) := ⟨_, rfl⟩
  have hn : w.heap.size < W.heap.size := by rw [hW]; simp
  have c0 : W.cell? ⟨w.heap.size, 0, none⟩ = some (.int .i64 y) := by rw [hW, World.cell?_alloc_mark]; rfl
  have c1 : W.cell? ⟨w.heap.size, 1, none⟩ = some (.int .i64 m) := by rw [hW, World.cell?_alloc_mark]; rfl
  have c2 : W.cell? ⟨w.heap.size, 2, none⟩ = some (.int .i64 d) := by rw [hW, World.cell?_alloc_mark]; rfl
  have c3 : W.cell? ⟨w.heap.size, 3, none⟩ = some (.int .i64 h) := by rw [hW, World.cell?_alloc_mark]; rfl
  have c4 : W.cell? ⟨w.heap.size, 4, none⟩ = some (.int .i64 i) := by rw [hW, World.cell?_alloc_mark]; rfl
  have c5 : W.cell? ⟨w.heap.size, 5, none⟩ = some (.int .i64 s) := by rw [hW, World.cell?_alloc_mark]; rfl
  have hfin : Below w.heap.size w W := by rw [hW]; exact (Below.refl _ _).alloc (Nat.le_refl _) _
  rw [← hW] at t0 l0 ⊢
  clear hW
  go_region_held (fun w' => w'.cell? ⟨w.heap.size, 0, none⟩ = some (.int .i64 y) ∧ w'.cell? ⟨w.heap.size, 1, none⟩ = some (.int .i64 m) ∧ w'.cell? ⟨w.heap.size, 2, none⟩ = some (.int .i64 d) ∧ w'.cell? ⟨w.heap.size, 3, none⟩ = some (.int .i64 h) ∧ w'.cell? ⟨w.heap.size, 4, none⟩ = some (.int .i64 i) ∧ w'.cell? ⟨w.heap.size, 5, none⟩ = some (.int .i64 s) ∧ Below W.heap.size W w')
    (first
      | exact ⟨c0, c1, c2, c3, c4, c5, keep_first W⟩
      | assumption
      | exact keep6 hn (by assumption) (by assumption))
    (first
      | (go_at_call 151; with_reducible refine (NA _ (tab_below t0 (and7 (by assumption)) l0)).mono ?_; rintro e w1 ⟨rfl, hb1⟩)
      | (go_at_call 151; with_reducible refine (NB _ (tab_below t0 (and7 (by assumption)) l0)).mono ?_; rintro e w2 ⟨rfl, hb2⟩)
      | (go_at_call 151; with_reducible refine (NC _ (tab_below t0 (and7 (by assumption)) l0)).mono ?_; rintro e w3 ⟨rfl, hb3⟩))
  all_goals
    go_wp2
    go_ret
    exact ⟨ret_str HR.out.symm, hfin.trans (Below.mono (and7 (by assumption) : Below W.heap.size W _) hfin.size)⟩

set_option maxHeartbeats 1600000 in
theorem specClock_any (y m d : Int) (h i s : Nat) (w : World) (h1 : h < 100) (h2 : i < 100) (h3 : s < 100) :
    Calls Tryz.prog 75 #[.agg #[.int .i64 y, .int .i64 m, .int .i64 d, .int .i64 h, .int .i64 i, .int .i64 s]] w fun e w' => e = .returned (.string (clockB h i s)) ∧ Below w.heap.size w w' := by
  obtain ⟨A, hA⟩ : ∃ A, A = two h := ⟨_, rfl⟩
  obtain ⟨B, hB⟩ : ∃ B, B = two i := ⟨_, rfl⟩
  obtain ⟨C, hC⟩ : ∃ C, C = two s := ⟨_, rfl⟩
  have hsA : A.size ≤ 2 := by rw [hA]; exact two_size _ h1
  have hsB : B.size ≤ 2 := by rw [hB]; exact two_size _ h2
  have hsC : C.size ≤ 2 := by rw [hC]; exact two_size _ h3
  have HR : Hid (clockB h i s = A ++ col ++ B ++ col ++ C) := by show _ = _; rw [hA, hB, hC]; rfl
  have NA := fun w => specTwo_any h w h1
  have NB := fun w => specTwo_any i w h2
  have NC := fun w => specTwo_any s w h3
  rw [← hA] at NA
  rw [← hB] at NB
  rw [← hC] at NC
  clear hA hB hC
  have k1 : ¬ 9223372036854775807 < A.size + 1 := by omega
  have k2 : ¬ 9223372036854775807 < A.size + 1 + B.size := by omega
  have k3 : ¬ 9223372036854775807 < A.size + 1 + B.size + 1 := by omega
  have k4 : ¬ 9223372036854775807 < A.size + 1 + B.size + 1 + C.size := by omega
  go_enter Tryz.func75, Tryz.ntmps75
  go_wp2_with fail
  obtain ⟨W, hW⟩ : ∃ W, W = w.alloc (.cells #[.int .i64 y, .int .i64 m, .int .i64 d, .int .i64 h, .int .i64 i, .int .i64 s] 93) := ⟨_, rfl⟩
  have hn : w.heap.size < W.heap.size := by rw [hW]; simp
  have c0 : W.cell? ⟨w.heap.size, 0, none⟩ = some (.int .i64 y) := by rw [hW, World.cell?_alloc_mark]; rfl
  have c1 : W.cell? ⟨w.heap.size, 1, none⟩ = some (.int .i64 m) := by rw [hW, World.cell?_alloc_mark]; rfl
  have c2 : W.cell? ⟨w.heap.size, 2, none⟩ = some (.int .i64 d) := by rw [hW, World.cell?_alloc_mark]; rfl
  have c3 : W.cell? ⟨w.heap.size, 3, none⟩ = some (.int .i64 h) := by rw [hW, World.cell?_alloc_mark]; rfl
  have c4 : W.cell? ⟨w.heap.size, 4, none⟩ = some (.int .i64 i) := by rw [hW, World.cell?_alloc_mark]; rfl
  have c5 : W.cell? ⟨w.heap.size, 5, none⟩ = some (.int .i64 s) := by rw [hW, World.cell?_alloc_mark]; rfl
  have hfin : Below w.heap.size w W := by rw [hW]; exact (Below.refl _ _).alloc (Nat.le_refl _) _
  rw [← hW]
  clear hW
  go_region_held (fun w' => w'.cell? ⟨w.heap.size, 0, none⟩ = some (.int .i64 y) ∧ w'.cell? ⟨w.heap.size, 1, none⟩ = some (.int .i64 m) ∧ w'.cell? ⟨w.heap.size, 2, none⟩ = some (.int .i64 d) ∧ w'.cell? ⟨w.heap.size, 3, none⟩ = some (.int .i64 h) ∧ w'.cell? ⟨w.heap.size, 4, none⟩ = some (.int .i64 i) ∧ w'.cell? ⟨w.heap.size, 5, none⟩ = some (.int .i64 s) ∧ Below W.heap.size W w')
    (first
      | exact ⟨c0, c1, c2, c3, c4, c5, keep_first W⟩
      | assumption
      | exact keep6 hn (by assumption) (by assumption))
    (first
      | (go_at_call 73; with_reducible refine (NA _).mono ?_; rintro e w1 ⟨rfl, hb1⟩)
      | (go_at_call 73; with_reducible refine (NB _).mono ?_; rintro e w2 ⟨rfl, hb2⟩)
      | (go_at_call 73; with_reducible refine (NC _).mono ?_; rintro e w3 ⟨rfl, hb3⟩))
  all_goals
    go_wp2
    go_ret
    exact ⟨ret_str HR.out.symm, hfin.trans (Below.mono (and7 (by assumption) : Below W.heap.size W _) hfin.size)⟩

end Go.Proofs.YtgidmoncocbfiaaGreatDoor.Num

namespace Go.Proofs.YtgidmoncocbfiaaGreatDoor.Dmt

/-- Whether a year is a leap one. -/
def leapB (y : Int) : Bool := decide (y % 4 = 0) && (decide (y % 100 ≠ 0) || decide (y % 400 = 0))

/-- How many days a month has. -/
def longI (y m : Int) : Int := if m = 2 then (if leapB y then 29 else 28) else if m = 4 ∨ m = 6 ∨ m = 9 ∨ m = 11 then 30 else 31

/-- How many days lie between 1970 and a year. -/
def aheadI (y : Int) : Int := 365 * (y - 1) + (y - 1) / 4 - (y - 1) / 100 + (y - 1) / 400 - 719162

/-- Whether a day is there. -/
def dayB (y m d : Int) : Bool := decide (1970 ≤ y ∧ y ≤ 9999) && decide (1 ≤ m ∧ m ≤ 12) && decide (1 ≤ d ∧ d ≤ longI y m)

/-- Whether a date is good. -/
def goodB (y m d h i s : Int) : Bool := dayB y m d && decide (0 ≤ h ∧ h ≤ 23) && decide (0 ≤ i ∧ i ≤ 59) && decide (0 ≤ s ∧ s ≤ 59)

theorem long_lo (y m : Int) : 28 ≤ longI y m := by unfold longI; split <;> (try split) <;> omega
theorem long_hi (y m : Int) : longI y m ≤ 31 := by unfold longI; split <;> (try split) <;> omega

/-- The days of the months from k on that are below m, k - 1 of them having been counted. -/
def sumF (y m : Int) : Nat → Int → Int → Int
  | 0, _, n => n
  | f + 1, k, n => if k < m then sumF y m f (k + 1) (n + longI y k) else n

theorem sumF_end {y m k n : Int} {f : Nat} (h : ¬ k < m) : sumF y m f k n = n := by
  cases f with
  | zero => rfl
  | succ f => simp only [sumF]; rw [if_neg h]
theorem sumF_more {y m k n : Int} {f : Nat} (h : k < m) : sumF y m (f + 1) k n = sumF y m f (k + 1) (n + longI y k) := by
  simp only [sumF]; rw [if_pos h]
theorem sumF_bd (y m : Int) : ∀ (f : Nat) (k n : Int), n ≤ sumF y m f k n ∧ sumF y m f k n ≤ n + 31 * f
  | 0, _, n => ⟨Int.le_refl _, by show n ≤ _; omega⟩
  | f + 1, k, n => by
    by_cases h : k < m
    · rw [sumF_more h]
      have := sumF_bd y m f (k + 1) (n + longI y k)
      have a := long_lo y k
      have b := long_hi y k
      omega
    · rw [sumF_end h]; omega

/-- How many days lie ahead of a day. -/
def daysI (y m d : Int) : Int := sumF y m 12 1 (aheadI y + d - 1)

theorem sumF_shift (y m : Int) : ∀ (f : Nat) (k n c : Int), sumF y m f k (n + c) = sumF y m f k n + c
  | 0, _, _, _ => rfl
  | f + 1, k, n, c => by
    by_cases h : k < m
    · rw [sumF_more h, sumF_more h, ← sumF_shift y m f (k + 1) (n + longI y k) c]
      congr 1; omega
    · rw [sumF_end h, sumF_end h]

theorem ahead_bd {y : Int} (h1 : 1970 ≤ y) (h2 : y ≤ 10000) : 0 ≤ aheadI y ∧ aheadI y ≤ 2932897 := by
  unfold aheadI; omega

theorem days_bd {y m d : Int} (h1 : 1970 ≤ y) (h2 : y ≤ 9999) (h3 : 1 ≤ d) (h4 : d ≤ 31) : 0 ≤ daysI y m d ∧ daysI y m d ≤ 2940000 := by
  have a := ahead_bd h1 (by omega)
  have b := sumF_bd y m 12 1 (aheadI y + d - 1)
  unfold daysI
  omega

theorem day_parts {y m d : Int} (h : dayB y m d = true) : (1970 ≤ y ∧ y ≤ 9999) ∧ (1 ≤ m ∧ m ≤ 12) ∧ (1 ≤ d ∧ d ≤ longI y m) := by
  unfold dayB at h
  simp only [Bool.and_eq_true, decide_eq_true_eq] at h
  exact ⟨h.1.1, h.1.2, h.2⟩
theorem good_parts {y m d h i s : Int} (g : goodB y m d h i s = true) : dayB y m d = true ∧ (0 ≤ h ∧ h ≤ 23) ∧ (0 ≤ i ∧ i ≤ 59) ∧ (0 ≤ s ∧ s ≤ 59) := by
  unfold goodB at g
  simp only [Bool.and_eq_true, decide_eq_true_eq] at g
  exact ⟨g.1.1.1, g.1.1.2, g.1.2, g.2⟩

/-- The year in which a day lies, looked for from a year on. -/
def yearF (days : Int) : Nat → Int → Int
  | 0, y => y
  | f + 1, y => if aheadI (y + 1) ≤ days then yearF days f (y + 1) else y
theorem yearF_end {days y : Int} {f : Nat} (h : ¬ aheadI (y + 1) ≤ days) : yearF days f y = y := by
  cases f with
  | zero => rfl
  | succ f => simp only [yearF]; rw [if_neg h]
theorem yearF_more {days y : Int} {f : Nat} (h : aheadI (y + 1) ≤ days) : yearF days (f + 1) y = yearF days f (y + 1) := by
  simp only [yearF]; rw [if_pos h]

/-- The month and the day, looked for from a month on. -/
def monthF (y : Int) : Nat → Int → Int → Int × Int
  | 0, m, left => (m, left)
  | f + 1, m, left => if longI y m ≤ left then monthF y f (m + 1) (left - longI y m) else (m, left)
theorem monthF_end {y m left : Int} {f : Nat} (h : ¬ longI y m ≤ left) : monthF y f m left = (m, left) := by
  cases f with
  | zero => rfl
  | succ f => simp only [monthF]; rw [if_neg h]
theorem monthF_more {y m left : Int} {f : Nat} (h : longI y m ≤ left) : monthF y (f + 1) m left = monthF y f (m + 1) (left - longI y m) := by
  simp only [monthF]; rw [if_pos h]

/-- How many days are left in a year from a month on. -/
def remI (y m : Int) : Int :=
  if m ≤ 1 then 365 + (if leapB y then 1 else 0) else if m = 2 then 334 + (if leapB y then 1 else 0) else if m = 3 then 306 else if m = 4 then 275 else if m = 5 then 245 else if m = 6 then 214 else if m = 7 then 184 else if m = 8 then 153
  else if m = 9 then 122 else if m = 10 then 92 else if m = 11 then 61 else if m = 12 then 31 else 0

theorem rem_step (y m : Int) (h1 : 1 ≤ m) (h2 : m ≤ 12) : remI y m = longI y m + remI y (m + 1) := by
  have : m = 1 ∨ m = 2 ∨ m = 3 ∨ m = 4 ∨ m = 5 ∨ m = 6 ∨ m = 7 ∨ m = 8 ∨ m = 9 ∨ m = 10 ∨ m = 11 ∨ m = 12 := by omega
  clear h1 h2
  rcases this with rfl | rfl | rfl | rfl | rfl | rfl | rfl | rfl | rfl | rfl | rfl | rfl
  all_goals
    cases h : leapB y <;> simp [remI, longI, h]

theorem rem_last (y m : Int) (h1 : 12 ≤ m) (h2 : m ≤ 12) : remI y m = longI y m := by
  obtain rfl : m = 12 := by omega
  simp [remI, longI]

theorem ahead_step (y : Int) : aheadI (y + 1) = aheadI y + (365 + (if leapB y then 1 else 0)) := by
  unfold aheadI leapB
  by_cases h4 : y % 4 = 0 <;> by_cases h1 : y % 100 = 0 <;> by_cases h2 : y % 400 = 0 <;> simp [h4, h1, h2] <;> omega

theorem ahead_begin (days : Int) (h : 0 ≤ days) : aheadI (1970 + days / 366) ≤ days := by
  unfold aheadI; omega
theorem ahead_last (y days : Int) (h : aheadI (y + 1) ≤ days) (h1 : y ≤ 9999) (h2 : days ≤ 2932896) : y + 1 ≤ 9999 := by
  by_cases h3 : y + 1 ≤ 9999
  · exact h3
  · obtain rfl : y = 9999 := by omega
    unfold aheadI at h
    omega

def yearI (days : Int) : Int := yearF days 9000 (1970 + days / 366)

theorem yearF_ok (days : Int) (h2 : days ≤ 2932896) : ∀ (f : Nat) (y : Int), 1970 ≤ y → y ≤ 9999 → 10000 ≤ y + f → aheadI y ≤ days →
    1970 ≤ yearF days f y ∧ yearF days f y ≤ 9999 ∧ aheadI (yearF days f y) ≤ days ∧ days < aheadI (yearF days f y + 1)
  | 0, y, h3, h4, h5, h6 => by exfalso; omega
  | f + 1, y, h3, h4, h5, h6 => by
    by_cases h : aheadI (y + 1) ≤ days
    · rw [yearF_more h]
      exact yearF_ok days h2 f (y + 1) (by omega) (ahead_last y days h h4 h2) (by omega) h
    · rw [yearF_end h]
      exact ⟨h3, h4, h6, by omega⟩
theorem yearI_ok (days : Int) (h1 : 0 ≤ days) (h2 : days ≤ 2932896) : 1970 ≤ yearI days ∧ yearI days ≤ 9999 ∧ aheadI (yearI days) ≤ days ∧ days < aheadI (yearI days + 1) :=
  yearF_ok days h2 9000 _ (by omega) (by omega) (by omega) (ahead_begin days h1)

/-- The month and the day of a year's day. -/
def monthI (y rest : Int) : Int × Int := monthF y 12 1 rest

/-- A date's seconds. -/
def secI (y m d h i s : Int) : Int := 86400 * daysI y m d + 3600 * h + 60 * i + s

theorem good0 (y m d : Int) : goodB y m d 0 0 0 = dayB y m d := by
  unfold goodB; simp

end Go.Proofs.YtgidmoncocbfiaaGreatDoor.Dmt

namespace Go.Proofs.YtgidmoncocbfiaaGreatDoor.Dmt

theorem sumF_rem (y m : Int) (hm : m ≤ 12) : ∀ (f : Nat) (k n : Int), 1 ≤ k → k ≤ m → m ≤ k + f → sumF y m f k n + remI y m = n + remI y k
  | 0, k, n, h1, h2, h3 => by
    obtain rfl : k = m := by omega
    rfl
  | f + 1, k, n, h1, h2, h3 => by
    by_cases h : k < m
    · rw [sumF_more h, sumF_rem y m hm f (k + 1) (n + longI y k) (by omega) (by omega) (by omega)]
      have := rem_step y k h1 (by omega)
      omega
    · obtain rfl : k = m := by omega
      rw [sumF_end h]

theorem rem_one (y : Int) : remI y 1 = 365 + (if leapB y then 1 else 0) := by unfold remI; rw [if_pos (by omega)]
theorem days_rem (y m d : Int) (h1 : 1 ≤ m) (h2 : m ≤ 12) : daysI y m d + remI y m = aheadI (y + 1) + d - 1 := by
  have := sumF_rem y m h2 12 1 (aheadI y + d - 1) (by omega) h1 (by omega)
  rw [rem_one] at this
  rw [ahead_step]
  unfold daysI
  omega
theorem rem_lo (y m : Int) : 0 ≤ remI y m := by
  unfold remI; split <;> (try split) <;> (try split) <;> (try split) <;> (try split) <;> (try split) <;> (try split) <;> (try split) <;> (try split) <;> (try split) <;> (try split) <;> (try split) <;> (try split) <;> (try split) <;> omega
theorem rem_ge (y m : Int) (h1 : 1 ≤ m) (h2 : m ≤ 12) : longI y m ≤ remI y m := by
  have := rem_step y m h1 h2
  have := rem_lo y (m + 1)
  omega
/-- A day that is there lies within its year. -/
theorem days_in {y m d : Int} (h : dayB y m d = true) : aheadI y ≤ daysI y m d ∧ daysI y m d < aheadI (y + 1) := by
  obtain ⟨⟨h1, h2⟩, ⟨h3, h4⟩, h5, h6⟩ := day_parts h
  have a := days_rem y m d h3 h4
  have b := rem_ge y m h3 h4
  have c := (sumF_bd y m 12 1 (aheadI y + d - 1)).1
  refine ⟨?_, by omega⟩
  unfold daysI
  omega
theorem days_top {y m d : Int} (h : dayB y m d = true) : 0 ≤ daysI y m d ∧ daysI y m d ≤ 2932896 := by
  have a := days_in h
  obtain ⟨⟨h1, h2⟩, _⟩ := day_parts h
  have b := ahead_bd h1 (show y ≤ 10000 by omega)
  have c := ahead_bd (show 1970 ≤ y + 1 by omega) (show y + 1 ≤ 10000 by omega)
  omega

/-- A day's place in the week. -/
def wdI (y m d : Int) : Int := (daysI y m d + 4) % 7

end Go.Proofs.YtgidmoncocbfiaaGreatDoor.Dmt

namespace Go.Proofs.YtgidmoncocbfiaaGreatDoor.Dwa
open Go.RowKit
open Go.Proofs.YtgidmoncocbfiaaGreatDoor.Dmt

theorem ret_bool {a b : Bool} (h : a = b) : Ending.returned (.bool a) = .returned (.bool b) := by rw [h]
theorem ret_int {k : IntKind} {a b : Int} (h : a = b) : Ending.returned (.int k a) = .returned (.int k b) := by rw [h]

def mdays : List Int := [31, 28, 31, 30, 31, 30, 31, 31, 30, 31, 30, 31]
def md (i : Nat) : Int := mdays.getD i 0

/-- The months' days as the text lays them. -/
def Tab (w : World) : Prop := ∀ i, i < 12 → w.cell? ⟨4, i, none⟩ = some (.int .i64 (md i))
theorem Tab.below {B : Nat} {w w' : World} (h : Tab w) (hb : Below B w w') (hB : 4 < B) : Tab w' :=
  fun i hi => (hb.cell (p := ⟨4, i, none⟩) hB).trans (h i hi)
theorem Tab.lt {w : World} (h : Tab w) : 4 < w.heap.size := World.block_lt_of_cell? w _ (h 0 (by omega))
theorem Tab.alloc {w : World} (h : Tab w) (o : Obj) : Tab (w.alloc o) := h.below ((Below.refl w.heap.size w).alloc (Nat.le_refl _) o) h.lt

theorem leap_cases (y : Int) : (y % 4 ≠ 0 ∧ leapB y = false) ∨ (y % 4 = 0 ∧ y % 100 ≠ 0 ∧ leapB y = true) ∨ (y % 4 = 0 ∧ y % 100 = 0 ∧ y % 400 ≠ 0 ∧ leapB y = false) ∨ (y % 4 = 0 ∧ y % 100 = 0 ∧ y % 400 = 0 ∧ leapB y = true) := by
  unfold leapB
  by_cases h4 : y % 4 = 0 <;> by_cases h1 : y % 100 = 0 <;> by_cases h2 : y % 400 = 0 <;> simp [h4, h1, h2]

theorem implLeap_any (y : Int) (w : World) (h0 : 0 ≤ y) (h1 : y ≤ 20000) :
    Calls Tryz.prog 169 #[.int .i64 y] w fun e w' => e = .returned (.bool (leapB y)) ∧ w' = w := by
  rcases leap_cases y with ⟨h4, hl⟩ | ⟨h4, h5, hl⟩ | ⟨h4, h5, h6, hl⟩ | ⟨h4, h5, h6, hl⟩
  all_goals
    have HR : Hid (leapB y = _) := hl
    clear hl
    go_enter Tryz.func169, Tryz.ntmps169
    go_wp2
    go_ret
    first
      | exact ⟨ret_bool HR.out.symm, rfl⟩
      | exact ⟨ret_bool ((beq_eq_false_iff_ne.2 h6).trans HR.out.symm), rfl⟩
      | exact ⟨ret_bool ((beq_iff_eq.2 h6).trans HR.out.symm), rfl⟩

theorem specLeap_any (y : Int) (w : World) (h0 : 0 ≤ y) (h1 : y ≤ 20000) :
    Calls Tryz.prog 103 #[.int .i64 y] w fun e w' => e = .returned (.bool (leapB y)) ∧ w' = w := by
  rcases leap_cases y with ⟨h4, hl⟩ | ⟨h4, h5, hl⟩ | ⟨h4, h5, h6, hl⟩ | ⟨h4, h5, h6, hl⟩
  all_goals
    have HR : Hid (leapB y = _) := hl
    clear hl
    go_enter Tryz.func103, Tryz.ntmps103
    go_wp2
    go_ret
    first
      | exact ⟨ret_bool HR.out.symm, rfl⟩
      | exact ⟨ret_bool ((beq_eq_false_iff_ne.2 h6).trans HR.out.symm), rfl⟩
      | exact ⟨ret_bool ((beq_iff_eq.2 h6).trans HR.out.symm), rfl⟩

theorem md_is (y : Int) : ∀ k : Nat, k < 12 → ¬ (k = 1 ∧ leapB y = true) → md k = longI y ((k : Int) + 1) := by
  intro k hk hn
  have : k = 0 ∨ k = 1 ∨ k = 2 ∨ k = 3 ∨ k = 4 ∨ k = 5 ∨ k = 6 ∨ k = 7 ∨ k = 8 ∨ k = 9 ∨ k = 10 ∨ k = 11 := by omega
  rcases this with rfl | rfl | rfl | rfl | rfl | rfl | rfl | rfl | rfl | rfl | rfl | rfl
  case inr.inl => 
    have : leapB y = false := by simpa using hn
    simp [md, mdays, longI, this]
  all_goals simp [md, mdays, longI]

theorem implLong_any (y m : Int) (w : World) (hT : Tab w) (h0 : 0 ≤ y) (h1 : y ≤ 20000) (hm : 1 ≤ m) (hm2 : m ≤ 12) :
    Calls Tryz.prog 156 #[.int .i64 y, .int .i64 m] w fun e w' => e = .returned (.int .i64 (longI y m)) ∧ w' = w := by
  obtain ⟨k, rfl⟩ : ∃ k : Nat, m = (k : Int) + 1 := ⟨(m - 1).toNat, by omega⟩
  have hc := hT k (by omega)
  by_cases h2 : k = 1
  · subst h2
    cases hl : leapB y
    · have HR : Hid (md 1 = longI y (((1 : Nat) : Int) + 1)) := md_is y 1 (by omega) (by simp [hl])
      go_enter Tryz.func156, Tryz.ntmps156
      go_wp2_with (go_at_call 169; refine (implLeap_any y _ h0 h1).mono ?_; rintro e w' ⟨rfl, rfl⟩)
      go_ret
      exact ⟨ret_int HR.out, rfl⟩
    · have HR : Hid ((29 : Int) = longI y (((1 : Nat) : Int) + 1)) := by show _ = _; simp [longI, hl]
      go_enter Tryz.func156, Tryz.ntmps156
      go_wp2_with (go_at_call 169; refine (implLeap_any y _ h0 h1).mono ?_; rintro e w' ⟨rfl, rfl⟩)
      go_ret
      exact ⟨ret_int HR.out, rfl⟩
  · have HR : Hid (md k = longI y ((k : Int) + 1)) := md_is y k (by omega) (fun h => h2 h.1)
    go_enter Tryz.func156, Tryz.ntmps156
    go_wp2
    go_ret
    exact ⟨ret_int HR.out, rfl⟩

theorem specLong_any (y m : Int) (w : World) (h0 : 0 ≤ y) (h1 : y ≤ 20000) (hm : 1 ≤ m) (hm2 : m ≤ 12) :
    Calls Tryz.prog 77 #[.int .i64 y, .int .i64 m] w fun e w' => e = .returned (.int .i64 (longI y m)) ∧ w' = w := by
  by_cases h2 : m = 2
  · subst h2
    cases hl : leapB y
    · have HR : Hid ((28 : Int) = longI y 2) := by show _ = _; simp [longI, hl]
      go_enter Tryz.func77, Tryz.ntmps77
      go_wp2_with (go_at_call 103; refine (specLeap_any y _ h0 h1).mono ?_; rintro e w' ⟨rfl, rfl⟩)
      go_ret
      exact ⟨ret_int HR.out, rfl⟩
    · have HR : Hid ((29 : Int) = longI y 2) := by show _ = _; simp [longI, hl]
      go_enter Tryz.func77, Tryz.ntmps77
      go_wp2_with (go_at_call 103; refine (specLeap_any y _ h0 h1).mono ?_; rintro e w' ⟨rfl, rfl⟩)
      go_ret
      exact ⟨ret_int HR.out, rfl⟩
  · have : m = 1 ∨ m = 3 ∨ m = 4 ∨ m = 5 ∨ m = 6 ∨ m = 7 ∨ m = 8 ∨ m = 9 ∨ m = 10 ∨ m = 11 ∨ m = 12 := by omega
    clear hm hm2 h2
    rcases this with rfl | rfl | rfl | rfl | rfl | rfl | rfl | rfl | rfl | rfl | rfl
    all_goals
      go_enter Tryz.func77, Tryz.ntmps77
      go_wp2
      go_ret
      exact ⟨ret_int (by simp [longI]), rfl⟩

theorem specAhead_any (y : Int) (w : World) (h0 : 1970 ≤ y) (h1 : y ≤ 10000) :
    Calls Tryz.prog 76 #[.int .i64 y] w fun e w' => e = .returned (.int .i64 (aheadI y)) ∧ w' = w := by
  go_enter Tryz.func76, Tryz.ntmps76
  go_wp2
  go_ret
  exact ⟨ret_int (by unfold aheadI; omega), rfl⟩

theorem implAhead_any (y : Int) (w : World) (h0 : 1970 ≤ y) (h1 : y ≤ 10000) :
    Calls Tryz.prog 155 #[.int .i64 y] w fun e w' => e = .returned (.int .i64 (aheadI y)) ∧ w' = w := by
  go_enter Tryz.func155, Tryz.ntmps155
  go_wp2_with (go_at_call 168; go_in)
  go_ret
  exact ⟨ret_int (by unfold aheadI; omega), rfl⟩

end Go.Proofs.YtgidmoncocbfiaaGreatDoor.Dwa

