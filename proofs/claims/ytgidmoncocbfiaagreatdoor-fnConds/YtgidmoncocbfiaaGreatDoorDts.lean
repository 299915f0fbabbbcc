/-
  Walks: a date told: spec.l2Text.
-/
import Derived.Test.YtgidmoncocbfiaaGreatDoorDtt
namespace Go.Proofs.YtgidmoncocbfiaaGreatDoor.Nam
open Go.RowKit
open Go.Proofs.YtgidmoncocbfiaaGreatDoor.Dmt
open Go.Proofs.YtgidmoncocbfiaaGreatDoor.Dwa
open Go.Proofs.YtgidmoncocbfiaaGreatDoor.Num (num num_any num_size_le itoa_any two two_size clockB clock_size implTwo_any specTwo_any implClock_any specClock_any tab_below tab_lt tab_alloc keep_first keep6 and7 ret_str)

def sdays : ByteArray := ⟨#[83, 117, 110, 77, 111, 110, 84, 117, 101, 87, 101, 100, 84, 104, 117, 70, 114, 105, 83, 97, 116]⟩
def smonths : ByteArray := ⟨#[74, 97, 110, 70, 101, 98, 77, 97, 114, 65, 112, 114, 77, 97, 121, 74, 117, 110, 74, 117, 108, 65, 117, 103, 83, 101, 112, 79, 99, 116, 78, 111, 118, 68, 101, 99]⟩
theorem sdays_at : ∀ k, k < 7 → sdays.extract (3 * k) (3 * k + 3) = sname k := by decide
theorem smonths_at (m : Int) (h1 : 1 ≤ m) (h2 : m ≤ 12) : smonths.extract (3 * (m - 1)).toNat (3 * (m - 1) + 3).toNat = mname m := by
  have : m = 1 ∨ m = 2 ∨ m = 3 ∨ m = 4 ∨ m = 5 ∨ m = 6 ∨ m = 7 ∨ m = 8 ∨ m = 9 ∨ m = 10 ∨ m = 11 ∨ m = 12 := by omega
  rcases this with rfl | rfl | rfl | rfl | rfl | rfl | rfl | rfl | rfl | rfl | rfl | rfl <;> rfl

set_option maxHeartbeats 6400000 in
theorem specText_any (y d h i s k : Nat) (m : Int) (w : World) (hg : goodB y m d h i s = true) (hk : wdI y m d = k) :
    Calls Tryz.prog 46 #[.agg #[.int .i64 y, .int .i64 m, .int .i64 d, .int .i64 h, .int .i64 i, .int .i64 s]] w fun e w' => e = .returned (.string (usualB k y m d h i s)) ∧ Below w.heap.size w w' := by
  obtain ⟨g1, ⟨q1, q2⟩, ⟨q3, q4⟩, q5, q6⟩ := good_parts hg
  obtain ⟨⟨g3, g4⟩, ⟨g5, g6⟩, g7, g8⟩ := day_parts g1
  have g9 := long_hi y m
  have ht := days_top g1
  have hk7 : k < 7 := by unfold wdI at hk; omega
  obtain ⟨A, hA⟩ : ∃ A, A = sname k := ⟨_, rfl⟩
  obtain ⟨B, hB⟩ : ∃ B, B = two d := ⟨_, rfl⟩
  obtain ⟨M, hM⟩ : ∃ M, M = mname m := ⟨_, rfl⟩
  obtain ⟨Y, hY⟩ : ∃ Y, Y = num y := ⟨_, rfl⟩
  obtain ⟨C, hC⟩ : ∃ C, C = clockB h i s := ⟨_, rfl⟩
  have hsA : A.size = 3 := by rw [hA]; exact sname_size _ hk7
  have hsB : B.size ≤ 2 := by rw [hB]; exact two_size _ (by omega)
  have hsM : M.size = 3 := by rw [hM]; exact mname_size _ g5 g6
  have hsY : Y.size ≤ 7 := by rw [hY]; exact num_size_le 6 _ (by omega)
  have hsC : C.size ≤ 8 := by rw [hC]; exact clock_size _ _ _ (by omega) (by omega) (by omega)
  have HR : Hid (usualB k y m d h i s = A ++ csp ++ B ++ sp ++ M ++ sp ++ Y ++ sp ++ C ++ gmt) := by show _ = _; rw [hA, hB, hM, hY, hC]; rfl
  have hsl : ∀ wx, (Instr.slice 9 (.string ⟨#[83, 117, 110, 77, 111, 110, 84, 117, 101, 87, 101, 100, 84, 104, 117, 70, 114, 105, 83, 97, 116]⟩) (some (.int .i64 (3 * (k : Int)))) (some (.int .i64 (3 * (k : Int) + 3))) none).run Tryz.prog wx = .ok (.string A) wx := by
    intro wx
    rw [hA, ← sdays_at k hk7]
    have := run_slice_string (P := Tryz.prog) wx 9 sdays .i64 .i64 (3 * (k : Int)) (3 * (k : Int) + 3) Tryz.underlying9 (by omega) (by omega) (by show _ ≤ ((21 : Nat) : Int); omega)
    rw [show (3 * (k : Int)).toNat = 3 * k from by omega, show (3 * (k : Int) + 3).toNat = 3 * k + 3 from by omega] at this
    exact this
  have hsm : ∀ wx, (Instr.slice 9 (.string ⟨#[74, 97, 110, 70, 101, 98, 77, 97, 114, 65, 112, 114, 77, 97, 121, 74, 117, 110, 74, 117, 108, 65, 117, 103, 83, 101, 112, 79, 99, 116, 78, 111, 118, 68, 101, 99]⟩) (some (.int .i64 (3 * (m - 1)))) (some (.int .i64 (3 * (m - 1) + 3))) none).run Tryz.prog wx = .ok (.string M) wx := by
    intro wx
    rw [hM, ← smonths_at m g5 g6]
    exact run_slice_string (P := Tryz.prog) wx 9 smonths .i64 .i64 (3 * (m - 1)) (3 * (m - 1) + 3) Tryz.underlying9 (by omega) (by omega) (by show _ ≤ ((36 : Nat) : Int); omega)
  have r1 : IntKind.i64.wrap (3 * (k : Int) + 3) = 3 * (k : Int) + 3 := by rw [IntKind.wrap_i64]; omega
  have r2 : IntKind.i64.wrap (3 * (m - 1) + 3) = 3 * (m - 1) + 3 := by rw [IntKind.wrap_i64]; omega
  have NW := fun w => specWeekday_any y m d h i s w g1
  have NT := fun w => specTwo_any d w (by omega)
  have NY := fun w => num_any 5 y w (by omega) (by omega)
  have NC := fun w => specClock_any y m d h i s w (by omega) (by omega) (by omega)
  rw [hk] at NW
  rw [← hB] at NT
  rw [← hY] at NY
  rw [← hC] at NC
  clear hA hB hM hY hC hk g1 hg ht
  have HT : Hid _ := NT
  have HY : Hid _ := NY
  have HC : Hid _ := NC
  clear NT NY NC
  have k1 : ¬ 9223372036854775807 < A.size + 2 := by omega
  have k2 : ¬ 9223372036854775807 < A.size + 2 + B.size := by omega
  have k3 : ¬ 9223372036854775807 < A.size + 2 + B.size + 1 := by omega
  have k4 : ¬ 9223372036854775807 < A.size + 2 + B.size + 1 + M.size := by omega
  have k5 : ¬ 9223372036854775807 < A.size + 2 + B.size + 1 + M.size + 1 := by omega
  have k6 : ¬ 9223372036854775807 < A.size + 2 + B.size + 1 + M.size + 1 + Y.size := by omega
  have k7 : ¬ 9223372036854775807 < A.size + 2 + B.size + 1 + M.size + 1 + Y.size + 1 := by omega
  have k8 : ¬ 9223372036854775807 < A.size + 2 + B.size + 1 + M.size + 1 + Y.size + 1 + C.size := by omega
  have k9 : ¬ 9223372036854775807 < A.size + 2 + B.size + 1 + M.size + 1 + Y.size + 1 + C.size + 4 := by omega
  go_enter Tryz.func46, Tryz.ntmps46
  go_wp2_with (first
    | (go_at_call 72; with_reducible refine (NW _).mono ?_; rintro e w1 ⟨rfl, hb1⟩; obtain ⟨hc1, hf1, hsz⟩ := zcells hb1))
  have hn : w.heap.size < w1.heap.size := hsz
  have c0 : w1.cell? ⟨w.heap.size, 0, none⟩ = some (.int .i64 y) := hc1 0
  have c1 : w1.cell? ⟨w.heap.size, 1, none⟩ = some (.int .i64 m) := hc1 1
  have c2 : w1.cell? ⟨w.heap.size, 2, none⟩ = some (.int .i64 d) := hc1 2
  have c3 : w1.cell? ⟨w.heap.size, 3, none⟩ = some (.int .i64 h) := hc1 3
  have c4 : w1.cell? ⟨w.heap.size, 4, none⟩ = some (.int .i64 i) := hc1 4
  have c5 : w1.cell? ⟨w.heap.size, 5, none⟩ = some (.int .i64 s) := hc1 5
  have hfin : Below w.heap.size w w1 := ((Below.refl _ _).alloc (Nat.le_refl _) _).trans (hb1.mono (by simp))
  clear hb1 hc1 hf1
  go_region_held (fun w' => w'.cell? ⟨w.heap.size, 0, none⟩ = some (.int .i64 y) ∧ w'.cell? ⟨w.heap.size, 1, none⟩ = some (.int .i64 m) ∧ w'.cell? ⟨w.heap.size, 2, none⟩ = some (.int .i64 d) ∧ w'.cell? ⟨w.heap.size, 3, none⟩ = some (.int .i64 h) ∧ w'.cell? ⟨w.heap.size, 4, none⟩ = some (.int .i64 i) ∧ w'.cell? ⟨w.heap.size, 5, none⟩ = some (.int .i64 s) ∧ Below w1.heap.size w1 w')
    (first
      | exact ⟨c0, c1, c2, c3, c4, c5, keep_first w1⟩
      | assumption
      | exact keep6 hn (by assumption) (by assumption))
    (first
      | (go_at_call 73; with_reducible refine (HT.out _).mono ?_; rintro e w2 ⟨rfl, hb2⟩)
      | (go_at_call 74; with_reducible refine (HY.out _).mono ?_; rintro e w4 ⟨rfl, hb4⟩)
      | (go_at_call 75; with_reducible refine (HC.out _).mono ?_; rintro e w5 ⟨rfl, hb5⟩))
  all_goals
    go_wp2
    go_ret
    exact ⟨ret_str HR.out.symm, hfin.trans (Below.mono (and7 (by assumption) : Below w1.heap.size w1 _) hfin.size)⟩

end Go.Proofs.YtgidmoncocbfiaaGreatDoor.Nam
