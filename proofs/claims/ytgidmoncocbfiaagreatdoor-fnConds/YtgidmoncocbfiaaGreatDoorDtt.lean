/-
  Walks: a date told: impl.usualDateText.
-/
import Derived.Test.YtgidmoncocbfiaaGreatDoorDnm
namespace Go.Proofs.YtgidmoncocbfiaaGreatDoor.Nam
open Go.RowKit
open Go.Proofs.YtgidmoncocbfiaaGreatDoor.Dmt
open Go.Proofs.YtgidmoncocbfiaaGreatDoor.Dwa
open Go.Proofs.YtgidmoncocbfiaaGreatDoor.Num (num num_any num_size_le itoa_any two two_size clockB clock_size implTwo_any specTwo_any implClock_any specClock_any tab_below tab_lt tab_alloc keep_first keep6 and7 ret_str)

def csp : ByteArray := ⟨#[44, 32]⟩
def sp : ByteArray := ⟨#[32]⟩
def gmt : ByteArray := ⟨#[32, 71, 77, 84]⟩
/-- A date told. -/
def usualB (k : Nat) (y : Nat) (m : Int) (d h i s : Nat) : ByteArray := sname k ++ csp ++ two d ++ sp ++ mname m ++ sp ++ num y ++ sp ++ clockB h i s ++ gmt

set_option maxHeartbeats 6400000 in
theorem implUsual_any (y d h i s k : Nat) (m : Int) (w : World) (hT : Tab w) (hD : TabD w) (hN : TabN w) (htab : Lib.TabIs Tryz.prog w "internal/strconv.uint64pow10" .u64 Lib.pow10Tab) (hg : goodB y m d h i s = true) (hk : wdI y m d = k) :
    Calls Tryz.prog 121 #[.agg #[.int .i64 y, .int .i64 m, .int .i64 d, .int .i64 h, .int .i64 i, .int .i64 s]] w fun e w' => e = .returned (.string (usualB k y m d h i s)) ∧ Below w.heap.size w w' := by
  obtain ⟨g1, ⟨q1, q2⟩, ⟨q3, q4⟩, q5, q6⟩ := good_parts hg
  obtain ⟨⟨g3, g4⟩, ⟨g5, g6⟩, g7, g8⟩ := day_parts g1
  have g9 := long_hi y m
  have ht := days_top g1
  have hk7 : k < 7 := by unfold wdI at hk; omega
  obtain ⟨A, hA⟩ : ∃ A, A = sname k := ⟨_, rfl⟩
  obtain ⟨B, hB⟩ : ∃ B, B = two d := ⟨_, rfl⟩
  obtain ⟨M, hM⟩ : ∃ M, M = mname m := ⟨_, rfl⟩
  obtain ⟨Y, hY⟩ : ∃ Y, Y = num y := ⟨_, rfl⟩
  obtain ⟨C, hC⟩ : ∃ C, C = clockB h i s := ⟨_, rfl⟩
  have hsA : A.size = 3 := by rw [hA]; exact sname_size _ hk7
  have hsB : B.size ≤ 2 := by rw [hB]; exact two_size _ (by omega)
  have hsM : M.size = 3 := by rw [hM]; exact mname_size _ g5 g6
  have hsY : Y.size ≤ 7 := by rw [hY]; exact num_size_le 6 _ (by omega)
  have hsC : C.size ≤ 8 := by rw [hC]; exact clock_size _ _ _ (by omega) (by omega) (by omega)
  have HR : Hid (usualB k y m d h i s = A ++ csp ++ B ++ sp ++ M ++ sp ++ Y ++ sp ++ C ++ gmt) := by show _ = _; rw [hA, hB, hM, hY, hC]; rfl
  have hds := dn_size k hk7
  obtain ⟨D, hD0⟩ : ∃ D, D = dn k := ⟨_, rfl⟩
  have hsl : ∀ wx, (Instr.slice 9 (.string D) none (some (.int .i64 3)) none).run Tryz.prog wx = .ok (.string A) wx := by
    intro wx
    rw [hA, hD0]
    exact run_slice_string_h wx 9 (dn k) Tryz.underlying9 .i64 3 (by omega) (by have := dn_size k hk7; omega)
  have ND := fun w a b => implDayName_any y m d h i s k w a b g1 hk
  have NM := fun w a => implMonthName_any y m d h i s w a g5 g6
  have NT := fun w t => implTwo_any d w (by omega) t
  have NY := fun w t => itoa_any y w (by omega) t
  have NC := fun w t => implClock_any y m d h i s w (by omega) (by omega) (by omega) t
  rw [← hD0] at ND hds
  rw [← hM] at NM
  rw [← hB] at NT
  rw [← hY] at NY
  rw [← hC] at NC
  clear hA hB hM hY hC hD0 hk g1 hg ht
  have HD : Hid _ := ND
  have HM : Hid _ := NM
  have HT : Hid _ := NT
  have HY : Hid _ := NY
  have HC : Hid _ := NC
  clear ND NM NT NY NC
  have k1 : ¬ 9223372036854775807 < A.size + 2 := by omega
  have k2 : ¬ 9223372036854775807 < A.size + 2 + B.size := by omega
  have k3 : ¬ 9223372036854775807 < A.size + 2 + B.size + 1 := by omega
  have k4 : ¬ 9223372036854775807 < A.size + 2 + B.size + 1 + M.size := by omega
  have k5 : ¬ 9223372036854775807 < A.size + 2 + B.size + 1 + M.size + 1 := by omega
  have k6 : ¬ 9223372036854775807 < A.size + 2 + B.size + 1 + M.size + 1 + Y.size := by omega
  have k7 : ¬ 9223372036854775807 < A.size + 2 + B.size + 1 + M.size + 1 + Y.size + 1 := by omega
  have k8 : ¬ 9223372036854775807 < A.size + 2 + B.size + 1 + M.size + 1 + Y.size + 1 + C.size := by omega
  have k9 : ¬ 9223372036854775807 < A.size + 2 + B.size + 1 + M.size + 1 + Y.size + 1 + C.size + 4 := by omega
  have t0 := tab_alloc htab (.cells #[.int .i64 y, .int .i64 m, .int .i64 d, .int .i64 h, .int .i64 i, .int .i64 s] 93)
  have l0 := tab_lt t0
  have a0 := hT.alloc (.cells #[.int .i64 y, .int .i64 m, .int .i64 d, .int .i64 h, .int .i64 i, .int .i64 s] 93)
  have a1 := a0.lt
  have b0 := hD.alloc (.cells #[.int .i64 y, .int .i64 m, .int .i64 d, .int .i64 h, .int .i64 i, .int .i64 s] 93)
  have b1 := b0.lt
  have d0 := hN.alloc (.cells #[.int .i64 y, .int .i64 m, .int .i64 d, .int .i64 h, .int .i64 i, .int .i64 s] 93)
  have d1 := d0.lt
  go_enter Tryz.func121, Tryz.ntmps121
  go_wp2_with fail
  obtain ⟨W, hW⟩ : ∃ W, W = w.alloc (.cells #[.int .i64 y, .int .i64 m, .int .i64 d, .int .i64 h, .int .i64 i, .int .i64 s] 93) := ⟨_, rfl⟩
  have hn : w.heap.size < W.heap.size := by rw [hW]; simp
  have c0 : W.cell? ⟨w.heap.size, 0, none⟩ = some (.int .i64 y) := by rw [hW, World.cell?_alloc_mark]; rfl
  have c1 : W.cell? ⟨w.heap.size, 1, none⟩ = some (.int .i64 m) := by rw [hW, World.cell?_alloc_mark]; rfl
  have c2 : W.cell? ⟨w.heap.size, 2, none⟩ = some (.int .i64 d) := by rw [hW, World.cell?_alloc_mark]; rfl
  have c3 : W.cell? ⟨w.heap.size, 3, none⟩ = some (.int .i64 h) := by rw [hW, World.cell?_alloc_mark]; rfl
  have c4 : W.cell? ⟨w.heap.size, 4, none⟩ = some (.int .i64 i) := by rw [hW, World.cell?_alloc_mark]; rfl
  have c5 : W.cell? ⟨w.heap.size, 5, none⟩ = some (.int .i64 s) := by rw [hW, World.cell?_alloc_mark]; rfl
  have hfin : Below w.heap.size w W := by rw [hW]; exact (Below.refl _ _).alloc (Nat.le_refl _) _
  rw [← hW] at t0 l0 a0 a1 b0 b1 d0 d1 ⊢
  clear hW
  go_region_held (fun w' => w'.cell? ⟨w.heap.size, 0, none⟩ = some (.int .i64 y) ∧ w'.cell? ⟨w.heap.size, 1, none⟩ = some (.int .i64 m) ∧ w'.cell? ⟨w.heap.size, 2, none⟩ = some (.int .i64 d) ∧ w'.cell? ⟨w.heap.size, 3, none⟩ = some (.int .i64 h) ∧ w'.cell? ⟨w.heap.size, 4, none⟩ = some (.int .i64 i) ∧ w'.cell? ⟨w.heap.size, 5, none⟩ = some (.int .i64 s) ∧ Below W.heap.size W w')
    (first
      | exact ⟨c0, c1, c2, c3, c4, c5, keep_first W⟩
      | assumption
      | exact keep6 hn (by assumption) (by assumption))
    (first
      | (go_at_call 150; with_reducible refine (HD.out _ (a0.below (and7 (by assumption)) a1) (b0.below (and7 (by assumption)) b1)).mono ?_; rintro e w1 ⟨rfl, hb1⟩)
      | (go_at_call 152; with_reducible refine (HM.out _ (d0.below (and7 (by assumption)) d1)).mono ?_; rintro e w3 ⟨rfl, hb3⟩)
      | (go_at_call 151; with_reducible refine (HT.out _ (tab_below t0 (and7 (by assumption)) l0)).mono ?_; rintro e w2 ⟨rfl, hb2⟩)
      | (go_at_call 153; with_reducible refine (HY.out _ (tab_below t0 (and7 (by assumption)) l0)).mono ?_; rintro e w4 ⟨rfl, hb4⟩)
      | (go_at_call 154; with_reducible refine (HC.out _ (tab_below t0 (and7 (by assumption)) l0)).mono ?_; rintro e w5 ⟨rfl, hb5⟩))
  all_goals
    go_wp2
    go_ret
    exact ⟨ret_str HR.out.symm, hfin.trans (Below.mono (and7 (by assumption) : Below W.heap.size W _) hfin.size)⟩

end Go.Proofs.YtgidmoncocbfiaaGreatDoor.Nam
