/-
  Walks: two digits and a day's time told: impl.twoDigits, impl.clockText, spec.l2Two, spec.l2Clock.
-/
import Derived.Test.YtnjpagejeiiphaaDoorNum
import Derived.Deep.RegionHeld
namespace Go.Proofs.YtnjpagejeiiphaaDoor.Num
open Go.RowKit

/-- Two digits. -/
def two (n : Nat) : ByteArray := num (n / 10) ++ num (n % 10)
theorem two_small {n : Nat} (h : n < 10) : two n = ⟨#[48]⟩ ++ num n := by
  unfold two; rw [Nat.div_eq_of_lt h, Nat.mod_eq_of_lt h, num_one (n := 0) (by omega)]; rfl
theorem two_great {n : Nat} (h : ¬ n < 10) : two n = num n := by
  rw [num_more h]; unfold two; rw [num_one (n := n % 10) (by omega)]
theorem two_size (n : Nat) (h : n < 100) : (two n).size ≤ 2 := by
  unfold two; rw [ByteArray.size_append, num_one (n := n % 10) (by omega), num_one (n := n / 10) (by omega)]
  exact Nat.le_refl 2

theorem implTwo_any (n : Nat) (w : World) (h : n < 100) (htab : Lib.TabIs Tryd.prog w "internal/strconv.uint64pow10" .u64 Lib.pow10Tab) :
    Calls Tryd.prog 54 #[.int .i64 n] w fun e w' => e = .returned (.string (two n)) ∧ Below w.heap.size w w' := by
  obtain ⟨T, hT⟩ : ∃ T, T = num n := ⟨_, rfl⟩
  have hsz : T.size ≤ 7 := by rw [hT]; exact num_size_le 6 n (by omega)
  have HT : Hid (T = num n) := hT
  by_cases h1 : n < 10
  · have HR : Hid (two n = ⟨#[48]⟩ ++ T) := by show _ = _; rw [hT]; exact two_small h1
    clear hT
    go_enter Tryd.func54, Tryd.ntmps54
    go_wp2_with (go_at_call 56; refine (itoa_any n _ (by omega) htab).mono ?_; rintro e w1 ⟨rfl, hb1⟩; rw [← HT.out])
    go_ret
    exact ⟨ret_str HR.out.symm, hb1⟩
  · have HR : Hid (two n = T) := by show _ = _; rw [hT]; exact two_great h1
    clear hT
    go_enter Tryd.func54, Tryd.ntmps54
    go_wp2_with (go_at_call 56; refine (itoa_any n _ (by omega) htab).mono ?_; rintro e w1 ⟨rfl, hb1⟩; rw [← HT.out])
    go_ret
    exact ⟨ret_str HR.out.symm, hb1⟩

theorem specTwo_any (n : Nat) (w : World) (h : n < 100) :
    Calls Tryd.prog 50 #[.int .i64 n] w fun e w' => e = .returned (.string (two n)) ∧ Below w.heap.size w w' := by
  obtain ⟨A, hA⟩ : ∃ A, A = num (n / 10) := ⟨_, rfl⟩
  obtain ⟨B, hB⟩ : ∃ B, B = num (n % 10) := ⟨_, rfl⟩
  have hsA : A.size ≤ 7 := by rw [hA]; exact num_size_le 6 _ (by omega)
  have hsB : B.size ≤ 7 := by rw [hB]; exact num_size_le 6 _ (by omega)
  have HR : Hid (two n = A ++ B) := by show _ = _; rw [hA, hB]; rfl
  have NA := fun w => num_any 5 (n / 10) w (by omega) (by omega)
  have NB := fun w => num_any 5 (n % 10) w (by omega) (by omega)
  rw [← hA] at NA
  rw [← hB] at NB
  rw [show ((n / 10 : Nat) : Int) = (n : Int) / 10 from by omega] at NA
  rw [show ((n % 10 : Nat) : Int) = (n : Int) % 10 from by omega] at NB
  clear hA hB
  go_enter Tryd.func50, Tryd.ntmps50
  go_wp2_with (first
    | (go_at_call 51; with_reducible refine (NA _).mono ?_; rintro e w1 ⟨rfl, hb1⟩)
    | (go_at_call 51; with_reducible refine (NB _).mono ?_; rintro e w2 ⟨rfl, hb2⟩))
  go_ret
  exact ⟨ret_str HR.out.symm, hb1.trans (hb2.mono hb1.size)⟩

def col : ByteArray := ⟨#[58]⟩
/-- A day's time. -/
def clockB (h i s : Nat) : ByteArray := two h ++ col ++ two i ++ col ++ two s
theorem clock_size (h i s : Nat) (h1 : h < 100) (h2 : i < 100) (h3 : s < 100) : (clockB h i s).size ≤ 8 := by
  have a := two_size h h1
  have b := two_size i h2
  have c := two_size s h3
  have d : col.size = 1 := rfl
  unfold clockB
  simp only [ByteArray.size_append]
  omega

theorem keep_first (W : World) : Below W.heap.size W W.drew := ⟨rfl, rfl, rfl, Nat.le_refl _, fun _ _ => rfl⟩
theorem keep_next {W w0 w1 : World} (h : Below W.heap.size W w0) (hb : Below w0.heap.size w0 w1) : Below W.heap.size W w1 := h.trans (hb.mono h.size)
theorem keep_cell {W w0 w1 : World} {n i : Nat} {v : Option Value} (hn : n < W.heap.size) (h : Below W.heap.size W w0) (hb : Below w0.heap.size w0 w1) (hc : w0.cell? ⟨n, i, none⟩ = v) : w1.cell? ⟨n, i, none⟩ = v :=
  (hb.cell (p := ⟨n, i, none⟩) (Nat.lt_of_lt_of_le hn h.size)).trans hc

theorem and7 {a b c d e f g : Prop} (h : a ∧ b ∧ c ∧ d ∧ e ∧ f ∧ g) : g := h.2.2.2.2.2.2
theorem keep6 {W w0 w1 : World} {n : Nat} {u0 u1 u2 u3 u4 u5 : Option Value} (hn : n < W.heap.size) (h : w0.cell? ⟨n, 0, none⟩ = u0 ∧ w0.cell? ⟨n, 1, none⟩ = u1 ∧ w0.cell? ⟨n, 2, none⟩ = u2 ∧ w0.cell? ⟨n, 3, none⟩ = u3 ∧ w0.cell? ⟨n, 4, none⟩ = u4 ∧ w0.cell? ⟨n, 5, none⟩ = u5 ∧ Below W.heap.size W w0) (hb : Below w0.heap.size w0 w1) :
    w1.cell? ⟨n, 0, none⟩ = u0 ∧ w1.cell? ⟨n, 1, none⟩ = u1 ∧ w1.cell? ⟨n, 2, none⟩ = u2 ∧ w1.cell? ⟨n, 3, none⟩ = u3 ∧ w1.cell? ⟨n, 4, none⟩ = u4 ∧ w1.cell? ⟨n, 5, none⟩ = u5 ∧ Below W.heap.size W w1 :=
  ⟨keep_cell hn h.2.2.2.2.2.2 hb h.1, keep_cell hn h.2.2.2.2.2.2 hb h.2.1, keep_cell hn h.2.2.2.2.2.2 hb h.2.2.1, keep_cell hn h.2.2.2.2.2.2 hb h.2.2.2.1, keep_cell hn h.2.2.2.2.2.2 hb h.2.2.2.2.1, keep_cell hn h.2.2.2.2.2.2 hb h.2.2.2.2.2.1, keep_next h.2.2.2.2.2.2 hb⟩

set_option maxHeartbeats 1600000 in
theorem implClock_any (y m d : Int) (h i s : Nat) (w : World) (h1 : h < 100) (h2 : i < 100) (h3 : s < 100) (htab : Lib.TabIs Tryd.prog w "internal/strconv.uint64pow10" .u64 Lib.pow10Tab) :
    Calls Tryd.prog 57 #[.agg #[.int .i64 y, .int .i64 m, .int .i64 d, .int .i64 h, .int .i64 i, .int .i64 s]] w fun e w' => e = .returned (.string (clockB h i s)) ∧ Below w.heap.size w w' := by
  obtain ⟨A, hA⟩ : ∃ A, A = two h := ⟨_, rfl⟩
  obtain ⟨B, hB⟩ : ∃ B, B = two i := ⟨_, rfl⟩
  obtain ⟨C, hC⟩ : ∃ C, C = two s := ⟨_, rfl⟩
  have hsA : A.size ≤ 2 := by rw [hA]; exact two_size _ h1
  have hsB : B.size ≤ 2 := by rw [hB]; exact two_size _ h2
  have hsC : C.size ≤ 2 := by rw [hC]; exact two_size _ h3
  have HR : Hid (clockB h i s = A ++ col ++ B ++ col ++ C) := by show _ = _; rw [hA, hB, hC]; rfl
  have NA := fun w t => implTwo_any h w h1 t
  have NB := fun w t => implTwo_any i w h2 t
  have NC := fun w t => implTwo_any s w h3 t
  rw [← hA] at NA
  rw [← hB] at NB
  rw [← hC] at NC
  clear hA hB hC
  have k1 : ¬ 9223372036854775807 < A.size + 1 := by omega
  have k2 : ¬ 9223372036854775807 < A.size + 1 + B.size := by omega
  have k3 : ¬ 9223372036854775807 < A.size + 1 + B.size + 1 := by omega
  have k4 : ¬ 9223372036854775807 < A.size + 1 + B.size + 1 + C.size := by omega
  have t0 := tab_alloc htab (.cells #[.int .i64 y, .int .i64 m, .int .i64 d, .int .i64 h, .int .i64 i, .int .i64 s] 24)
  have l0 := tab_lt t0
  go_enter Tryd.func57, Tryd.ntmps57
  go_wp2_with fail
  obtain ⟨W, hW⟩ : ∃ W, W = w.alloc (.cells #[.int .i64 y, .int .i64 m, .int .i64 d, .int .i64 h, .int .i64 i, .int .i64 s] 24) := ⟨_, rfl⟩
  have hn : w.heap.size < W.heap.size := by rw [hW]; simp
  have c0 : W.cell? ⟨w.heap.size, 0, none⟩ = some (.int .i64 y) := by rw [hW, World.cell?_alloc_mark]; rfl
  have c1 : W.cell? ⟨w.heap.size, 1, none⟩ = some (.int .i64 m) := by rw [hW, World.cell?_alloc_mark]; rfl
  have c2 : W.cell? ⟨w.heap.size, 2, none⟩ = some (.int .i64 d) := by rw [hW, World.cell?_alloc_mark]; rfl
  have c3 : W.cell? ⟨w.heap.size, 3, none⟩ = some (.int .i64 h) := by rw [hW, World.cell?_alloc_mark]; rfl
  have c4 : W.cell? ⟨w.heap.size, 4, none⟩ = some (.int .i64 i) := by rw [hW, World.cell?_alloc_mark]; rfl
  have c5 : W.cell? ⟨w.heap.size, 5, none⟩ = some (.int .i64 s) := by rw [hW, World.cell?_alloc_mark]; rfl
  have hfin : Below w.heap.size w W := by rw [hW]; exact (Below.refl _ _).alloc (Nat.le_refl _) _
  rw [← hW] at t0 l0 ⊢
  clear hW
  go_region_held (fun w' => w'.cell? ⟨w.heap.size, 0, none⟩ = some (.int .i64 y) ∧ w'.cell? ⟨w.heap.size, 1, none⟩ = some (.int .i64 m) ∧ w'.cell? ⟨w.heap.size, 2, none⟩ = some (.int .i64 d) ∧ w'.cell? ⟨w.heap.size, 3, none⟩ = some (.int .i64 h) ∧ w'.cell? ⟨w.heap.size, 4, none⟩ = some (.int .i64 i) ∧ w'.cell? ⟨w.heap.size, 5, none⟩ = some (.int .i64 s) ∧ Below W.heap.size W w')
    (first
      | exact ⟨c0, c1, c2, c3, c4, c5, keep_first W⟩
      | assumption
      | exact keep6 hn (by assumption) (by assumption))
    (first
      | (go_at_call 54; with_reducible refine (NA _ (tab_below t0 (and7 (by assumption)) l0)).mono ?_; rintro e w1 ⟨rfl, hb1⟩)
      | (go_at_call 54; with_reducible refine (NB _ (tab_below t0 (and7 (by assumption)) l0)).mono ?_; rintro e w2 ⟨rfl, hb2⟩)
      | (go_at_call 54; with_reducible refine (NC _ (tab_below t0 (and7 (by assumption)) l0)).mono ?_; rintro e w3 ⟨rfl, hb3⟩))
  all_goals
    go_wp2
    go_ret
    exact ⟨ret_str HR.out.symm, hfin.trans (Below.mono (and7 (by assumption) : Below W.heap.size W _) hfin.size)⟩

set_option maxHeartbeats 1600000 in
theorem specClock_any (y m d : Int) (h i s : Nat) (w : World) (h1 : h < 100) (h2 : i < 100) (h3 : s < 100) :
    Calls Tryd.prog 52 #[.agg #[.int .i64 y, .int .i64 m, .int .i64 d, .int .i64 h, .int .i64 i, .int .i64 s]] w fun e w' => e = .returned (.string (clockB h i s)) ∧ Below w.heap.size w w' := by
  obtain ⟨A, hA⟩ : ∃ A, A = two h := ⟨_, rfl⟩
  obtain ⟨B, hB⟩ : ∃ B, B = two i := ⟨_, rfl⟩
  obtain ⟨C, hC⟩ : ∃ C, C = two s := ⟨_, rfl⟩
  have hsA : A.size ≤ 2 := by rw [hA]; exact two_size _ h1
  have hsB : B.size ≤ 2 := by rw [hB]; exact two_size _ h2
  have hsC : C.size ≤ 2 := by rw [hC]; exact two_size _ h3
  have HR : Hid (clockB h i s = A ++ col ++ B ++ col ++ C) := by show _ = _; rw [hA, hB, hC]; rfl
  have NA := fun w => specTwo_any h w h1
  have NB := fun w => specTwo_any i w h2
  have NC := fun w => specTwo_any s w h3
  rw [← hA] at NA
  rw [← hB] at NB
  rw [← hC] at NC
  clear hA hB hC
  have k1 : ¬ 9223372036854775807 < A.size + 1 := by omega
  have k2 : ¬ 9223372036854775807 < A.size + 1 + B.size := by omega
  have k3 : ¬ 9223372036854775807 < A.size + 1 + B.size + 1 := by omega
  have k4 : ¬ 9223372036854775807 < A.size + 1 + B.size + 1 + C.size := by omega
  go_enter Tryd.func52, Tryd.ntmps52
  go_wp2_with fail
  obtain ⟨W, hW⟩ : ∃ W, W = w.alloc (.cells #[.int .i64 y, .int .i64 m, .int .i64 d, .int .i64 h, .int .i64 i, .int .i64 s] 24) := ⟨_, rfl⟩
  have hn : w.heap.size < W.heap.size := by rw [hW]; simp
  have c0 : W.cell? ⟨w.heap.size, 0, none⟩ = some (.int .i64 y) := by rw [hW, World.cell?_alloc_mark]; rfl
  have c1 : W.cell? ⟨w.heap.size, 1, none⟩ = some (.int .i64 m) := by rw [hW, World.cell?_alloc_mark]; rfl
  have c2 : W.cell? ⟨w.heap.size, 2, none⟩ = some (.int .i64 d) := by rw [hW, World.cell?_alloc_mark]; rfl
  have c3 : W.cell? ⟨w.heap.size, 3, none⟩ = some (.int .i64 h) := by rw [hW, World.cell?_alloc_mark]; rfl
  have c4 : W.cell? ⟨w.heap.size, 4, none⟩ = some (.int .i64 i) := by rw [hW, World.cell?_alloc_mark]; rfl
  have c5 : W.cell? ⟨w.heap.size, 5, none⟩ = some (.int .i64 s) := by rw [hW, World.cell?_alloc_mark]; rfl
  have hfin : Below w.heap.size w W := by rw [hW]; exact (Below.refl _ _).alloc (Nat.le_refl _) _
  rw [← hW]
  clear hW
  go_region_held (fun w' => w'.cell? ⟨w.heap.size, 0, none⟩ = some (.int .i64 y) ∧ w'.cell? ⟨w.heap.size, 1, none⟩ = some (.int .i64 m) ∧ w'.cell? ⟨w.heap.size, 2, none⟩ = some (.int .i64 d) ∧ w'.cell? ⟨w.heap.size, 3, none⟩ = some (.int .i64 h) ∧ w'.cell? ⟨w.heap.size, 4, none⟩ = some (.int .i64 i) ∧ w'.cell? ⟨w.heap.size, 5, none⟩ = some (.int .i64 s) ∧ Below W.heap.size W w')
    (first
      | exact ⟨c0, c1, c2, c3, c4, c5, keep_first W⟩
      | assumption
      | exact keep6 hn (by assumption) (by assumption))
    (first
      | (go_at_call 50; with_reducible refine (NA _).mono ?_; rintro e w1 ⟨rfl, hb1⟩)
      | (go_at_call 50; with_reducible refine (NB _).mono ?_; rintro e w2 ⟨rfl, hb2⟩)
      | (go_at_call 50; with_reducible refine (NC _).mono ?_; rintro e w3 ⟨rfl, hb3⟩))
  all_goals
    go_wp2
    go_ret
    exact ⟨ret_str HR.out.symm, hfin.trans (Below.mono (and7 (by assumption) : Below W.heap.size W _) hfin.size)⟩

end Go.Proofs.YtnjpagejeiiphaaDoor.Num
