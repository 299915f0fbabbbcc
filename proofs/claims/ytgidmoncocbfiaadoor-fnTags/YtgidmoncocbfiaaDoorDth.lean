/-
  Walk: spec.DrawStrongSame.
-/
import Derived.Test.YtgidmoncocbfiaaDoorDtg
namespace Go.Proofs.YtgidmoncocbfiaaDoor.Cur
open Go.RowKit

set_option maxRecDepth 20000 in
set_option maxHeartbeats 1600000 in
theorem drawTags_any (v : Value) (n : Nat) (w : World) (hA : CodeArg w v n) (hn : n ≤ 2000000) :
    Calls Tryd.prog 5 #[v] w fun e w' => ∃ (k1 : Bool) (T1 : ByteArray) (k2 : Bool) (T2 : ByteArray), e = .returned (.tuple #[.agg #[.bool k1, .string T1], .agg #[.bool k2, .string T2]]) ∧ (T1.size ≤ 3 ∧ T2.size ≤ 3) ∧ Below w.heap.size w w' := by
  obtain ⟨o, cap, rfl⟩ := hA.form
  obtain ⟨W1, hW1⟩ : ∃ W, W = (w.alloc (.cells #[.bool false, .string ⟨#[]⟩] 24)).alloc (.cells #[.bool false, .string ⟨#[]⟩] 24) := ⟨_, rfl⟩
  have hs1 : W1.heap.size = w.heap.size + 2 := by rw [hW1]; simp
  have hb1 : Below w.heap.size w W1 := by rw [hW1]; exact ((Below.refl _ _).alloc (Nat.le_refl _) _).alloc (by simp) _
  have hA1 : CodeArg W1 (.slice o n cap) n := hA.below (Nat.le_refl _) hb1
  have a0 : W1.cell? ⟨w.heap.size, 0, none⟩ = some (.bool false) := by rw [hW1]; simp [go_sem]
  have a1 : W1.cell? ⟨w.heap.size, 1, none⟩ = some (.string ⟨#[]⟩) := by rw [hW1]; simp [go_sem]
  have af : ∀ i, W1.frozen? ⟨w.heap.size, i, none⟩ = false := by intro i; rw [hW1]; simp [go_sem]
  have b0 : W1.cell? ⟨w.heap.size + 1, 0, none⟩ = some (.bool false) := by rw [hW1]; simp [go_sem]
  have b1 : W1.cell? ⟨w.heap.size + 1, 1, none⟩ = some (.string ⟨#[]⟩) := by rw [hW1]; simp [go_sem]
  have bf : ∀ i, W1.frozen? ⟨w.heap.size + 1, i, none⟩ = false := by intro i; rw [hW1]; simp [go_sem]
  obtain ⟨W, hW⟩ : ∃ W, W = W1.alloc (.cells #[.slice o n cap, .int .i64 0, .int .u64 0] 43) := ⟨_, rfl⟩
  have HC0 : Hid (Cursor W (w.heap.size + 2) (.slice o n cap) n 0) := by show Cursor _ _ _ _ _; rw [hW, ← hs1]; exact start hA1 hn _
  have HB0 : Hid (Below w.heap.size w W) := by rw [hW]; exact hb1.alloc hb1.size _
  have hs : W.heap.size = w.heap.size + 3 := by rw [hW]; simp [hs1]
  have x0 : W.cell? ⟨w.heap.size, 0, none⟩ = some (.bool false) := by rw [hW, World.cell?_alloc_past _ _ _ (by omega)]; exact a0
  have x1 : W.cell? ⟨w.heap.size, 1, none⟩ = some (.string ⟨#[]⟩) := by rw [hW, World.cell?_alloc_past _ _ _ (by omega)]; exact a1
  have xf : ∀ i, W.frozen? ⟨w.heap.size, i, none⟩ = false := by intro i; rw [hW, World.frozen?_alloc_past _ _ _ (by omega)]; exact af i
  have y0 : W.cell? ⟨w.heap.size + 1, 0, none⟩ = some (.bool false) := by rw [hW, World.cell?_alloc_past _ _ _ (by omega)]; exact b0
  have y1 : W.cell? ⟨w.heap.size + 1, 1, none⟩ = some (.string ⟨#[]⟩) := by rw [hW, World.cell?_alloc_past _ _ _ (by omega)]; exact b1
  have yf : ∀ i, W.frozen? ⟨w.heap.size + 1, i, none⟩ = false := by intro i; rw [hW, World.frozen?_alloc_past _ _ _ (by omega)]; exact bf i
  clear hA hA1 hb1 a0 a1 af b0 b1 bf
  go_enter Tryd.func5, Tryd.ntmps5
  go_wp2_with fail
  rw [← hW1, ← hW]
  clear hW1 hW hs1
  refine (tag_any _ _ n 0 _ HC0.out (by omega)).mono ?_
  rintro e w1 ⟨k1, T1, rfl, hz1, hC1, hb1⟩
  have HC1 : Hid (Cursor w1 (w.heap.size + 2) (.slice o n cap) n (0 + 10)) := hC1
  have HB1 : Hid (Below w.heap.size w w1) := HB0.out.trans (hb1.below (by omega) (by omega))
  obtain ⟨ec, ef, p1, _⟩ := but_cells (B := 0) hb1 (b := w.heap.size) (by omega) (by omega)
  obtain ⟨dc, df, p2, _⟩ := but_cells (B := 0) hb1 (b := w.heap.size + 1) (by omega) (by omega)
  have a0 := (ec 0).trans x0
  have a1 := (ec 1).trans x1
  have af := fun i => (ef i).trans (xf i)
  have b0 := (dc 0).trans y0
  have b1 := (dc 1).trans y1
  have bf := fun i => (df i).trans (yf i)
  clear hC1 hb1 HC0 HB0 ec ef dc df x0 x1 xf y0 y1 yf p1 hs
  go_wp2_with fail
  refine (tag_any _ _ n _ _ HC1.out (by omega)).mono ?_
  rintro e w2 ⟨k2, T2, rfl, hz2, hC2, hb2⟩
  have HB2 : Hid (Below w.heap.size w w2) := HB1.out.trans (hb2.below (by omega) (by omega))
  obtain ⟨ec, ef, p3, _⟩ := but_cells (B := 0) hb2 (b := w.heap.size) (by omega) (by omega)
  obtain ⟨dc, df, p4, _⟩ := but_cells (B := 0) hb2 (b := w.heap.size + 1) (by omega) (by omega)
  have x0 := (ec 0).trans a0
  have x1 := (ec 1).trans a1
  have xf := fun i => (ef i).trans (af i)
  have y0 := (dc 0).trans b0
  have y1 := (dc 1).trans b1
  have yf := fun i => (df i).trans (bf i)
  clear hC2 hb2 HC1 HB1 ec ef dc df a0 a1 af b0 b1 bf p2
  go_wp2_with fail
  have HF : Below w.heap.size w ((((w2.setCell ⟨w.heap.size, 0, none⟩ (.bool k1)).setCell ⟨w.heap.size, 1, none⟩ (.string T1)).setCell ⟨w.heap.size + 1, 0, none⟩ (.bool k2)).setCell ⟨w.heap.size + 1, 1, none⟩ (.string T2)) :=
    (((HB2.out.setCell (p := ⟨w.heap.size, 0, none⟩) (Nat.le_refl _) _).setCell (p := ⟨w.heap.size, 1, none⟩) (Nat.le_refl _) _).setCell (p := ⟨w.heap.size + 1, 0, none⟩) (Nat.le_succ _) _).setCell (p := ⟨w.heap.size + 1, 1, none⟩) (Nat.le_succ _) _
  exact bodyPost_ret (v := .tuple #[.agg #[.bool k1, .string T1], .agg #[.bool k2, .string T2]]) (by simp [results, Tryd.results5, go_sem, x0, x1, y0, y1]) rfl ⟨_, _, _, _, rfl, ⟨hz1, hz2⟩, HF⟩

end Go.Proofs.YtgidmoncocbfiaaDoor.Cur
