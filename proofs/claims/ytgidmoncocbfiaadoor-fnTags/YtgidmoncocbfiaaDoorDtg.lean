/-
  Walks: draws: (*l1Cur).tag; spec.DrawStrongSame.
-/
import Derived.Test.YtgidmoncocbfiaaDoorDfc
namespace Go.Proofs.YtgidmoncocbfiaaDoor.Cur
open Go.RowKit
open Go.Proofs.YtgidmoncocbfiaaDoor.Own

theorem but_cells {cb B : Nat} {w0 w1 : World} (hb : But cb w0 w1) {b : Nat} (h : b < w0.heap.size) (hc : b ≠ cb) : (∀ o, w1.cell? ⟨b, o, none⟩ = w0.cell? ⟨b, o, none⟩) ∧ (∀ o, w1.frozen? ⟨b, o, none⟩ = w0.frozen? ⟨b, o, none⟩) ∧ b < w1.heap.size ∧ B = B :=
  ⟨fun o => (bcells hb).1 b o h hc, fun o => (bcells hb).2 b o h hc, Nat.lt_of_lt_of_le h hb.2.2.2.1, rfl⟩

set_option maxRecDepth 20000 in
set_option maxHeartbeats 3200000 in
theorem tag_any (cb : Nat) (v : Value) (n N : Nat) (w : World) (hC : Cursor w cb v n N) (hN : N ≤ 800000000) :
    Calls Tryd.prog 17 #[.pointer (some ⟨cb, 0, none⟩)] w fun e w' => ∃ (k : Bool) (T : ByteArray), e = .returned (.agg #[.bool k, .string T]) ∧ T.size ≤ 3 ∧ Cursor w' cb v n (N + 10) ∧ But cb w w' := by
  have hcb : cb < w.heap.size := hC.2.2.1
  obtain ⟨W, hW⟩ : ∃ W, W = w.alloc (.cells #[.bool false, .string ⟨#[]⟩] 24) := ⟨_, rfl⟩
  have hs : w.heap.size < W.heap.size := by rw [hW]; simp
  have HB0 : Hid (ButB w.heap.size cb w W) := by show ButB _ _ _ _; rw [hW]; exact (ButB.refl _ _ _).alloc (Nat.le_refl _) _
  have HC0 : Hid (Cursor W cb v n N) := by show Cursor _ _ _ _ _; rw [hW]; exact Cursor.below hC ((Below.refl _ _).alloc (Nat.le_refl _) _)
  have r0 : W.cell? ⟨w.heap.size, 0, none⟩ = some (.bool false) := by rw [hW]; simp [go_sem]
  have r1 : W.cell? ⟨w.heap.size, 1, none⟩ = some (.string ⟨#[]⟩) := by rw [hW]; simp [go_sem]
  have rf : ∀ i, W.frozen? ⟨w.heap.size, i, none⟩ = false := by intro i; rw [hW]; simp [go_sem]
  clear hC
  go_enter Tryd.func17, Tryd.ntmps17
  go_wp2_with fail
  rw [← hW]
  clear hW
  refine (one_any cb v n _ 3 _ HC0.out (by omega) (by omega) (by omega)).mono ?_
  rintro e w1 ⟨k, rfl, hC1, hb1⟩
  have HC1 : Hid (Cursor w1 cb v n (N + 2)) := hC1
  have HB1 : Hid (ButB w.heap.size cb w w1) := ButB.call HB0.out (Nat.le_refl _) hb1
  obtain ⟨ec, ef, hs1, _⟩ := but_cells (B := 0) hb1 hs (by omega)
  have q0 := (ec 0).trans r0
  have q1 := (ec 1).trans r1
  have qf := fun i => (ef i).trans (rf i)
  clear hC1 hb1 HC0 HB0 ec ef r0 r1 rf hs
  go_wp2_with fail
  refine (of_new2 (fun x => x.size ≤ 3) [⟨#[97]⟩, ⟨#[98]⟩, ⟨#[]⟩, ⟨#[120, 45, 49]⟩] (by decide) 4 rfl (by omega) (by omega) cb v n _ w1 HC1.out (by omega)).mono ?_
  rintro e w2 ⟨x, rfl, hx, hC2, hb2⟩
  have HC2 : Hid (Cursor w2 cb v n (N + 2 + 2)) := hC2
  have HB2 : Hid (ButB w.heap.size cb w w2) := ButB.call HB1.out (Nat.le_refl _) hb2
  obtain ⟨ec, ef, hs2, _⟩ := but_cells (B := 0) hb2 hs1 (by omega)
  have r0 := (ec 0).trans q0
  have r1 := (ec 1).trans q1
  have rf := fun i => (ef i).trans (qf i)
  clear hC2 hb2 HC1 HB1 ec ef q0 q1 qf hs1
  obtain ⟨W3, hW3⟩ : ∃ W, W = w2.alloc (.cells #[.bool k, .string x] 24) := ⟨_, rfl⟩
  obtain ⟨T3, hT3⟩ : ∃ T, T = w2.heap.size := ⟨_, rfl⟩
  have hTs : T3 < W3.heap.size := by rw [hW3, hT3]; simp
  have hRT : w.heap.size < T3 := by omega
  have HB3 : Hid (ButB w.heap.size cb w W3) := by show ButB _ _ _ _; rw [hW3]; exact ButB.alloc HB2.out (Nat.le_refl _) _
  have HC3 : Hid (Cursor W3 cb v n (N + 2 + 2)) := by show Cursor _ _ _ _ _; rw [hW3]; exact Cursor.below HC2.out ((Below.refl _ _).alloc (Nat.le_refl _) _)
  have q0 : W3.cell? ⟨w.heap.size, 0, none⟩ = some (.bool false) := by rw [hW3, World.cell?_alloc_past _ _ _ hs2]; exact r0
  have q1 : W3.cell? ⟨w.heap.size, 1, none⟩ = some (.string ⟨#[]⟩) := by rw [hW3, World.cell?_alloc_past _ _ _ hs2]; exact r1
  have qf : ∀ i, W3.frozen? ⟨w.heap.size, i, none⟩ = false := by intro i; rw [hW3, World.frozen?_alloc_past _ _ _ hs2]; exact rf i
  have t0 : W3.cell? ⟨T3, 0, none⟩ = some (.bool k) := by rw [hW3, hT3]; simp [go_sem]
  have t1 : W3.cell? ⟨T3, 1, none⟩ = some (.string x) := by rw [hW3, hT3]; simp [go_sem]
  have tf : ∀ i, W3.frozen? ⟨T3, i, none⟩ = false := by intro i; rw [hW3, hT3]; simp [go_sem]
  clear HC2 HB2 r0 r1 rf
  go_wp2_with fail
  rw [← hW3, ← hT3]
  clear hW3 hT3 hs2
  refine (one_any cb v n _ 40 _ HC3.out (by omega) (by omega) (by omega)).mono ?_
  rintro e w4 ⟨d, rfl, hC4, hb4⟩
  have HC4 : Hid (Cursor w4 cb v n (N + 2 + 2 + 2)) := hC4
  have HB4 : Hid (ButB w.heap.size cb w w4) := ButB.call HB3.out (Nat.le_refl _) hb4
  obtain ⟨ec, ef, hs4, _⟩ := but_cells (B := 0) hb4 (b := w.heap.size) (by omega) (by omega)
  obtain ⟨dc, df, hT4, _⟩ := but_cells (B := 0) hb4 (b := T3) hTs (by omega)
  have r0 := (ec 0).trans q0
  have r1 := (ec 1).trans q1
  have rf := fun i => (ef i).trans (qf i)
  have s0 := (dc 0).trans t0
  have s1 := (dc 1).trans t1
  have sf := fun i => (df i).trans (tf i)
  clear hC4 hb4 HC3 HB3 ec ef dc df q0 q1 qf t0 t1 tf hTs
  cases d
  · have HF : Hid (∀ u0 u1, Cursor ((w4.setCell ⟨w.heap.size, 0, none⟩ u0).setCell ⟨w.heap.size, 1, none⟩ u1) cb v n (N + 10) ∧ But cb w ((w4.setCell ⟨w.heap.size, 0, none⟩ u0).setCell ⟨w.heap.size, 1, none⟩ u1)) :=
      fun u0 u1 => ⟨((Cursor.mono HC4.out (by omega)).set hcb u0).set hcb u1, ((ButB.set HB4.out (p := ⟨w.heap.size, 0, none⟩) (.inl (Nat.le_refl _)) u0).set (p := ⟨w.heap.size, 1, none⟩) (.inl (Nat.le_refl _)) u1).out⟩
    clear HC4 HB4
    go_wp2_with fail
    exact bodyPost_ret (v := .agg #[.bool k, .string x]) (by simp [results, Tryd.results17, go_sem, r0, r1]) rfl ⟨k, x, rfl, hx, HF.out _ _⟩
  · go_wp2_with fail
    refine (of_new2 (fun x => x.size ≤ 3) [⟨#[34]⟩, ⟨#[97, 32, 98]⟩] (by decide) 2 rfl (by omega) (by omega) cb v n _ w4 HC4.out (by omega)).mono ?_
    rintro e w5 ⟨y, rfl, hy, hC5, hb5⟩
    obtain ⟨ec, ef, hs5, _⟩ := but_cells (B := 0) hb5 (b := w.heap.size) (by omega) (by omega)
    obtain ⟨dc, df, hT5, _⟩ := but_cells (B := 0) hb5 (b := T3) hT4 (by omega)
    have q0 := (ec 0).trans r0
    have q1 := (ec 1).trans r1
    have qf := fun i => (ef i).trans (rf i)
    have t0 := (dc 0).trans s0
    have t1 := (dc 1).trans s1
    have tf := fun i => (df i).trans (sf i)
    have HB5 : ButB w.heap.size cb w w5 := ButB.call HB4.out (Nat.le_refl _) hb5
    have HF : Hid (∀ u u0 u1, Cursor (((w5.setCell ⟨T3, 1, none⟩ u).setCell ⟨w.heap.size, 0, none⟩ u0).setCell ⟨w.heap.size, 1, none⟩ u1) cb v n (N + 10) ∧ But cb w (((w5.setCell ⟨T3, 1, none⟩ u).setCell ⟨w.heap.size, 0, none⟩ u0).setCell ⟨w.heap.size, 1, none⟩ u1)) :=
      fun u u0 u1 => ⟨(((Cursor.mono hC5 (by omega)).set (by omega) u).set hcb u0).set hcb u1, (((HB5.set (p := ⟨T3, 1, none⟩) (.inl (by show w.heap.size ≤ T3; omega)) u).set (p := ⟨w.heap.size, 0, none⟩) (.inl (Nat.le_refl _)) u0).set (p := ⟨w.heap.size, 1, none⟩) (.inl (Nat.le_refl _)) u1).out⟩
    clear HC4 HB4 hC5 hb5 HB5 ec ef dc df r0 r1 rf s0 s1 sf
    go_wp2_with fail
    exact bodyPost_ret (v := .agg #[.bool k, .string y]) (by simp [results, Tryd.results17, go_sem, q0, q1]) rfl ⟨k, y, rfl, hy, HF.out _ _ _⟩

end Go.Proofs.YtgidmoncocbfiaaDoor.Cur
