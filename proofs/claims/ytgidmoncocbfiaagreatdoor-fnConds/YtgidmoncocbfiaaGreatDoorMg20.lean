/-
  Walks: draws: (*l1Cur).of with what all its texts have, spoilt.
  Walks: draws: (*l1Cur).tag; spec.DrawStrongSame.
  Walk: draws: (*l1Cur).tag, of texts with no comma.
  Pure: drawn texts of conditions are short, as dates go.
-/
import Derived.Test.YtgidmoncocbfiaaGreatDoorMg19
import Derived.Test.YtgidmoncocbfiaaGreatDoorMg1
import Derived.Test.YtgidmoncocbfiaaGreatDoorTga
import Derived.Test.YtgidmoncocbfiaaGreatDoorMg13
namespace Go.Proofs.YtgidmoncocbfiaaGreatDoor.Cur
open Go.RowKit
open Go.Proofs.YtgidmoncocbfiaaGreatDoor.Own

set_option maxHeartbeats 800000 in
theorem of_pr (Pr : ByteArray → Prop) (cb b m : Nat) (v : Value) (n N : Nat) (w : World) (hC : Cursor w cb v n N) (hN : N ≤ 900000000) (h1 : 1 ≤ m) (h2 : m ≤ 1000) (hb : b < w.heap.size) (hbc : b ≠ cb) (hcell : ∀ i, i < m → ∃ x : ByteArray, Pr x ∧ w.cell? ⟨b, i, none⟩ = some (.string x)) :
    Calls Tryz.prog 18 #[.pointer (some ⟨cb, 0, none⟩), .slice (some ⟨b, 0, none⟩) m m] w fun e w' => ∃ x : ByteArray, e = .returned (.string x) ∧ Pr x ∧ Cursor w' cb v n (N + 2) ∧ But cb w w' := by
  have HC : Hid _ := hC
  have HL : Hid _ := hcell
  clear hC hcell
  go_enter Tryz.func18, Tryz.ntmps18
  go_wp2_with fail
  refine (pick_any cb v n N m _ HC.out hN h1 (by omega)).mono ?_
  rintro e w1 ⟨x, rfl, hx, hC1, hb1⟩
  obtain ⟨z, hM, hz⟩ := HL.out x hx
  have hz1 := ((bcells hb1).1 b x hb hbc).trans hz
  have HC1 : Hid _ := hC1
  have Hb1 : Hid _ := hb1
  clear hC1 hb1
  go_wp2_with fail
  go_ret
  exact ⟨z, rfl, hM, HC1.out, Hb1.out⟩
theorem texts_pr (Pr : ByteArray → Prop) (w : World) (xs : List ByteArray) (hM : ∀ x ∈ xs, Pr x) (t : TypeId) (b : Nat) (hb : b = w.heap.size) : ∀ i, i < xs.length → ∃ x : ByteArray, Pr x ∧ (w.alloc (.cells (xs.map Value.string).toArray t)).cell? ⟨b, i, none⟩ = some (.string x) := by
  subst hb
  intro i hi
  exact ⟨xs[i], hM _ (List.getElem_mem hi), by rw [World.cell?_alloc_mark]; simp [hi]⟩

/-- One of some texts that are made ahead of the call. -/
theorem of_new (Pr : ByteArray → Prop) (xs : List ByteArray) (hx : ∀ x ∈ xs, Pr x) (m : Nat) (hm : m = xs.length) (h1 : 1 ≤ m) (h2 : m ≤ 1000) (cb : Nat) (v : Value) (n N : Nat) (w0 w : World) (hC : Cursor w cb v n N) (hB : But cb w0 w) (hN : N ≤ 900000000) :
    Calls Tryz.prog 18 #[.pointer (some ⟨cb, 0, none⟩), .slice (some ⟨w.heap.size, 0, none⟩) m m] (w.alloc (.cells (xs.map Value.string).toArray 9)) fun e w' => ∃ x : ByteArray, e = .returned (.string x) ∧ Pr x ∧ Cursor w' cb v n (N + 2) ∧ But cb w0 w' := by
  subst hm
  have hcb : cb < w.heap.size := hC.2.2.1
  have hb1 := (Below.refl w.heap.size w).alloc (Nat.le_refl _) (.cells (xs.map Value.string).toArray 9)
  refine (of_pr Pr cb _ xs.length v n N _ (Cursor.below hC hb1) hN h1 h2 (by simp) (by omega) (texts_pr Pr w xs hx _ _ rfl)).mono ?_
  rintro e w' ⟨x, rfl, hx, hC', hb'⟩
  refine ⟨x, rfl, hx, hC', But.trans (But.then hB ?_) hb'⟩
  exact (Below.refl w0.heap.size w).alloc hB.2.2.2.1 _

theorem of_new2 (Pr : ByteArray → Prop) (xs : List ByteArray) (hx : ∀ x ∈ xs, Pr x) (m : Nat) (hm : m = xs.length) (h1 : 1 ≤ m) (h2 : m ≤ 1000) (cb : Nat) (v : Value) (n N : Nat) (w : World) (hC : Cursor w cb v n N) (hN : N ≤ 900000000) :
    Calls Tryz.prog 18 #[.pointer (some ⟨cb, 0, none⟩), .slice (some ⟨w.heap.size, 0, none⟩) m m] (w.alloc (.cells (xs.map Value.string).toArray 9)) fun e w' => ∃ x : ByteArray, e = .returned (.string x) ∧ Pr x ∧ Cursor w' cb v n (N + 2) ∧ But cb w w' :=
  of_new Pr xs hx m hm h1 h2 cb v n N w w hC (But.refl cb w) hN

end Go.Proofs.YtgidmoncocbfiaaGreatDoor.Cur

namespace Go.Proofs.YtgidmoncocbfiaaGreatDoor.Cur
open Go.RowKit
open Go.Proofs.YtgidmoncocbfiaaGreatDoor.Own

theorem but_cells {cb B : Nat} {w0 w1 : World} (hb : But cb w0 w1) {b : Nat} (h : b < w0.heap.size) (hc : b ≠ cb) : (∀ o, w1.cell? ⟨b, o, none⟩ = w0.cell? ⟨b, o, none⟩) ∧ (∀ o, w1.frozen? ⟨b, o, none⟩ = w0.frozen? ⟨b, o, none⟩) ∧ b < w1.heap.size ∧ B = B :=
  ⟨fun o => (bcells hb).1 b o h hc, fun o => (bcells hb).2 b o h hc, Nat.lt_of_lt_of_le h hb.2.2.2.1, rfl⟩

set_option maxRecDepth 20000 in
set_option maxHeartbeats 3200000 in
theorem tag_any (cb : Nat) (v : Value) (n N : Nat) (w : World) (hC : Cursor w cb v n N) (hN : N ≤ 800000000) :
    Calls Tryz.prog 44 #[.pointer (some ⟨cb, 0, none⟩)] w fun e w' => ∃ (k : Bool) (T : ByteArray), e = .returned (.agg #[.bool k, .string T]) ∧ T.size ≤ 3 ∧ Cursor w' cb v n (N + 10) ∧ But cb w w' := by
  have hcb : cb < w.heap.size := hC.2.2.1
  obtain ⟨W, hW⟩ : ∃ W, W = w.alloc (.cells #[.bool false, .string ⟨#[]⟩] 25) := ⟨_, rfl⟩
  have hs : w.heap.size < W.heap.size := by rw [hW]; simp
  have HB0 : Hid (ButB w.heap.size cb w W) := by show ButB _ _ _ _; rw [hW]; exact (ButB.refl _ _ _).alloc (Nat.le_refl _) _
  have HC0 : Hid (Cursor W cb v n N) := by show Cursor _ _ _ _ _; rw [hW]; exact Cursor.below hC ((Below.refl _ _).alloc (Nat.le_refl _) _)
  have r0 : W.cell? ⟨w.heap.size, 0, none⟩ = some (.bool false) := by rw [hW]; simp [go_sem]
  have r1 : W.cell? ⟨w.heap.size, 1, none⟩ = some (.string ⟨#[]⟩) := by rw [hW]; simp [go_sem]
  have rf : ∀ i, W.frozen? ⟨w.heap.size, i, none⟩ = false := by intro i; rw [hW]; simp [go_sem]
  clear hC
  go_enter Tryz.func44, Tryz.ntmps44
  go_wp2_with fail
  rw [← hW]
  clear hW
  refine (one_any cb v n _ 3 _ HC0.out (by omega) (by omega) (by omega)).mono ?_
  rintro e w1 ⟨k, rfl, hC1, hb1⟩
  have HC1 : Hid (Cursor w1 cb v n (N + 2)) := hC1
  have HB1 : Hid (ButB w.heap.size cb w w1) := ButB.call HB0.out (Nat.le_refl _) hb1
  obtain ⟨ec, ef, hs1, _⟩ := but_cells (B := 0) hb1 hs (by omega)
  have q0 := (ec 0).trans r0
  have q1 := (ec 1).trans r1
  have qf := fun i => (ef i).trans (rf i)
  clear hC1 hb1 HC0 HB0 ec ef r0 r1 rf hs
  go_wp2_with fail
  refine (of_new2 (fun x => x.size ≤ 3) [⟨#[97]⟩, ⟨#[98]⟩, ⟨#[]⟩, ⟨#[120, 45, 49]⟩] (by decide) 4 rfl (by omega) (by omega) cb v n _ w1 HC1.out (by omega)).mono ?_
  rintro e w2 ⟨x, rfl, hx, hC2, hb2⟩
  have HC2 : Hid (Cursor w2 cb v n (N + 2 + 2)) := hC2
  have HB2 : Hid (ButB w.heap.size cb w w2) := ButB.call HB1.out (Nat.le_refl _) hb2
  obtain ⟨ec, ef, hs2, _⟩ := but_cells (B := 0) hb2 hs1 (by omega)
  have r0 := (ec 0).trans q0
  have r1 := (ec 1).trans q1
  have rf := fun i => (ef i).trans (qf i)
  clear hC2 hb2 HC1 HB1 ec ef q0 q1 qf hs1
  obtain ⟨W3, hW3⟩ : ∃ W, W = w2.alloc (.cells #[.bool k, .string x] 25) := ⟨_, rfl⟩
  obtain ⟨T3, hT3⟩ : ∃ T, T = w2.heap.size := ⟨_, rfl⟩
  have hTs : T3 < W3.heap.size := by rw [hW3, hT3]; simp
  have hRT : w.heap.size < T3 := by omega
  have HB3 : Hid (ButB w.heap.size cb w W3) := by show ButB _ _ _ _; rw [hW3]; exact ButB.alloc HB2.out (Nat.le_refl _) _
  have HC3 : Hid (Cursor W3 cb v n (N + 2 + 2)) := by show Cursor _ _ _ _ _; rw [hW3]; exact Cursor.below HC2.out ((Below.refl _ _).alloc (Nat.le_refl _) _)
  have q0 : W3.cell? ⟨w.heap.size, 0, none⟩ = some (.bool false) := by rw [hW3, World.cell?_alloc_past _ _ _ hs2]; exact r0
  have q1 : W3.cell? ⟨w.heap.size, 1, none⟩ = some (.string ⟨#[]⟩) := by rw [hW3, World.cell?_alloc_past _ _ _ hs2]; exact r1
  have qf : ∀ i, W3.frozen? ⟨w.heap.size, i, none⟩ = false := by intro i; rw [hW3, World.frozen?_alloc_past _ _ _ hs2]; exact rf i
  have t0 : W3.cell? ⟨T3, 0, none⟩ = some (.bool k) := by rw [hW3, hT3]; simp [go_sem]
  have t1 : W3.cell? ⟨T3, 1, none⟩ = some (.string x) := by rw [hW3, hT3]; simp [go_sem]
  have tf : ∀ i, W3.frozen? ⟨T3, i, none⟩ = false := by intro i; rw [hW3, hT3]; simp [go_sem]
  clear HC2 HB2 r0 r1 rf
  go_wp2_with fail
  rw [← hW3, ← hT3]
  clear hW3 hT3 hs2
  refine (one_any cb v n _ 40 _ HC3.out (by omega) (by omega) (by omega)).mono ?_
  rintro e w4 ⟨d, rfl, hC4, hb4⟩
  have HC4 : Hid (Cursor w4 cb v n (N + 2 + 2 + 2)) := hC4
  have HB4 : Hid (ButB w.heap.size cb w w4) := ButB.call HB3.out (Nat.le_refl _) hb4
  obtain ⟨ec, ef, hs4, _⟩ := but_cells (B := 0) hb4 (b := w.heap.size) (by omega) (by omega)
  obtain ⟨dc, df, hT4, _⟩ := but_cells (B := 0) hb4 (b := T3) hTs (by omega)
  have r0 := (ec 0).trans q0
  have r1 := (ec 1).trans q1
  have rf := fun i => (ef i).trans (qf i)
  have s0 := (dc 0).trans t0
  have s1 := (dc 1).trans t1
  have sf := fun i => (df i).trans (tf i)
  clear hC4 hb4 HC3 HB3 ec ef dc df q0 q1 qf t0 t1 tf hTs
  cases d
  · have HF : Hid (∀ u0 u1, Cursor ((w4.setCell ⟨w.heap.size, 0, none⟩ u0).setCell ⟨w.heap.size, 1, none⟩ u1) cb v n (N + 10) ∧ But cb w ((w4.setCell ⟨w.heap.size, 0, none⟩ u0).setCell ⟨w.heap.size, 1, none⟩ u1)) :=
      fun u0 u1 => ⟨((Cursor.mono HC4.out (by omega)).set hcb u0).set hcb u1, ((ButB.set HB4.out (p := ⟨w.heap.size, 0, none⟩) (.inl (Nat.le_refl _)) u0).set (p := ⟨w.heap.size, 1, none⟩) (.inl (Nat.le_refl _)) u1).out⟩
    clear HC4 HB4
    go_wp2_with fail
    exact bodyPost_ret (v := .agg #[.bool k, .string x]) (by simp [results, Tryz.results44, go_sem, r0, r1]) rfl ⟨k, x, rfl, hx, HF.out _ _⟩
  · go_wp2_with fail
    refine (of_new2 (fun x => x.size ≤ 3) [⟨#[34]⟩, ⟨#[97, 32, 98]⟩] (by decide) 2 rfl (by omega) (by omega) cb v n _ w4 HC4.out (by omega)).mono ?_
    rintro e w5 ⟨y, rfl, hy, hC5, hb5⟩
    obtain ⟨ec, ef, hs5, _⟩ := but_cells (B := 0) hb5 (b := w.heap.size) (by omega) (by omega)
    obtain ⟨dc, df, hT5, _⟩ := but_cells (B := 0) hb5 (b := T3) hT4 (by omega)
    have q0 := (ec 0).trans r0
    have q1 := (ec 1).trans r1
    have qf := fun i => (ef i).trans (rf i)
    have t0 := (dc 0).trans s0
    have t1 := (dc 1).trans s1
    have tf := fun i => (df i).trans (sf i)
    have HB5 : ButB w.heap.size cb w w5 := ButB.call HB4.out (Nat.le_refl _) hb5
    have HF : Hid (∀ u u0 u1, Cursor (((w5.setCell ⟨T3, 1, none⟩ u).setCell ⟨w.heap.size, 0, none⟩ u0).setCell ⟨w.heap.size, 1, none⟩ u1) cb v n (N + 10) ∧ But cb w (((w5.setCell ⟨T3, 1, none⟩ u).setCell ⟨w.heap.size, 0, none⟩ u0).setCell ⟨w.heap.size, 1, none⟩ u1)) :=
      fun u u0 u1 => ⟨(((Cursor.mono hC5 (by omega)).set (by omega) u).set hcb u0).set hcb u1, (((HB5.set (p := ⟨T3, 1, none⟩) (.inl (by show w.heap.size ≤ T3; omega)) u).set (p := ⟨w.heap.size, 0, none⟩) (.inl (Nat.le_refl _)) u0).set (p := ⟨w.heap.size, 1, none⟩) (.inl (Nat.le_refl _)) u1).out⟩
    clear HC4 HB4 hC5 hb5 HB5 ec ef dc df r0 r1 rf s0 s1 sf
    go_wp2_with fail
    exact bodyPost_ret (v := .agg #[.bool k, .string y]) (by simp [results, Tryz.results44, go_sem, q0, q1]) rfl ⟨k, y, rfl, hy, HF.out _ _ _⟩

end Go.Proofs.YtgidmoncocbfiaaGreatDoor.Cur

namespace Go.Proofs.YtgidmoncocbfiaaGreatDoor.Cur
open Go.RowKit
open Go.Proofs.YtgidmoncocbfiaaGreatDoor.Own

/-- A short text with no comma. -/
def clean3 (x : ByteArray) : Bool := decide (x.size ≤ 3) && x.data.toList.all (fun c => c != 44)

set_option maxRecDepth 20000 in
set_option maxHeartbeats 3200000 in
theorem tag_clean (cb : Nat) (v : Value) (n N : Nat) (w : World) (hC : Cursor w cb v n N) (hN : N ≤ 800000000) :
    Calls Tryz.prog 44 #[.pointer (some ⟨cb, 0, none⟩)] w fun e w' => ∃ (k : Bool) (T : ByteArray), e = .returned (.agg #[.bool k, .string T]) ∧ clean3 T = true ∧ Cursor w' cb v n (N + 10) ∧ But cb w w' := by
  have hcb : cb < w.heap.size := hC.2.2.1
  obtain ⟨W, hW⟩ : ∃ W, W = w.alloc (.cells #[.bool false, .string ⟨#[]⟩] 25) := ⟨_, rfl⟩
  have hs : w.heap.size < W.heap.size := by rw [hW]; simp
  have HB0 : Hid (ButB w.heap.size cb w W) := by show ButB _ _ _ _; rw [hW]; exact (ButB.refl _ _ _).alloc (Nat.le_refl _) _
  have HC0 : Hid (Cursor W cb v n N) := by show Cursor _ _ _ _ _; rw [hW]; exact Cursor.below hC ((Below.refl _ _).alloc (Nat.le_refl _) _)
  have r0 : W.cell? ⟨w.heap.size, 0, none⟩ = some (.bool false) := by rw [hW]; simp [go_sem]
  have r1 : W.cell? ⟨w.heap.size, 1, none⟩ = some (.string ⟨#[]⟩) := by rw [hW]; simp [go_sem]
  have rf : ∀ i, W.frozen? ⟨w.heap.size, i, none⟩ = false := by intro i; rw [hW]; simp [go_sem]
  clear hC
  go_enter Tryz.func44, Tryz.ntmps44
  go_wp2_with fail
  rw [← hW]
  clear hW
  refine (one_any cb v n _ 3 _ HC0.out (by omega) (by omega) (by omega)).mono ?_
  rintro e w1 ⟨k, rfl, hC1, hb1⟩
  have HC1 : Hid (Cursor w1 cb v n (N + 2)) := hC1
  have HB1 : Hid (ButB w.heap.size cb w w1) := ButB.call HB0.out (Nat.le_refl _) hb1
  obtain ⟨ec, ef, hs1, _⟩ := but_cells (B := 0) hb1 hs (by omega)
  have q0 := (ec 0).trans r0
  have q1 := (ec 1).trans r1
  have qf := fun i => (ef i).trans (rf i)
  clear hC1 hb1 HC0 HB0 ec ef r0 r1 rf hs
  go_wp2_with fail
  refine (of_new2 (fun x => clean3 x = true) [⟨#[97]⟩, ⟨#[98]⟩, ⟨#[]⟩, ⟨#[120, 45, 49]⟩] (by decide) 4 rfl (by omega) (by omega) cb v n _ w1 HC1.out (by omega)).mono ?_
  rintro e w2 ⟨x, rfl, hx, hC2, hb2⟩
  have HC2 : Hid (Cursor w2 cb v n (N + 2 + 2)) := hC2
  have HB2 : Hid (ButB w.heap.size cb w w2) := ButB.call HB1.out (Nat.le_refl _) hb2
  obtain ⟨ec, ef, hs2, _⟩ := but_cells (B := 0) hb2 hs1 (by omega)
  have r0 := (ec 0).trans q0
  have r1 := (ec 1).trans q1
  have rf := fun i => (ef i).trans (qf i)
  clear hC2 hb2 HC1 HB1 ec ef q0 q1 qf hs1
  obtain ⟨W3, hW3⟩ : ∃ W, W = w2.alloc (.cells #[.bool k, .string x] 25) := ⟨_, rfl⟩
  obtain ⟨T3, hT3⟩ : ∃ T, T = w2.heap.size := ⟨_, rfl⟩
  have hTs : T3 < W3.heap.size := by rw [hW3, hT3]; simp
  have hRT : w.heap.size < T3 := by omega
  have HB3 : Hid (ButB w.heap.size cb w W3) := by show ButB _ _ _ _; rw [hW3]; exact ButB.alloc HB2.out (Nat.le_refl _) _
  have HC3 : Hid (Cursor W3 cb v n (N + 2 + 2)) := by show Cursor _ _ _ _ _; rw [hW3]; exact Cursor.below HC2.out ((Below.refl _ _).alloc (Nat.le_refl _) _)
  have q0 : W3.cell? ⟨w.heap.size, 0, none⟩ = some (.bool false) := by rw [hW3, World.cell?_alloc_past _ _ _ hs2]; exact r0
  have q1 : W3.cell? ⟨w.heap.size, 1, none⟩ = some (.string ⟨#[]⟩) := by rw [hW3, World.cell?_alloc_past _ _ _ hs2]; exact r1
  have qf : ∀ i, W3.frozen? ⟨w.heap.size, i, none⟩ = false := by intro i; rw [hW3, World.frozen?_alloc_past _ _ _ hs2]; exact rf i
  have t0 : W3.cell? ⟨T3, 0, none⟩ = some (.bool k) := by rw [hW3, hT3]; simp [go_sem]
  have t1 : W3.cell? ⟨T3, 1, none⟩ = some (.string x) := by rw [hW3, hT3]; simp [go_sem]
  have tf : ∀ i, W3.frozen? ⟨T3, i, none⟩ = false := by intro i; rw [hW3, hT3]; simp [go_sem]
  clear HC2 HB2 r0 r1 rf
  go_wp2_with fail
  rw [← hW3, ← hT3]
  clear hW3 hT3 hs2
  refine (one_any cb v n _ 40 _ HC3.out (by omega) (by omega) (by omega)).mono ?_
  rintro e w4 ⟨d, rfl, hC4, hb4⟩
  have HC4 : Hid (Cursor w4 cb v n (N + 2 + 2 + 2)) := hC4
  have HB4 : Hid (ButB w.heap.size cb w w4) := ButB.call HB3.out (Nat.le_refl _) hb4
  obtain ⟨ec, ef, hs4, _⟩ := but_cells (B := 0) hb4 (b := w.heap.size) (by omega) (by omega)
  obtain ⟨dc, df, hT4, _⟩ := but_cells (B := 0) hb4 (b := T3) hTs (by omega)
  have r0 := (ec 0).trans q0
  have r1 := (ec 1).trans q1
  have rf := fun i => (ef i).trans (qf i)
  have s0 := (dc 0).trans t0
  have s1 := (dc 1).trans t1
  have sf := fun i => (df i).trans (tf i)
  clear hC4 hb4 HC3 HB3 ec ef dc df q0 q1 qf t0 t1 tf hTs
  cases d
  · have HF : Hid (∀ u0 u1, Cursor ((w4.setCell ⟨w.heap.size, 0, none⟩ u0).setCell ⟨w.heap.size, 1, none⟩ u1) cb v n (N + 10) ∧ But cb w ((w4.setCell ⟨w.heap.size, 0, none⟩ u0).setCell ⟨w.heap.size, 1, none⟩ u1)) :=
      fun u0 u1 => ⟨((Cursor.mono HC4.out (by omega)).set hcb u0).set hcb u1, ((ButB.set HB4.out (p := ⟨w.heap.size, 0, none⟩) (.inl (Nat.le_refl _)) u0).set (p := ⟨w.heap.size, 1, none⟩) (.inl (Nat.le_refl _)) u1).out⟩
    clear HC4 HB4
    go_wp2_with fail
    exact bodyPost_ret (v := .agg #[.bool k, .string x]) (by simp [results, Tryz.results44, go_sem, r0, r1]) rfl ⟨k, x, rfl, hx, HF.out _ _⟩
  · go_wp2_with fail
    refine (of_new2 (fun x => clean3 x = true) [⟨#[34]⟩, ⟨#[97, 32, 98]⟩] (by decide) 2 rfl (by omega) (by omega) cb v n _ w4 HC4.out (by omega)).mono ?_
    rintro e w5 ⟨y, rfl, hy, hC5, hb5⟩
    obtain ⟨ec, ef, hs5, _⟩ := but_cells (B := 0) hb5 (b := w.heap.size) (by omega) (by omega)
    obtain ⟨dc, df, hT5, _⟩ := but_cells (B := 0) hb5 (b := T3) hT4 (by omega)
    have q0 := (ec 0).trans r0
    have q1 := (ec 1).trans r1
    have qf := fun i => (ef i).trans (rf i)
    have t0 := (dc 0).trans s0
    have t1 := (dc 1).trans s1
    have tf := fun i => (df i).trans (sf i)
    have HB5 : ButB w.heap.size cb w w5 := ButB.call HB4.out (Nat.le_refl _) hb5
    have HF : Hid (∀ u u0 u1, Cursor (((w5.setCell ⟨T3, 1, none⟩ u).setCell ⟨w.heap.size, 0, none⟩ u0).setCell ⟨w.heap.size, 1, none⟩ u1) cb v n (N + 10) ∧ But cb w (((w5.setCell ⟨T3, 1, none⟩ u).setCell ⟨w.heap.size, 0, none⟩ u0).setCell ⟨w.heap.size, 1, none⟩ u1)) :=
      fun u u0 u1 => ⟨(((Cursor.mono hC5 (by omega)).set (by omega) u).set hcb u0).set hcb u1, (((HB5.set (p := ⟨T3, 1, none⟩) (.inl (by show w.heap.size ≤ T3; omega)) u).set (p := ⟨w.heap.size, 0, none⟩) (.inl (Nat.le_refl _)) u0).set (p := ⟨w.heap.size, 1, none⟩) (.inl (Nat.le_refl _)) u1).out⟩
    clear HC4 HB4 hC5 hb5 HB5 ec ef dc df r0 r1 rf s0 s1 sf
    go_wp2_with fail
    exact bodyPost_ret (v := .agg #[.bool k, .string y]) (by simp [results, Tryz.results44, go_sem, q0, q1]) rfl ⟨k, y, rfl, hy, HF.out _ _ _⟩

end Go.Proofs.YtgidmoncocbfiaaGreatDoor.Cur

namespace Go.Proofs.YtgidmoncocbfiaaGreatDoor.Cur
open Go.RowKit
open Go.Proofs.YtgidmoncocbfiaaGreatDoor.Ctf
open Go.Proofs.YtgidmoncocbfiaaGreatDoor.Tga (tagT)
open Go.Proofs.YtgidmoncocbfiaaGreatDoor.Cda (SH DV)

theorem first_not {l : List UInt8} {c : UInt8} (h : ∀ x ∈ l, x ≠ c) : ∀ f k, firstAt l c f k = none
  | 0, _ => rfl
  | f + 1, k => by
    simp only [firstAt]
    by_cases hk : k < l.length
    · rw [if_pos hk, if_neg, first_not h f (k + 1)]
      rw [List.getElem?_eq_getElem hk]
      exact h _ (List.getElem_mem hk)
    · rw [if_neg hk]
theorem first_mid {a b : List UInt8} {c : UInt8} (h : ∀ x ∈ a, x ≠ c) : ∀ f k, k ≤ a.length → a.length < k + f → firstAt (a ++ c :: b) c f k = some a.length
  | 0, k, h1, h2 => by omega
  | f + 1, k, h1, h2 => by
    have hlen : (a ++ c :: b).length = a.length + (b.length + 1) := by rw [List.length_append, List.length_cons]
    by_cases hk : k < a.length
    · rw [first_miss (by omega)]
      · exact first_mid h f (k + 1) hk (by omega)
      · rw [List.getElem?_append_left hk, List.getElem?_eq_getElem hk]
        exact h _ (List.getElem_mem hk)
    · obtain rfl : k = a.length := by omega
      exact first_hit (by omega) (by rw [List.getElem?_append_right (Nat.le_refl _), Nat.sub_self]; rfl)
theorem clean_parts {T : ByteArray} (h : clean3 T = true) : T.size ≤ 3 ∧ ∀ x ∈ T.data.toList, x ≠ 44 := by
  unfold clean3 at h
  rw [Bool.and_eq_true] at h
  exact ⟨of_decide_eq_true h.1, fun x hx => by have := List.all_eq_true.1 h.2 x hx; simpa using this⟩
theorem tagT_no (k : Bool) {T : ByteArray} (h : clean3 T = true) : (tagT k T).size ≤ 7 ∧ ∀ x ∈ (tagT k T).data.toList, x ≠ 44 := by
  obtain ⟨h1, h2⟩ := clean_parts h
  have e1 : (⟨#[87, 47, 34]⟩ : ByteArray).size = 3 := rfl
  have e2 : (⟨#[34]⟩ : ByteArray).size = 1 := rfl
  cases k
  · have e : tagT false T = (⟨#[34]⟩ : ByteArray) ++ T ++ ⟨#[34]⟩ := rfl
    rw [e]
    refine ⟨by rw [ByteArray.size_append, ByteArray.size_append]; omega, fun x hx => ?_⟩
    simp at hx
    rcases hx with rfl | hx | rfl
    · decide
    · exact h2 x (by simpa using hx)
    · decide
  · have e : tagT true T = (⟨#[87, 47, 34]⟩ : ByteArray) ++ T ++ ⟨#[34]⟩ := rfl
    rw [e]
    refine ⟨by rw [ByteArray.size_append, ByteArray.size_append]; omega, fun x hx => ?_⟩
    simp at hx
    rcases hx with rfl | rfl | rfl | hx | rfl
    · decide
    · decide
    · decide
    · exact h2 x (by simpa using hx)
    · decide
theorem sh_no {v : ByteArray} (h : v.size ≤ 23) (h2 : ∀ x ∈ v.data.toList, x ≠ 44) : SH v := by
  refine ⟨h, ?_⟩
  rw [(cut_none (s := v) (c := 44) (first_not h2 _ _)).2.1]
  exact Nat.zero_le _
theorem sh_tag (k : Bool) {T : ByteArray} (h : clean3 T = true) : SH (tagT k T) := by
  obtain ⟨h1, h2⟩ := tagT_no k h
  exact sh_no (by omega) h2
theorem sh_two (k1 k2 : Bool) {T1 T2 : ByteArray} (g1 : clean3 T1 = true) (g2 : clean3 T2 = true) : SH (tagT k1 T1 ++ ⟨#[44, 32]⟩ ++ tagT k2 T2) := by
  obtain ⟨h1, h2⟩ := tagT_no k1 g1
  obtain ⟨h3, h4⟩ := tagT_no k2 g2
  generalize tagT k1 T1 = A at *
  generalize tagT k2 T2 = B at *
  have e2 : (⟨#[44, 32]⟩ : ByteArray).size = 2 := rfl
  have hsz : (A ++ ⟨#[44, 32]⟩ ++ B).size = A.size + 2 + B.size := by rw [ByteArray.size_append, ByteArray.size_append, e2]
  have hl : (A ++ ⟨#[44, 32]⟩ ++ B).data.toList = A.data.toList ++ 44 :: (32 :: B.data.toList) := by simp
  have hlen : A.data.toList.length = A.size := by simp
  have hc : cutI (A ++ ⟨#[44, 32]⟩ ++ B) 44 = some A.data.toList.length := by
    unfold cutI
    rw [hl]
    exact first_mid h2 _ _ (Nat.zero_le _) (by rw [List.length_append, List.length_cons]; omega)
  refine ⟨by omega, ?_⟩
  rw [(cut_some hc).2.1, ByteArray.size_extract, hsz]
  omega
/-- What a drawn value is, as a date. -/
def DVe (v : ByteArray) : Prop := v.size ≤ 29 ∧ ∃ o, DV v o
theorem dve_sh {v : ByteArray} (h : SH v) : DVe v := ⟨by have := h.1; omega, none, .inl ⟨h, rfl⟩⟩
theorem dve_tag (k : Bool) {T : ByteArray} (h : clean3 T = true) : DVe (tagT k T) := dve_sh (sh_tag k h)
theorem dve_two (k1 k2 : Bool) {T1 T2 : ByteArray} (g1 : clean3 T1 = true) (g2 : clean3 T2 = true) : DVe (tagT k1 T1 ++ ⟨#[44, 32]⟩ ++ tagT k2 T2) := dve_sh (sh_two k1 k2 g1 g2)
theorem dve_lits : ∀ x ∈ [(⟨#[42]⟩ : ByteArray), ⟨#[120]⟩, ⟨#[42, 44, 32, 34, 97, 34]⟩, ⟨#[]⟩], DVe x := by
  intro x hx
  refine dve_sh ?_
  simp only [List.mem_cons, List.not_mem_nil, or_false] at hx
  rcases hx with rfl | rfl | rfl | rfl <;> exact ⟨by decide, by decide⟩

end Go.Proofs.YtgidmoncocbfiaaGreatDoor.Cur

