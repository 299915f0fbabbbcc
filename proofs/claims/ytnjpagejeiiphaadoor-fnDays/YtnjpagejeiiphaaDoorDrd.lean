/-
  Walks: dates that are drawn: spec's date, DrawGoodDate, DrawSecondsOf.
-/
import Derived.Test.YtnjpagejeiiphaaDoorDra
namespace Go.Proofs.YtnjpagejeiiphaaDoor.Cur
open Go.RowKit

theorem ints_made (w : World) (zs : List Int) (t : TypeId) (b : Nat) (hb : b = w.heap.size) : ∀ i, i < zs.length → ∃ z : Int, (w.alloc (.cells (zs.map fun z => Value.int .i64 z).toArray t)).cell? ⟨b, i, none⟩ = some (.int .i64 z) := by
  subst hb
  intro i hi
  exact ⟨zs[i], by rw [World.cell?_alloc_mark]; simp [hi]⟩

theorem pick_at (k : Nat) (K : Int) (hK : K = (k : Int)) (cb : Nat) (v : Value) (n N : Nat) (w : World) (hC : Cursor w cb v n N) (hN : N ≤ 900000000) (h1 : 1 ≤ k) (h2 : k ≤ 1000000) :
    Calls Tryd.prog 46 #[.pointer (some ⟨cb, 0, none⟩), .int .i64 K] w fun e w' => ∃ x : Nat, e = .returned (.int .i64 x) ∧ x < k ∧ Cursor w' cb v n (N + 2) ∧ But cb w w' := by
  subst hK
  exact pick_any cb v n N k w hC hN h1 h2

set_option maxHeartbeats 6400000 in
set_option maxRecDepth 20000 in
theorem date_any (cb : Nat) (v : Value) (n N : Nat) (w : World) (hC : Cursor w cb v n N) (hN : N ≤ 800000000) :
    Calls Tryd.prog 41 #[.pointer (some ⟨cb, 0, none⟩)] w fun e w' => ∃ y m d h i s : Int, e = .returned (.agg #[.int .i64 y, .int .i64 m, .int .i64 d, .int .i64 h, .int .i64 i, .int .i64 s]) ∧ Cursor w' cb v n (N + 30) ∧ But cb w w' := by
  have hcb : cb < w.heap.size := hC.2.2.1
  have HC0 : Hid _ := hC.below ((Below.refl w.heap.size w).alloc (Nat.le_refl _) (.cells #[.int .i64 0, .int .i64 0, .int .i64 0, .int .i64 0, .int .i64 0, .int .i64 0] 24))
  have HR0 : Hid _ := Six.made w 0 0 0 0 0 0 24
  have HB0 : Hid _ := (ButB.refl w.heap.size cb w).alloc (Nat.le_refl _) (.cells #[.int .i64 0, .int .i64 0, .int .i64 0, .int .i64 0, .int .i64 0, .int .i64 0] 24)
  clear hC
  go_enter Tryd.func41, Tryd.ntmps41
  go_wp2_with fail
  refine (pick_at 130 _ rfl cb v n _ _ HC0.out (by omega) (by omega) (by omega)).mono ?_
  rintro e w1 ⟨x1, rfl, hx1, hC1, hb1⟩
  have HC1 : Hid _ := hC1
  have HR1 : Hid _ := Six.but HR0.out hb1 (by omega)
  have HB1 : Hid _ := ButB.call HB0.out (Nat.le_refl _) hb1
  clear hC1 hb1
  go_wp2_with fail
  refine (pick_at 12 _ rfl cb v n _ _ HC1.out (by omega) (by omega) (by omega)).mono ?_
  rintro e w2 ⟨x2, rfl, hx2, hC2, hb2⟩
  have HC2 : Hid _ := hC2
  have HR2 : Hid _ := Six.but HR1.out hb2 (by omega)
  have HB2 : Hid _ := ButB.call HB1.out (Nat.le_refl _) hb2
  clear hC2 hb2
  go_wp2_with fail
  refine (pick_at 28 _ rfl cb v n _ _ HC2.out (by omega) (by omega) (by omega)).mono ?_
  rintro e w3 ⟨x3, rfl, hx3, hC3, hb3⟩
  have HC3 : Hid _ := hC3
  have HR3 : Hid _ := Six.but HR2.out hb3 (by omega)
  have HB3 : Hid _ := ButB.call HB2.out (Nat.le_refl _) hb3
  clear hC3 hb3
  go_wp2_with fail
  refine (pick_at 24 _ rfl cb v n _ _ HC3.out (by omega) (by omega) (by omega)).mono ?_
  rintro e w4 ⟨x4, rfl, hx4, hC4, hb4⟩
  have HC4 : Hid _ := hC4
  have HR4 : Hid _ := Six.but HR3.out hb4 (by omega)
  have HB4 : Hid _ := ButB.call HB3.out (Nat.le_refl _) hb4
  clear hC4 hb4
  go_wp2_with fail
  refine (pick_at 60 _ rfl cb v n _ _ HC4.out (by omega) (by omega) (by omega)).mono ?_
  rintro e w5 ⟨x5, rfl, hx5, hC5, hb5⟩
  have HC5 : Hid _ := hC5
  have HR5 : Hid _ := Six.but HR4.out hb5 (by omega)
  have HB5 : Hid _ := ButB.call HB4.out (Nat.le_refl _) hb5
  clear hC5 hb5
  go_wp2_with fail
  refine (pick_at 60 _ rfl cb v n _ _ HC5.out (by omega) (by omega) (by omega)).mono ?_
  rintro e w6 ⟨x6, rfl, hx6, hC6, hb6⟩
  have HC6 : Hid _ := hC6
  have HR6 : Hid _ := Six.but HR5.out hb6 (by omega)
  have HB6 : Hid _ := ButB.call HB5.out (Nat.le_refl _) hb6
  clear hC6 hb6
  have hs6 : w.heap.size < w6.heap.size := HR6.out.1
  go_wp2_with fail
  have HCp : Hid _ := Cursor.below HC6.out ((Below.refl w6.heap.size w6).alloc (Nat.le_refl _) (.cells #[.int .i64 (1970 + (x1 : Int)), .int .i64 (1 + (x2 : Int)), .int .i64 (1 + (x3 : Int)), .int .i64 x4, .int .i64 x5, .int .i64 x6] 24))
  have HRp : Hid _ := Six.alloc HR6.out (.cells #[.int .i64 (1970 + (x1 : Int)), .int .i64 (1 + (x2 : Int)), .int .i64 (1 + (x3 : Int)), .int .i64 x4, .int .i64 x5, .int .i64 x6] 24)
  have HDp : Hid _ := Six.made w6 (1970 + (x1 : Int)) (1 + (x2 : Int)) (1 + (x3 : Int)) x4 x5 x6 24
  have HBp : Hid _ := ButB.alloc HB6.out (Nat.le_refl _) (.cells #[.int .i64 (1970 + (x1 : Int)), .int .i64 (1 + (x2 : Int)), .int .i64 (1 + (x3 : Int)), .int .i64 x4, .int .i64 x5, .int .i64 x6] 24)
  refine (pick_at 12 _ rfl cb v n _ _ HCp.out (by omega) (by omega) (by omega)).mono ?_
  rintro e w7 ⟨x7, rfl, hx7, hC7, hb7⟩
  have HC7 : Hid _ := hC7
  have hR7 := Six.but HRp.out hb7 (by omega)
  have hD7 := Six.but HDp.out hb7 (by omega)
  have HB7 : Hid _ := ButB.call HBp.out (Nat.le_refl _) hb7
  clear hC7 hb7
  have hs7 : w6.heap.size < w7.heap.size := hD7.1
  rcases (show x7 = 0 ∨ x7 = 1 ∨ x7 = 2 ∨ x7 = 3 ∨ 4 ≤ x7 from by omega) with rfl | rfl | rfl | rfl | hx4
  case inr.inr.inr.inr =>
    obtain ⟨hr1, hr2, a0, a1, a2, a3, a4, a5, r0, r1, r2, r3, r4, r5⟩ := hR7
    obtain ⟨hd1, hd2, b0, b1, b2, b3, b4, b5, d0, d1, d2, d3, d4, d5⟩ := hD7
    go_wp2_with fail
    exact bodyPost_ret (v := .agg #[.int .i64 b0, .int .i64 b1, .int .i64 b2, .int .i64 b3, .int .i64 b4, .int .i64 b5]) (by simp [results, Tryd.results41, go_sem, r0, r1, r2, r3, r4, r5]) rfl ⟨_, _, _, _, _, _, rfl, Cursor.mono (Cursor.set (Cursor.set (Cursor.set (Cursor.set (Cursor.set (Cursor.set HC7.out hcb _) hcb _) hcb _) hcb _) hcb _) hcb _) (by omega), ButB.out (ButB.set (ButB.set (ButB.set (ButB.set (ButB.set (ButB.set HB7.out (Or.inl (Nat.le_refl _)) _) (Or.inl (Nat.le_refl _)) _) (Or.inl (Nat.le_refl _)) _) (Or.inl (Nat.le_refl _)) _) (Or.inl (Nat.le_refl _)) _) (Or.inl (Nat.le_refl _)) _)⟩
  case inl =>
    obtain ⟨hr1, hr2, a0, a1, a2, a3, a4, a5, r0, r1, r2, r3, r4, r5⟩ := hR7
    obtain ⟨hd1, hd2, b0, b1, b2, b3, b4, b5, d0, d1, d2, d3, d4, d5⟩ := hD7
    have HC8p : Hid _ := (Cursor.set HC7.out (j := 1) (show cb < w6.heap.size by omega) (.int .i64 (2)))
    have HD8p : Hid _ := (Six.set (⟨hd1, hd2, b0, b1, b2, b3, b4, b5, d0, d1, d2, d3, d4, d5⟩ : Six w7 w6.heap.size) w6.heap.size 1 (2))
    have HR8p : Hid _ := (Six.set (⟨hr1, hr2, a0, a1, a2, a3, a4, a5, r0, r1, r2, r3, r4, r5⟩ : Six w7 w.heap.size) w6.heap.size 1 (2))
    have HB8p : Hid _ := (ButB.set HB7.out (p := ⟨w6.heap.size, 1, none⟩) (Or.inl (by show w.heap.size ≤ w6.heap.size; omega)) (.int .i64 (2)))
    go_wp2_with fail
    refine (pick_at 3 _ rfl cb v n _ _ HC8p.out (by omega) (by omega) (by omega)).mono ?_
    rintro e w8 ⟨x8, rfl, hx8, hC8, hb8⟩
    have HC8 : Hid _ := hC8
    have hR8 := Six.but HR8p.out hb8 (by omega)
    have hD8 := Six.but HD8p.out hb8 (by omega)
    have HB8 : Hid _ := ButB.call HB8p.out (Nat.le_refl _) hb8
    clear hC8 hb8 hr1 hr2 r0 r1 r2 r3 r4 r5 hd1 hd2 d0 d1 d2 d3 d4 d5
    obtain ⟨hr1, hr2, a0, a1, a2, a3, a4, a5, r0, r1, r2, r3, r4, r5⟩ := hR8
    obtain ⟨hd1, hd2, b0, b1, b2, b3, b4, b5, d0, d1, d2, d3, d4, d5⟩ := hD8
    have HC9p : Hid _ := (Cursor.below (Cursor.set HC8.out (j := 2) (show cb < w6.heap.size by omega) (.int .i64 (28 + (x8 : Int)))) ((Below.refl _ _).alloc (Nat.le_refl _) (.cells #[.int .i64 2000, .int .i64 2024, .int .i64 2100, .int .i64 1999] 3)))
    have HD9p : Hid _ := (Six.alloc (Six.set (⟨hd1, hd2, b0, b1, b2, b3, b4, b5, d0, d1, d2, d3, d4, d5⟩ : Six w8 w6.heap.size) w6.heap.size 2 (28 + (x8 : Int))) (.cells #[.int .i64 2000, .int .i64 2024, .int .i64 2100, .int .i64 1999] 3))
    have HR9p : Hid _ := (Six.alloc (Six.set (⟨hr1, hr2, a0, a1, a2, a3, a4, a5, r0, r1, r2, r3, r4, r5⟩ : Six w8 w.heap.size) w6.heap.size 2 (28 + (x8 : Int))) (.cells #[.int .i64 2000, .int .i64 2024, .int .i64 2100, .int .i64 1999] 3))
    have HB9p : Hid _ := (ButB.alloc (ButB.set HB8.out (p := ⟨w6.heap.size, 2, none⟩) (Or.inl (by show w.heap.size ≤ w6.heap.size; omega)) (.int .i64 (28 + (x8 : Int)))) (Nat.le_refl _) (.cells #[.int .i64 2000, .int .i64 2024, .int .i64 2100, .int .i64 1999] 3))
    go_wp2_with fail
    refine (among_any cb _ 4 v n _ _ HC9p.out (by omega) (by omega) (by omega) (by simp) (by simp [go_sem]; omega) (ints_made _ [2000, 2024, 2100, 1999] 3 _ (by simp))).mono ?_
    rintro e w9 ⟨x9, rfl, hC9, hb9⟩
    have HC9 : Hid _ := hC9
    have hR9 := Six.but HR9p.out hb9 (by omega)
    have hD9 := Six.but HD9p.out hb9 (by omega)
    have HB9 : Hid _ := ButB.call HB9p.out (Nat.le_refl _) hb9
    clear hC9 hb9 hr1 hr2 r0 r1 r2 r3 r4 r5 hd1 hd2 d0 d1 d2 d3 d4 d5
    obtain ⟨hr1, hr2, a0, a1, a2, a3, a4, a5, r0, r1, r2, r3, r4, r5⟩ := hR9
    obtain ⟨hd1, hd2, b0, b1, b2, b3, b4, b5, d0, d1, d2, d3, d4, d5⟩ := hD9
    go_wp2_with fail
    exact bodyPost_ret (v := .agg #[.int .i64 x9, .int .i64 b1, .int .i64 b2, .int .i64 b3, .int .i64 b4, .int .i64 b5]) (by simp [results, Tryd.results41, go_sem, r0, r1, r2, r3, r4, r5]) rfl ⟨_, _, _, _, _, _, rfl, Cursor.mono (Cursor.set (Cursor.set (Cursor.set (Cursor.set (Cursor.set (Cursor.set (Cursor.set HC9.out (show cb < w6.heap.size by omega) _) hcb _) hcb _) hcb _) hcb _) hcb _) hcb _) (by omega), ButB.out (ButB.set (ButB.set (ButB.set (ButB.set (ButB.set (ButB.set (ButB.set HB9.out (Or.inl (show w.heap.size ≤ w6.heap.size by omega)) _) (Or.inl (Nat.le_refl _)) _) (Or.inl (Nat.le_refl _)) _) (Or.inl (Nat.le_refl _)) _) (Or.inl (Nat.le_refl _)) _) (Or.inl (Nat.le_refl _)) _) (Or.inl (Nat.le_refl _)) _)⟩
  case inr.inl =>
    obtain ⟨hr1, hr2, a0, a1, a2, a3, a4, a5, r0, r1, r2, r3, r4, r5⟩ := hR7
    obtain ⟨hd1, hd2, b0, b1, b2, b3, b4, b5, d0, d1, d2, d3, d4, d5⟩ := hD7
    have HC8p : Hid _ := (Cursor.below HC7.out ((Below.refl _ _).alloc (Nat.le_refl _) (.cells #[.int .i64 1969, .int .i64 1970, .int .i64 9999, .int .i64 10000, .int .i64 2000, .int .i64 2400] 3)))
    have HD8p : Hid _ := (Six.alloc (⟨hd1, hd2, b0, b1, b2, b3, b4, b5, d0, d1, d2, d3, d4, d5⟩ : Six w7 w6.heap.size) (.cells #[.int .i64 1969, .int .i64 1970, .int .i64 9999, .int .i64 10000, .int .i64 2000, .int .i64 2400] 3))
    have HR8p : Hid _ := (Six.alloc (⟨hr1, hr2, a0, a1, a2, a3, a4, a5, r0, r1, r2, r3, r4, r5⟩ : Six w7 w.heap.size) (.cells #[.int .i64 1969, .int .i64 1970, .int .i64 9999, .int .i64 10000, .int .i64 2000, .int .i64 2400] 3))
    have HB8p : Hid _ := (ButB.alloc HB7.out (Nat.le_refl _) (.cells #[.int .i64 1969, .int .i64 1970, .int .i64 9999, .int .i64 10000, .int .i64 2000, .int .i64 2400] 3))
    go_wp2_with fail
    refine (among_any cb _ 6 v n _ _ HC8p.out (by omega) (by omega) (by omega) (by simp) (by simp [go_sem]; omega) (ints_made _ [1969, 1970, 9999, 10000, 2000, 2400] 3 _ (by simp))).mono ?_
    rintro e w8 ⟨x8, rfl, hC8, hb8⟩
    have HC8 : Hid _ := hC8
    have hR8 := Six.but HR8p.out hb8 (by omega)
    have hD8 := Six.but HD8p.out hb8 (by omega)
    have HB8 : Hid _ := ButB.call HB8p.out (Nat.le_refl _) hb8
    clear hC8 hb8 hr1 hr2 r0 r1 r2 r3 r4 r5 hd1 hd2 d0 d1 d2 d3 d4 d5
    obtain ⟨hr1, hr2, a0, a1, a2, a3, a4, a5, r0, r1, r2, r3, r4, r5⟩ := hR8
    obtain ⟨hd1, hd2, b0, b1, b2, b3, b4, b5, d0, d1, d2, d3, d4, d5⟩ := hD8
    go_wp2_with fail
    exact bodyPost_ret (v := .agg #[.int .i64 x8, .int .i64 b1, .int .i64 b2, .int .i64 b3, .int .i64 b4, .int .i64 b5]) (by simp [results, Tryd.results41, go_sem, r0, r1, r2, r3, r4, r5]) rfl ⟨_, _, _, _, _, _, rfl, Cursor.mono (Cursor.set (Cursor.set (Cursor.set (Cursor.set (Cursor.set (Cursor.set (Cursor.set HC8.out (show cb < w6.heap.size by omega) _) hcb _) hcb _) hcb _) hcb _) hcb _) hcb _) (by omega), ButB.out (ButB.set (ButB.set (ButB.set (ButB.set (ButB.set (ButB.set (ButB.set HB8.out (Or.inl (show w.heap.size ≤ w6.heap.size by omega)) _) (Or.inl (Nat.le_refl _)) _) (Or.inl (Nat.le_refl _)) _) (Or.inl (Nat.le_refl _)) _) (Or.inl (Nat.le_refl _)) _) (Or.inl (Nat.le_refl _)) _) (Or.inl (Nat.le_refl _)) _)⟩
  case inr.inr.inl =>
    obtain ⟨hr1, hr2, a0, a1, a2, a3, a4, a5, r0, r1, r2, r3, r4, r5⟩ := hR7
    obtain ⟨hd1, hd2, b0, b1, b2, b3, b4, b5, d0, d1, d2, d3, d4, d5⟩ := hD7
    have HC8p : Hid _ := HC7.out
    have HD8p : Hid _ := (⟨hd1, hd2, b0, b1, b2, b3, b4, b5, d0, d1, d2, d3, d4, d5⟩ : Six w7 w6.heap.size)
    have HR8p : Hid _ := (⟨hr1, hr2, a0, a1, a2, a3, a4, a5, r0, r1, r2, r3, r4, r5⟩ : Six w7 w.heap.size)
    have HB8p : Hid _ := HB7.out
    go_wp2_with fail
    refine (pick_at 4 _ rfl cb v n _ _ HC8p.out (by omega) (by omega) (by omega)).mono ?_
    rintro e w8 ⟨x8, rfl, hx8, hC8, hb8⟩
    have HC8 : Hid _ := hC8
    have hR8 := Six.but HR8p.out hb8 (by omega)
    have hD8 := Six.but HD8p.out hb8 (by omega)
    have HB8 : Hid _ := ButB.call HB8p.out (Nat.le_refl _) hb8
    clear hC8 hb8 hr1 hr2 r0 r1 r2 r3 r4 r5 hd1 hd2 d0 d1 d2 d3 d4 d5
    obtain ⟨hr1, hr2, a0, a1, a2, a3, a4, a5, r0, r1, r2, r3, r4, r5⟩ := hR8
    obtain ⟨hd1, hd2, b0, b1, b2, b3, b4, b5, d0, d1, d2, d3, d4, d5⟩ := hD8
    go_wp2_with fail
    exact bodyPost_ret (v := .agg #[.int .i64 b0, .int .i64 b1, .int .i64 (29 + (x8 : Int)), .int .i64 b3, .int .i64 b4, .int .i64 b5]) (by simp [results, Tryd.results41, go_sem, r0, r1, r2, r3, r4, r5]) rfl ⟨_, _, _, _, _, _, rfl, Cursor.mono (Cursor.set (Cursor.set (Cursor.set (Cursor.set (Cursor.set (Cursor.set (Cursor.set HC8.out (show cb < w6.heap.size by omega) _) hcb _) hcb _) hcb _) hcb _) hcb _) hcb _) (by omega), ButB.out (ButB.set (ButB.set (ButB.set (ButB.set (ButB.set (ButB.set (ButB.set HB8.out (Or.inl (show w.heap.size ≤ w6.heap.size by omega)) _) (Or.inl (Nat.le_refl _)) _) (Or.inl (Nat.le_refl _)) _) (Or.inl (Nat.le_refl _)) _) (Or.inl (Nat.le_refl _)) _) (Or.inl (Nat.le_refl _)) _) (Or.inl (Nat.le_refl _)) _)⟩
  case inr.inr.inr.inl =>
    obtain ⟨hr1, hr2, a0, a1, a2, a3, a4, a5, r0, r1, r2, r3, r4, r5⟩ := hR7
    obtain ⟨hd1, hd2, b0, b1, b2, b3, b4, b5, d0, d1, d2, d3, d4, d5⟩ := hD7
    have HC8p : Hid _ := (Cursor.below HC7.out ((Below.refl _ _).alloc (Nat.le_refl _) (.cells #[.int .i64 0, .int .i64 13, .int .i64 12] 3)))
    have HD8p : Hid _ := (Six.alloc (⟨hd1, hd2, b0, b1, b2, b3, b4, b5, d0, d1, d2, d3, d4, d5⟩ : Six w7 w6.heap.size) (.cells #[.int .i64 0, .int .i64 13, .int .i64 12] 3))
    have HR8p : Hid _ := (Six.alloc (⟨hr1, hr2, a0, a1, a2, a3, a4, a5, r0, r1, r2, r3, r4, r5⟩ : Six w7 w.heap.size) (.cells #[.int .i64 0, .int .i64 13, .int .i64 12] 3))
    have HB8p : Hid _ := (ButB.alloc HB7.out (Nat.le_refl _) (.cells #[.int .i64 0, .int .i64 13, .int .i64 12] 3))
    go_wp2_with fail
    refine (among_any cb _ 3 v n _ _ HC8p.out (by omega) (by omega) (by omega) (by simp) (by simp [go_sem]; omega) (ints_made _ [0, 13, 12] 3 _ (by simp))).mono ?_
    rintro e w8 ⟨x8, rfl, hC8, hb8⟩
    have HC8 : Hid _ := hC8
    have hR8 := Six.but HR8p.out hb8 (by omega)
    have hD8 := Six.but HD8p.out hb8 (by omega)
    have HB8 : Hid _ := ButB.call HB8p.out (Nat.le_refl _) hb8
    clear hC8 hb8 hr1 hr2 r0 r1 r2 r3 r4 r5 hd1 hd2 d0 d1 d2 d3 d4 d5
    obtain ⟨hr1, hr2, a0, a1, a2, a3, a4, a5, r0, r1, r2, r3, r4, r5⟩ := hR8
    obtain ⟨hd1, hd2, b0, b1, b2, b3, b4, b5, d0, d1, d2, d3, d4, d5⟩ := hD8
    have HC9p : Hid _ := (Cursor.below (Cursor.set HC8.out (j := 1) (show cb < w6.heap.size by omega) (.int .i64 (x8))) ((Below.refl _ _).alloc (Nat.le_refl _) (.cells #[.int .i64 24, .int .i64 23] 3)))
    have HD9p : Hid _ := (Six.alloc (Six.set (⟨hd1, hd2, b0, b1, b2, b3, b4, b5, d0, d1, d2, d3, d4, d5⟩ : Six w8 w6.heap.size) w6.heap.size 1 (x8)) (.cells #[.int .i64 24, .int .i64 23] 3))
    have HR9p : Hid _ := (Six.alloc (Six.set (⟨hr1, hr2, a0, a1, a2, a3, a4, a5, r0, r1, r2, r3, r4, r5⟩ : Six w8 w.heap.size) w6.heap.size 1 (x8)) (.cells #[.int .i64 24, .int .i64 23] 3))
    have HB9p : Hid _ := (ButB.alloc (ButB.set HB8.out (p := ⟨w6.heap.size, 1, none⟩) (Or.inl (by show w.heap.size ≤ w6.heap.size; omega)) (.int .i64 (x8))) (Nat.le_refl _) (.cells #[.int .i64 24, .int .i64 23] 3))
    go_wp2_with fail
    refine (among_any cb _ 2 v n _ _ HC9p.out (by omega) (by omega) (by omega) (by simp) (by simp [go_sem]; omega) (ints_made _ [24, 23] 3 _ (by simp))).mono ?_
    rintro e w9 ⟨x9, rfl, hC9, hb9⟩
    have HC9 : Hid _ := hC9
    have hR9 := Six.but HR9p.out hb9 (by omega)
    have hD9 := Six.but HD9p.out hb9 (by omega)
    have HB9 : Hid _ := ButB.call HB9p.out (Nat.le_refl _) hb9
    clear hC9 hb9 hr1 hr2 r0 r1 r2 r3 r4 r5 hd1 hd2 d0 d1 d2 d3 d4 d5
    obtain ⟨hr1, hr2, a0, a1, a2, a3, a4, a5, r0, r1, r2, r3, r4, r5⟩ := hR9
    obtain ⟨hd1, hd2, b0, b1, b2, b3, b4, b5, d0, d1, d2, d3, d4, d5⟩ := hD9
    go_wp2_with fail
    exact bodyPost_ret (v := .agg #[.int .i64 b0, .int .i64 b1, .int .i64 b2, .int .i64 x9, .int .i64 b4, .int .i64 b5]) (by simp [results, Tryd.results41, go_sem, r0, r1, r2, r3, r4, r5]) rfl ⟨_, _, _, _, _, _, rfl, Cursor.mono (Cursor.set (Cursor.set (Cursor.set (Cursor.set (Cursor.set (Cursor.set (Cursor.set HC9.out (show cb < w6.heap.size by omega) _) hcb _) hcb _) hcb _) hcb _) hcb _) hcb _) (by omega), ButB.out (ButB.set (ButB.set (ButB.set (ButB.set (ButB.set (ButB.set (ButB.set HB9.out (Or.inl (show w.heap.size ≤ w6.heap.size by omega)) _) (Or.inl (Nat.le_refl _)) _) (Or.inl (Nat.le_refl _)) _) (Or.inl (Nat.le_refl _)) _) (Or.inl (Nat.le_refl _)) _) (Or.inl (Nat.le_refl _)) _) (Or.inl (Nat.le_refl _)) _)⟩

end Go.Proofs.YtnjpagejeiiphaaDoor.Cur
