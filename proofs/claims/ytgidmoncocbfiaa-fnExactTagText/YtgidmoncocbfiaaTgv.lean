/-
  Walks: the laws FnExactTagText, FnExactStrongSame, FnExactWeakSame, over what impl answers.
-/
import Derived.Test.YtgidmoncocbfiaaTgw
import Derived.Deep.RegionHeld3
namespace Go.Proofs.Ytgidmoncocbfiaa.Tgw
open Go.RowKit
open Go.Proofs.Ytgidmoncocbfiaa.Tga

theorem keep_first (W : World) : Below W.heap.size W W.drew := ⟨rfl, rfl, rfl, Nat.le_refl _, fun _ _ => rfl⟩
theorem and5 {a b c d e : Prop} (h : a ∧ b ∧ c ∧ d ∧ e) : e := h.2.2.2.2
theorem keep4 {W w0 w1 : World} {n : Nat} {u0 u1 v0 v1 : Option Value} (hn : n + 2 ≤ W.heap.size) (h : w0.cell? ⟨n, 0, none⟩ = u0 ∧ w0.cell? ⟨n, 1, none⟩ = u1 ∧ w0.cell? ⟨n + 1, 0, none⟩ = v0 ∧ w0.cell? ⟨n + 1, 1, none⟩ = v1 ∧ Below W.heap.size W w0) (hb : Below w0.heap.size w0 w1) :
    w1.cell? ⟨n, 0, none⟩ = u0 ∧ w1.cell? ⟨n, 1, none⟩ = u1 ∧ w1.cell? ⟨n + 1, 0, none⟩ = v0 ∧ w1.cell? ⟨n + 1, 1, none⟩ = v1 ∧ Below W.heap.size W w1 := by
  obtain ⟨h0, h1, h2, h3, h4⟩ := h
  have hs := h4.size
  have e : ∀ i, w1.cell? ⟨n, i, none⟩ = w0.cell? ⟨n, i, none⟩ := fun i => hb.cell (p := ⟨n, i, none⟩) (by show n < _; omega)
  have f : ∀ i, w1.cell? ⟨n + 1, i, none⟩ = w0.cell? ⟨n + 1, i, none⟩ := fun i => hb.cell (p := ⟨n + 1, i, none⟩) (by show n + 1 < _; omega)
  exact ⟨(e 0).trans h0, (e 1).trans h1, (f 0).trans h2, (f 1).trans h3, h4.trans (hb.mono h4.size)⟩

set_option maxRecDepth 20000 in
set_option maxHeartbeats 1600000 in
theorem walkTagText (HIm : ∀ (k : Bool) (t : ByteArray) (w : World), t.size ≤ 2000000 → Calls Try.prog 13 #[.agg #[.bool k, .string t]] w fun e w' => e = .returned (.tuple #[.string (tagS k t), .bool (tagB t)]) ∧ Below w.heap.size w w')
    (k : Bool) (t : ByteArray) (w : World) (ht : t.size ≤ maxLen) :
    Calls Try.prog 4 #[.agg #[.bool k, .string t]] w fun e w' => e = .returned (.bool true) ∧ Below w.heap.size w w' := by
  obtain ⟨W, hW⟩ : ∃ W, W = w.alloc (.cells #[.bool k, .string t] 28) := ⟨_, rfl⟩
  have hn : w.heap.size < W.heap.size := by rw [hW]; simp
  have hb1 : Below w.heap.size w W := by rw [hW]; exact (Below.refl _ _).alloc (Nat.le_refl _) _
  have x0 : W.cell? ⟨w.heap.size, 0, none⟩ = some (.bool k) := by rw [hW]; simp [go_sem]
  have x1 : W.cell? ⟨w.heap.size, 1, none⟩ = some (.string t) := by rw [hW]; simp [go_sem]
  by_cases hz : t.size ≤ 1048576
  rotate_left
  · have HZ : Hid _ := fun wx => sz_no k t 1048576 wx ht hz (by decide)
    go_enter Try.func4, Try.ntmps4
    go_wp2_with fail
    rw [← hW]
    refine (HZ.out _).mono ?_
    rintro e w2 ⟨rfl, hb2⟩
    go_wp2_with fail
    go_ret
    exact ⟨rfl, hb1.trans (hb2.mono hb1.size)⟩
  have HZ : Hid _ := fun wx => sz_yes k t 1048576 wx hz (by decide)
  have HT : Hid _ := fun wx => toTag_any k t wx
  have HI : Hid _ := fun wx => HIm k t wx (by omega)
  have HS : Hid _ := fun wx => specTagText_any k t wx (by omega)
  clear HIm
  have hd : decide (((1048576 : Nat) : Int) - (t.size : Int) < 0) = false := decide_eq_false (by omega)
  have hd2 : decide ((1048576 : Int) - (t.size : Int) < 0) = false := decide_eq_false (by omega)
  generalize tagS k t = S at HI HS
  generalize tagB t = b at HI HS
  have hsS := Mrk.same_text S
  have hbb : (b != b) = false := by simp
  go_enter Try.func4, Try.ntmps4
  go_wp2_with fail
  rw [← hW]
  clear hW
  refine (HZ.out _).mono ?_
  rintro e w2 ⟨rfl, c⟩
  have y0 := (c.cell (p := ⟨w.heap.size, 0, none⟩) hn).trans x0
  have y1 := (c.cell (p := ⟨w.heap.size, 1, none⟩) hn).trans x1
  have hb2 := hb1.trans (c.mono hb1.size)
  have hn2 := Nat.lt_of_lt_of_le hn c.size
  clear x0 x1 hb1 hn c
  go_wp2_with fail
  refine (HT.out _).mono ?_
  rintro e w3 ⟨rfl, c⟩
  have x0 := (c.cell (p := ⟨w.heap.size, 0, none⟩) hn2).trans y0
  have x1 := (c.cell (p := ⟨w.heap.size, 1, none⟩) hn2).trans y1
  have hb3 := hb2.trans (c.mono hb2.size)
  have hn3 := Nat.lt_of_lt_of_le hn2 c.size
  clear y0 y1 hb2 hn2 c
  go_wp2_with fail
  refine (HS.out _).mono ?_
  rintro e w4 ⟨rfl, c⟩
  have y0 := (c.cell (p := ⟨w.heap.size, 0, none⟩) hn3).trans x0
  have y1 := (c.cell (p := ⟨w.heap.size, 1, none⟩) hn3).trans x1
  have hb4 := hb3.trans (c.mono hb3.size)
  have hn4 := Nat.lt_of_lt_of_le hn3 c.size
  clear x0 x1 hb3 hn3 c
  go_wp2_with fail
  refine (HT.out _).mono ?_
  rintro e w5 ⟨rfl, c⟩
  have x0 := (c.cell (p := ⟨w.heap.size, 0, none⟩) hn4).trans y0
  have x1 := (c.cell (p := ⟨w.heap.size, 1, none⟩) hn4).trans y1
  have hb5 := hb4.trans (c.mono hb4.size)
  have hn5 := Nat.lt_of_lt_of_le hn4 c.size
  clear y0 y1 hb4 hn4 c
  go_wp2_with fail
  refine (HI.out _).mono ?_
  rintro e w6 ⟨rfl, c⟩
  have hb6 := hb5.trans (c.mono hb5.size)
  clear c
  go_wp2_with fail
  go_ret
  exact ⟨rfl, hb6⟩

set_option maxRecDepth 20000 in
set_option maxHeartbeats 6400000 in
theorem walkStrongSame (HIm : ∀ (k1 : Bool) (t1 : ByteArray) (k2 : Bool) (t2 : ByteArray) (w : World), t1.size ≤ 2000000 → t2.size ≤ 2000000 → Calls Try.prog 15 #[.agg #[.bool k1, .string t1], .agg #[.bool k2, .string t2]] w fun e w' => e = .returned (.tuple #[.bool (strongB k1 t1 k2 t2), .bool (tagB t1 && tagB t2)]) ∧ Below w.heap.size w w')
    (k1 : Bool) (t1 : ByteArray) (k2 : Bool) (t2 : ByteArray) (w : World) (h1 : t1.size ≤ maxLen) (h2 : t2.size ≤ maxLen) :
    Calls Try.prog 5 #[.agg #[.bool k1, .string t1], .agg #[.bool k2, .string t2]] w fun e w' => e = .returned (.bool true) ∧ Below w.heap.size w w' := by
  obtain ⟨W, hW⟩ : ∃ W, W = (w.alloc (.cells #[.bool k1, .string t1] 28)).alloc (.cells #[.bool k2, .string t2] 28) := ⟨_, rfl⟩
  have hs : w.heap.size + 2 ≤ W.heap.size := by rw [hW]; simp
  have hb1 : Below w.heap.size w W := by rw [hW]; exact ((Below.refl _ _).alloc (Nat.le_refl _) _).alloc (by simp) _
  have x0 : W.cell? ⟨w.heap.size, 0, none⟩ = some (.bool k1) := by rw [hW]; simp [go_sem]
  have x1 : W.cell? ⟨w.heap.size, 1, none⟩ = some (.string t1) := by rw [hW]; simp [go_sem]
  have z0 : W.cell? ⟨w.heap.size + 1, 0, none⟩ = some (.bool k2) := by rw [hW]; simp [go_sem]
  have z1 : W.cell? ⟨w.heap.size + 1, 1, none⟩ = some (.string t2) := by rw [hW]; simp [go_sem]
  by_cases hz : t1.size ≤ 1048576
  rotate_left
  · have HZ : Hid _ := fun wx => sz_no k1 t1 1048576 wx h1 hz (by decide)
    go_enter Try.func5, Try.ntmps5
    go_wp2_with fail
    rw [← hW]
    refine (HZ.out _).mono ?_
    rintro e w2 ⟨rfl, hb2⟩
    go_wp2_with fail
    go_ret
    exact ⟨rfl, hb1.trans (hb2.mono hb1.size)⟩
  have HZ : Hid _ := fun wx => sz_yes k1 t1 1048576 wx hz (by decide)
  have hd : decide (((1048576 : Nat) : Int) - (t1.size : Int) < 0) = false := decide_eq_false (by omega)
  have hd2 : decide ((1048576 : Int) - (t1.size : Int) < 0) = false := decide_eq_false (by omega)
  obtain ⟨L, hL⟩ : ∃ L : Nat, ((1048576 : Nat) : Int) - (t1.size : Int) = (L : Int) := ⟨1048576 - t1.size, by omega⟩
  rw [hL] at HZ hd
  have hL2 : L ≤ 1048576 := by omega
  clear hd2 hL
  by_cases hy : t2.size ≤ L
  rotate_left
  · have HY : Hid _ := fun wx => sz_no k2 t2 L wx h2 hy (by omega)
    go_enter Try.func5, Try.ntmps5
    go_wp2_with fail
    rw [← hW]
    clear hW
    refine (HZ.out _).mono ?_
    rintro e w2 ⟨rfl, c⟩
    have y0 := (c.cell (p := ⟨w.heap.size + 1, 0, none⟩) (by show w.heap.size + 1 < _; omega)).trans z0
    have y1 := (c.cell (p := ⟨w.heap.size + 1, 1, none⟩) (by show w.heap.size + 1 < _; omega)).trans z1
    have hb2 := hb1.trans (c.mono hb1.size)
    have hs2 := c.size
    clear x0 x1 z0 z1 c
    go_wp2_with fail
    refine (HY.out _).mono ?_
    rintro e w3 ⟨rfl, hb3⟩
    go_wp2_with fail
    go_ret
    exact ⟨rfl, hb2.trans (hb3.mono hb2.size)⟩
  have HY : Hid _ := fun wx => sz_yes k2 t2 L wx hy (by omega)
  have hd2 : decide ((L : Int) - (t2.size : Int) < 0) = false := decide_eq_false (by omega)
  have HT : Hid _ := fun wx => toTag_any k1 t1 wx
  have HU : Hid _ := fun wx => toTag_any k2 t2 wx
  have HI : Hid _ := fun wx => HIm k1 t1 k2 t2 wx (by omega) (by omega)
  have HS : Hid _ := fun wx => specStrongSame_any k1 t1 k2 t2 wx (by omega) (by omega)
  clear HIm
  generalize (tagB t1 && tagB t2) = b at HI HS
  generalize strongB k1 t1 k2 t2 = r at HI HS
  have hbb : (b != b) = false := by simp
  have hrr : (r != r) = false := by simp
  go_enter Try.func5, Try.ntmps5
  go_wp2_with fail
  rw [← hW]
  clear hW
  refine (HZ.out _).mono ?_
  rintro e w2 ⟨rfl, c⟩
  obtain ⟨y0, y1, v0, v1, d⟩ := keep4 (W := W) hs ⟨x0, x1, z0, z1, Below.refl _ _⟩ c
  have hb2 := hb1.trans (c.mono hb1.size)
  have hs2 : w.heap.size + 2 ≤ w2.heap.size := Nat.le_trans hs c.size
  clear x0 x1 z0 z1 c d hb1 hs
  go_wp2_with fail
  refine (HY.out _).mono ?_
  rintro e w3 ⟨rfl, c⟩
  obtain ⟨x0, x1, z0, z1, d⟩ := keep4 (W := w2) hs2 ⟨y0, y1, v0, v1, Below.refl _ _⟩ c
  have hb3 := hb2.trans (c.mono hb2.size)
  have hs3 : w.heap.size + 2 ≤ w3.heap.size := Nat.le_trans hs2 c.size
  clear y0 y1 v0 v1 c d hb2 hs2
  go_wp2_with fail
  go_region_held3 (fun w' => w'.cell? ⟨w.heap.size, 0, none⟩ = some (.bool k1) ∧ w'.cell? ⟨w.heap.size, 1, none⟩ = some (.string t1) ∧ w'.cell? ⟨w.heap.size + 1, 0, none⟩ = some (.bool k2) ∧ w'.cell? ⟨w.heap.size + 1, 1, none⟩ = some (.string t2) ∧ Below w3.heap.size w3 w')
    (first
      | exact ⟨x0, x1, z0, z1, keep_first w3⟩
      | assumption
      | exact keep4 hs3 (by assumption) (by assumption))
    (first
      | (go_at_call 12; with_reducible refine (HT.out _).mono ?_; rintro e w4 ⟨rfl, hb4⟩)
      | (go_at_call 12; with_reducible refine (HU.out _).mono ?_; rintro e w4 ⟨rfl, hb4⟩)
      | (go_at_call 14; with_reducible refine (HS.out _).mono ?_; rintro e w4 ⟨rfl, hb4⟩))
  all_goals
    go_wp2_with fail
    go_region_held3 (fun w' => w'.cell? ⟨w.heap.size, 0, none⟩ = some (.bool k1) ∧ w'.cell? ⟨w.heap.size, 1, none⟩ = some (.string t1) ∧ w'.cell? ⟨w.heap.size + 1, 0, none⟩ = some (.bool k2) ∧ w'.cell? ⟨w.heap.size + 1, 1, none⟩ = some (.string t2) ∧ Below w3.heap.size w3 w')
      (first
        | assumption
        | exact keep4 hs3 (by assumption) (by assumption)
        | exact keep4 hs3 (by assumption) (keep_first _))
      (first
        | (go_at_call 12; with_reducible refine (HT.out _).mono ?_; rintro e w4 ⟨rfl, hb4⟩)
        | (go_at_call 12; with_reducible refine (HU.out _).mono ?_; rintro e w4 ⟨rfl, hb4⟩)
        | (go_at_call 15; with_reducible refine (HI.out _).mono ?_; rintro e w4 ⟨rfl, hb4⟩))
  all_goals
    go_wp2_with fail
    go_ret
    exact ⟨rfl, hb3.trans (Below.mono (and5 (by assumption) : Below w3.heap.size w3 _) hb3.size)⟩

set_option maxRecDepth 20000 in
set_option maxHeartbeats 6400000 in
theorem walkWeakSame (HIm : ∀ (k1 : Bool) (t1 : ByteArray) (k2 : Bool) (t2 : ByteArray) (w : World), t1.size ≤ 2000000 → t2.size ≤ 2000000 → Calls Try.prog 17 #[.agg #[.bool k1, .string t1], .agg #[.bool k2, .string t2]] w fun e w' => e = .returned (.tuple #[.bool (sameB t1 t2), .bool (tagB t1 && tagB t2)]) ∧ Below w.heap.size w w')
    (k1 : Bool) (t1 : ByteArray) (k2 : Bool) (t2 : ByteArray) (w : World) (h1 : t1.size ≤ maxLen) (h2 : t2.size ≤ maxLen) :
    Calls Try.prog 6 #[.agg #[.bool k1, .string t1], .agg #[.bool k2, .string t2]] w fun e w' => e = .returned (.bool true) ∧ Below w.heap.size w w' := by
  obtain ⟨W, hW⟩ : ∃ W, W = (w.alloc (.cells #[.bool k1, .string t1] 28)).alloc (.cells #[.bool k2, .string t2] 28) := ⟨_, rfl⟩
  have hs : w.heap.size + 2 ≤ W.heap.size := by rw [hW]; simp
  have hb1 : Below w.heap.size w W := by rw [hW]; exact ((Below.refl _ _).alloc (Nat.le_refl _) _).alloc (by simp) _
  have x0 : W.cell? ⟨w.heap.size, 0, none⟩ = some (.bool k1) := by rw [hW]; simp [go_sem]
  have x1 : W.cell? ⟨w.heap.size, 1, none⟩ = some (.string t1) := by rw [hW]; simp [go_sem]
  have z0 : W.cell? ⟨w.heap.size + 1, 0, none⟩ = some (.bool k2) := by rw [hW]; simp [go_sem]
  have z1 : W.cell? ⟨w.heap.size + 1, 1, none⟩ = some (.string t2) := by rw [hW]; simp [go_sem]
  by_cases hz : t1.size ≤ 1048576
  rotate_left
  · have HZ : Hid _ := fun wx => sz_no k1 t1 1048576 wx h1 hz (by decide)
    go_enter Try.func6, Try.ntmps6
    go_wp2_with fail
    rw [← hW]
    refine (HZ.out _).mono ?_
    rintro e w2 ⟨rfl, hb2⟩
    go_wp2_with fail
    go_ret
    exact ⟨rfl, hb1.trans (hb2.mono hb1.size)⟩
  have HZ : Hid _ := fun wx => sz_yes k1 t1 1048576 wx hz (by decide)
  have hd : decide (((1048576 : Nat) : Int) - (t1.size : Int) < 0) = false := decide_eq_false (by omega)
  have hd2 : decide ((1048576 : Int) - (t1.size : Int) < 0) = false := decide_eq_false (by omega)
  obtain ⟨L, hL⟩ : ∃ L : Nat, ((1048576 : Nat) : Int) - (t1.size : Int) = (L : Int) := ⟨1048576 - t1.size, by omega⟩
  rw [hL] at HZ hd
  have hL2 : L ≤ 1048576 := by omega
  clear hd2 hL
  by_cases hy : t2.size ≤ L
  rotate_left
  · have HY : Hid _ := fun wx => sz_no k2 t2 L wx h2 hy (by omega)
    go_enter Try.func6, Try.ntmps6
    go_wp2_with fail
    rw [← hW]
    clear hW
    refine (HZ.out _).mono ?_
    rintro e w2 ⟨rfl, c⟩
    have y0 := (c.cell (p := ⟨w.heap.size + 1, 0, none⟩) (by show w.heap.size + 1 < _; omega)).trans z0
    have y1 := (c.cell (p := ⟨w.heap.size + 1, 1, none⟩) (by show w.heap.size + 1 < _; omega)).trans z1
    have hb2 := hb1.trans (c.mono hb1.size)
    have hs2 := c.size
    clear x0 x1 z0 z1 c
    go_wp2_with fail
    refine (HY.out _).mono ?_
    rintro e w3 ⟨rfl, hb3⟩
    go_wp2_with fail
    go_ret
    exact ⟨rfl, hb2.trans (hb3.mono hb2.size)⟩
  have HY : Hid _ := fun wx => sz_yes k2 t2 L wx hy (by omega)
  have hd2 : decide ((L : Int) - (t2.size : Int) < 0) = false := decide_eq_false (by omega)
  have HT : Hid _ := fun wx => toTag_any k1 t1 wx
  have HU : Hid _ := fun wx => toTag_any k2 t2 wx
  have HI : Hid _ := fun wx => HIm k1 t1 k2 t2 wx (by omega) (by omega)
  have HS : Hid _ := fun wx => specWeakSame_any k1 t1 k2 t2 wx (by omega) (by omega)
  clear HIm
  generalize (tagB t1 && tagB t2) = b at HI HS
  generalize sameB t1 t2 = r at HI HS
  have hbb : (b != b) = false := by simp
  have hrr : (r != r) = false := by simp
  go_enter Try.func6, Try.ntmps6
  go_wp2_with fail
  rw [← hW]
  clear hW
  refine (HZ.out _).mono ?_
  rintro e w2 ⟨rfl, c⟩
  obtain ⟨y0, y1, v0, v1, d⟩ := keep4 (W := W) hs ⟨x0, x1, z0, z1, Below.refl _ _⟩ c
  have hb2 := hb1.trans (c.mono hb1.size)
  have hs2 : w.heap.size + 2 ≤ w2.heap.size := Nat.le_trans hs c.size
  clear x0 x1 z0 z1 c d hb1 hs
  go_wp2_with fail
  refine (HY.out _).mono ?_
  rintro e w3 ⟨rfl, c⟩
  obtain ⟨x0, x1, z0, z1, d⟩ := keep4 (W := w2) hs2 ⟨y0, y1, v0, v1, Below.refl _ _⟩ c
  have hb3 := hb2.trans (c.mono hb2.size)
  have hs3 : w.heap.size + 2 ≤ w3.heap.size := Nat.le_trans hs2 c.size
  clear y0 y1 v0 v1 c d hb2 hs2
  go_wp2_with fail
  go_region_held3 (fun w' => w'.cell? ⟨w.heap.size, 0, none⟩ = some (.bool k1) ∧ w'.cell? ⟨w.heap.size, 1, none⟩ = some (.string t1) ∧ w'.cell? ⟨w.heap.size + 1, 0, none⟩ = some (.bool k2) ∧ w'.cell? ⟨w.heap.size + 1, 1, none⟩ = some (.string t2) ∧ Below w3.heap.size w3 w')
    (first
      | exact ⟨x0, x1, z0, z1, keep_first w3⟩
      | assumption
      | exact keep4 hs3 (by assumption) (by assumption))
    (first
      | (go_at_call 12; with_reducible refine (HT.out _).mono ?_; rintro e w4 ⟨rfl, hb4⟩)
      | (go_at_call 12; with_reducible refine (HU.out _).mono ?_; rintro e w4 ⟨rfl, hb4⟩)
      | (go_at_call 16; with_reducible refine (HS.out _).mono ?_; rintro e w4 ⟨rfl, hb4⟩))
  all_goals
    go_wp2_with fail
    go_region_held3 (fun w' => w'.cell? ⟨w.heap.size, 0, none⟩ = some (.bool k1) ∧ w'.cell? ⟨w.heap.size, 1, none⟩ = some (.string t1) ∧ w'.cell? ⟨w.heap.size + 1, 0, none⟩ = some (.bool k2) ∧ w'.cell? ⟨w.heap.size + 1, 1, none⟩ = some (.string t2) ∧ Below w3.heap.size w3 w')
      (first
        | assumption
        | exact keep4 hs3 (by assumption) (by assumption)
        | exact keep4 hs3 (by assumption) (keep_first _))
      (first
        | (go_at_call 12; with_reducible refine (HT.out _).mono ?_; rintro e w4 ⟨rfl, hb4⟩)
        | (go_at_call 12; with_reducible refine (HU.out _).mono ?_; rintro e w4 ⟨rfl, hb4⟩)
        | (go_at_call 17; with_reducible refine (HI.out _).mono ?_; rintro e w4 ⟨rfl, hb4⟩))
  all_goals
    go_wp2_with fail
    go_ret
    exact ⟨rfl, hb3.trans (Below.mono (and5 (by assumption) : Below w3.heap.size w3 _) hb3.size)⟩

end Go.Proofs.Ytgidmoncocbfiaa.Tgw
