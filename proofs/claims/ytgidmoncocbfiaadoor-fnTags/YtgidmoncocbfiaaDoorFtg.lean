/-
  Walk: the law FnTags.
-/
import Derived.Test.YtgidmoncocbfiaaDoorDth
import Derived.Test.YtgidmoncocbfiaaDoorTgg
import Derived.Test.YtgidmoncocbfiaaDoorTgz
import Derived.Test.YtgidmoncocbfiaaDoorTgi
namespace Go.Proofs.YtgidmoncocbfiaaDoor.Ftg
open Go.RowKit
open Go.Proofs.YtgidmoncocbfiaaDoor.Tga Go.Proofs.YtgidmoncocbfiaaDoor.Tgb Go.Proofs.YtgidmoncocbfiaaDoor.Tgx
open Go.Proofs.YtgidmoncocbfiaaDoor.Cur (CodeArg drawTags_any)

/-- The list of two tags, told and read. -/
theorem two_read (k1 k2 : Bool) {t1 t2 : ByteArray} (h1 : tagB t1 = true) (h2 : tagB t2 = true) (w : World) :
    Calls Tryd.prog 12 #[.string ((tagT k1 t1 ++ ⟨#[44, 32]⟩) ++ tagT k2 t2)] w fun e w' => (∃ g cap, e = .returned (.tuple #[.slice (some ⟨g, 0, none⟩) 2 cap, .bool false, .bool true]) ∧ g < w'.heap.size ∧
      w'.cell? ⟨g, 0, none⟩ = some (.bool k1) ∧ w'.cell? ⟨g, 1, none⟩ = some (.string t1) ∧ w'.cell? ⟨g, 2, none⟩ = some (.bool k2) ∧ w'.cell? ⟨g, 3, none⟩ = some (.string t2)) ∧ Below w.heap.size w w' := by
  have hz : ((tagT k1 t1 ++ ⟨#[44, 32]⟩) ++ tagT k2 t2).size ≤ 2000000 := by
    have c2 : (⟨#[44, 32]⟩ : ByteArray).size = 2 := rfl
    rw [ByteArray.size_append, ByteArray.size_append, c2]
    have a := (tagT_size k1 h1).2
    have b := (tagT_size k2 h2).2
    omega
  obtain ⟨hk, ht⟩ := two_kind k1 k2 h1 h2
  refine (implTags_any _ w hz).mono ?_
  rintro e w' ⟨⟨v, rfl, hv⟩, hb⟩
  rw [ht] at hv
  refine ⟨?_, hb⟩
  obtain ⟨a, cap, rfl, hg⟩ := gv_of hv
  rcases hg with hg | ⟨g, rfl, _, _, h1, _, h3⟩
  · cases hg
  · exact ⟨g, cap, by unfold oneR okR; rw [hk]; rfl, h1, (h3 0 _ rfl).1, (h3 0 _ rfl).2, (h3 1 _ rfl).1, (h3 1 _ rfl).2⟩

set_option maxRecDepth 20000 in
set_option maxHeartbeats 3200000 in
theorem walk (v : Value) (n : Nat) (w : World) (hA : CodeArg w v n) (hn : n ≤ 140737488355328) :
    Calls Tryd.prog 3 #[v] w fun e w' => e = .returned (.bool true) ∧ Below w.heap.size w w' := by
  have hA0 := hA
  obtain ⟨o, cap, rfl⟩ := hA0.form
  clear hA0
  by_cases hz : 1048576 < n
  · have hd : decide (1048576 < (n : Int)) = true := decide_eq_true (by omega)
    go_enter Tryd.func3, Tryd.ntmps3
    go_wp2_with fail
    go_ret
    exact ⟨rfl, Below.refl _ _⟩
  have hd : decide (1048576 < (n : Int)) = false := decide_eq_false (by omega)
  have HD : Hid _ := fun (_ : Unit) => drawTags_any (.slice o n cap) n w hA (by omega)
  clear hA
  go_enter Tryd.func3, Tryd.ntmps3
  go_wp2_with fail
  refine (HD.out ()).mono ?_
  rintro e w1 ⟨k1, t1, k2, t2, rfl, ⟨hz1, hz2⟩, hb1⟩
  clear HD hd hz
  obtain ⟨W, hW⟩ : ∃ W, W = (w1.alloc (.cells #[.bool k1, .string t1] 24)).alloc (.cells #[.bool k2, .string t2] 24) := ⟨_, rfl⟩
  obtain ⟨A, hA⟩ : ∃ A, A = w1.heap.size := ⟨_, rfl⟩
  have hn_0 : A + 2 ≤ W.heap.size := by rw [hW, hA]; simp
  have HB_0 : Hid (Below w.heap.size w W) := by show Below _ _ _; rw [hW]; exact (hb1.alloc hb1.size _).alloc (by have := hb1.size; simp; omega) _
  have a0_0 : W.cell? ⟨A, 0, none⟩ = some (.bool k1) := by rw [hW, hA]; simp [go_sem]
  have a1_0 : W.cell? ⟨A, 1, none⟩ = some (.string t1) := by rw [hW, hA]; simp [go_sem]
  have b0_0 : W.cell? ⟨A + 1, 0, none⟩ = some (.bool k2) := by rw [hW, hA]; simp [go_sem]
  have b1_0 : W.cell? ⟨A + 1, 1, none⟩ = some (.string t2) := by rw [hW, hA]; simp [go_sem]
  have HIS : Hid _ := fun wx => Tgi.implStrongSame_any k1 t1 k2 t2 wx (by omega) (by omega)
  have HSS : Hid _ := fun wx => specStrongSame_any k1 t1 k2 t2 wx (by omega) (by omega)
  have HIW : Hid _ := fun wx => Tgi.implWeakSame_any k1 t1 k2 t2 wx (by omega) (by omega)
  have HSW : Hid _ := fun wx => specWeakSame_any k1 t1 k2 t2 wx (by omega) (by omega)
  have HIS2 : Hid _ := fun wx => Tgi.implStrongSame_any k2 t2 k1 t1 wx (by omega) (by omega)
  have HIW2 : Hid _ := fun wx => Tgi.implWeakSame_any k2 t2 k1 t1 wx (by omega) (by omega)
  have HIS1 : Hid _ := fun wx => Tgi.implStrongSame_any k1 t1 k1 t1 wx (by omega) (by omega)
  have HT1 : Hid _ := fun wx => Tgi.implTagText_any k1 t1 wx (by omega)
  have HT2 : Hid _ := fun wx => Tgi.implTagText_any k2 t2 wx (by omega)
  rw [strong_comm k2 t2 k1 t1] at HIS2
  rw [same_comm t2 t1] at HIW2
  rw [Bool.and_comm (tagB t2) (tagB t1)] at HIS2 HIW2
  rw [Bool.and_self] at HIS1
  by_cases hg : tagB t1 = true ∧ tagB t2 = true
  rotate_left
  · have hg2 : (tagB t1 && tagB t2) = false := by
      cases h1 : tagB t1
      · rfl
      · cases h2 : tagB t2
        · rfl
        · exact absurd ⟨h1, h2⟩ hg
    have hS : strongB k1 t1 k2 t2 = false := by unfold strongB; rw [hg2]; simp
    have hY : sameB t1 t2 = false := by unfold sameB; rw [hg2]; simp
    rw [hg2, hS] at HIS HSS
    rw [hg2, hY] at HIW HSW
    clear hg hg2 hS hY HIS2 HIW2 HIS1 HT1 HT2 hz1 hz2
    go_wp2_with fail
    rw [← hW, ← hA]
    clear hW hA hb1
    refine (HIS.out _).mono ?_
    rintro e x1 ⟨rfl, c⟩
    have a0_1 := (c.cell (p := ⟨A, 0, none⟩) (by show A < _; omega)).trans a0_0
    have a1_1 := (c.cell (p := ⟨A, 1, none⟩) (by show A < _; omega)).trans a1_0
    have b0_1 := (c.cell (p := ⟨A + 1, 0, none⟩) (by show A + 1 < _; omega)).trans b0_0
    have b1_1 := (c.cell (p := ⟨A + 1, 1, none⟩) (by show A + 1 < _; omega)).trans b1_0
    have HB_1 : Hid (Below w.heap.size w x1) := HB_0.out.trans (c.mono HB_0.out.size)
    have hn_1 : A + 2 ≤ x1.heap.size := Nat.le_trans hn_0 c.size
    clear c a0_0 a1_0 b0_0 b1_0 HB_0 hn_0
    go_wp2_with fail
    refine (HSS.out _).mono ?_
    rintro e x2 ⟨rfl, c⟩
    have a0_2 := (c.cell (p := ⟨A, 0, none⟩) (by show A < _; omega)).trans a0_1
    have a1_2 := (c.cell (p := ⟨A, 1, none⟩) (by show A < _; omega)).trans a1_1
    have b0_2 := (c.cell (p := ⟨A + 1, 0, none⟩) (by show A + 1 < _; omega)).trans b0_1
    have b1_2 := (c.cell (p := ⟨A + 1, 1, none⟩) (by show A + 1 < _; omega)).trans b1_1
    have HB_2 : Hid (Below w.heap.size w x2) := HB_1.out.trans (c.mono HB_1.out.size)
    have hn_2 : A + 2 ≤ x2.heap.size := Nat.le_trans hn_1 c.size
    clear c a0_1 a1_1 b0_1 b1_1 HB_1 hn_1
    go_wp2_with fail
    refine (HIW.out _).mono ?_
    rintro e x3 ⟨rfl, c⟩
    have a0_3 := (c.cell (p := ⟨A, 0, none⟩) (by show A < _; omega)).trans a0_2
    have a1_3 := (c.cell (p := ⟨A, 1, none⟩) (by show A < _; omega)).trans a1_2
    have b0_3 := (c.cell (p := ⟨A + 1, 0, none⟩) (by show A + 1 < _; omega)).trans b0_2
    have b1_3 := (c.cell (p := ⟨A + 1, 1, none⟩) (by show A + 1 < _; omega)).trans b1_2
    have HB_3 : Hid (Below w.heap.size w x3) := HB_2.out.trans (c.mono HB_2.out.size)
    have hn_3 : A + 2 ≤ x3.heap.size := Nat.le_trans hn_2 c.size
    clear c a0_2 a1_2 b0_2 b1_2 HB_2 hn_2
    go_wp2_with fail
    refine (HSW.out _).mono ?_
    rintro e x4 ⟨rfl, c⟩
    have a0_4 := (c.cell (p := ⟨A, 0, none⟩) (by show A < _; omega)).trans a0_3
    have a1_4 := (c.cell (p := ⟨A, 1, none⟩) (by show A < _; omega)).trans a1_3
    have b0_4 := (c.cell (p := ⟨A + 1, 0, none⟩) (by show A + 1 < _; omega)).trans b0_3
    have b1_4 := (c.cell (p := ⟨A + 1, 1, none⟩) (by show A + 1 < _; omega)).trans b1_3
    have HB_4 : Hid (Below w.heap.size w x4) := HB_3.out.trans (c.mono HB_3.out.size)
    have hn_4 : A + 2 ≤ x4.heap.size := Nat.le_trans hn_3 c.size
    clear c a0_3 a1_3 b0_3 b1_3 HB_3 hn_3
    go_wp2_with fail
    go_ret
    exact ⟨rfl, HB_4.out⟩
  obtain ⟨g1, g2⟩ := hg
  have hself := strong_self k1 g1
  have himp : strongB k1 t1 k2 t2 = true → sameB t1 t2 = true := strong_weak
  have HRd : Hid _ := fun wx => Tgi.implReadTag_any (tagT k1 t1) wx (by have := (tagT_size k1 g1).2; omega)
  have HTL : Hid _ := fun wx => two_read k1 k2 g1 g2 wx
  have HE1 := eq_tag k1 k1 t1 t1
  have HE2 := eq_tag k2 k2 t2 t2
  rw [read_tag k1 g1] at HRd
  unfold tagS at HT1 HT2
  rw [g1, if_pos rfl] at HT1
  rw [g2, if_pos rfl] at HT2
  rw [g1, g2, Bool.and_self] at HIS HSS HIW HSW HIS2 HIW2
  rw [g1, hself] at HIS1
  simp only [tagV] at HRd
  have u1 := (tagT_size k1 g1).2
  have u2 := (tagT_size k2 g2).2
  have c2 : (⟨#[44, 32]⟩ : ByteArray).size = 2 := rfl
  clear g1 g2 hself
  generalize strongB k1 t1 k2 t2 = S at HIS HSS HIS2 himp
  generalize sameB t1 t2 = Y at HIW HSW HIW2 himp
  generalize tagT k1 t1 = X1 at HRd HT1 HTL u1
  generalize tagT k2 t2 = X2 at HT2 HTL u2
  have k3 : ¬ 9223372036854775807 < X1.size + 2 := by omega
  have k4 : ¬ 9223372036854775807 < X1.size + 2 + X2.size := by omega
  have HSY : Hid ((!S || Y) = true) := by show _ = true; cases S <;> cases Y <;> simp at himp ⊢
  clear himp hz1 hz2 u1 u2
  go_wp2_with fail
  rw [← hW, ← hA]
  clear hW hA hb1
  have e1 : (S != S) = false := by simp
  have e2 : (Y != Y) = false := by simp
  refine (HIS.out _).mono ?_
  rintro e x1 ⟨rfl, c⟩
  have a0_1 := (c.cell (p := ⟨A, 0, none⟩) (by show A < _; omega)).trans a0_0
  have a1_1 := (c.cell (p := ⟨A, 1, none⟩) (by show A < _; omega)).trans a1_0
  have b0_1 := (c.cell (p := ⟨A + 1, 0, none⟩) (by show A + 1 < _; omega)).trans b0_0
  have b1_1 := (c.cell (p := ⟨A + 1, 1, none⟩) (by show A + 1 < _; omega)).trans b1_0
  have HB_1 : Hid (Below w.heap.size w x1) := HB_0.out.trans (c.mono HB_0.out.size)
  have hn_1 : A + 2 ≤ x1.heap.size := Nat.le_trans hn_0 c.size
  clear c a0_0 a1_0 b0_0 b1_0 HB_0 hn_0
  go_wp2_with fail
  refine (HSS.out _).mono ?_
  rintro e x2 ⟨rfl, c⟩
  have a0_2 := (c.cell (p := ⟨A, 0, none⟩) (by show A < _; omega)).trans a0_1
  have a1_2 := (c.cell (p := ⟨A, 1, none⟩) (by show A < _; omega)).trans a1_1
  have b0_2 := (c.cell (p := ⟨A + 1, 0, none⟩) (by show A + 1 < _; omega)).trans b0_1
  have b1_2 := (c.cell (p := ⟨A + 1, 1, none⟩) (by show A + 1 < _; omega)).trans b1_1
  have HB_2 : Hid (Below w.heap.size w x2) := HB_1.out.trans (c.mono HB_1.out.size)
  have hn_2 : A + 2 ≤ x2.heap.size := Nat.le_trans hn_1 c.size
  clear c a0_1 a1_1 b0_1 b1_1 HB_1 hn_1
  go_wp2_with fail
  refine (HIW.out _).mono ?_
  rintro e x3 ⟨rfl, c⟩
  have a0_3 := (c.cell (p := ⟨A, 0, none⟩) (by show A < _; omega)).trans a0_2
  have a1_3 := (c.cell (p := ⟨A, 1, none⟩) (by show A < _; omega)).trans a1_2
  have b0_3 := (c.cell (p := ⟨A + 1, 0, none⟩) (by show A + 1 < _; omega)).trans b0_2
  have b1_3 := (c.cell (p := ⟨A + 1, 1, none⟩) (by show A + 1 < _; omega)).trans b1_2
  have HB_3 : Hid (Below w.heap.size w x3) := HB_2.out.trans (c.mono HB_2.out.size)
  have hn_3 : A + 2 ≤ x3.heap.size := Nat.le_trans hn_2 c.size
  clear c a0_2 a1_2 b0_2 b1_2 HB_2 hn_2
  go_wp2_with fail
  refine (HSW.out _).mono ?_
  rintro e x4 ⟨rfl, c⟩
  have a0_4 := (c.cell (p := ⟨A, 0, none⟩) (by show A < _; omega)).trans a0_3
  have a1_4 := (c.cell (p := ⟨A, 1, none⟩) (by show A < _; omega)).trans a1_3
  have b0_4 := (c.cell (p := ⟨A + 1, 0, none⟩) (by show A + 1 < _; omega)).trans b0_3
  have b1_4 := (c.cell (p := ⟨A + 1, 1, none⟩) (by show A + 1 < _; omega)).trans b1_3
  have HB_4 : Hid (Below w.heap.size w x4) := HB_3.out.trans (c.mono HB_3.out.size)
  have hn_4 : A + 2 ≤ x4.heap.size := Nat.le_trans hn_3 c.size
  clear c a0_3 a1_3 b0_3 b1_3 HB_3 hn_3
  go_wp2_with fail
  refine (HIS2.out _).mono ?_
  rintro e x5 ⟨rfl, c⟩
  have a0_5 := (c.cell (p := ⟨A, 0, none⟩) (by show A < _; omega)).trans a0_4
  have a1_5 := (c.cell (p := ⟨A, 1, none⟩) (by show A < _; omega)).trans a1_4
  have b0_5 := (c.cell (p := ⟨A + 1, 0, none⟩) (by show A + 1 < _; omega)).trans b0_4
  have b1_5 := (c.cell (p := ⟨A + 1, 1, none⟩) (by show A + 1 < _; omega)).trans b1_4
  have HB_5 : Hid (Below w.heap.size w x5) := HB_4.out.trans (c.mono HB_4.out.size)
  have hn_5 : A + 2 ≤ x5.heap.size := Nat.le_trans hn_4 c.size
  clear c a0_4 a1_4 b0_4 b1_4 HB_4 hn_4
  go_wp2_with fail
  refine (HIW2.out _).mono ?_
  rintro e x6 ⟨rfl, c⟩
  have a0_6 := (c.cell (p := ⟨A, 0, none⟩) (by show A < _; omega)).trans a0_5
  have a1_6 := (c.cell (p := ⟨A, 1, none⟩) (by show A < _; omega)).trans a1_5
  have b0_6 := (c.cell (p := ⟨A + 1, 0, none⟩) (by show A + 1 < _; omega)).trans b0_5
  have b1_6 := (c.cell (p := ⟨A + 1, 1, none⟩) (by show A + 1 < _; omega)).trans b1_5
  have HB_6 : Hid (Below w.heap.size w x6) := HB_5.out.trans (c.mono HB_5.out.size)
  have hn_6 : A + 2 ≤ x6.heap.size := Nat.le_trans hn_5 c.size
  clear c a0_5 a1_5 b0_5 b1_5 HB_5 hn_5
  go_wp2_with fail
  refine (HT1.out _).mono ?_
  rintro e x7 ⟨rfl, c⟩
  have a0_7 := (c.cell (p := ⟨A, 0, none⟩) (by show A < _; omega)).trans a0_6
  have a1_7 := (c.cell (p := ⟨A, 1, none⟩) (by show A < _; omega)).trans a1_6
  have b0_7 := (c.cell (p := ⟨A + 1, 0, none⟩) (by show A + 1 < _; omega)).trans b0_6
  have b1_7 := (c.cell (p := ⟨A + 1, 1, none⟩) (by show A + 1 < _; omega)).trans b1_6
  have HB_7 : Hid (Below w.heap.size w x7) := HB_6.out.trans (c.mono HB_6.out.size)
  have hn_7 : A + 2 ≤ x7.heap.size := Nat.le_trans hn_6 c.size
  clear c a0_6 a1_6 b0_6 b1_6 HB_6 hn_6
  go_wp2_with fail
  refine (HRd.out _).mono ?_
  rintro e x8 ⟨rfl, c⟩
  have a0_8 := (c.cell (p := ⟨A, 0, none⟩) (by show A < _; omega)).trans a0_7
  have a1_8 := (c.cell (p := ⟨A, 1, none⟩) (by show A < _; omega)).trans a1_7
  have b0_8 := (c.cell (p := ⟨A + 1, 0, none⟩) (by show A + 1 < _; omega)).trans b0_7
  have b1_8 := (c.cell (p := ⟨A + 1, 1, none⟩) (by show A + 1 < _; omega)).trans b1_7
  have HB_8 : Hid (Below w.heap.size w x8) := HB_7.out.trans (c.mono HB_7.out.size)
  have hn_8 : A + 2 ≤ x8.heap.size := Nat.le_trans hn_7 c.size
  clear c a0_7 a1_7 b0_7 b1_7 HB_7 hn_7
  have f0 : (x8.alloc (.cells #[.bool k1, .string t1] 24)).cell? ⟨A, 0, none⟩ = some (.bool k1) := by rw [World.cell?_alloc_past _ _ _ (by omega)]; exact a0_8
  have f1 : (x8.alloc (.cells #[.bool k1, .string t1] 24)).cell? ⟨A, 1, none⟩ = some (.string t1) := by rw [World.cell?_alloc_past _ _ _ (by omega)]; exact a1_8
  have f2 : (x8.alloc (.cells #[.bool k1, .string t1] 24)).cell? ⟨A + 1, 0, none⟩ = some (.bool k2) := by rw [World.cell?_alloc_past _ _ _ (by omega)]; exact b0_8
  have f3 : (x8.alloc (.cells #[.bool k1, .string t1] 24)).cell? ⟨A + 1, 1, none⟩ = some (.string t2) := by rw [World.cell?_alloc_past _ _ _ (by omega)]; exact b1_8
  obtain ⟨W9, hW9⟩ : ∃ W, W = x8.alloc (.cells #[.bool k1, .string t1] 24) := ⟨_, rfl⟩
  obtain ⟨C, hC⟩ : ∃ C, C = x8.heap.size := ⟨_, rfl⟩
  have a0_9 : W9.cell? ⟨A, 0, none⟩ = some (.bool k1) := by rw [hW9]; exact f0
  have a1_9 : W9.cell? ⟨A, 1, none⟩ = some (.string t1) := by rw [hW9]; exact f1
  have b0_9 : W9.cell? ⟨A + 1, 0, none⟩ = some (.bool k2) := by rw [hW9]; exact f2
  have b1_9 : W9.cell? ⟨A + 1, 1, none⟩ = some (.string t2) := by rw [hW9]; exact f3
  have c0_9 : W9.cell? ⟨C, 0, none⟩ = some (.bool k1) := by rw [hW9, hC]; simp [go_sem]
  have c1_9 : W9.cell? ⟨C, 1, none⟩ = some (.string t1) := by rw [hW9, hC]; simp [go_sem]
  have hn_9 : A + 2 ≤ C ∧ C < W9.heap.size := by rw [hW9, hC]; exact ⟨hn_8, by simp⟩
  have HB_9 : Hid (Below w.heap.size w W9) := by show Below _ _ _; rw [hW9]; exact HB_8.out.alloc HB_8.out.size _
  go_wp2_with fail
  rw [← hW9, ← hC]
  clear hW9 hC f0 f1 f2 f3 a0_8 a1_8 b0_8 b1_8 HB_8 hn_8
  refine (HIS1.out _).mono ?_
  rintro e x10 ⟨rfl, c⟩
  have a0_10 := (c.cell (p := ⟨A, 0, none⟩) (by show A < _; omega)).trans a0_9
  have a1_10 := (c.cell (p := ⟨A, 1, none⟩) (by show A < _; omega)).trans a1_9
  have b0_10 := (c.cell (p := ⟨A + 1, 0, none⟩) (by show A + 1 < _; omega)).trans b0_9
  have b1_10 := (c.cell (p := ⟨A + 1, 1, none⟩) (by show A + 1 < _; omega)).trans b1_9
  have c0_10 := (c.cell (p := ⟨C, 0, none⟩) (by show C < _; omega)).trans c0_9
  have c1_10 := (c.cell (p := ⟨C, 1, none⟩) (by show C < _; omega)).trans c1_9
  have HB_10 : Hid (Below w.heap.size w x10) := HB_9.out.trans (c.mono HB_9.out.size)
  have hn_10 : A + 2 ≤ C ∧ C < x10.heap.size := ⟨hn_9.1, Nat.lt_of_lt_of_le hn_9.2 c.size⟩
  clear c a0_9 a1_9 b0_9 b1_9 c0_9 c1_9 HB_9 hn_9
  go_wp2_with fail
  refine (HT2.out _).mono ?_
  rintro e x11 ⟨rfl, c⟩
  have a0_11 := (c.cell (p := ⟨A, 0, none⟩) (by show A < _; omega)).trans a0_10
  have a1_11 := (c.cell (p := ⟨A, 1, none⟩) (by show A < _; omega)).trans a1_10
  have b0_11 := (c.cell (p := ⟨A + 1, 0, none⟩) (by show A + 1 < _; omega)).trans b0_10
  have b1_11 := (c.cell (p := ⟨A + 1, 1, none⟩) (by show A + 1 < _; omega)).trans b1_10
  have c0_11 := (c.cell (p := ⟨C, 0, none⟩) (by show C < _; omega)).trans c0_10
  have c1_11 := (c.cell (p := ⟨C, 1, none⟩) (by show C < _; omega)).trans c1_10
  have HB_11 : Hid (Below w.heap.size w x11) := HB_10.out.trans (c.mono HB_10.out.size)
  have hn_11 : A + 2 ≤ C ∧ C < x11.heap.size := ⟨hn_10.1, Nat.lt_of_lt_of_le hn_10.2 c.size⟩
  clear c a0_10 a1_10 b0_10 b1_10 c0_10 c1_10 HB_10 hn_10
  go_wp2_with fail
  refine (HTL.out _).mono ?_
  rintro e x12 ⟨⟨g, cp, rfl, hgl, g0, g1, g2, g3⟩, c⟩
  have a0_12 := (c.cell (p := ⟨A, 0, none⟩) (by show A < _; omega)).trans a0_11
  have a1_12 := (c.cell (p := ⟨A, 1, none⟩) (by show A < _; omega)).trans a1_11
  have b0_12 := (c.cell (p := ⟨A + 1, 0, none⟩) (by show A + 1 < _; omega)).trans b0_11
  have b1_12 := (c.cell (p := ⟨A + 1, 1, none⟩) (by show A + 1 < _; omega)).trans b1_11
  have c0_12 := (c.cell (p := ⟨C, 0, none⟩) (by show C < _; omega)).trans c0_11
  have c1_12 := (c.cell (p := ⟨C, 1, none⟩) (by show C < _; omega)).trans c1_11
  have HB_12 : Hid (Below w.heap.size w x12) := HB_11.out.trans (c.mono HB_11.out.size)
  clear c a0_11 a1_11 b0_11 b1_11 c0_11 c1_11 HB_11 hn_11
  clear HIS1 HIS HSS HIS2 HIW HSW HIW2 HT1 HRd HT2 HTL e1 e2 k3 k4 c2
  have ek1 : (k1 == k1) = true := by simp
  have ek2 : (k2 == k2) = true := by simp
  have et1 : (t1.toList == t1.toList) = true := by simp
  have et2 : (t2.toList == t2.toList) = true := by simp
  have ek3 : ((!k1) == (!k1)) = true := by simp
  rw [ek1, et1] at HE1
  rw [ek2, et2] at HE2
  have HF : Hid (∀ m, Below w.heap.size w (x12.drewN m)) := fun m => HB_12.out.trans ((Mrk.below_drewN x12 m).mono HB_12.out.size)
  cases S
  all_goals cases Y
  case true.false => exact absurd HSY.out (by decide)
  all_goals
    clear HSY
    go_wp2_with fail
    go_quiet (fail)
    go_wp2_with fail
    go_ret
    exact ⟨rfl, HF.out _⟩

end Go.Proofs.YtgidmoncocbfiaaDoor.Ftg
