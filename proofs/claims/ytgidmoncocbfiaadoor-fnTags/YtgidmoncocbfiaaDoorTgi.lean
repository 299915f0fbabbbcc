/-
  Walks: impl.isTag, TagText, WeakSame, StrongSame.
-/
import Derived.Test.YtgidmoncocbfiaaDoorTgp
import Derived.Test.YtgidmoncocbfiaaDoorShelf
import Derived.Deep.RegionHeld3
namespace Go.Proofs.YtgidmoncocbfiaaDoor.Tgi
open Go.RowKit
open Go.Proofs.YtgidmoncocbfiaaDoor.Fbs
open Go.Proofs.YtgidmoncocbfiaaDoor.Tga
open Go.Proofs.YtgidmoncocbfiaaDoor.Tgp

theorem any_call (t : ByteArray) (w : World) (ht : t.size ≤ 2000000) (hp : plainB t.data.toList = true) :
    Calls Tryd.prog 33 #[.string t, .string ⟨#[32, 34, 92]⟩] w fun e w' => e = .returned (.bool (Lib.containsAny t.data.toList [32, 34, 92])) ∧ Below w.heap.size w w' :=
  Tryd.strings_ContainsAny_laid t ⟨#[32, 34, 92]⟩ w (by omega) (by decide) (plain_ascii hp) (by
    intro j b hb
    have := List.mem_of_getElem? hb
    simp at this
    rcases this with rfl | rfl | rfl <;> decide)

set_option maxRecDepth 20000 in
set_option maxHeartbeats 1600000 in
theorem isTag_any (k : Bool) (t : ByteArray) (w : World) (ht : t.size ≤ 2000000) :
    Calls Tryd.prog 19 #[.agg #[.bool k, .string t]] w fun e w' => e = .returned (.bool (tagB t)) ∧ Below w.heap.size w w' := by
  have HP : Hid _ := fun wx => isPlain_any t wx ht
  have HR : Hid (tagB t = (decide (t.size ≤ 60) && (plainB t.data.toList && !Lib.containsAny t.data.toList [32, 34, 92]))) := tag_told t
  generalize tagB t = R at HR ⊢
  obtain ⟨W, hW⟩ : ∃ W, W = w.alloc (.cells #[.bool k, .string t] 24) := ⟨_, rfl⟩
  have hn : w.heap.size < W.heap.size := by rw [hW]; simp
  have HB : Hid (Below w.heap.size w W) := by rw [hW]; exact (Below.refl _ _).alloc (Nat.le_refl _) _
  have x1 : W.cell? ⟨w.heap.size, 1, none⟩ = some (.string t) := by rw [hW]; simp [go_sem]
  by_cases hz : t.size ≤ 60
  rotate_left
  · have hd : decide ((t.size : Int) ≤ 60) = false := decide_eq_false (by omega)
    obtain rfl : R = false := by rw [HR.out, decide_eq_false hz]; rfl
    clear HR HP
    go_enter Tryd.func19, Tryd.ntmps19
    go_wp2_with fail
    try rw [← hW]
    go_ret
    exact ⟨rfl, HB.out⟩
  have hd : decide ((t.size : Int) ≤ 60) = true := decide_eq_true (by omega)
  cases hp : plainB t.data.toList
  · obtain rfl : R = false := by rw [HR.out, hp]; simp
    rw [hp] at HP
    clear HR hp
    go_enter Tryd.func19, Tryd.ntmps19
    go_wp2_with (go_at_call 32; refine (HP.out _).mono ?_; rintro e w2 ⟨rfl, rfl⟩)
    try rw [← hW]
    go_ret
    exact ⟨rfl, HB.out⟩
  · have HC : Hid _ := fun wx => any_call t wx ht hp
    obtain rfl : R = !Lib.containsAny t.data.toList [32, 34, 92] := by rw [HR.out, hp, decide_eq_true hz]; simp
    rw [hp] at HP
    clear HR hp
    generalize Lib.containsAny t.data.toList [32, 34, 92] = c at HC ⊢
    go_enter Tryd.func19, Tryd.ntmps19
    go_wp2_with fail
    rw [← hW]
    clear hW
    refine (HP.out _).mono ?_
    rintro e w2 ⟨rfl, rfl⟩
    go_wp2_with fail
    refine (HC.out _).mono ?_
    rintro e w3 ⟨rfl, hb3⟩
    go_wp2_with fail
    go_ret
    exact ⟨rfl, HB.out.trans (hb3.mono HB.out.size)⟩

set_option maxHeartbeats 1600000 in
theorem implTagText_any (k : Bool) (t : ByteArray) (w : World) (ht : t.size ≤ 2000000) :
    Calls Tryd.prog 10 #[.agg #[.bool k, .string t]] w fun e w' => e = .returned (.tuple #[.string (tagS k t), .bool (tagB t)]) ∧ Below w.heap.size w w' := by
  have HG : Hid _ := fun wx => isTag_any k t wx ht
  obtain ⟨W, hW⟩ : ∃ W, W = w.alloc (.cells #[.bool k, .string t] 24) := ⟨_, rfl⟩
  have hn : w.heap.size < W.heap.size := by rw [hW]; simp
  have hb1 : Below w.heap.size w W := by rw [hW]; exact (Below.refl _ _).alloc (Nat.le_refl _) _
  have x0 : W.cell? ⟨w.heap.size, 0, none⟩ = some (.bool k) := by rw [hW]; simp [go_sem]
  have x1 : W.cell? ⟨w.heap.size, 1, none⟩ = some (.string t) := by rw [hW]; simp [go_sem]
  have HS : Hid (tagS k t = if tagB t then tagT k t else ⟨#[]⟩) := rfl
  generalize tagS k t = S at HS ⊢
  have c1 : (⟨#[34]⟩ : ByteArray).size = 1 := rfl
  have c2 : (⟨#[87, 47]⟩ : ByteArray).size = 2 := rfl
  have k1 : ¬ 9223372036854775807 < 1 + t.size := by omega
  have k2 : ¬ 9223372036854775807 < 1 + t.size + 1 := by omega
  have k3 : ¬ 9223372036854775807 < 2 + (1 + t.size + 1) := by omega
  cases hB : tagB t
  all_goals
    rw [hB] at HS HG
    clear hB
  · obtain rfl : S = ⟨#[]⟩ := HS.out
    clear HS k1 k2 k3
    go_enter Tryd.func10, Tryd.ntmps10
    go_wp2_with fail
    rw [← hW]
    refine (HG.out _).mono ?_
    rintro e w2 ⟨rfl, hb2⟩
    go_wp2_with fail
    go_ret2
    exact ⟨rfl, hb1.trans (hb2.mono hb1.size)⟩
  · obtain rfl : S = tagT k t := HS.out
    clear HS
    have HT : Hid (tagT k t = if k then (⟨#[87, 47]⟩ : ByteArray) ++ ((⟨#[34]⟩ : ByteArray) ++ t ++ ⟨#[34]⟩) else (⟨#[34]⟩ : ByteArray) ++ t ++ ⟨#[34]⟩) := by
      show _ = _
      unfold tagT
      cases k
      · rfl
      · apply ByteArray.ext; apply Array.ext'; simp
    generalize tagT k t = T at HT ⊢
    cases k
    all_goals
      go_enter Tryd.func10, Tryd.ntmps10
      go_wp2_with fail
      rw [← hW]
      refine (HG.out _).mono ?_
      rintro e w2 ⟨rfl, hb2⟩
      have y0 := (hb2.cell (p := ⟨w.heap.size, 0, none⟩) hn).trans x0
      have y1 := (hb2.cell (p := ⟨w.heap.size, 1, none⟩) hn).trans x1
      have hb3 := hb1.trans (hb2.mono hb1.size)
      clear x0 x1 hb2 hW hn hb1
      go_wp2_with fail
      go_ret2
      exact ⟨by rw [HT.out]; rfl, hb3⟩

set_option maxRecDepth 20000 in
set_option maxHeartbeats 3200000 in
theorem implWeakSame_any (k1 : Bool) (t1 : ByteArray) (k2 : Bool) (t2 : ByteArray) (w : World) (h1 : t1.size ≤ 2000000) (h2 : t2.size ≤ 2000000) :
    Calls Tryd.prog 8 #[.agg #[.bool k1, .string t1], .agg #[.bool k2, .string t2]] w fun e w' => e = .returned (.tuple #[.bool (sameB t1 t2), .bool (tagB t1 && tagB t2)]) ∧ Below w.heap.size w w' := by
  have HG : Hid _ := fun wx => isTag_any k1 t1 wx h1
  have HH : Hid _ := fun wx => isTag_any k2 t2 wx h2
  obtain ⟨W, hW⟩ : ∃ W, W = (w.alloc (.cells #[.bool k1, .string t1] 24)).alloc (.cells #[.bool k2, .string t2] 24) := ⟨_, rfl⟩
  have hs : W.heap.size = w.heap.size + 2 := by rw [hW]; simp
  have hb1 : Below w.heap.size w W := by rw [hW]; exact ((Below.refl _ _).alloc (Nat.le_refl _) _).alloc (by simp) _
  have x0 : W.cell? ⟨w.heap.size, 0, none⟩ = some (.bool k1) := by rw [hW]; simp [go_sem]
  have x1 : W.cell? ⟨w.heap.size, 1, none⟩ = some (.string t1) := by rw [hW]; simp [go_sem]
  have z0 : W.cell? ⟨w.heap.size + 1, 0, none⟩ = some (.bool k2) := by rw [hW]; simp [go_sem]
  have z1 : W.cell? ⟨w.heap.size + 1, 1, none⟩ = some (.string t2) := by rw [hW]; simp [go_sem]
  have HS : Hid ((sameB t1 t2) = (tagB t1 && tagB t2 && (t1.toList == t2.toList))) := by show _ = _; rfl
  generalize sameB t1 t2 = S at HS ⊢
  cases hB : tagB t1
  · rw [hB] at HS HG
    obtain rfl : S = false := HS.out
    clear hB HS HH
    generalize tagB t2 = c2
    go_enter Tryd.func8, Tryd.ntmps8
    go_wp2_with fail
    rw [← hW]
    refine (HG.out _).mono ?_
    rintro e w2 ⟨rfl, hb2⟩
    go_wp2_with fail
    go_ret2
    exact ⟨rfl, hb1.trans (hb2.mono hb1.size)⟩
  cases hC : tagB t2
  all_goals
    rw [hB, hC] at HS
    rw [hB] at HG
    rw [hC] at HH
    clear hB hC
  case' false =>
    obtain rfl : S = false := HS.out
    clear HS
  case' true =>
    obtain rfl : S = (t1.toList == t2.toList) := HS.out
    clear HS
  all_goals
    go_enter Tryd.func8, Tryd.ntmps8
    go_wp2_with fail
    rw [← hW]
    refine (HG.out _).mono ?_
    rintro e w2 ⟨rfl, hb2⟩
    have y0 := (hb2.cell (p := ⟨w.heap.size, 0, none⟩) (by show w.heap.size < _; omega)).trans x0
    have y1 := (hb2.cell (p := ⟨w.heap.size, 1, none⟩) (by show w.heap.size < _; omega)).trans x1
    have v0 := (hb2.cell (p := ⟨w.heap.size + 1, 0, none⟩) (by show w.heap.size + 1 < _; omega)).trans z0
    have v1 := (hb2.cell (p := ⟨w.heap.size + 1, 1, none⟩) (by show w.heap.size + 1 < _; omega)).trans z1
    have hb3 := hb1.trans (hb2.mono hb1.size)
    have hn2 : w.heap.size + 2 ≤ w2.heap.size := hs ▸ hb2.size
    clear x0 x1 z0 z1 hb2 hW hs HG hb1
    go_wp2_with fail
    refine (HH.out _).mono ?_
    rintro e w4 ⟨rfl, hb4⟩
    have u0 := (hb4.cell (p := ⟨w.heap.size, 0, none⟩) (by show w.heap.size < _; omega)).trans y0
    have u1 := (hb4.cell (p := ⟨w.heap.size, 1, none⟩) (by show w.heap.size < _; omega)).trans y1
    have q0 := (hb4.cell (p := ⟨w.heap.size + 1, 0, none⟩) (by show w.heap.size + 1 < _; omega)).trans v0
    have q1 := (hb4.cell (p := ⟨w.heap.size + 1, 1, none⟩) (by show w.heap.size + 1 < _; omega)).trans v1
    have hb5 := hb3.trans (hb4.mono hb3.size)
    have hn4 : w.heap.size + 2 ≤ w4.heap.size := Nat.le_trans hn2 hb4.size
    clear y0 y1 v0 v1 hb4 hb3 hn2 HH
    go_wp2_with fail
    go_ret2
    exact ⟨rfl, hb5⟩

theorem strong_same (k1 : Bool) (t1 : ByteArray) (k2 : Bool) (t2 : ByteArray) : strongB k1 t1 k2 t2 = (sameB t1 t2 && (!k1 && !k2)) := by
  unfold strongB sameB
  cases k1 <;> cases k2 <;> simp

set_option maxRecDepth 20000 in
set_option maxHeartbeats 3200000 in
theorem implStrongSame_any (k1 : Bool) (t1 : ByteArray) (k2 : Bool) (t2 : ByteArray) (w : World) (h1 : t1.size ≤ 2000000) (h2 : t2.size ≤ 2000000) :
    Calls Tryd.prog 6 #[.agg #[.bool k1, .string t1], .agg #[.bool k2, .string t2]] w fun e w' => e = .returned (.tuple #[.bool (strongB k1 t1 k2 t2), .bool (tagB t1 && tagB t2)]) ∧ Below w.heap.size w w' := by
  have HG : Hid _ := fun wx => implWeakSame_any k1 t1 k2 t2 wx h1 h2
  obtain ⟨W, hW⟩ : ∃ W, W = (w.alloc (.cells #[.bool k1, .string t1] 24)).alloc (.cells #[.bool k2, .string t2] 24) := ⟨_, rfl⟩
  have hs : W.heap.size = w.heap.size + 2 := by rw [hW]; simp
  have hb1 : Below w.heap.size w W := by rw [hW]; exact ((Below.refl _ _).alloc (Nat.le_refl _) _).alloc (by simp) _
  have x0 : W.cell? ⟨w.heap.size, 0, none⟩ = some (.bool k1) := by rw [hW]; simp [go_sem]
  have x1 : W.cell? ⟨w.heap.size, 1, none⟩ = some (.string t1) := by rw [hW]; simp [go_sem]
  have z0 : W.cell? ⟨w.heap.size + 1, 0, none⟩ = some (.bool k2) := by rw [hW]; simp [go_sem]
  have z1 : W.cell? ⟨w.heap.size + 1, 1, none⟩ = some (.string t2) := by rw [hW]; simp [go_sem]
  rw [strong_same]
  generalize sameB t1 t2 = S at HG ⊢
  generalize (tagB t1 && tagB t2) = G at HG ⊢
  cases S <;> cases k1 <;> cases k2
  all_goals
    go_enter Tryd.func6, Tryd.ntmps6
    go_wp2_with fail
    rw [← hW]
    refine (HG.out _).mono ?_
    rintro e w2 ⟨rfl, hb2⟩
    have y0 := (hb2.cell (p := ⟨w.heap.size, 0, none⟩) (by show w.heap.size < _; omega)).trans x0
    have y1 := (hb2.cell (p := ⟨w.heap.size, 1, none⟩) (by show w.heap.size < _; omega)).trans x1
    have v0 := (hb2.cell (p := ⟨w.heap.size + 1, 0, none⟩) (by show w.heap.size + 1 < _; omega)).trans z0
    have v1 := (hb2.cell (p := ⟨w.heap.size + 1, 1, none⟩) (by show w.heap.size + 1 < _; omega)).trans z1
    have hb3 := hb1.trans (hb2.mono hb1.size)
    clear x0 x1 z0 z1 hb2 hW hs HG hb1
    go_wp2_with fail
    go_ret2
    exact ⟨rfl, hb3⟩

end Go.Proofs.YtgidmoncocbfiaaDoor.Tgi
