/-
  Walks: laws' markFieldS, heldFieldS.
-/
import Derived.Test.YtfgcgnhffljiaaaGreatDoorFdb
namespace Go.Proofs.YtfgcgnhffljiaaaGreatDoor.Fdb
open Go.RowKit
open Go.Proofs.YtfgcgnhffljiaaaGreatDoor.Fbs
open Go.Proofs.YtfgcgnhffljiaaaGreatDoor.Mrk (mk markText_any same_text below_drewN grown_below grown_of grown_set below_grown)

/-- The marks: names and values, numbered on. -/
def marksF (k n : Nat) : List (ByteArray × ByteArray) := (List.range n).map fun i => (mk (k + 2 * i), mk (k + 2 * i + 1))
theorem marksF_at (k n i : Nat) (h : i < n) : (marksF k n)[i]? = some (mk (k + 2 * i), mk (k + 2 * i + 1)) := by
  unfold marksF
  rw [List.getElem?_map, List.getElem?_range h]; rfl
theorem marksF_len (k n : Nat) : (marksF k n).length = n := by simp [marksF]

set_option maxHeartbeats 1600000 in
theorem heldF_any (a : Option Addr) (ca k : Nat) (n : Nat) (w : World) (lo hi : Nat) (hk : 1 ≤ k) (hn : k + 2 * n ≤ 3000000) (ha : FV w a (marksF k n) lo hi) :
    Calls Tryz.prog 67 #[.slice a n ca, .int .i64 k] w fun e w' => e = .returned (.int .i64 ((k : Int) + 2 * n)) ∧ Below w.heap.size w w' := by
  by_cases h0 : n = 0
  · subst h0
    go_enter Tryz.func67, Tryz.ntmps67
    go_wp2_with fail
    go_loop [1, 5] (fun kv i => i = .int .i64 0 ∧ kv = .int .i64 k) (fun _ _ => 0)
    case atStart => exact ⟨rfl, rfl⟩
    case round =>
      obtain ⟨rfl, rfl⟩ := hrel
      go_wp2_with fail
      go_ret
      exact ⟨by simp, Below.refl _ _⟩
  · rcases ha with ha | ⟨g, rfl, _, _, ga⟩
    · exact absurd (show n = 0 by have := congrArg List.length ha; rwa [marksF_len] at this) h0
    have GA : Hid (RowF w g (marksF k n)) := ga
    clear ga
    go_enter Tryz.func67, Tryz.ntmps67
    go_wp2_with fail
    go_loopw [1, 5] (fun kv i wr => ∃ j : Nat, j ≤ n ∧ i = .int .i64 j ∧ kv = .int .i64 ((k : Int) + 2 * j) ∧ Below w.heap.size w wr) (fun _ i _ => n - (intOf i).toNat)
    case atStart => exact ⟨0, by omega, rfl, by simp, Below.refl _ _⟩
    case round =>
      obtain ⟨j, hj, rfl, rfl, hbel⟩ := hrel
      by_cases hlt : j < n
      · obtain ⟨hc, hd⟩ := (GA.out.below hbel).2.2 j _ (marksF_at k n j hlt)
        have HM : Hid (∀ w, Calls Tryz.prog 50 #[.int .i64 ((k : Int) + 2 * j)] w fun e w' => e = .returned (.string (mk (k + 2 * j))) ∧ Below w.heap.size w w') := by
          intro w
          have := markText_any (k + 2 * j) w (by omega) (by omega)
          rwa [show ((k + 2 * j : Nat) : Int) = (k : Int) + 2 * j from by omega] at this
        have HM2 : Hid (∀ w, Calls Tryz.prog 50 #[.int .i64 ((k : Int) + 2 * j + 1)] w fun e w' => e = .returned (.string (mk (k + 2 * j + 1))) ∧ Below w.heap.size w w') := by
          intro w
          have := markText_any (k + 2 * j + 1) w (by omega) (by omega)
          rwa [show ((k + 2 * j + 1 : Nat) : Int) = (k : Int) + 2 * j + 1 from by omega] at this
        have hs := same_text (mk (k + 2 * j))
        have hs2 := same_text (mk (k + 2 * j + 1))
        have hg := (GA.out.below hbel).1
        dsimp only at hc hd
        generalize mk (k + 2 * j) = T at HM hc hs
        generalize mk (k + 2 * j + 1) = T2 at HM2 hd hs2
        go_wp2_with fail
        go_region_with (go_at_call 50; refine (HM.out _).mono ?_; rintro e w2 ⟨rfl, hb2⟩; have hc2 := (hb2.cell (p := ⟨g, j * 2, none⟩) hg).trans hc; have hd2 := (hb2.cell (p := ⟨g, j * 2 + 1, none⟩) hg).trans hd; have hg2 := Nat.lt_of_lt_of_le hg hb2.size)
        all_goals
          go_wp2_with fail
          go_region_with (go_at_call 50; refine (HM2.out _).mono ?_; rintro e w3 ⟨rfl, hb3⟩; have hd3 := (hb3.cell (p := ⟨g, j * 2 + 1, none⟩) hg2).trans hd2)
          all_goals
            go_wp2_with fail
            go_roundw
            case rel => exact ⟨j + 1, by omega, by go_num, by go_num, (hbel.drew.trans (hb2.mono hbel.size)).drew.trans (hb3.mono (Nat.le_trans hbel.size hb2.size))⟩
            case measure => simp [intOf]; omega
      · obtain rfl : j = n := by omega
        go_wp2_with fail
        go_ret
        exact ⟨rfl, hbel⟩

/-- Marks so far: j of n fields of a row turned. -/
def PartF (w : World) (g k j n : Nat) : Prop := g < w.heap.size ∧ (∀ i, w.frozen? ⟨g, i, none⟩ = false) ∧ (∀ i, i < j → w.cell? ⟨g, i * 2, none⟩ = some (.string (mk (k + 2 * i))) ∧ w.cell? ⟨g, i * 2 + 1, none⟩ = some (.string (mk (k + 2 * i + 1)))) ∧ ∀ i, j ≤ i → i < n → ∃ x z, w.cell? ⟨g, i * 2, none⟩ = some (.string x) ∧ w.cell? ⟨g, i * 2 + 1, none⟩ = some (.string z)
theorem PartF.below {w w' : World} {g k j n : Nat} (h : PartF w g k j n) (hb : Below w.heap.size w w') : PartF w' g k j n := by
  have e : ∀ i, w'.cell? ⟨g, i, none⟩ = w.cell? ⟨g, i, none⟩ := fun i => hb.cell (p := ⟨g, i, none⟩) h.1
  refine ⟨Nat.lt_of_lt_of_le h.1 hb.size, fun i => (hb.frozen (p := ⟨g, i, none⟩) h.1).trans (h.2.1 i), fun i hi => ⟨(e _).trans (h.2.2.1 i hi).1, (e _).trans (h.2.2.1 i hi).2⟩, fun i h1 h2 => ?_⟩
  obtain ⟨x, z, hx, hz⟩ := h.2.2.2 i h1 h2
  exact ⟨x, z, (e _).trans hx, (e _).trans hz⟩
theorem one_cell {w : World} {g o : Nat} {x X : Value} (hx : w.cell? ⟨g, o, none⟩ = some x) (q : Nat) :
    (w.setCell ⟨g, o, none⟩ X).cell? ⟨g, q, none⟩ = if q = o then some X else w.cell? ⟨g, q, none⟩ := by
  by_cases h1 : q = o
  · subst h1
    rw [if_pos rfl]
    simp [go_sem, hx]
  · rw [if_neg h1]
    simp [go_sem]
/-- The name of one more turned: its value not yet. -/
theorem PartF.half {w : World} {g k j n : Nat} (h : PartF w g k j n) (hj : j < n) : PartF (w.setCell ⟨g, j * 2, none⟩ (.string (mk (k + 2 * j)))) g k j n ∧ (w.setCell ⟨g, j * 2, none⟩ (.string (mk (k + 2 * j)))).cell? ⟨g, j * 2, none⟩ = some (.string (mk (k + 2 * j))) := by
  obtain ⟨h1, h2, h3, h4⟩ := h
  obtain ⟨x0, z0, hx0, hz0⟩ := h4 j (Nat.le_refl _) hj
  have T := @one_cell w g (j * 2) _ (.string (mk (k + 2 * j))) hx0
  refine ⟨⟨by simpa [World.setCell] using h1, fun i => by simp [go_sem, h2], fun i hi => ?_, fun i hi hn => ?_⟩, by rw [T, if_pos rfl]⟩
  · rw [T, T, if_neg (by omega), if_neg (by omega)]
    exact h3 i hi
  · obtain ⟨x, z, hx, hz⟩ := h4 i hi hn
    rw [T, T]
    by_cases he : i = j
    · subst he
      rw [if_pos rfl, if_neg (by omega)]
      exact ⟨_, z, rfl, hz⟩
    · rw [if_neg (by omega), if_neg (by omega)]
      exact ⟨x, z, hx, hz⟩
theorem PartF.step {w : World} {g k j n : Nat} (h : PartF w g k j n) (hn0 : w.cell? ⟨g, j * 2, none⟩ = some (.string (mk (k + 2 * j)))) (hj : j < n) : PartF (w.setCell ⟨g, j * 2 + 1, none⟩ (.string (mk (k + 2 * j + 1)))) g k (j + 1) n := by
  obtain ⟨h1, h2, h3, h4⟩ := h
  obtain ⟨x0, z0, hx0, hz0⟩ := h4 j (Nat.le_refl _) hj
  have T := @one_cell w g (j * 2 + 1) _ (.string (mk (k + 2 * j + 1))) hz0
  refine ⟨by simpa [World.setCell] using h1, fun i => by simp [go_sem, h2], fun i hi => ?_, fun i hi hn => ?_⟩
  · rw [T, T]
    by_cases he : i = j
    · subst he
      rw [if_neg (by omega), if_pos rfl]
      exact ⟨hn0, rfl⟩
    · rw [if_neg (by omega), if_neg (by omega)]
      exact h3 i (by omega)
  · obtain ⟨x, z, hx, hz⟩ := h4 i (by omega) hn
    rw [T, T, if_neg (by omega), if_neg (by omega)]
    exact ⟨x, z, hx, hz⟩
theorem PartF.row {w : World} {g k n : Nat} (h : PartF w g k n n) : RowF w g (marksF k n) := by
  refine ⟨h.1, h.2.1, fun i c hc => ?_⟩
  have hi : i < n := by
    have := (List.getElem?_eq_some_iff.1 hc).1
    rwa [marksF_len] at this
  rw [marksF_at k n i hi] at hc
  cases hc
  exact h.2.2.1 i hi

set_option maxHeartbeats 1600000 in
theorem markF_any (a : Option Addr) (ca k : Nat) (l : List (ByteArray × ByteArray)) (w : World) (lo hi : Nat) (hk : 1 ≤ k) (hn : k + 2 * l.length ≤ 3000000) (ha : FV w a l lo hi) :
    Calls Tryz.prog 49 #[.slice a l.length ca, .int .i64 k] w fun e w' => e = .returned (.int .i64 ((k : Int) + 2 * l.length)) ∧ FV w' a (marksF k l.length) lo hi ∧ ∃ row, w.grownBy w' row ∧ ∀ g, row = some g → lo ≤ g ∧ g < hi := by
  by_cases h0 : l = []
  · subst h0
    go_enter Tryz.func49, Tryz.ntmps49
    go_wp2_with fail
    go_loop [1, 5] (fun kv i => i = .int .i64 0 ∧ kv = .int .i64 k) (fun _ _ => 0)
    case atStart => exact ⟨rfl, rfl⟩
    case round =>
      obtain ⟨rfl, rfl⟩ := hrel
      go_wp2_with fail
      go_ret
      exact ⟨by simp, .inl rfl, none, grown_of _ (Below.refl _ _), fun _ e => nomatch e⟩
  · rcases ha with ha | ⟨g, rfl, g1, g2, ga⟩
    · exact absurd ha h0
    have GA : Hid (PartF w g k 0 l.length) := ⟨ga.1, ga.2.1, fun i hi => absurd hi (by omega), fun i _ hi => ⟨_, _, (ga.2.2 i _ (List.getElem?_eq_getElem hi)).1, (ga.2.2 i _ (List.getElem?_eq_getElem hi)).2⟩⟩
    have hlen : ∃ n, n = l.length := ⟨_, rfl⟩
    obtain ⟨n, hln⟩ := hlen
    rw [← hln] at GA hn ⊢
    clear ga hln h0
    go_enter Tryz.func49, Tryz.ntmps49
    go_wp2_with fail
    go_loopw [1, 5] (fun kv i wr => ∃ j : Nat, j ≤ n ∧ i = .int .i64 j ∧ kv = .int .i64 ((k : Int) + 2 * j) ∧ Hid (PartF wr g k j n) ∧ Hid (w.grownBy wr (some g))) (fun _ i _ => n - (intOf i).toNat)
    case atStart => exact ⟨0, by omega, rfl, by simp, GA, grown_of _ (Below.refl _ _)⟩
    case round =>
      obtain ⟨j, hj, rfl, rfl, HP, HG⟩ := hrel
      by_cases hlt : j < n
      · have HM : Hid (∀ w, Calls Tryz.prog 50 #[.int .i64 ((k : Int) + 2 * j)] w fun e w' => e = .returned (.string (mk (k + 2 * j))) ∧ Below w.heap.size w w') := by
          intro w
          have := markText_any (k + 2 * j) w (by omega) (by omega)
          rwa [show ((k + 2 * j : Nat) : Int) = (k : Int) + 2 * j from by omega] at this
        have HM2 : Hid (∀ w, Calls Tryz.prog 50 #[.int .i64 ((k : Int) + 2 * j + 1)] w fun e w' => e = .returned (.string (mk (k + 2 * j + 1))) ∧ Below w.heap.size w w') := by
          intro w
          have := markText_any (k + 2 * j + 1) w (by omega) (by omega)
          rwa [show ((k + 2 * j + 1 : Nat) : Int) = (k : Int) + 2 * j + 1 from by omega] at this
        obtain ⟨T, hT⟩ : ∃ T, T = mk (k + 2 * j) := ⟨_, rfl⟩
        rw [← hT] at HM
        have HTe : Hid (T = mk (k + 2 * j)) := hT
        clear hT
        obtain ⟨T2, hT⟩ : ∃ T, T = mk (k + 2 * j + 1) := ⟨_, rfl⟩
        rw [← hT] at HM2
        have HTe2 : Hid (T2 = mk (k + 2 * j + 1)) := hT
        clear hT
        go_wp2_with fail
        refine (HM.out _).mono ?_
        rintro e w2 ⟨rfl, hb2⟩
        have hP2 := HP.out.below hb2
        have HP3 : Hid (PartF (w2.setCell ⟨g, j * 2, none⟩ (.string T)) g k j n ∧ (w2.setCell ⟨g, j * 2, none⟩ (.string T)).cell? ⟨g, j * 2, none⟩ = some (.string T)) := by
          rw [HTe.out]; exact hP2.half hlt
        have HG3 : Hid (w.grownBy (w2.setCell ⟨g, j * 2, none⟩ (.string T)) (some g)) := grown_set (grown_below HG.out hb2) (j * 2) (.string T)
        obtain ⟨p1, p2, _, p4⟩ := hP2
        obtain ⟨x0, z0, hx0, hz0⟩ := p4 j (Nat.le_refl _) hlt
        clear p4 hb2 HP HG
        go_wp2_with fail
        refine (HM2.out _).mono ?_
        rintro e w4 ⟨rfl, hb4⟩
        have hP4 := HP3.out.1.below hb4
        have HP5 : Hid (PartF (w4.setCell ⟨g, j * 2 + 1, none⟩ (.string T2)) g k (j + 1) n) := by
          have hn0 := (hb4.cell (p := ⟨g, j * 2, none⟩) HP3.out.1.1).trans HP3.out.2
          show PartF _ _ _ _ _
          rw [HTe2.out]; rw [HTe.out] at hn0
          exact hP4.step hn0 hlt
        have HG5 : Hid (w.grownBy (w4.setCell ⟨g, j * 2 + 1, none⟩ (.string T2)) (some g)) := grown_set (grown_below HG3.out hb4) (j * 2 + 1) (.string T2)
        obtain ⟨q1, q2, _, q4⟩ := hP4
        obtain ⟨x1, z1, hx1, hz1⟩ := q4 j (Nat.le_refl _) hlt
        clear q4 hb4 HP3 HG3 p1 p2 hx0 hz0
        go_wp2_with fail
        go_roundw
        case rel => exact ⟨j + 1, by omega, by go_num, by go_num, HP5, HG5⟩
        case measure => simp [intOf]; omega
      · obtain rfl : j = n := by omega
        go_wp2_with fail
        go_ret
        exact ⟨rfl, .inr ⟨g, rfl, g1, g2, HP.out.row⟩, some g, HG.out, fun g' e => by cases e; exact ⟨g1, g2⟩⟩

theorem markF_one (a : Option Addr) (ca : Nat) (l : List (ByteArray × ByteArray)) (w : World) (lo hi : Nat) (hn : l.length ≤ 1400000) (ha : FV w a l lo hi) :
    Calls Tryz.prog 49 #[.slice a l.length ca, .int .i64 1] w fun e w' => e = .returned (.int .i64 (1 + 2 * (l.length : Int))) ∧ FV w' a (marksF 1 l.length) lo hi ∧ ∃ row, w.grownBy w' row ∧ ∀ g, row = some g → lo ≤ g ∧ g < hi :=
  markF_any a ca 1 l w lo hi (Nat.le_refl _) (by omega) ha
theorem heldF_one (a : Option Addr) (ca n : Nat) (w : World) (lo hi : Nat) (hn : n ≤ 1400000) (ha : FV w a (marksF 1 n) lo hi) :
    Calls Tryz.prog 67 #[.slice a n ca, .int .i64 1] w fun e w' => e = .returned (.int .i64 (1 + 2 * (n : Int))) ∧ Below w.heap.size w w' :=
  heldF_any a ca 1 n w lo hi (Nat.le_refl _) (by omega) ha

end Go.Proofs.YtfgcgnhffljiaaaGreatDoor.Fdb
