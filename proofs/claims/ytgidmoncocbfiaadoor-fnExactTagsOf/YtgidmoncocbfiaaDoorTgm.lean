/-
  Walks: laws' markTagS, heldTagS.
-/
import Derived.Test.YtgidmoncocbfiaaDoorTgb
import Derived.Deep.RegionHeld3
namespace Go.Proofs.YtgidmoncocbfiaaDoor.Tgb
open Go.RowKit
open Go.Proofs.YtgidmoncocbfiaaDoor.Mrk (mk markText_any same_text below_drewN grown_below grown_of grown_set below_grown)

theorem first_drew (W : World) : Below W.heap.size W W.drew := ⟨rfl, rfl, rfl, Nat.le_refl _, fun _ _ => rfl⟩
theorem keep1 {W w0 w1 : World} {g o : Nat} {u : Option Value} (hg : g < W.heap.size) (h : w0.cell? ⟨g, o, none⟩ = u ∧ Below W.heap.size W w0) (hb : Below w0.heap.size w0 w1) : w1.cell? ⟨g, o, none⟩ = u ∧ Below W.heap.size W w1 :=
  ⟨(hb.cell (p := ⟨g, o, none⟩) (Nat.lt_of_lt_of_le hg h.2.size)).trans h.1, h.2.trans (hb.mono h.2.size)⟩
/-- The truth value that marks. -/
def wk (n : Nat) : Bool := ((n : Int) % 3 == 0)
/-- The marks: a truth value and a text each, numbered on. -/
def marksG (k n : Nat) : List (Bool × ByteArray) := (List.range n).map fun i => (wk (k + 2 * i), mk (k + 2 * i + 1))
theorem marksG_at (k n i : Nat) (h : i < n) : (marksG k n)[i]? = some (wk (k + 2 * i), mk (k + 2 * i + 1)) := by
  unfold marksG
  rw [List.getElem?_map, List.getElem?_range h]; rfl
theorem marksG_len (k n : Nat) : (marksG k n).length = n := by simp [marksG]

set_option maxHeartbeats 1600000 in
theorem heldG_any (a : Option Addr) (ca k : Nat) (n : Nat) (w : World) (lo hi : Nat) (hk : 1 ≤ k) (hn : k + 2 * n ≤ 3000000) (ha : GV w a (marksG k n) lo hi) :
    Calls Tryd.prog 16 #[.slice a n ca, .int .i64 k] w fun e w' => e = .returned (.int .i64 ((k : Int) + 2 * n)) ∧ Below w.heap.size w w' := by
  by_cases h0 : n = 0
  · subst h0
    go_enter Tryd.func16, Tryd.ntmps16
    go_wp2_with fail
    go_loop [1, 5] (fun kv i => i = .int .i64 0 ∧ kv = .int .i64 k) (fun _ _ => 0)
    case atStart => exact ⟨rfl, rfl⟩
    case round =>
      obtain ⟨rfl, rfl⟩ := hrel
      go_wp2_with fail
      go_ret
      exact ⟨by simp, Below.refl _ _⟩
  · rcases ha with ha | ⟨g, rfl, _, _, ga⟩
    · exact absurd (show n = 0 by have := congrArg List.length ha; rwa [marksG_len] at this) h0
    have GA : Hid (RowG w g (marksG k n)) := ga
    clear ga
    go_enter Tryd.func16, Tryd.ntmps16
    go_wp2_with fail
    go_loopw [1, 5] (fun kv i wr => ∃ j : Nat, j ≤ n ∧ i = .int .i64 j ∧ kv = .int .i64 ((k : Int) + 2 * j) ∧ Below w.heap.size w wr) (fun _ i _ => n - (intOf i).toNat)
    case atStart => exact ⟨0, by omega, rfl, by simp, Below.refl _ _⟩
    case round =>
      obtain ⟨j, hj, rfl, rfl, hbel⟩ := hrel
      by_cases hlt : j < n
      · obtain ⟨hc, hd⟩ := (GA.out.below hbel).2.2 j _ (marksG_at k n j hlt)
        have hT : (((k : Int) + 2 * j) % 3 == 0) = wk (k + 2 * j) := by
          unfold wk
          rw [show ((k + 2 * j : Nat) : Int) = (k : Int) + 2 * j from by omega]
        have HM2 : Hid (∀ w, Calls Tryd.prog 29 #[.int .i64 ((k : Int) + 2 * j + 1)] w fun e w' => e = .returned (.string (mk (k + 2 * j + 1))) ∧ Below w.heap.size w w') := by
          intro w
          have := markText_any (k + 2 * j + 1) w (by omega) (by omega)
          rwa [show ((k + 2 * j + 1 : Nat) : Int) = (k : Int) + 2 * j + 1 from by omega] at this
        have hs2 := same_text (mk (k + 2 * j + 1))
        have hg := (GA.out.below hbel).1
        dsimp only at hc hd
        generalize wk (k + 2 * j) = T at hT hc
        have hs : (T != T) = false := by simp
        generalize mk (k + 2 * j + 1) = T2 at HM2 hd hs2
        go_wp2_with fail
        go_region_held3 (fun w' => w'.cell? ⟨g, j * 2 + 1, none⟩ = some (.string T2) ∧ Below wr.heap.size wr w')
          (first
            | exact ⟨hd, first_drew wr⟩
            | assumption
            | exact keep1 hg (by assumption) (by assumption))
          (first
            | (go_at_call 29; with_reducible refine (HM2.out _).mono ?_; rintro e w3 ⟨rfl, hb3⟩))
        all_goals
          go_wp2_with fail
          go_roundw
          case rel => exact ⟨j + 1, by omega, by go_num, by go_num, hbel.trans (Below.mono (And.right (by assumption) : Below wr.heap.size wr _) hbel.size)⟩
          case measure => simp [intOf]; omega
      · obtain rfl : j = n := by omega
        go_wp2_with fail
        go_ret
        exact ⟨rfl, hbel⟩

/-- Marks so far: j of n tags of a row turned. -/
def PartG (w : World) (g k j n : Nat) : Prop := g < w.heap.size ∧ (∀ i, w.frozen? ⟨g, i, none⟩ = false) ∧ (∀ i, i < j → w.cell? ⟨g, i * 2, none⟩ = some (.bool (wk (k + 2 * i))) ∧ w.cell? ⟨g, i * 2 + 1, none⟩ = some (.string (mk (k + 2 * i + 1)))) ∧ ∀ i, j ≤ i → i < n → ∃ x z, w.cell? ⟨g, i * 2, none⟩ = some (.bool x) ∧ w.cell? ⟨g, i * 2 + 1, none⟩ = some (.string z)
theorem PartG.below {w w' : World} {g k j n : Nat} (h : PartG w g k j n) (hb : Below w.heap.size w w') : PartG w' g k j n := by
  have e : ∀ i, w'.cell? ⟨g, i, none⟩ = w.cell? ⟨g, i, none⟩ := fun i => hb.cell (p := ⟨g, i, none⟩) h.1
  refine ⟨Nat.lt_of_lt_of_le h.1 hb.size, fun i => (hb.frozen (p := ⟨g, i, none⟩) h.1).trans (h.2.1 i), fun i hi => ⟨(e _).trans (h.2.2.1 i hi).1, (e _).trans (h.2.2.1 i hi).2⟩, fun i h1 h2 => ?_⟩
  obtain ⟨x, z, hx, hz⟩ := h.2.2.2 i h1 h2
  exact ⟨x, z, (e _).trans hx, (e _).trans hz⟩
theorem one_cell {w : World} {g o : Nat} {x X : Value} (hx : w.cell? ⟨g, o, none⟩ = some x) (q : Nat) :
    (w.setCell ⟨g, o, none⟩ X).cell? ⟨g, q, none⟩ = if q = o then some X else w.cell? ⟨g, q, none⟩ := by
  by_cases h1 : q = o
  · subst h1
    rw [if_pos rfl]
    simp [go_sem, hx]
  · rw [if_neg h1]
    simp [go_sem]
/-- The name of one more turned: its value not yet. -/
theorem PartG.half {w : World} {g k j n : Nat} (h : PartG w g k j n) (hj : j < n) : PartG (w.setCell ⟨g, j * 2, none⟩ (.bool (wk (k + 2 * j)))) g k j n ∧ (w.setCell ⟨g, j * 2, none⟩ (.bool (wk (k + 2 * j)))).cell? ⟨g, j * 2, none⟩ = some (.bool (wk (k + 2 * j))) := by
  obtain ⟨h1, h2, h3, h4⟩ := h
  obtain ⟨x0, z0, hx0, hz0⟩ := h4 j (Nat.le_refl _) hj
  have T := @one_cell w g (j * 2) _ (.bool (wk (k + 2 * j))) hx0
  refine ⟨⟨by simpa [World.setCell] using h1, fun i => by simp [go_sem, h2], fun i hi => ?_, fun i hi hn => ?_⟩, by rw [T, if_pos rfl]⟩
  · rw [T, T, if_neg (by omega), if_neg (by omega)]
    exact h3 i hi
  · obtain ⟨x, z, hx, hz⟩ := h4 i hi hn
    rw [T, T]
    by_cases he : i = j
    · subst he
      rw [if_pos rfl, if_neg (by omega)]
      exact ⟨_, z, rfl, hz⟩
    · rw [if_neg (by omega), if_neg (by omega)]
      exact ⟨x, z, hx, hz⟩
theorem PartG.step {w : World} {g k j n : Nat} (h : PartG w g k j n) (hn0 : w.cell? ⟨g, j * 2, none⟩ = some (.bool (wk (k + 2 * j)))) (hj : j < n) : PartG (w.setCell ⟨g, j * 2 + 1, none⟩ (.string (mk (k + 2 * j + 1)))) g k (j + 1) n := by
  obtain ⟨h1, h2, h3, h4⟩ := h
  obtain ⟨x0, z0, hx0, hz0⟩ := h4 j (Nat.le_refl _) hj
  have T := @one_cell w g (j * 2 + 1) _ (.string (mk (k + 2 * j + 1))) hz0
  refine ⟨by simpa [World.setCell] using h1, fun i => by simp [go_sem, h2], fun i hi => ?_, fun i hi hn => ?_⟩
  · rw [T, T]
    by_cases he : i = j
    · subst he
      rw [if_neg (by omega), if_pos rfl]
      exact ⟨hn0, rfl⟩
    · rw [if_neg (by omega), if_neg (by omega)]
      exact h3 i (by omega)
  · obtain ⟨x, z, hx, hz⟩ := h4 i (by omega) hn
    rw [T, T, if_neg (by omega), if_neg (by omega)]
    exact ⟨x, z, hx, hz⟩
theorem PartG.row {w : World} {g k n : Nat} (h : PartG w g k n n) : RowG w g (marksG k n) := by
  refine ⟨h.1, h.2.1, fun i c hc => ?_⟩
  have hi : i < n := by
    have := (List.getElem?_eq_some_iff.1 hc).1
    rwa [marksG_len] at this
  rw [marksG_at k n i hi] at hc
  cases hc
  exact h.2.2.1 i hi

set_option maxHeartbeats 1600000 in
theorem markG_any (a : Option Addr) (ca k : Nat) (l : List (Bool × ByteArray)) (w : World) (lo hi : Nat) (hk : 1 ≤ k) (hn : k + 2 * l.length ≤ 3000000) (ha : GV w a l lo hi) :
    Calls Tryd.prog 15 #[.slice a l.length ca, .int .i64 k] w fun e w' => e = .returned (.int .i64 ((k : Int) + 2 * l.length)) ∧ GV w' a (marksG k l.length) lo hi ∧ ∃ row, w.grownBy w' row ∧ ∀ g, row = some g → lo ≤ g ∧ g < hi := by
  by_cases h0 : l = []
  · subst h0
    go_enter Tryd.func15, Tryd.ntmps15
    go_wp2_with fail
    go_loop [1, 5] (fun kv i => i = .int .i64 0 ∧ kv = .int .i64 k) (fun _ _ => 0)
    case atStart => exact ⟨rfl, rfl⟩
    case round =>
      obtain ⟨rfl, rfl⟩ := hrel
      go_wp2_with fail
      go_ret
      exact ⟨by simp, .inl rfl, none, grown_of _ (Below.refl _ _), fun _ e => nomatch e⟩
  · rcases ha with ha | ⟨g, rfl, g1, g2, ga⟩
    · exact absurd ha h0
    have GA : Hid (PartG w g k 0 l.length) := ⟨ga.1, ga.2.1, fun i hi => absurd hi (by omega), fun i _ hi => ⟨_, _, (ga.2.2 i _ (List.getElem?_eq_getElem hi)).1, (ga.2.2 i _ (List.getElem?_eq_getElem hi)).2⟩⟩
    have hlen : ∃ n, n = l.length := ⟨_, rfl⟩
    obtain ⟨n, hln⟩ := hlen
    rw [← hln] at GA hn ⊢
    clear ga hln h0
    go_enter Tryd.func15, Tryd.ntmps15
    go_wp2_with fail
    go_loopw [1, 5] (fun kv i wr => ∃ j : Nat, j ≤ n ∧ i = .int .i64 j ∧ kv = .int .i64 ((k : Int) + 2 * j) ∧ Hid (PartG wr g k j n) ∧ Hid (w.grownBy wr (some g))) (fun _ i _ => n - (intOf i).toNat)
    case atStart => exact ⟨0, by omega, rfl, by simp, GA, grown_of _ (Below.refl _ _)⟩
    case round =>
      obtain ⟨j, hj, rfl, rfl, HP, HG⟩ := hrel
      by_cases hlt : j < n
      · have hTT : (((k : Int) + 2 * j) % 3 == 0) = wk (k + 2 * j) := by
          unfold wk
          rw [show ((k + 2 * j : Nat) : Int) = (k : Int) + 2 * j from by omega]
        have HM2 : Hid (∀ w, Calls Tryd.prog 29 #[.int .i64 ((k : Int) + 2 * j + 1)] w fun e w' => e = .returned (.string (mk (k + 2 * j + 1))) ∧ Below w.heap.size w w') := by
          intro w
          have := markText_any (k + 2 * j + 1) w (by omega) (by omega)
          rwa [show ((k + 2 * j + 1 : Nat) : Int) = (k : Int) + 2 * j + 1 from by omega] at this
        obtain ⟨T, hT⟩ : ∃ T, T = wk (k + 2 * j) := ⟨_, rfl⟩
        rw [← hT] at hTT
        have HTe : Hid (T = wk (k + 2 * j)) := hT
        clear hT
        obtain ⟨T2, hT⟩ : ∃ T, T = mk (k + 2 * j + 1) := ⟨_, rfl⟩
        rw [← hT] at HM2
        have HTe2 : Hid (T2 = mk (k + 2 * j + 1)) := hT
        clear hT
        have HP3 : Hid (PartG (wr.setCell ⟨g, j * 2, none⟩ (.bool T)) g k j n ∧ (wr.setCell ⟨g, j * 2, none⟩ (.bool T)).cell? ⟨g, j * 2, none⟩ = some (.bool T)) := by
          rw [HTe.out]; exact HP.out.half hlt
        have HG3 : Hid (w.grownBy (wr.setCell ⟨g, j * 2, none⟩ (.bool T)) (some g)) := grown_set HG.out (j * 2) (.bool T)
        obtain ⟨p1, p2, _, p4⟩ := HP.out
        obtain ⟨x0, z0, hx0, hz0⟩ := p4 j (Nat.le_refl _) hlt
        clear p4 HP HG
        go_wp2_with fail
        refine (HM2.out _).mono ?_
        rintro e w4 ⟨rfl, hb4⟩
        have hP4 := HP3.out.1.below hb4
        have HP5 : Hid (PartG (w4.setCell ⟨g, j * 2 + 1, none⟩ (.string T2)) g k (j + 1) n) := by
          have hn0 := (hb4.cell (p := ⟨g, j * 2, none⟩) HP3.out.1.1).trans HP3.out.2
          show PartG _ _ _ _ _
          rw [HTe2.out]; rw [HTe.out] at hn0
          exact hP4.step hn0 hlt
        have HG5 : Hid (w.grownBy (w4.setCell ⟨g, j * 2 + 1, none⟩ (.string T2)) (some g)) := grown_set (grown_below HG3.out hb4) (j * 2 + 1) (.string T2)
        obtain ⟨q1, q2, _, q4⟩ := hP4
        obtain ⟨x1, z1, hx1, hz1⟩ := q4 j (Nat.le_refl _) hlt
        clear q4 hb4 HP3 HG3 p1 p2 hx0 hz0
        go_wp2_with fail
        go_roundw
        case rel => exact ⟨j + 1, by omega, by go_num, by go_num, HP5, HG5⟩
        case measure => simp [intOf]; omega
      · obtain rfl : j = n := by omega
        go_wp2_with fail
        go_ret
        exact ⟨rfl, .inr ⟨g, rfl, g1, g2, HP.out.row⟩, some g, HG.out, fun g' e => by cases e; exact ⟨g1, g2⟩⟩

theorem markG_one (a : Option Addr) (ca : Nat) (l : List (Bool × ByteArray)) (w : World) (lo hi : Nat) (hn : l.length ≤ 1400000) (ha : GV w a l lo hi) :
    Calls Tryd.prog 15 #[.slice a l.length ca, .int .i64 1] w fun e w' => e = .returned (.int .i64 (1 + 2 * (l.length : Int))) ∧ GV w' a (marksG 1 l.length) lo hi ∧ ∃ row, w.grownBy w' row ∧ ∀ g, row = some g → lo ≤ g ∧ g < hi :=
  markG_any a ca 1 l w lo hi (Nat.le_refl _) (by omega) ha
theorem heldG_one (a : Option Addr) (ca n : Nat) (w : World) (lo hi : Nat) (hn : n ≤ 1400000) (ha : GV w a (marksG 1 n) lo hi) :
    Calls Tryd.prog 16 #[.slice a n ca, .int .i64 1] w fun e w' => e = .returned (.int .i64 (1 + 2 * (n : Int))) ∧ Below w.heap.size w w' :=
  heldG_any a ca 1 n w lo hi (Nat.le_refl _) (by omega) ha

end Go.Proofs.YtgidmoncocbfiaaDoor.Tgb
