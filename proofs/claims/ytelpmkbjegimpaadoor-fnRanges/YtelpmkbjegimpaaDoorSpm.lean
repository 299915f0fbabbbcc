/-
  Walks: laws' markSpanS, heldSpanS.
-/
import Derived.Test.YtelpmkbjegimpaaDoorSpb
namespace Go.Proofs.YtelpmkbjegimpaaDoor.Spb
open Go.RowKit
open Go.Proofs.YtelpmkbjegimpaaDoor.Mrk (below_drewN grown_below grown_of grown_set below_grown)

/-- The marks: both ends, numbered on. -/
def marksP (k n : Nat) : List (Int × Int) := (List.range n).map fun i => (((k + 2 * i : Nat) : Int), ((k + 2 * i + 1 : Nat) : Int))
theorem marksP_at (k n i : Nat) (h : i < n) : (marksP k n)[i]? = some (((k + 2 * i : Nat) : Int), ((k + 2 * i + 1 : Nat) : Int)) := by
  unfold marksP
  rw [List.getElem?_map, List.getElem?_range h]; rfl
theorem marksP_len (k n : Nat) : (marksP k n).length = n := by simp [marksP]

set_option maxHeartbeats 1600000 in
theorem heldP_any (a : Option Addr) (ca k : Nat) (n : Nat) (w : World) (lo hi : Nat) (hk : 1 ≤ k) (hn : k + 2 * n ≤ 3000000) (ha : PV w a (marksP k n) lo hi) :
    Calls Tryd.prog 16 #[.slice a n ca, .int .i64 k] w fun e w' => e = .returned (.int .i64 ((k : Int) + 2 * n)) ∧ Below w.heap.size w w' := by
  by_cases h0 : n = 0
  · subst h0
    go_enter Tryd.func16, Tryd.ntmps16
    go_wp2_with fail
    go_loop [1, 5] (fun kv i => i = .int .i64 0 ∧ kv = .int .i64 k) (fun _ _ => 0)
    case atStart => exact ⟨rfl, rfl⟩
    case round =>
      obtain ⟨rfl, rfl⟩ := hrel
      go_wp2_with fail
      go_ret
      exact ⟨by simp, Below.refl _ _⟩
  · rcases ha with ha | ⟨g, rfl, _, _, ga⟩
    · exact absurd (show n = 0 by have := congrArg List.length ha; rwa [marksP_len] at this) h0
    have GA : Hid (RowP w g (marksP k n)) := ga
    clear ga
    go_enter Tryd.func16, Tryd.ntmps16
    go_wp2_with fail
    go_loopw [1, 5] (fun kv i wr => ∃ j : Nat, j ≤ n ∧ i = .int .i64 j ∧ kv = .int .i64 ((k : Int) + 2 * j) ∧ Below w.heap.size w wr) (fun _ i _ => n - (intOf i).toNat)
    case atStart => exact ⟨0, by omega, rfl, by simp, Below.refl _ _⟩
    case round =>
      obtain ⟨j, hj, rfl, rfl, hbel⟩ := hrel
      by_cases hlt : j < n
      · obtain ⟨hc, hd⟩ := (GA.out.below hbel).2.2 j _ (marksP_at k n j hlt)
        have hc' : wr.cell? ⟨g, j * 2, none⟩ = some (.int .i64 ((k : Int) + 2 * j)) := by rw [hc]; congr 2
        have hd' : wr.cell? ⟨g, j * 2 + 1, none⟩ = some (.int .i64 ((k : Int) + 2 * j + 1)) := by rw [hd]; congr 2
        clear hc hd
        go_wp2_with fail
        go_roundw
        case rel => exact ⟨j + 1, by omega, by go_num, by go_num, hbel⟩
        case measure => simp [intOf]; omega
      · obtain rfl : j = n := by omega
        go_wp2_with fail
        go_ret
        exact ⟨rfl, hbel⟩

/-- Marks so far: j of n spans of a row turned. -/
def PartP (w : World) (g k j n : Nat) : Prop := g < w.heap.size ∧ (∀ i, w.frozen? ⟨g, i, none⟩ = false) ∧ (∀ i, i < j → w.cell? ⟨g, i * 2, none⟩ = some (.int .i64 ((k + 2 * i : Nat) : Int)) ∧ w.cell? ⟨g, i * 2 + 1, none⟩ = some (.int .i64 ((k + 2 * i + 1 : Nat) : Int))) ∧ ∀ i, j ≤ i → i < n → ∃ x z, w.cell? ⟨g, i * 2, none⟩ = some (.int .i64 x) ∧ w.cell? ⟨g, i * 2 + 1, none⟩ = some (.int .i64 z)
theorem two_cells {w : World} {g o : Nat} {x y X Y : Value} (hx : w.cell? ⟨g, o, none⟩ = some x) (hy : w.cell? ⟨g, o + 1, none⟩ = some y) (q : Nat) :
    ((w.setCell ⟨g, o, none⟩ X).setCell ⟨g, o + 1, none⟩ Y).cell? ⟨g, q, none⟩ = if q = o then some X else if q = o + 1 then some Y else w.cell? ⟨g, q, none⟩ := by
  by_cases h1 : q = o
  · subst h1
    rw [if_pos rfl]
    simp [go_sem, hx]
  · rw [if_neg h1]
    by_cases h2 : q = o + 1
    · subst h2
      rw [if_pos rfl]
      simp [go_sem, hy]
    · rw [if_neg h2]
      simp [go_sem]
theorem PartP.step {w : World} {g k j n : Nat} (h : PartP w g k j n) (hj : j < n) : PartP ((w.setCell ⟨g, j * 2, none⟩ (.int .i64 ((k : Int) + 2 * j))).setCell ⟨g, j * 2 + 1, none⟩ (.int .i64 ((k : Int) + 2 * j + 1))) g k (j + 1) n := by
  obtain ⟨h1, h2, h3, h4⟩ := h
  obtain ⟨x0, z0, hx0, hz0⟩ := h4 j (Nat.le_refl _) hj
  have T := @two_cells w g (j * 2) _ _ (.int .i64 ((k : Int) + 2 * j)) (.int .i64 ((k : Int) + 2 * j + 1)) hx0 hz0
  refine ⟨by simpa [World.setCell] using h1, fun i => by simp [go_sem, h2], fun i hij => ?_, fun i hi hn => ?_⟩
  · rw [T, T]
    by_cases he : i = j
    · subst he
      rw [if_pos rfl, if_neg (by omega), if_pos rfl]
      exact ⟨by congr 2, by congr 2⟩
    · rw [if_neg (by omega), if_neg (by omega), if_neg (by omega), if_neg (by omega)]
      exact h3 i (by omega)
  · obtain ⟨x, z, hx, hz⟩ := h4 i (by omega) hn
    rw [T, T, if_neg (by omega), if_neg (by omega), if_neg (by omega), if_neg (by omega)]
    exact ⟨x, z, hx, hz⟩
theorem PartP.row {w : World} {g k n : Nat} (h : PartP w g k n n) : RowP w g (marksP k n) := by
  refine ⟨h.1, h.2.1, fun i c hc => ?_⟩
  have hi : i < n := by
    have := (List.getElem?_eq_some_iff.1 hc).1
    rwa [marksP_len] at this
  rw [marksP_at k n i hi] at hc
  cases hc
  exact h.2.2.1 i hi

set_option maxHeartbeats 1600000 in
theorem markP_any (a : Option Addr) (ca k : Nat) (l : List (Int × Int)) (w : World) (lo hi : Nat) (hk : 1 ≤ k) (hn : k + 2 * l.length ≤ 3000000) (ha : PV w a l lo hi) :
    Calls Tryd.prog 15 #[.slice a l.length ca, .int .i64 k] w fun e w' => e = .returned (.int .i64 ((k : Int) + 2 * l.length)) ∧ PV w' a (marksP k l.length) lo hi ∧ ∃ row, w.grownBy w' row ∧ ∀ g, row = some g → lo ≤ g ∧ g < hi := by
  by_cases h0 : l = []
  · subst h0
    go_enter Tryd.func15, Tryd.ntmps15
    go_wp2_with fail
    go_loop [1, 5] (fun kv i => i = .int .i64 0 ∧ kv = .int .i64 k) (fun _ _ => 0)
    case atStart => exact ⟨rfl, rfl⟩
    case round =>
      obtain ⟨rfl, rfl⟩ := hrel
      go_wp2_with fail
      go_ret
      exact ⟨by simp, .inl rfl, none, grown_of _ (Below.refl _ _), fun _ e => nomatch e⟩
  · rcases ha with ha | ⟨g, rfl, g1, g2, ga⟩
    · exact absurd ha h0
    have GA : Hid (PartP w g k 0 l.length) := ⟨ga.1, ga.2.1, fun i hi => absurd hi (by omega), fun i _ hi => ⟨_, _, (ga.2.2 i _ (List.getElem?_eq_getElem hi)).1, (ga.2.2 i _ (List.getElem?_eq_getElem hi)).2⟩⟩
    have hlen : ∃ n, n = l.length := ⟨_, rfl⟩
    obtain ⟨n, hln⟩ := hlen
    rw [← hln] at GA hn ⊢
    clear ga hln h0
    go_enter Tryd.func15, Tryd.ntmps15
    go_wp2_with fail
    go_loopw [1, 5] (fun kv i wr => ∃ j : Nat, j ≤ n ∧ i = .int .i64 j ∧ kv = .int .i64 ((k : Int) + 2 * j) ∧ Hid (PartP wr g k j n) ∧ Hid (w.grownBy wr (some g))) (fun _ i _ => n - (intOf i).toNat)
    case atStart => exact ⟨0, by omega, rfl, by simp, GA, grown_of _ (Below.refl _ _)⟩
    case round =>
      obtain ⟨j, hj, rfl, rfl, HP, HG⟩ := hrel
      by_cases hlt : j < n
      · have HP3 : Hid _ := HP.out.step hlt
        have HG3 : Hid _ := grown_set (grown_set HG.out (j * 2) (.int .i64 ((k : Int) + 2 * j))) (j * 2 + 1) (.int .i64 ((k : Int) + 2 * j + 1))
        obtain ⟨p1, p2, _, p4⟩ := HP.out
        obtain ⟨x0, z0, hx0, hz0⟩ := p4 j (Nat.le_refl _) hlt
        clear p4 HP HG
        go_wp2_with fail
        go_roundw
        case rel => exact ⟨j + 1, by omega, by go_num, by go_num, HP3, HG3⟩
        case measure => simp [intOf]; omega
      · obtain rfl : j = n := by omega
        go_wp2_with fail
        go_ret
        exact ⟨rfl, .inr ⟨g, rfl, g1, g2, HP.out.row⟩, some g, HG.out, fun g' e => by cases e; exact ⟨g1, g2⟩⟩

theorem markP_one (a : Option Addr) (ca : Nat) (l : List (Int × Int)) (w : World) (lo hi : Nat) (hn : l.length ≤ 1400000) (ha : PV w a l lo hi) :
    Calls Tryd.prog 15 #[.slice a l.length ca, .int .i64 1] w fun e w' => e = .returned (.int .i64 (1 + 2 * (l.length : Int))) ∧ PV w' a (marksP 1 l.length) lo hi ∧ ∃ row, w.grownBy w' row ∧ ∀ g, row = some g → lo ≤ g ∧ g < hi :=
  markP_any a ca 1 l w lo hi (Nat.le_refl _) (by omega) ha
theorem heldP_one (a : Option Addr) (ca n : Nat) (w : World) (lo hi : Nat) (hn : n ≤ 1400000) (ha : PV w a (marksP 1 n) lo hi) :
    Calls Tryd.prog 16 #[.slice a n ca, .int .i64 1] w fun e w' => e = .returned (.int .i64 (1 + 2 * (n : Int))) ∧ Below w.heap.size w w' :=
  heldP_any a ca 1 n w lo hi (Nat.le_refl _) (by omega) ha

end Go.Proofs.YtelpmkbjegimpaaDoor.Spb
