/-
  Walks: laws' markChoiceS.
-/
import Derived.Test.YtaplkbkpgdpbaaaDoorMrc
namespace Go.Proofs.YtaplkbkpgdpbaaaDoor.Mrc
open Go.RowKit
open Go.Proofs.YtaplkbkpgdpbaaaDoor.Fbs
open Go.Proofs.YtaplkbkpgdpbaaaDoor.Och
open Go.Proofs.YtaplkbkpgdpbaaaDoor.Mrk (mk markText_any same_text below_drewN grown_below grown_of grown_set below_grown)

/-- Marks so far: j of n choices of a row turned. -/
def PartC (w : World) (g k j n : Nat) : Prop := g < w.heap.size ∧ (∀ i, w.frozen? ⟨g, i, none⟩ = false) ∧ (∀ i, i < j → w.cell? ⟨g, i * 2, none⟩ = some (.string (mk (k + 2 * i))) ∧ w.cell? ⟨g, i * 2 + 1, none⟩ = some (.int .i64 ((k : Int) + 2 * (i : Int) + 1))) ∧ ∀ i, j ≤ i → i < n → ∃ x z, w.cell? ⟨g, i * 2, none⟩ = some (.string x) ∧ w.cell? ⟨g, i * 2 + 1, none⟩ = some (.int .i64 z)
theorem PartC.below {w w' : World} {g k j n : Nat} (h : PartC w g k j n) (hb : Below w.heap.size w w') : PartC w' g k j n := by
  have e : ∀ i, w'.cell? ⟨g, i, none⟩ = w.cell? ⟨g, i, none⟩ := fun i => hb.cell (p := ⟨g, i, none⟩) h.1
  refine ⟨Nat.lt_of_lt_of_le h.1 hb.size, fun i => (hb.frozen (p := ⟨g, i, none⟩) h.1).trans (h.2.1 i), fun i hi => ⟨(e _).trans (h.2.2.1 i hi).1, (e _).trans (h.2.2.1 i hi).2⟩, fun i h1 h2 => ?_⟩
  obtain ⟨x, z, hx, hz⟩ := h.2.2.2 i h1 h2
  exact ⟨x, z, (e _).trans hx, (e _).trans hz⟩
theorem two_cells {w : World} {g o : Nat} {x y X Y : Value} (hx : w.cell? ⟨g, o, none⟩ = some x) (hy : w.cell? ⟨g, o + 1, none⟩ = some y) (q : Nat) :
    ((w.setCell ⟨g, o, none⟩ X).setCell ⟨g, o + 1, none⟩ Y).cell? ⟨g, q, none⟩ = if q = o then some X else if q = o + 1 then some Y else w.cell? ⟨g, q, none⟩ := by
  by_cases h1 : q = o
  · subst h1
    rw [if_pos rfl]
    simp [go_sem, hx]
  · rw [if_neg h1]
    by_cases h2 : q = o + 1
    · subst h2
      rw [if_pos rfl]
      simp [go_sem, hy]
    · rw [if_neg h2]
      simp [go_sem]
theorem PartC.step {w : World} {g k j n : Nat} (h : PartC w g k j n) (hj : j < n) : PartC ((w.setCell ⟨g, j * 2, none⟩ (.string (mk (k + 2 * j)))).setCell ⟨g, j * 2 + 1, none⟩ (.int .i64 ((k : Int) + 2 * (j : Int) + 1))) g k (j + 1) n := by
  obtain ⟨h1, h2, h3, h4⟩ := h
  obtain ⟨x0, z0, hx0, hz0⟩ := h4 j (Nat.le_refl _) hj
  have T := @two_cells w g (j * 2) _ _ (.string (mk (k + 2 * j))) (.int .i64 ((k : Int) + 2 * (j : Int) + 1)) hx0 hz0
  refine ⟨by simpa [World.setCell] using h1, fun i => by simp [go_sem, h2], fun i hi => ?_, fun i hi hn => ?_⟩
  · rw [T, T]
    by_cases he : i = j
    · subst he
      rw [if_pos rfl, if_neg (by omega), if_pos rfl]
      exact ⟨rfl, rfl⟩
    · rw [if_neg (by omega), if_neg (by omega), if_neg (by omega), if_neg (by omega)]
      exact h3 i (by omega)
  · obtain ⟨x, z, hx, hz⟩ := h4 i (by omega) hn
    rw [T, T, if_neg (by omega), if_neg (by omega), if_neg (by omega), if_neg (by omega)]
    exact ⟨x, z, hx, hz⟩
theorem PartC.row {w : World} {g k n : Nat} (h : PartC w g k n n) : RowC w g (marksC k n) := by
  refine ⟨h.1, h.2.1, fun i c hc => ?_⟩
  have hi : i < n := by
    have := (List.getElem?_eq_some_iff.1 hc).1
    rwa [marksC_len] at this
  rw [marksC_at k n i hi] at hc
  cases hc
  exact h.2.2.1 i hi

/-- A list below what has turned is as it was. -/
theorem CV.kept {w w' : World} {a : Option Addr} {l : List (ByteArray × Int)} {lo hi : Nat} (h : CV w a l lo hi) {row : Option Nat} (hg : w.grownBy w' row) (hr : ∀ g, row = some g → hi ≤ g) : CV w' a l lo hi := by
  rcases h with h | ⟨g, h1, h2, h3, h4, h5, h6⟩
  · exact .inl h
  · have hb : w'.heap[g]? = w.heap[g]? := hg.block g h4 (fun e => by have := hr g e.symm; omega)
    have hc : ∀ i, w'.cell? ⟨g, i, none⟩ = w.cell? ⟨g, i, none⟩ := fun i => by unfold World.cell?; rw [hb]
    refine .inr ⟨g, h1, h2, h3, Nat.lt_of_lt_of_le h4 hg.size, fun i => ?_, fun i c hi => ⟨(hc _).trans (h6 i c hi).1, (hc _).trans (h6 i c hi).2⟩⟩
    rw [← h5 i]; unfold World.frozen?; rw [hb]

def lstC (o : Option (List (ByteArray × Int))) : List (ByteArray × Int) := o.getD []
theorem told_cv {w : World} {B : Nat} {e : Ending} {o : Option (List (ByteArray × Int))} (h : ToldC w B e o) : ∃ a cap, e = .returned (.tuple #[.slice a (lstC o).length cap, .bool o.isSome]) ∧ CV w a (lstC o) B w.heap.size := by
  cases o with
  | none => exact ⟨none, 0, h, .inl rfl⟩
  | some l =>
    obtain ⟨v, rfl, hown⟩ := h
    obtain ⟨a, cap, rfl, ht⟩ := cv_of hown
    exact ⟨a, cap, rfl, ht⟩
theorem chF_len : ∀ (l : List ByteArray) (acc r : List (ByteArray × Int)), chF l acc = some r → r.length = acc.length + l.length
  | [], acc, r, h => by
    have : acc = r := Option.some.inj h
    subst this; simp
  | x :: l, acc, r, h => by
    cases hc : Chc.chR x with
    | none => rw [chF_none hc] at h; cases h
    | some c =>
      rw [chF_some hc] at h
      have := chF_len l _ r h
      rw [this]; simp; omega
theorem choO_len (s : ByteArray) : (lstC (choO s)).length ≤ 20 := by
  cases h : choO s with
  | none => exact Nat.zero_le _
  | some r =>
    show r.length ≤ 20
    unfold choO at h
    cases hl : Lsp.listO s with
    | none => rw [hl] at h; cases h
    | some l =>
      rw [hl] at h
      by_cases h20 : 20 < l.length
      · have h' : (if 20 < l.length then none else chF l []) = some r := h
        rw [if_pos h20] at h'; cases h'
      · have h' : (if 20 < l.length then none else chF l []) = some r := h
        rw [if_neg h20] at h'
        have := chF_len l [] r h'
        simp at this; omega

end Go.Proofs.YtaplkbkpgdpbaaaDoor.Mrc
