/-
  Walks: laws' eqChoice, eqChoiceS, heldChoiceS, markChoiceS.
-/
import Derived.Test.YtaplkbkpgdpbaaaDoorChz
namespace Go.Proofs.YtaplkbkpgdpbaaaDoor.Mrc
open Go.RowKit
open Go.Proofs.YtaplkbkpgdpbaaaDoor.Fbs
open Go.Proofs.YtaplkbkpgdpbaaaDoor.Och
open Go.Proofs.YtaplkbkpgdpbaaaDoor.Mrk (mk markText_any same_text below_drewN grown_below grown_of grown_set below_grown)

theorem flat_at : ∀ (l : List (ByteArray × Int)) (i : Nat) (c : ByteArray × Int), l[i]? = some c → (flatC l)[i * 2]? = some (.string c.1) ∧ (flatC l)[i * 2 + 1]? = some (.int .i64 c.2)
  | [], i, c, h => by simp at h
  | d :: r, 0, c, h => by
    have : d = c := by simpa using h
    subst this
    exact ⟨rfl, rfl⟩
  | d :: r, i + 1, c, h => by
    have := flat_at r i c (by simpa using h)
    have e : flatC (d :: r) = .string d.1 :: .int .i64 d.2 :: flatC r := rfl
    rw [e, show (i + 1) * 2 = i * 2 + 1 + 1 from by omega, show i * 2 + 1 + 1 + 1 = (i * 2 + 1) + 1 + 1 from rfl]
    simpa using this

/-- A row of choices in a block. -/
def RowC (w : World) (g : Nat) (l : List (ByteArray × Int)) : Prop := g < w.heap.size ∧ (∀ i, w.frozen? ⟨g, i, none⟩ = false) ∧ ∀ i c, l[i]? = some c → w.cell? ⟨g, i * 2, none⟩ = some (.string c.1) ∧ w.cell? ⟨g, i * 2 + 1, none⟩ = some (.int .i64 c.2)
/-- A list of choices: empty, or in a block from lo on and below hi. -/
def CV (w : World) (a : Option Addr) (l : List (ByteArray × Int)) (lo hi : Nat) : Prop := l = [] ∨ ∃ g, a = some ⟨g, 0, none⟩ ∧ lo ≤ g ∧ g < hi ∧ RowC w g l

theorem RowC.below {w w' : World} {g : Nat} {l : List (ByteArray × Int)} (h : RowC w g l) (hb : Below w.heap.size w w') : RowC w' g l :=
  ⟨Nat.lt_of_lt_of_le h.1 hb.size, fun i => (hb.frozen (p := ⟨g, i, none⟩) h.1).trans (h.2.1 i), fun i c hc => ⟨(hb.cell (p := ⟨g, i * 2, none⟩) h.1).trans (h.2.2 i c hc).1, (hb.cell (p := ⟨g, i * 2 + 1, none⟩) h.1).trans (h.2.2 i c hc).2⟩⟩
theorem CV.below {w w' : World} {a : Option Addr} {l : List (ByteArray × Int)} {lo hi : Nat} (h : CV w a l lo hi) (hb : Below w.heap.size w w') : CV w' a l lo hi := by
  rcases h with h | ⟨g, h1, h2, h3, h4⟩
  · exact .inl h
  · exact .inr ⟨g, h1, h2, h3, h4.below hb⟩
theorem cv_of {w : World} {B : Nat} {v : Value} {l : List (ByteArray × Int)} (h : choicesIn w B v l) : ∃ a cap, v = .slice a l.length cap ∧ CV w a l B w.heap.size := by
  have hh := h
  rcases h.2 with ⟨rfl, h0⟩ | ⟨g, cap, cur, rfl, hbg, hg, hnc, hcm, hcs, htake⟩
  · have hl : l = [] := by simpa using h0
    subst hl
    exact ⟨none, 0, rfl, .inl rfl⟩
  · refine ⟨_, _, rfl, .inr ⟨g, rfl, hbg, (Array.getElem?_eq_some_iff.1 hg).1, (Array.getElem?_eq_some_iff.1 hg).1, fun i => by simp [World.frozen?, hg], fun i c hc => ?_⟩⟩
    obtain ⟨f1, f2⟩ := flat_at l i c hc
    have e1 := World.ownsRow.cells hh (g := g) rfl (i * 2) _ f1
    have e2 := World.ownsRow.cells hh (g := g) rfl (i * 2 + 1) _ f2
    rw [Addr.add_lit, Nat.zero_add] at e1 e2
    exact ⟨e1, e2⟩

/-- The marks: names and weights, numbered on. -/
def marksC (k n : Nat) : List (ByteArray × Int) := (List.range n).map fun i => (mk (k + 2 * i), (k : Int) + 2 * (i : Int) + 1)
theorem marksC_at (k n i : Nat) (h : i < n) : (marksC k n)[i]? = some (mk (k + 2 * i), (k : Int) + 2 * (i : Int) + 1) := by
  unfold marksC
  rw [List.getElem?_map, List.getElem?_range h]; rfl
theorem marksC_len (k n : Nat) : (marksC k n).length = n := by simp [marksC]

end Go.Proofs.YtaplkbkpgdpbaaaDoor.Mrc
