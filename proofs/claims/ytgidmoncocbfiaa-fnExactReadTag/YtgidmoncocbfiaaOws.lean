/-
  Lists of texts that the call itself makes: what an append of a text leaves, a list without its last, a text of such a list read.
-/
import Derived.Test.YtgidmoncocbfiaaProg
import Derived.WalkKit
import Derived.WalkLawsBesides
import Derived.Below
namespace Go.Proofs.Ytgidmoncocbfiaa.Ows
open Go.RowKit

theorem info9 : (Try.prog.info? 9).map (fun i => (i.zero, i.size, i.bytes)) = some (some (.string ⟨#[]⟩), 1, 16) := by kernel_rfl

/-- The value v holds the texts l, in memory of the call's own from block B on. -/
def textsIn (w : World) (B : Nat) (v : Value) (l : List ByteArray) : Prop := w.ownsRow B 9 1 v l.length (l.map Value.string)

theorem textsIn.below {w w' : World} {B : Nat} {v : Value} {l : List ByteArray} (h : textsIn w B v l) (hb : Below w.heap.size w w') : textsIn w' B v l := by
  refine ⟨h.1, ?_⟩
  rcases h.2 with hn | ⟨g, cap, cur, rfl, hbg, hg, rest⟩
  · exact .inl hn
  · exact .inr ⟨g, cap, cur, rfl, hbg, (hb.block g (Array.getElem?_eq_some_iff.1 hg).1).trans hg, rest⟩

theorem textsIn.alloc {w : World} {B : Nat} {v : Value} {l : List ByteArray} (h : textsIn w B v l) (o : Obj) : textsIn (w.alloc o) B v l := World.ownsRow.alloc h o

/-- The value's shape. -/
theorem textsIn.form {w : World} {B : Nat} {v : Value} {l : List ByteArray} (h : textsIn w B v l) : ∃ a cap, v = .slice a l.length cap ∧ l.length ≤ cap ∧ cap ≤ maxLen ∧ (l ≠ [] → ∃ g, a = some ⟨g, 0, none⟩ ∧ B ≤ g ∧ g < w.heap.size) := by
  rcases h.2 with ⟨rfl, h0⟩ | ⟨g, cap, cur, rfl, hbg, hg, hnc, hcm, _⟩
  · have hl : l = [] := by simpa using h0
    subst hl
    exact ⟨none, 0, rfl, Nat.le_refl _, by decide, fun h => absurd rfl h⟩
  · exact ⟨_, cap, rfl, hnc, hcm, fun _ => ⟨g, rfl, hbg, (Array.getElem?_eq_some_iff.1 hg).1⟩⟩

/-- A text of such a list. -/
theorem textsIn.at {w : World} {B : Nat} {g n cap : Nat} {l : List ByteArray} (h : textsIn w B (.slice (some ⟨g, 0, none⟩) n cap) l) (j : Nat) (x : ByteArray) (hx : l[j]? = some x) : w.cell? ⟨g, j, none⟩ = some (.string x) := by
  have := World.ownsRow.cells h (g := g) rfl j (.string x) (by rw [List.getElem?_map, hx]; rfl)
  rwa [Addr.add_lit, Nat.zero_add] at this

/-- A list without its last. -/
theorem textsIn.pop {w : World} {B g cap : Nat} {l : List ByteArray} (hl : l ≠ []) (h : textsIn w B (.slice (some ⟨g, 0, none⟩) l.length cap) l) : textsIn w B (.slice (some ⟨g, 0, none⟩) (l.length - 1) cap) l.dropLast := by
  have hd := List.dropLast_concat_getLast hl
  have hn : l.length = l.dropLast.length + 1 := by rw [List.length_dropLast]; have := List.length_pos_iff.2 hl; omega
  unfold textsIn at h ⊢
  have hx : l.map Value.string = l.dropLast.map Value.string ++ [Value.string (l.getLast hl)] := by
    rw [← List.map_singleton, ← List.map_append, hd]
  rw [hx, hn] at h
  have := ownsRow_pop (by simp) h
  rw [show l.length - 1 = l.dropLast.length from by omega]
  exact this

end Go.Proofs.Ytgidmoncocbfiaa.Ows
