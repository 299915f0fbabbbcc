/-
  Walks: draws: (*l1Cur).field, fields; spec.DrawQuoteOf, DrawSetField.
  Walks: draws: (*l1Cur).fields; spec.DrawSetField.
-/
import Derived.Test.YtgidmoncocbfiaaGreatDoorMg20
import Derived.Test.YtgidmoncocbfiaaGreatDoorMg8
namespace Go.Proofs.YtgidmoncocbfiaaGreatDoor.Cur
open Go.RowKit
open Go.Proofs.YtgidmoncocbfiaaGreatDoor.Fdb (fieldsIn wpList_append_field FV fv_of RowF)

/-- A block that holds a field, its texts short. -/
def FB (w : World) (b : Nat) : Prop := b < w.heap.size ∧ (∀ i, w.frozen? ⟨b, i, none⟩ = false) ∧ ∃ X z : ByteArray, X.size ≤ 10 ∧ z.size ≤ 10 ∧ w.cell? ⟨b, 0, none⟩ = some (.string X) ∧ w.cell? ⟨b, 1, none⟩ = some (.string z)
theorem FB.made (w : World) (X z : ByteArray) (t : TypeId) (h1 : X.size ≤ 10) (h2 : z.size ≤ 10) : FB (w.alloc (.cells #[.string X, .string z] t)) w.heap.size :=
  ⟨by simp, fun i => World.frozen?_alloc_at _ t _ i rfl, X, z, h1, h2, by rw [World.cell?_alloc_mark]; rfl, by rw [World.cell?_alloc_mark]; rfl⟩
theorem FB.but {w w' : World} {b cb : Nat} (h : FB w b) (hb : But cb w w') (hc : b ≠ cb) : FB w' b := by
  obtain ⟨h1, h2, X, z, e1, e2, k1, k2⟩ := h
  exact ⟨Nat.lt_of_lt_of_le h1 hb.2.2.2.1, fun i => ((bcells hb).2 b i h1 hc).trans (h2 i), X, z, e1, e2, ((bcells hb).1 b 0 h1 hc).trans k1, ((bcells hb).1 b 1 h1 hc).trans k2⟩
theorem FB.other {w : World} {b b' : Nat} (h : FB w b) (hb : b ≠ b') (j : Nat) (u : Value) : FB (w.setCell ⟨b', j, none⟩ u) b := by
  obtain ⟨h1, h2, X, z, e1, e2, k1, k2⟩ := h
  exact ⟨by simpa [World.setCell] using h1, fun i => by simp [go_sem, h2], X, z, e1, e2, by rw [World.cell?_setCell_other _ _ _ _ (by simp)]; exact k1, by rw [World.cell?_setCell_other _ _ _ _ (by simp)]; exact k2⟩
theorem FB.s0 {w : World} {b : Nat} (h : FB w b) (x : ByteArray) (hx : x.size ≤ 10) : FB (w.setCell ⟨b, 0, none⟩ (.string x)) b := by
  obtain ⟨h1, h2, X, z, e1, e2, k1, k2⟩ := h
  exact ⟨by simpa [World.setCell] using h1, fun i => by simp [go_sem, h2], x, z, hx, e2, by simp [go_sem, k1], by simp [go_sem, k2]⟩
theorem FB.s1 {w : World} {b : Nat} (h : FB w b) (x : ByteArray) (hx : x.size ≤ 10) : FB (w.setCell ⟨b, 1, none⟩ (.string x)) b := by
  obtain ⟨h1, h2, X, z, e1, e2, k1, k2⟩ := h
  exact ⟨by simpa [World.setCell] using h1, fun i => by simp [go_sem, h2], X, x, e1, hx, by simp [go_sem, k1], by simp [go_sem, k2]⟩

theorem of_new3 (Pr : ByteArray → Prop) (xs : List ByteArray) (hx : ∀ x ∈ xs, Pr x) (m : Nat) (hm : m = xs.length) (h1 : 1 ≤ m) (h2 : m ≤ 1000) (cb : Nat) (v : Value) (n N : Nat) (w : World) (b : Nat) (hb : b = w.heap.size) (hC : Cursor w cb v n N) (hN : N ≤ 900000000) :
    Calls Tryz.prog 18 #[.pointer (some ⟨cb, 0, none⟩), .slice (some ⟨b, 0, none⟩) m m] (w.alloc (.cells (xs.map Value.string).toArray 9)) fun e w' => ∃ x : ByteArray, e = .returned (.string x) ∧ Pr x ∧ Cursor w' cb v n (N + 2) ∧ But cb w w' := by
  subst hb
  exact of_new2 Pr xs hx m hm h1 h2 cb v n N w hC hN

end Go.Proofs.YtgidmoncocbfiaaGreatDoor.Cur

namespace Go.Proofs.YtgidmoncocbfiaaGreatDoor.Cur
open Go.RowKit
open Go.Proofs.YtgidmoncocbfiaaGreatDoor.Fdb (fieldsIn wpList_append_field FV fv_of RowF)

theorem fields_but {w w' : World} {B cb : Nat} {v : Value} {l : List (ByteArray × ByteArray)} (h : fieldsIn w B v l) (hb : But cb w w') (hc : cb < B) : fieldsIn w' B v l := by
  refine ⟨h.1, ?_⟩
  rcases h.2 with hn | ⟨g, cap, cur, rfl, hbg, hg, rest⟩
  · exact .inl hn
  · exact .inr ⟨g, cap, cur, rfl, hbg, (hb.2.2.2.2 g (Array.getElem?_eq_some_iff.1 hg).1 (by omega)).trans hg, rest⟩

end Go.Proofs.YtgidmoncocbfiaaGreatDoor.Cur

