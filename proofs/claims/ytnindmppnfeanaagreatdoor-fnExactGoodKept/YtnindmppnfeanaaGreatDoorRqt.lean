/-
  Walks: laws' toRequest, eqRequest.
-/
import Derived.Test.YtnindmppnfeanaaGreatDoorRqo
import Derived.Test.YtnindmppnfeanaaGreatDoorRqs
namespace Go.Proofs.YtnindmppnfeanaaGreatDoor.Rqb
open Go.RowKit
open Go.Proofs.YtnindmppnfeanaaGreatDoor.Fbs
open Go.Proofs.YtnindmppnfeanaaGreatDoor.Fdb
open Go.Proofs.YtnindmppnfeanaaGreatDoor.Fds
open Go.Proofs.YtnindmppnfeanaaGreatDoor.Mrk (same_text)

/-- A block of four cells of the call's own. -/
def Own4 (w : World) (g : Nat) (v0 v1 v2 v3 : Value) : Prop := (∀ i, w.frozen? ⟨g, i, none⟩ = false) ∧ w.cell? ⟨g, 0, none⟩ = some v0 ∧ w.cell? ⟨g, 1, none⟩ = some v1 ∧ w.cell? ⟨g, 2, none⟩ = some v2 ∧ w.cell? ⟨g, 3, none⟩ = some v3
theorem Own4.made (w : World) (v0 v1 v2 v3 : Value) (t : TypeId) : Own4 (w.alloc (.cells #[v0, v1, v2, v3] t)) w.heap.size v0 v1 v2 v3 :=
  ⟨fun i => World.frozen?_alloc_at _ t _ i rfl, by rw [World.cell?_alloc_mark]; rfl, by rw [World.cell?_alloc_mark]; rfl, by rw [World.cell?_alloc_mark]; rfl, by rw [World.cell?_alloc_mark]; rfl⟩
theorem Own4.below {w w' : World} {g : Nat} {v0 v1 v2 v3 : Value} (h : Own4 w g v0 v1 v2 v3) (hb : Below w.heap.size w w') : Own4 w' g v0 v1 v2 v3 := by
  have hg := World.block_lt_of_cell? _ _ h.2.1
  have e : ∀ i, w'.cell? ⟨g, i, none⟩ = w.cell? ⟨g, i, none⟩ := fun i => hb.cell (p := ⟨g, i, none⟩) hg
  exact ⟨fun i => (hb.frozen (p := ⟨g, i, none⟩) hg).trans (h.1 i), (e 0).trans h.2.1, (e 1).trans h.2.2.1, (e 2).trans h.2.2.2.1, (e 3).trans h.2.2.2.2⟩
theorem fv_set {w : World} {a : Option Addr} {l : List (ByteArray × ByteArray)} {lo hi : Nat} (h : FV w a l lo hi) {b j : Nat} (hb : b < lo) (u : Value) : FV (w.setCell ⟨b, j, none⟩ u) a l lo hi := by
  rcases h with h | ⟨g, h1, h2, h3, h4, h5, h6⟩
  · exact .inl h
  · have e : (w.setCell ⟨b, j, none⟩ u).heap[g]? = w.heap[g]? := Below.heap_setCell _ _ _ _ (by show g ≠ b; omega)
    have hc : ∀ i, (w.setCell ⟨b, j, none⟩ u).cell? ⟨g, i, none⟩ = w.cell? ⟨g, i, none⟩ := fun i => by unfold World.cell?; rw [e]
    refine .inr ⟨g, h1, h2, h3, by simpa [World.setCell] using h4, fun i => ?_, fun i c hi => ⟨(hc _).trans (h6 i c hi).1, (hc _).trans (h6 i c hi).2⟩⟩
    have := h5 i
    unfold World.frozen? at this ⊢
    rwa [e]
theorem size_set (w : World) (p : Addr) (u : Value) : (w.setCell p u).heap.size = w.heap.size := by simp [World.setCell]

end Go.Proofs.YtnindmppnfeanaaGreatDoor.Rqb
