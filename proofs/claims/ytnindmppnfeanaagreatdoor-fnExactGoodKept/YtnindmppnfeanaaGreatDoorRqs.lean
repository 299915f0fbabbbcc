/-
  Walks: spec.GoodRequest.
-/
import Derived.Test.YtnindmppnfeanaaGreatDoorRqk
import Derived.Deep.RegionHeld3
import Derived.Deep.QuietTactic
import Derived.BigQuiet
namespace Go.Proofs.YtnindmppnfeanaaGreatDoor.Rqb
open Go.RowKit
open Go.Proofs.YtnindmppnfeanaaGreatDoor.Fbs
open Go.Proofs.YtnindmppnfeanaaGreatDoor.Fch
open Go.Proofs.YtnindmppnfeanaaGreatDoor.Fdb
open Go.Proofs.YtnindmppnfeanaaGreatDoor.Fvs

theorem keep_first (W : World) : Below W.heap.size W W.drew := ⟨rfl, rfl, rfl, Nat.le_refl _, fun _ _ => rfl⟩
theorem and5 {a b c d e : Prop} (h : a ∧ b ∧ c ∧ d ∧ e) : e := h.2.2.2.2
theorem keep4 {W w0 w1 : World} {n : Nat} {u0 u1 u2 u3 : Option Value} (hn : n < W.heap.size) (h : w0.cell? ⟨n, 0, none⟩ = u0 ∧ w0.cell? ⟨n, 1, none⟩ = u1 ∧ w0.cell? ⟨n, 2, none⟩ = u2 ∧ w0.cell? ⟨n, 3, none⟩ = u3 ∧ Below W.heap.size W w0) (hb : Below w0.heap.size w0 w1) :
    w1.cell? ⟨n, 0, none⟩ = u0 ∧ w1.cell? ⟨n, 1, none⟩ = u1 ∧ w1.cell? ⟨n, 2, none⟩ = u2 ∧ w1.cell? ⟨n, 3, none⟩ = u3 ∧ Below W.heap.size W w1 := by
  obtain ⟨h0, h1, h2, h3, h4⟩ := h
  have e : ∀ i, w1.cell? ⟨n, i, none⟩ = w0.cell? ⟨n, i, none⟩ := fun i => hb.cell (p := ⟨n, i, none⟩) (Nat.lt_of_lt_of_le hn h4.size)
  exact ⟨(e 0).trans h0, (e 1).trans h1, (e 2).trans h2, (e 3).trans h3, h4.trans (hb.mono h4.size)⟩

theorem first_is (M T : ByteArray) : M ++ (⟨#[32]⟩ : ByteArray) ++ T ++ (⟨#[32, 72, 84, 84, 80, 47, 49, 46, 49]⟩ : ByteArray) = firstR M T := by
  unfold firstR spc3 vers
  apply ByteArray.ext
  simp [Array.append_assoc]

theorem below_drewN (w : World) (n : Nat) : Below w.heap.size w (w.drewN n) := ⟨rfl, rfl, rfl, Nat.le_refl _, fun _ _ => rfl⟩

end Go.Proofs.YtnindmppnfeanaaGreatDoor.Rqb
