/-
  Walks: impl.requestHead, impl.checkHead, impl.checkRequest, impl.GoodRequest.
-/
import Derived.Test.YtnindmppnfeanaaGreatDoorRqj
namespace Go.Proofs.YtnindmppnfeanaaGreatDoor.Rqb
open Go.RowKit
open Go.Proofs.YtnindmppnfeanaaGreatDoor.Fbs
open Go.Proofs.YtnindmppnfeanaaGreatDoor.Fch
open Go.Proofs.YtnindmppnfeanaaGreatDoor.Fdb
open Go.Proofs.YtnindmppnfeanaaGreatDoor.Fvs
open Go.Proofs.YtnindmppnfeanaaGreatDoor.Lnp

/-- A request in a block of its own. -/
def BoxR (w : World) (g : Nat) (M T : ByteArray) (a : Option Addr) (n ca : Nat) (B : ByteArray) : Prop :=
  w.cell? ⟨g, 0, none⟩ = some (.string M) ∧ w.cell? ⟨g, 1, none⟩ = some (.string T) ∧ w.cell? ⟨g, 2, none⟩ = some (.slice a n ca) ∧ w.cell? ⟨g, 3, none⟩ = some (.string B)
theorem BoxR.below {w w' : World} {g : Nat} {M T : ByteArray} {a : Option Addr} {n ca : Nat} {B : ByteArray} (h : BoxR w g M T a n ca B) (hb : Below w.heap.size w w') : BoxR w' g M T a n ca B := by
  have hg := World.block_lt_of_cell? _ _ h.1
  have e : ∀ i, w'.cell? ⟨g, i, none⟩ = w.cell? ⟨g, i, none⟩ := fun i => hb.cell (p := ⟨g, i, none⟩) hg
  exact ⟨(e 0).trans h.1, (e 1).trans h.2.1, (e 2).trans h.2.2.1, (e 3).trans h.2.2.2⟩
theorem BoxR.made (w : World) (M T : ByteArray) (a : Option Addr) (n ca : Nat) (B : ByteArray) (t : TypeId) : BoxR (w.alloc (.cells #[.string M, .string T, .slice a n ca, .string B] t)) w.heap.size M T a n ca B := by
  refine ⟨?_, ?_, ?_, ?_⟩ <;> simp [go_sem]

def vers : ByteArray := ⟨#[72, 84, 84, 80, 47, 49, 46, 49]⟩
/-- The first line of a request. -/
def firstR (M T : ByteArray) : ByteArray := spc3 M T vers

/-- Whether a head is too long, as a fault. -/
def hdC (s : ByteArray) : Int := if 2000 < (s.size : Int) then 5 else 0
theorem checkHead_any (s : ByteArray) (w : World) :
    Calls Tryz.prog 109 #[.string s] w fun e w' => e = .returned (errV (hdC s)) ∧ Below w.heap.size w w' := by
  by_cases h : 2000 < (s.size : Int)
  · have hd : decide (2000 < (s.size : Int)) = true := decide_eq_true h
    have HR : Hid (errV (hdC s) = .iface 154 (.agg #[.int .i64 5])) := by show _ = _; unfold hdC; rw [if_pos h]; rfl
    generalize errV (hdC s) = R at HR ⊢
    go_enter Tryz.func109, Tryz.ntmps109
    go_wp2_with fail
    go_ret
    exact ⟨ret_v HR.out, by first | exact Below.refl _ _ | exact (Below.refl _ _).alloc (Nat.le_refl _) _⟩
  · have hd : decide (2000 < (s.size : Int)) = false := decide_eq_false h
    have HR : Hid (errV (hdC s) = .nilIface) := by show _ = _; unfold hdC; rw [if_neg h]; rfl
    generalize errV (hdC s) = R at HR ⊢
    go_enter Tryz.func109, Tryz.ntmps109
    go_wp2_with fail
    go_ret
    exact ⟨ret_v HR.out, Below.refl _ _⟩

/-- The first fault of a request, 0 for none. -/
def rqC (M T : ByteArray) (l : List (ByteArray × ByteArray)) (B : ByteArray) : Int :=
  if mthB M && tgtB T then (if fbC l B = 0 then hdC (headS (firstR M T) l) else fbC l B) else 2
/-- Whether a request is good. -/
def rqB (M T : ByteArray) (l : List (ByteArray × ByteArray)) (B : ByteArray) : Bool :=
  mthB M && (tgtB T && (goodL l && (frB l B && decide (((headS (firstR M T) l).size : Int) ≤ 2000))))
theorem rq_is (M T : ByteArray) (l : List (ByteArray × ByteArray)) (B : ByteArray) : rqB M T l B = decide (rqC M T l B = 0) := by
  have h := fr_fb l B
  unfold rqB rqC
  rw [← Bool.and_assoc (goodL l), h]
  cases mthB M
  · simp
  cases tgtB T
  · simp
  by_cases hf : fbC l B = 0
  · simp only [Bool.and_self, Bool.true_and, if_true, if_pos hf]
    rw [decide_eq_true hf, Bool.true_and]
    unfold hdC
    by_cases h2 : 2000 < ((headS (firstR M T) l).size : Int)
    · rw [if_pos h2, decide_eq_false (by omega)]; rfl
    · rw [if_neg h2, decide_eq_true (by omega)]; rfl
  · simp only [Bool.and_self, Bool.true_and, if_true, if_neg hf]
    rw [decide_eq_false hf, Bool.false_and]
    

end Go.Proofs.YtnindmppnfeanaaGreatDoor.Rqb
