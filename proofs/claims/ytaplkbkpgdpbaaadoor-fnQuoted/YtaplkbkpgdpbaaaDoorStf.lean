/-
  What SetField makes of fields.
-/
import Derived.Test.YtaplkbkpgdpbaaaDoorVof
namespace Go.Proofs.YtaplkbkpgdpbaaaDoor.Stf
open Go.RowKit
open Go.Proofs.YtaplkbkpgdpbaaaDoor.Fbs
open Go.Proofs.YtaplkbkpgdpbaaaDoor.Fdb
open Go.Proofs.YtaplkbkpgdpbaaaDoor.Fgd (goodF)
open Go.Proofs.YtaplkbkpgdpbaaaDoor.Fvs
open Go.Proofs.YtaplkbkpgdpbaaaDoor.Fpl
open Go.Proofs.YtaplkbkpgdpbaaaDoor.Lof (lowS)

def stepS (S V : ByteArray) (st : List (ByteArray × ByteArray) × Bool) (c : ByteArray × ByteArray) : List (ByteArray × ByteArray) × Bool :=
  if isN S c = true then (if st.2 = true then st else (st.1 ++ [(c.1, V)], true)) else (st.1 ++ [c], st.2)
def setP (S V : ByteArray) (l : List (ByteArray × ByteArray)) : List (ByteArray × ByteArray) × Bool := l.foldl (stepS S V) ([], false)
theorem setP_snoc (S V : ByteArray) (l : List (ByteArray × ByteArray)) (c : ByteArray × ByteArray) : setP S V (l ++ [c]) = stepS S V (setP S V l) c := by
  unfold setP; rw [List.foldl_append]; rfl
theorem fold_put (S V : ByteArray) : ∀ (l : List (ByteArray × ByteArray)) (st : List (ByteArray × ByteArray) × Bool), (l.foldl (stepS S V) st).2 = (st.2 || hasL (lowS S) l)
  | [], st => by simp [hasL]
  | c :: r, st => by
    rw [List.foldl_cons, fold_put S V r]
    have h : hasL (lowS S) (c :: r) = (decide (lowS c.1 = lowS S) || hasL (lowS S) r) := by simp [hasL]
    rw [h]
    have hs : (stepS S V st c).2 = (st.2 || isN S c) := by
      obtain ⟨x, p⟩ := st
      unfold stepS
      cases isN S c <;> cases p <;> simp
    rw [hs]
    unfold isN
    rw [Bool.or_assoc]
theorem setP_put (S V : ByteArray) (l : List (ByteArray × ByteArray)) : (setP S V l).2 = hasL (lowS S) l := by
  unfold setP; rw [fold_put]; rfl
theorem fold_len (S V : ByteArray) : ∀ (l : List (ByteArray × ByteArray)) (st : List (ByteArray × ByteArray) × Bool), (l.foldl (stepS S V) st).1.length ≤ st.1.length + l.length
  | [], st => by simp
  | c :: r, st => by
    rw [List.foldl_cons]
    have := fold_len S V r (stepS S V st c)
    have hs : (stepS S V st c).1.length ≤ st.1.length + 1 := by
      unfold stepS
      cases isN S c <;> cases st.2 <;> simp
    rw [List.length_cons]
    omega
theorem setP_len (S V : ByteArray) (l : List (ByteArray × ByteArray)) : (setP S V l).1.length ≤ l.length := by
  have := fold_len S V l ([], false)
  unfold setP
  simpa using this
theorem step_no {S V : ByteArray} {acc : List (ByteArray × ByteArray)} {p : Bool} {c : ByteArray × ByteArray} (h : isN S c = false) : stepS S V (acc, p) c = (acc ++ [c], p) := by unfold stepS; rw [h]; rfl
theorem step_new {S V : ByteArray} {acc : List (ByteArray × ByteArray)} {c : ByteArray × ByteArray} (h : isN S c = true) : stepS S V (acc, false) c = (acc ++ [(c.1, V)], true) := by unfold stepS; rw [h]; rfl
theorem step_old {S V : ByteArray} {acc : List (ByteArray × ByteArray)} {c : ByteArray × ByteArray} (h : isN S c = true) : stepS S V (acc, true) c = (acc, true) := by unfold stepS; rw [h]; rfl

/-- What SetField makes. -/
def setL (S V : ByteArray) (l : List (ByteArray × ByteArray)) : List (ByteArray × ByteArray) := if (setP S V l).2 = true then (setP S V l).1 else (setP S V l).1 ++ [(S, V)]
theorem setL_len (S V : ByteArray) (l : List (ByteArray × ByteArray)) : (setL S V l).length ≤ l.length + 1 := by
  have := setP_len S V l
  unfold setL
  split
  · omega
  · rw [List.length_append]; show _ + 1 ≤ _; omega
def setO (S V : ByteArray) (l : List (ByteArray × ByteArray)) : Option (List (ByteArray × ByteArray)) :=
  if goodL l = true ∧ goodF S V = true then (if 40 < (setL S V l).length then none else some (setL S V l)) else none

/-- What is answered: the fields, in memory of the call's own, and true; or nil and false. -/
def ToldF (w : World) (B : Nat) (e : Ending) : Option (List (ByteArray × ByteArray)) → Prop
  | none => e = .returned (.tuple #[.slice none 0 0, .bool false])
  | some l => ∃ v, e = .returned (.tuple #[v, .bool true]) ∧ fieldsIn w B v l
def lstF (o : Option (List (ByteArray × ByteArray))) : List (ByteArray × ByteArray) := o.getD []
theorem told_fv {w : World} {B : Nat} {e : Ending} {o : Option (List (ByteArray × ByteArray))} (h : ToldF w B e o) : ∃ a cap, e = .returned (.tuple #[.slice a (lstF o).length cap, .bool o.isSome]) ∧ FV w a (lstF o) B w.heap.size := by
  cases o with
  | none => exact ⟨none, 0, h, .inl rfl⟩
  | some l =>
    obtain ⟨v, rfl, hown⟩ := h
    obtain ⟨a, cap, rfl, ht⟩ := fv_of hown
    exact ⟨a, cap, rfl, ht⟩

end Go.Proofs.YtaplkbkpgdpbaaaDoor.Stf
