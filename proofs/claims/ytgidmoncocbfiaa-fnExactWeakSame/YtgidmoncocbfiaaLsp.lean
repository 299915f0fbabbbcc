/-
  Walks: spec.l3List and spec.ListOf: the parts of a list.
-/
import Derived.Test.YtgidmoncocbfiaaTri
namespace Go.Proofs.Ytgidmoncocbfiaa.Lsp
open Go.RowKit
open Go.Proofs.Ytgidmoncocbfiaa.Fbs
open Go.Proofs.Ytgidmoncocbfiaa.Ows
open Go.Proofs.Ytgidmoncocbfiaa.Tri

def at0 (s : ByteArray) (k : Nat) : UInt8 := s.data.toList[k]?.getD 0
/-- A part that is not empty behind those so far. -/
def addT (acc : List ByteArray) (x : ByteArray) : List ByteArray := if x.size = 0 then acc else acc ++ [x]
/-- The parts of a list, round by round: at the place i, the part begun at 'fr', within quotes or not, those so far. -/
def listF (s : ByteArray) : Nat → Nat → Nat → Bool → List ByteArray → Option (List ByteArray)
  | 0, _, _, _, _ => none
  | f + 1, i, fr, op, acc =>
    if i < s.size then
      if (at0 s i).toNat = 44 ∧ op = false then listF s f (i + 1) (i + 1) false (addT acc (trimS (s.extract fr i)))
      else if (at0 s i).toNat = 34 then listF s f (i + 1) fr (!op) acc
      else if (at0 s i).toNat = 92 ∧ op = true then (if i + 1 = s.size then none else listF s f (i + 2) fr op acc)
      else listF s f (i + 1) fr op acc
    else if op = true then none else some (addT acc (trimS (s.extract fr i)))

theorem listF_comma {s : ByteArray} {f i fr : Nat} {acc : List ByteArray} (h : i < s.size) (hc : (at0 s i).toNat = 44) : listF s (f + 1) i fr false acc = listF s f (i + 1) (i + 1) false (addT acc (trimS (s.extract fr i))) := by
  simp only [listF]; rw [if_pos h, if_pos (by simp [hc])]
theorem listF_quote {s : ByteArray} {f i fr : Nat} {op : Bool} {acc : List ByteArray} (h : i < s.size) (hc : (at0 s i).toNat = 34) : listF s (f + 1) i fr op acc = listF s f (i + 1) fr (!op) acc := by
  simp only [listF]; rw [if_pos h, if_neg (by omega), if_pos hc]
theorem listF_cut {s : ByteArray} {f i fr : Nat} {acc : List ByteArray} (h : i + 1 = s.size) (hc : (at0 s i).toNat = 92) : listF s (f + 1) i fr true acc = none := by
  simp only [listF]; rw [if_pos (by omega), if_neg (by omega), if_neg (by omega), if_pos (by simp [hc]), if_pos h]
theorem listF_esc {s : ByteArray} {f i fr : Nat} {acc : List ByteArray} (h : i + 1 < s.size) (hc : (at0 s i).toNat = 92) : listF s (f + 1) i fr true acc = listF s f (i + 2) fr true acc := by
  simp only [listF]; rw [if_pos (by omega), if_neg (by omega), if_neg (by omega), if_pos (by simp [hc]), if_neg (by omega)]
theorem listF_one {s : ByteArray} {f i fr : Nat} {op : Bool} {acc : List ByteArray} (h : i < s.size) (h1 : ¬ ((at0 s i).toNat = 44 ∧ op = false)) (h2 : (at0 s i).toNat ≠ 34) (h3 : ¬ ((at0 s i).toNat = 92 ∧ op = true)) : listF s (f + 1) i fr op acc = listF s f (i + 1) fr op acc := by
  simp only [listF]; rw [if_pos h, if_neg h1, if_neg h2, if_neg h3]
theorem listF_open {s : ByteArray} {f i fr : Nat} {acc : List ByteArray} (h : s.size ≤ i) : listF s (f + 1) i fr true acc = none := by
  simp only [listF]; rw [if_neg (by omega)]; rfl
theorem listF_end {s : ByteArray} {f i fr : Nat} {acc : List ByteArray} (h : s.size ≤ i) : listF s (f + 1) i fr false acc = some (addT acc (trimS (s.extract fr i))) := by
  simp only [listF]; rw [if_neg (by omega)]; rfl

/-- The parts of a list. -/
def listL (s : ByteArray) : Option (List ByteArray) := listF s (s.size + 1) 0 0 false []
def listO (s : ByteArray) : Option (List ByteArray) := if plainB s.data.toList = true ∧ s.size ≤ 300 then listL s else none

/-- What spec.l3List answers: parts and true; or false. -/
def Half (w : World) (B : Nat) (v : Value) (ok : Bool) : Option (List ByteArray) → Prop
  | none => ok = false
  | some l => ok = true ∧ textsIn w B v l
/-- What is answered: the parts, in memory of the call's own, and true; or nil and false. -/
def Told (w : World) (B : Nat) (e : Ending) : Option (List ByteArray) → Prop
  | none => e = .returned (.tuple #[.slice none 0 0, .bool false])
  | some l => ∃ v, e = .returned (.tuple #[v, .bool true]) ∧ textsIn w B v l

theorem empty_cmp {T : ByteArray} (h : T.size = 0) : (T.toList == []) = true := by
  have e : T.toList = T.data.toList := by simp [ByteArray.toList_eq]
  rw [e, empty_of h]; rfl
theorem some_cmp {T : ByteArray} (h : T.size ≠ 0) : (T.toList == []) = false := by
  have e : T.toList = T.data.toList := by simp [ByteArray.toList_eq]
  rw [e]
  have := len_list T
  cases hT : T.data.toList with
  | nil => rw [hT] at this; simp at this; omega
  | cons => rfl

end Go.Proofs.Ytgidmoncocbfiaa.Lsp
