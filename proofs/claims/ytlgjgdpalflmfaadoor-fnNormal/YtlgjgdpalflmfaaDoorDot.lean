/-
  Plain facts on a path's parts and its dots: no program.
-/
import Derived.Lib.Split
import Derived.Lib.SplitLaws
import Derived.Lib.CutLaws
import Derived.Lib.CountLaws
import Derived.Lib.Join
namespace Go.Proofs.YtlgjgdpalflmfaaDoor.Dot
open Go.Lib

def dot1 (p : ByteArray) : Bool := p.toList == [46]
def dot2 (p : ByteArray) : Bool := p.toList == [46, 46]
def slash : ByteArray := ⟨#[47]⟩
def none0 : ByteArray := ⟨#[]⟩

/-- What is kept of the first k parts. -/
def keptTo (L : List ByteArray) : Nat → List ByteArray
  | 0 => []
  | k + 1 =>
    if dot1 (L[k]?.getD none0) = true then keptTo L k
    else if dot2 (L[k]?.getD none0) = true then (keptTo L k).dropLast
    else keptTo L k ++ [L[k]?.getD none0]

theorem kept_dot1 {L : List ByteArray} {k : Nat} (h : dot1 (L[k]?.getD none0) = true) : keptTo L (k + 1) = keptTo L k := by
  simp only [keptTo]; rw [if_pos h]
theorem kept_dot2 {L : List ByteArray} {k : Nat} (h1 : dot1 (L[k]?.getD none0) = false) (h : dot2 (L[k]?.getD none0) = true) : keptTo L (k + 1) = (keptTo L k).dropLast := by
  simp only [keptTo]; rw [if_neg (by rw [h1]; exact Bool.false_ne_true), if_pos h]
theorem kept_part {L : List ByteArray} {k : Nat} (h1 : dot1 (L[k]?.getD none0) = false) (h : dot2 (L[k]?.getD none0) = false) : keptTo L (k + 1) = keptTo L k ++ [L[k]?.getD none0] := by
  simp only [keptTo]; rw [if_neg (by rw [h1]; exact Bool.false_ne_true), if_neg (by rw [h]; exact Bool.false_ne_true)]

theorem kept_len (L : List ByteArray) : ∀ k, (keptTo L k).length ≤ k
  | 0 => Nat.le_refl _
  | k + 1 => by
    have ih := kept_len L k
    simp only [keptTo]
    split
    · omega
    · split
      · rw [List.length_dropLast]; omega
      · rw [List.length_append]; simp; omega

theorem kept_of (L : List ByteArray) (M : Nat) (hM : ∀ p ∈ L, p.size ≤ M) : ∀ k, ∀ p ∈ keptTo L k, p.size ≤ M
  | 0, p, h => by cases h
  | k + 1, p, h => by
    have ih := kept_of L M hM k
    simp only [keptTo] at h
    split at h
    · exact ih p h
    · split at h
      · exact ih p (List.dropLast_subset _ h)
      · rcases List.mem_append.1 h with h | h
        · exact ih p h
        · have hp : p = L[k]?.getD none0 := by simpa using h
          subst hp
          cases hk : L[k]? with
          | none => exact Nat.zero_le _
          | some q => exact hM q (List.mem_of_getElem? hk)

/-- Whether the last part is dots. -/
def lastDots (L : List ByteArray) : Bool := dot1 (L[L.length - 1]?.getD none0) || dot2 (L[L.length - 1]?.getD none0)

/-- The parts told, each behind a slash. -/
def told (l : List ByteArray) : ByteArray := ⟨(joinTail [47] (l.map (·.data.toList))).toArray⟩

/-- A path without its dots, of its parts. -/
def dots (L : List ByteArray) : ByteArray := if lastDots L then told (keptTo L L.length ++ [none0]) else told (keptTo L L.length)

theorem told_join (x : ByteArray) (r : List ByteArray) : (⟨(([47] : List UInt8) ++ join ((x :: r).map (·.data.toList)) [47]).toArray⟩ : ByteArray) = told (x :: r) := by
  unfold told
  rw [List.map_cons, join_cons]
  simp [joinTail]

theorem told_snoc (l : List ByteArray) (x : ByteArray) : told (l ++ [x]) = told l ++ (slash ++ x) := by
  apply ByteArray.ext
  simp [told, joinTail, slash]

theorem told_nil : told [] = none0 := rfl

theorem split_le (sep : ByteArray) : ∀ (k : Nat) (s : ByteArray), ∀ p ∈ splitB sep 0 k s, p.size ≤ s.size
  | 0, s, p, h => by rw [splitB_zero] at h; simp at h; subst h; exact Nat.le_refl _
  | k + 1, s, p, h => by
    rcases indexB_cases s sep with hm | ⟨i, hi, hle⟩
    · rw [splitB_miss _ _ _ _ hm] at h; simp at h; subst h; exact Nat.le_refl _
    · rw [splitB_hit _ _ _ _ i hi] at h
      rcases List.mem_cons.1 h with h | h
      · subst h; rw [ByteArray.size_extract]; omega
      · have := split_le sep k _ p h
        rw [ByteArray.size_extract] at this; omega

end Go.Proofs.YtlgjgdpalflmfaaDoor.Dot
