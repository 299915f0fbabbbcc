/-
  Plain facts on reading an address: where the parts of a text begin and end. No function of the program.
-/
import Derived.Test.YtlgjgdpalflmfaaDoorCut
namespace Go.Proofs.YtlgjgdpalflmfaaDoor.Rdm
open Go.Proofs.YtlgjgdpalflmfaaDoor.Cut (cutA cutZ cutB)

/-- The first place from k on whose byte is one of these, or the text's end. -/
def scanF (p : UInt8 → Bool) (l : List UInt8) : Nat → Nat → Nat
  | 0, k => k
  | f + 1, k => if k < l.length then (if p (l[k]?.getD 0) = true then k else scanF p l f (k + 1)) else k

theorem scan_end {p : UInt8 → Bool} {l : List UInt8} {f k : Nat} (h : l.length ≤ k) : scanF p l f k = k := by
  cases f with
  | zero => rfl
  | succ f => simp only [scanF]; rw [if_neg (by omega)]
theorem scan_hit {p : UInt8 → Bool} {l : List UInt8} {f k : Nat} (h : k < l.length) (hp : p (l[k]?.getD 0) = true) : scanF p l f k = k := by
  cases f with
  | zero => rfl
  | succ f => simp only [scanF]; rw [if_pos h, if_pos hp]
theorem scan_miss {p : UInt8 → Bool} {l : List UInt8} {f k : Nat} (h : k < l.length) (hp : p (l[k]?.getD 0) = false) : scanF p l (f + 1) k = scanF p l f (k + 1) := by
  simp only [scanF]; rw [if_pos h, if_neg (by rw [hp]; simp)]
theorem scan_le (p : UInt8 → Bool) (l : List UInt8) : ∀ (f k : Nat), k ≤ l.length → k ≤ scanF p l f k ∧ scanF p l f k ≤ l.length
  | 0, k, h => ⟨Nat.le_refl _, h⟩
  | f + 1, k, h => by
    by_cases h1 : k < l.length
    · cases hp : p (l[k]?.getD 0)
      · rw [scan_miss h1 hp]
        have := scan_le p l f (k + 1) h1
        omega
      · rw [scan_hit h1 hp]; omega
    · rw [scan_end (by omega)]; omega

def isCol (c : UInt8) : Bool := c.toNat == 58
def isEnd (c : UInt8) : Bool := c.toNat == 47 || c.toNat == 63
def isPart (c : UInt8) : Bool := isCol c || isEnd c
def noDig (c : UInt8) : Bool := !(decide (48 ≤ c.toNat) && decide (c.toNat ≤ 57))

abbrev Parts := ByteArray × ByteArray × Nat × ByteArray × ByteArray × Bool
def slash : ByteArray := ⟨#[47]⟩
def none0 : ByteArray := ⟨#[]⟩

/-- What stands behind a host and a port, from a place on. -/
def pathR (s sc h : ByteArray) (n k : Nat) : Option Parts :=
  if s.size ≤ k then some (sc, h, n, slash, none0, false)
  else if (s.data.toList[k]?.getD 0).toNat = 63 then some (sc, h, n, slash, s.extract (k + 1) s.size, true)
  else if (s.data.toList[k]?.getD 0).toNat = 47 then some (sc, h, n, cutA (s.extract k s.size) 63, cutZ (s.extract k s.size) 63, cutB (s.extract k s.size) 63)
  else none

/-- A number of at most five digits, without needless noughts. -/
def portR (d : ByteArray) : Option Nat :=
  if d.size = 0 ∨ (d.data.toList[0]?.getD 0).toNat = 48 ∨ 5 < d.size then none else some (d.data.toList.foldl (fun n c => 10 * n + (c.toNat - 48)) 0)

/-- What stands behind a scheme, from a place on. -/
def hostR (s sc : ByteArray) (k : Nat) : Option Parts :=
  let l := s.data.toList
  let h1 := scanF isPart l l.length k
  if s.size ≤ h1 ∨ (l[h1]?.getD 0).toNat ≠ 58 then pathR s sc (s.extract k h1) 0 h1
  else
    let p1 := scanF noDig l l.length (h1 + 1)
    match portR (s.extract (h1 + 1) p1) with
    | none => none
    | some n => pathR s sc (s.extract k h1) n p1

def colS : ByteArray := ⟨#[58, 47, 47]⟩
/-- A text taken apart. -/
def splitR (s : ByteArray) : Option Parts :=
  let l := s.data.toList
  let c := scanF isCol l l.length 0
  if Lib.hasPrefix (s.extract c s.size).data.toList [58, 47, 47] = true then hostR s (s.extract 0 c) (c + 3) else none

end Go.Proofs.YtlgjgdpalflmfaaDoor.Rdm
