/-
  Plain facts: which bytes a host and a path may have; whether a text has only such bytes: no program.
-/
import Derived.Test.YtfgcgnhffljiaaaGreatDoorByt
import Derived.Lib.Bytealg
import Derived.Lib.IndexLaws
namespace Go.Proofs.YtfgcgnhffljiaaaGreatDoor.Byt

/-- Letters, digits, '-' and '.'. -/
def hostB (b : Int) : Bool := decide ((97 ≤ b ∧ b ≤ 122) ∨ (65 ≤ b ∧ b ≤ 90) ∨ (48 ≤ b ∧ b ≤ 57) ∨ b = 45 ∨ b = 46)

def letterB (b : Int) : Bool := decide ((97 ≤ b ∧ b ≤ 122) ∨ (65 ≤ b ∧ b ≤ 90))
def digitB (b : Int) : Bool := decide (48 ≤ b ∧ b ≤ 57)
theorem hostB_parts (b : Int) : hostB b = (letterB b || digitB b || b == 45 || b == 46) := by
  unfold hostB letterB digitB
  rw [Bool.eq_iff_iff]
  simp only [Bool.or_eq_true, decide_eq_true_eq, beq_iff_eq]
  omega

/-- The signs that stand beside the unreserved bytes. -/
def subB (b : Int) : Bool := decide (b = 33 ∨ b = 36 ∨ (38 ≤ b ∧ b ≤ 44) ∨ b = 59 ∨ b = 61 ∨ b = 58 ∨ b = 64)

/-- Whether a byte is among some. -/
def hasB (l : List UInt8) (b : Int) : Bool := l.any (fun c => (c.toNat : Int) == b)

theorem hasB_yes {l : List UInt8} {b : Int} {k : Nat} (h : k < l.length) (hb : ((l[k]?.getD 0).toNat : Int) = b) : hasB l b = true := by
  unfold hasB
  rw [List.any_eq_true]
  rw [List.getElem?_eq_getElem h] at hb
  exact ⟨l[k], List.getElem_mem h, by simpa using hb⟩

theorem hasB_no {l : List UInt8} {b : Int} (h : ∀ k, k < l.length → ((l[k]?.getD 0).toNat : Int) ≠ b) : hasB l b = false := by
  unfold hasB
  rw [List.any_eq_false]
  intro c hc
  obtain ⟨k, hk, rfl⟩ := List.getElem_of_mem hc
  have := h k hk
  rw [List.getElem?_eq_getElem hk] at this
  simpa using this

theorem index_neg (l : List UInt8) (c : UInt8) : decide (Lib.indexByte l c < 0) = !hasB l (c.toNat : Int) := by
  by_cases h : Lib.indexByte l c = -1
  · have hn := Lib.indexByte_none h
    rw [hasB_no (fun k hk e => hn k (by
      rw [List.getElem?_eq_getElem hk] at e ⊢
      simp only [Option.getD_some] at e
      have : l[k].toNat = c.toNat := by omega
      rw [UInt8.toNat_inj.1 this]))]
    rw [h]; rfl
  · have hge := Lib.indexByte_ge l c
    obtain ⟨o, ho⟩ := Int.eq_ofNat_of_zero_le (show 0 ≤ Lib.indexByte l c by omega)
    have hs := (Lib.indexByte_some ho).1
    have hk := (List.getElem?_eq_some_iff.1 hs).1
    rw [hasB_yes hk (by rw [hs]; rfl), ho]
    simp

/-- 'fuel' rounds from the place k on: only good bytes, those of 'more', and percents. -/
def charsF (l more : List UInt8) : Nat → Nat → Bool
  | 0, _ => true
  | f + 1, k =>
    if k < l.length then
      if 0 ≤ pct l k then charsF l more f (k + 3)
      else if (freeB ((l[k]?.getD 0).toNat : Int) || subB ((l[k]?.getD 0).toNat : Int) || hasB more ((l[k]?.getD 0).toNat : Int)) = true then charsF l more f (k + 1)
      else false
    else true

def charsB (l more : List UInt8) : Bool := charsF l more l.length 0

theorem charsF_end {l more : List UInt8} {f k : Nat} (h : l.length ≤ k) : charsF l more f k = true := by
  cases f with
  | zero => rfl
  | succ f => simp only [charsF]; rw [if_neg (by omega)]
theorem charsF_pct {l more : List UInt8} {f k : Nat} (h : k < l.length) (hp : 0 ≤ pct l k) : charsF l more (f + 1) k = charsF l more f (k + 3) := by
  simp only [charsF]; rw [if_pos h, if_pos hp]
theorem charsF_ok {l more : List UInt8} {f k : Nat} (h : k < l.length) (hp : pct l k < 0) (ho : (freeB ((l[k]?.getD 0).toNat : Int) || subB ((l[k]?.getD 0).toNat : Int) || hasB more ((l[k]?.getD 0).toNat : Int)) = true) : charsF l more (f + 1) k = charsF l more f (k + 1) := by
  simp only [charsF]; rw [if_pos h, if_neg (by omega), if_pos ho]
theorem charsF_bad {l more : List UInt8} {f k : Nat} (h : k < l.length) (hp : pct l k < 0) (ho : (freeB ((l[k]?.getD 0).toNat : Int) || subB ((l[k]?.getD 0).toNat : Int) || hasB more ((l[k]?.getD 0).toNat : Int)) = false) : charsF l more (f + 1) k = false := by
  simp only [charsF]; rw [if_pos h, if_neg (by omega), if_neg (by rw [ho]; exact Bool.false_ne_true)]

/-- A host. -/
def hostOk (l : List UInt8) : Bool := decide (1 ≤ l.length ∧ l.length ≤ 60) && l.all (fun c => hostB (c.toNat : Int))

theorem all_yes {l : List UInt8} {p : UInt8 → Bool} (h : ∀ k, k < l.length → p (l[k]?.getD 0) = true) : l.all p = true := by
  rw [List.all_eq_true]
  intro c hc
  obtain ⟨k, hk, rfl⟩ := List.getElem_of_mem hc
  have := h k hk
  rwa [List.getElem?_eq_getElem hk] at this
theorem all_no {l : List UInt8} {p : UInt8 → Bool} {k : Nat} (h : k < l.length) (hp : p (l[k]?.getD 0) = false) : l.all p = false := by
  rw [List.all_eq_false]
  rw [List.getElem?_eq_getElem h] at hp
  exact ⟨l[k], List.getElem_mem h, by simpa using hp⟩

end Go.Proofs.YtfgcgnhffljiaaaGreatDoor.Byt
