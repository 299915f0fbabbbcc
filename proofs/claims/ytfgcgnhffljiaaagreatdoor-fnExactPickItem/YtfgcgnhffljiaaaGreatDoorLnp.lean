/-
  The length that fields tell: what both programs count.
-/
import Derived.Test.YtfgcgnhffljiaaaGreatDoorVof
import Derived.Test.YtfgcgnhffljiaaaGreatDoorWgt
namespace Go.Proofs.YtfgcgnhffljiaaaGreatDoor.Lnp
open Go.RowKit
open Go.Proofs.YtfgcgnhffljiaaaGreatDoor.Lsp (listO)
open Go.Proofs.YtfgcgnhffljiaaaGreatDoor.Wgt (rdL)

/-- A number of at most nine digits, below 0 for none. -/
def numS (p : ByteArray) : Int := if p.size ≤ 9 then rdL p.data.toList 0 else -1
/-- All parts the same number: it; -2 where they aren't; n so far, -1 for none. -/
def lenF : List ByteArray → Int → Int
  | [], n => n
  | p :: r, n => if numS p < 0 ∨ (0 ≤ n ∧ n ≠ numS p) then -2 else lenF r (numS p)
theorem lenF_bad {p : ByteArray} {r : List ByteArray} {n : Int} (h : numS p < 0 ∨ (0 ≤ n ∧ n ≠ numS p)) : lenF (p :: r) n = -2 := by rw [lenF, if_pos h]
theorem lenF_go {p : ByteArray} {r : List ByteArray} {n : Int} (h : ¬ (numS p < 0 ∨ (0 ≤ n ∧ n ≠ numS p))) : lenF (p :: r) n = lenF r (numS p) := by rw [lenF, if_neg h]
theorem lenF_ge : ∀ {l : List ByteArray} {n : Int}, 0 ≤ n → lenF l n = -2 ∨ lenF l n = n
  | [], _, _ => .inr rfl
  | p :: r, n, hn => by
    by_cases h : numS p < 0 ∨ (0 ≤ n ∧ n ≠ numS p)
    · exact .inl (lenF_bad h)
    · rw [lenF_go h]
      have e : n = numS p := by
        by_cases e : n = numS p
        · exact e
        · exact absurd (.inr ⟨hn, e⟩) h
      rw [← e]
      exact lenF_ge hn
theorem lenF_append : ∀ (l r : List ByteArray) (n : Int), -1 ≤ n → (lenF l n = -2 → lenF (l ++ r) n = -2) ∧ (lenF l n ≠ -2 → lenF (l ++ r) n = lenF r (lenF l n))
  | [], r, n, hn => ⟨fun h => by
      have h : n = -2 := h
      omega, fun _ => rfl⟩
  | p :: l, r, n, hn => by
    by_cases h : numS p < 0 ∨ (0 ≤ n ∧ n ≠ numS p)
    · rw [List.cons_append, lenF_bad h, lenF_bad h]
      exact ⟨fun _ => rfl, fun h => absurd rfl h⟩
    · rw [List.cons_append, lenF_go h, lenF_go h]
      exact lenF_append l r _ (by omega)

/-- What the values of the field tell: -1 for none, -2 where it is not right. -/
def lenV : List ByteArray → Int → Int
  | [], n => n
  | v :: r, n =>
    match listO v with
    | none => -2
    | some [] => -2
    | some (p :: ps) => if lenF (p :: ps) n = -2 then -2 else lenV r (lenF (p :: ps) n)
/-- All parts of all values, in a row: none where one is no list, or has no part. -/
def partsV : List ByteArray → Option (List ByteArray)
  | [] => some []
  | v :: r =>
    match listO v with
    | none => none
    | some [] => none
    | some (p :: ps) => (partsV r).map (fun q => (p :: ps) ++ q)
theorem lenF_low : ∀ (l : List ByteArray) (n : Int), -1 ≤ n → lenF l n ≠ -2 → -1 ≤ lenF l n
  | [], n, hn, _ => hn
  | p :: l, n, hn, h => by
    by_cases hb : numS p < 0 ∨ (0 ≤ n ∧ n ≠ numS p)
    · rw [lenF_bad hb] at h; exact absurd rfl h
    · rw [lenF_go hb] at h ⊢
      exact lenF_low l _ (by omega) h
theorem lenV_parts : ∀ (l : List ByteArray) (n : Int), -1 ≤ n → lenV l n = match partsV l with | none => -2 | some q => lenF q n
  | [], n, _ => rfl
  | v :: r, n, hn => by
    rw [lenV, partsV]
    cases hl : listO v with
    | none => rfl
    | some ps =>
      cases ps with
      | nil => rfl
      | cons p ps =>
        show (if lenF (p :: ps) n = -2 then -2 else lenV r (lenF (p :: ps) n)) = match (partsV r).map (fun q => (p :: ps) ++ q) with | none => -2 | some q => lenF q n
        by_cases hb : lenF (p :: ps) n = -2
        · rw [if_pos hb]
          cases partsV r with
          | none => rfl
          | some q => exact ((lenF_append (p :: ps) q n hn).1 hb).symm
        · rw [if_neg hb, lenV_parts r _ (lenF_low _ _ hn hb)]
          cases partsV r with
          | none => rfl
          | some q => exact ((lenF_append (p :: ps) q n hn).2 hb).symm

end Go.Proofs.YtfgcgnhffljiaaaGreatDoor.Lnp
