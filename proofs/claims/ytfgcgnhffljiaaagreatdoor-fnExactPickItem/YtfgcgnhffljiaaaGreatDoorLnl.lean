/-
  Walks: impl.LengthOf.
-/
import Derived.Test.YtfgcgnhffljiaaaGreatDoorLni
namespace Go.Proofs.YtfgcgnhffljiaaaGreatDoor.Lnp
open Go.RowKit
open Go.Proofs.YtfgcgnhffljiaaaGreatDoor.Byt
open Go.Proofs.YtfgcgnhffljiaaaGreatDoor.Fbs
open Go.Proofs.YtfgcgnhffljiaaaGreatDoor.Fch
open Go.Proofs.YtfgcgnhffljiaaaGreatDoor.Fdb
open Go.Proofs.YtfgcgnhffljiaaaGreatDoor.Fvs
open Go.Proofs.YtfgcgnhffljiaaaGreatDoor.Ers (is_same is_fault)

theorem lnV_ge {l : List (ByteArray × ByteArray)} (h : valsOf clen l ≠ []) (h2 : lnV l ≠ -2) : 0 ≤ lnV l := by
  rw [lnV_parts] at h2 ⊢
  generalize valsOf clen l = vs at *
  cases hp : partsV vs with
  | none => rw [hp] at h2; exact absurd rfl h2
  | some q =>
    rw [hp] at h2
    show 0 ≤ lenF q (-1)
    have h2 : lenF q (-1) ≠ -2 := h2
    cases vs with
    | nil => exact absurd rfl h
    | cons v r =>
      have hq : q ≠ [] := by
        intro e
        subst e
        rw [partsV] at hp
        cases ho : Lsp.listO v with
        | none => rw [ho] at hp; cases hp
        | some ps =>
          rw [ho] at hp
          cases ps with
          | nil => cases hp
          | cons p ps =>
            have hp : (partsV r).map (fun q => (p :: ps) ++ q) = some [] := hp
            cases hr : partsV r with
            | none => rw [hr] at hp; cases hp
            | some q => rw [hr] at hp; simp at hp
      cases q with
      | nil => exact absurd rfl hq
      | cons p q =>
        by_cases hb : numS p < 0 ∨ (0 ≤ (-1 : Int) ∧ (-1 : Int) ≠ numS p)
        · rw [lenF_bad hb] at h2; exact absurd rfl h2
        · rw [lenF_go hb] at h2 ⊢
          rcases lenF_ge (l := q) (n := numS p) (by omega) with h | h
          · exact absurd h h2
          · omega
/-- What lengthOf answers, and what LengthOf makes of it. -/
theorem lnE_ways (b : Addr) (l : List (ByteArray × ByteArray)) : (∃ c, lnE b l = (0, fault c) ∧ lnO l = (0, false)) ∨ (lnE b l = (0, sent b) ∧ lnO l = (0, true)) ∨ (∃ n, lnE b l = (n, .nilIface) ∧ lnO l = (n, true)) := by
  cases hg : goodL l
  · exact .inl ⟨3, lnE_bad hg, lnO_bad hg⟩
  · by_cases h0 : valsOf clen l = []
    · refine .inr (.inl ⟨lnE_none hg h0, lnO_none hg ?_⟩)
      unfold lnV; rw [h0]; rfl
    · by_cases h2 : lnV l = -2
      · exact .inl ⟨4, lnE_wrong hg h0 h2, lnO_wrong h2⟩
      · exact .inr (.inr ⟨lnV l, lnE_is hg h0 h2, lnO_is hg (lnV_ge h0 h2)⟩)

end Go.Proofs.YtfgcgnhffljiaaaGreatDoor.Lnp
