/-
  Walks: impl.LengthOf.
-/
import Derived.Test.YtaplkbkpgdpbaaaGreatDoorLni
namespace Go.Proofs.YtaplkbkpgdpbaaaGreatDoor.Lnp
open Go.RowKit
open Go.Proofs.YtaplkbkpgdpbaaaGreatDoor.Byt
open Go.Proofs.YtaplkbkpgdpbaaaGreatDoor.Fbs
open Go.Proofs.YtaplkbkpgdpbaaaGreatDoor.Fch
open Go.Proofs.YtaplkbkpgdpbaaaGreatDoor.Fdb
open Go.Proofs.YtaplkbkpgdpbaaaGreatDoor.Fvs
open Go.Proofs.YtaplkbkpgdpbaaaGreatDoor.Ers (is_same is_fault)

theorem lnV_ge {l : List (ByteArray × ByteArray)} (h : valsOf clen l ≠ []) (h2 : lnV l ≠ -2) : 0 ≤ lnV l := by
  rw [lnV_parts] at h2 ⊢
  generalize valsOf clen l = vs at *
  cases hp : partsV vs with
  | none => rw [hp] at h2; exact absurd rfl h2
  | some q =>
    rw [hp] at h2
    show 0 ≤ lenF q (-1)
    have h2 : lenF q (-1) ≠ -2 := h2
    cases vs with
    | nil => exact absurd rfl h
    | cons v r =>
      have hq : q ≠ [] := by
        intro e
        subst e
        rw [partsV] at hp
        cases ho : Lsp.listO v with
        | none => rw [ho] at hp; cases hp
        | some ps =>
          rw [ho] at hp
          cases ps with
          | nil => cases hp
          | cons p ps =>
            have hp : (partsV r).map (fun q => (p :: ps) ++ q) = some [] := hp
            cases hr : partsV r with
            | none => rw [hr] at hp; cases hp
            | some q => rw [hr] at hp; simp at hp
      cases q with
      | nil => exact absurd rfl hq
      | cons p q =>
        by_cases hb : numS p < 0 ∨ (0 ≤ (-1 : Int) ∧ (-1 : Int) ≠ numS p)
        · rw [lenF_bad hb] at h2; exact absurd rfl h2
        · rw [lenF_go hb] at h2 ⊢
          rcases lenF_ge (l := q) (n := numS p) (by omega) with h | h
          · exact absurd h h2
          · omega
/-- What lengthOf answers, and what LengthOf makes of it. -/
theorem lnE_ways (b : Addr) (l : List (ByteArray × ByteArray)) : (∃ c, lnE b l = (0, fault c) ∧ lnO l = (0, false)) ∨ (lnE b l = (0, sent b) ∧ lnO l = (0, true)) ∨ (∃ n, lnE b l = (n, .nilIface) ∧ lnO l = (n, true)) := by
  cases hg : goodL l
  · exact .inl ⟨3, lnE_bad hg, lnO_bad hg⟩
  · by_cases h0 : valsOf clen l = []
    · refine .inr (.inl ⟨lnE_none hg h0, lnO_none hg ?_⟩)
      unfold lnV; rw [h0]; rfl
    · by_cases h2 : lnV l = -2
      · exact .inl ⟨4, lnE_wrong hg h0 h2, lnO_wrong h2⟩
      · exact .inr (.inr ⟨lnV l, lnE_is hg h0 h2, lnO_is hg (lnV_ge h0 h2)⟩)

set_option maxRecDepth 20000 in
set_option maxHeartbeats 1600000 in
theorem implLen_any (a : Option Addr) (ca : Nat) (l : List (ByteArray × ByteArray)) (b : Addr) (w : World) (lo hi : Nat) (hT : Tab w) (hE : w.cell? ⟨0, 0, none⟩ = some (sent b)) (hz : SzF l) (hca : l.length ≤ ca) (ha : FV w a l lo hi) :
    Calls Tryz.prog 17 #[.slice a l.length ca] w fun e w' => e = .returned (.tuple #[.int .i64 (lnO l).1, .bool (lnO l).2]) ∧ Below w.heap.size w w' := by
  have het := World.block_lt_of_cell? _ _ hE
  have HL := lengthOf_any a ca l b w lo hi hT hE hz hca ha
  have HE : Hid (w.cell? ⟨0, 0, none⟩ = some (.iface 228 (.pointer (some b)))) := hE
  clear hE hT hz hca ha
  rcases lnE_ways b l with ⟨c, h1, h2⟩ | ⟨h1, h2⟩ | ⟨n, h1, h2⟩
  · rw [h1] at HL
    rw [h2]
    have HL1 : Hid (Calls Tryz.prog 51 #[.slice a l.length ca] w fun e w' => e = .returned (.tuple #[.int .i64 0, .iface 104 (.agg #[.int .i64 c])]) ∧ Below w.heap.size w w') := HL
    have HF : Hid _ := fun w => is_fault c b w
    clear HL h1 h2
    go_enter Tryz.func17, Tryz.ntmps17
    go_wp2_with fail
    refine (Calls.mono HL1.out ?_)
    rintro e w1 ⟨rfl, hb1⟩
    have hE1 := (hb1.cell (p := ⟨0, 0, none⟩) het).trans HE.out
    go_wp2_with fail
    refine (HF.out _).mono ?_
    rintro e w2 ⟨rfl, hw⟩
    obtain rfl := hw.symm
    go_wp2_with fail
    go_ret2
    exact ⟨rfl, hb1⟩
  · rw [h1] at HL
    rw [h2]
    have HL1 : Hid (Calls Tryz.prog 51 #[.slice a l.length ca] w fun e w' => e = .returned (.tuple #[.int .i64 0, .iface 228 (.pointer (some b))]) ∧ Below w.heap.size w w') := HL
    have HF : Hid _ := fun w => is_same b w
    clear HL h1 h2
    go_enter Tryz.func17, Tryz.ntmps17
    go_wp2_with fail
    refine (Calls.mono HL1.out ?_)
    rintro e w1 ⟨rfl, hb1⟩
    have hE1 := (hb1.cell (p := ⟨0, 0, none⟩) het).trans HE.out
    go_wp2_with fail
    refine (HF.out _).mono ?_
    rintro e w2 ⟨rfl, hw⟩
    obtain rfl := hw.symm
    go_wp2_with fail
    go_ret2
    exact ⟨rfl, hb1⟩
  · rw [h1] at HL
    rw [h2]
    have HL1 : Hid (Calls Tryz.prog 51 #[.slice a l.length ca] w fun e w' => e = .returned (.tuple #[.int .i64 n, .nilIface]) ∧ Below w.heap.size w w') := HL
    clear HL h1 h2
    go_enter Tryz.func17, Tryz.ntmps17
    go_wp2_with fail
    refine (Calls.mono HL1.out ?_)
    rintro e w1 ⟨rfl, hb1⟩
    have hE1 := (hb1.cell (p := ⟨0, 0, none⟩) het).trans HE.out
    go_wp2_with fail
    go_ret2
    exact ⟨rfl, hb1⟩

end Go.Proofs.YtaplkbkpgdpbaaaGreatDoor.Lnp
