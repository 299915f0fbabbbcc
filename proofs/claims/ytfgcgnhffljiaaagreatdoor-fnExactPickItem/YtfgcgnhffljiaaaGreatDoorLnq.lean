/-
  The length that fields tell: what LengthOf answers.
-/
import Derived.Test.YtfgcgnhffljiaaaGreatDoorLnw
namespace Go.Proofs.YtfgcgnhffljiaaaGreatDoor.Lnp
open Go.RowKit
open Go.Proofs.YtfgcgnhffljiaaaGreatDoor.Fbs
open Go.Proofs.YtfgcgnhffljiaaaGreatDoor.Fgd (goodF)
open Go.Proofs.YtfgcgnhffljiaaaGreatDoor.Fvs
open Go.Proofs.YtfgcgnhffljiaaaGreatDoor.Lsp (listO listL listF addT)

theorem addT_some {acc : List ByteArray} {x : ByteArray} (h : ∀ y ∈ acc, y.size ≠ 0) : ∀ y ∈ addT acc x, y.size ≠ 0 := by
  intro y hy
  unfold addT at hy
  split at hy
  · exact h y hy
  · rename_i hx
    rcases List.mem_append.1 hy with hy | hy
    · exact h y hy
    · have : y = x := by simpa using hy
      subst this; exact hx
theorem listF_some {s : ByteArray} : ∀ (f i fr : Nat) (op : Bool) (acc r : List ByteArray), (∀ y ∈ acc, y.size ≠ 0) → listF s f i fr op acc = some r → ∀ y ∈ r, y.size ≠ 0
  | 0, _, _, _, _, _, _, h => by cases h
  | f + 1, i, fr, op, acc, r, ha, h => by
    unfold listF at h
    split at h
    · split at h
      · exact listF_some f _ _ _ _ r (addT_some ha) h
      · split at h
        · exact listF_some f _ _ _ _ r ha h
        · split at h
          · split at h
            · cases h
            · exact listF_some f _ _ _ _ r ha h
          · exact listF_some f _ _ _ _ r ha h
    · split at h
      · cases h
      · have : addT acc (Tri.trimS (s.extract fr i)) = r := Option.some.inj h
        subst this
        exact addT_some ha
theorem listL_some {s : ByteArray} {r : List ByteArray} (h : listL s = some r) : ∀ y ∈ r, y.size ≠ 0 := listF_some _ _ _ _ _ _ (fun y hy => by cases hy) h

theorem addT_sz {acc : List ByteArray} {x : ByteArray} {n : Nat} (h : ∀ y ∈ acc, y.size ≤ n) (hx : x.size ≤ n) : ∀ y ∈ addT acc x, y.size ≤ n := by
  intro y hy
  unfold addT at hy
  split at hy
  · exact h y hy
  · rcases List.mem_append.1 hy with hy | hy
    · exact h y hy
    · have : y = x := by simpa using hy
      subst this; exact hx
theorem cut_sz (s : ByteArray) (a b : Nat) : (Tri.trimS (s.extract a b)).size ≤ s.size := by
  refine Nat.le_trans (Tri.trimS_size _) ?_
  rw [ByteArray.size_extract]; omega
theorem listF_sz {s : ByteArray} : ∀ (f i fr : Nat) (op : Bool) (acc r : List ByteArray), (∀ y ∈ acc, y.size ≤ s.size) → listF s f i fr op acc = some r → ∀ y ∈ r, y.size ≤ s.size
  | 0, _, _, _, _, _, _, h => by cases h
  | f + 1, i, fr, op, acc, r, ha, h => by
    unfold listF at h
    split at h
    · split at h
      · exact listF_sz f _ _ _ _ r (addT_sz ha (cut_sz s _ _)) h
      · split at h
        · exact listF_sz f _ _ _ _ r ha h
        · split at h
          · split at h
            · cases h
            · exact listF_sz f _ _ _ _ r ha h
          · exact listF_sz f _ _ _ _ r ha h
    · split at h
      · cases h
      · have : addT acc (Tri.trimS (s.extract fr i)) = r := Option.some.inj h
        subst this
        exact addT_sz ha (cut_sz s _ _)
theorem listO_sz {s : ByteArray} {r : List ByteArray} (h : listO s = some r) : ∀ y ∈ r, y.size ≤ 2000000 := by
  unfold listO at h
  split at h
  · rename_i hh
    intro y hy
    have := listF_sz _ _ _ _ _ _ (fun y hy => by cases hy) h y hy
    omega
  · cases h

def clen : ByteArray := ⟨#[99, 111, 110, 116, 101, 110, 116, 45, 108, 101, 110, 103, 116, 104]⟩
/-- What the fields' length is: -1 for none, -2 where it is not right. -/
def lnV (l : List (ByteArray × ByteArray)) : Int := lenV (valsOf clen l) (-1)
def lnO (l : List (ByteArray × ByteArray)) : Int × Bool :=
  if goodL l = true then (if lnV l = -2 then (0, false) else if lnV l < 0 then (0, true) else (lnV l, true)) else (0, false)
theorem lnO_bad {l : List (ByteArray × ByteArray)} (h : goodL l = false) : lnO l = (0, false) := by unfold lnO; rw [if_neg (by simp [h])]
theorem lnO_wrong {l : List (ByteArray × ByteArray)} (h : lnV l = -2) : lnO l = (0, false) := by
  unfold lnO
  split
  · first | rfl | simp
  · rfl
theorem lnO_none {l : List (ByteArray × ByteArray)} (hg : goodL l = true) (h : lnV l = -1) : lnO l = (0, true) := by
  unfold lnO
  rw [if_pos hg, if_neg (by omega), if_pos (by omega)]
theorem lnO_is {l : List (ByteArray × ByteArray)} (hg : goodL l = true) (h : 0 ≤ lnV l) : lnO l = (lnV l, true) := by
  unfold lnO
  rw [if_pos hg, if_neg (by omega), if_neg (by omega)]
theorem ret_len {a b : Int} {p q : Bool} (h : a = b) (h2 : p = q) : Ending.returned (.tuple #[.int .i64 a, .bool p]) = .returned (.tuple #[.int .i64 b, .bool q]) := by rw [h, h2]
/-- A good field's value is a text that is read as a list. -/
theorem vals_list {n : ByteArray} {l : List (ByteArray × ByteArray)} (hg : goodL l = true) : ∀ x ∈ valsOf n l, listO x = listL x ∧ x.size ≤ 300 := by
  intro x hx
  unfold valsOf at hx
  obtain ⟨c, hc, rfl⟩ := List.mem_map.1 hx
  have h := (goodL_all hg).2 c (List.mem_filter.1 hc).1
  have hp : plainB c.2.data.toList = true ∧ c.2.size ≤ 300 := by
    unfold goodF at h
    simp only [Bool.and_eq_true, decide_eq_true_eq] at h
    exact ⟨h.1.2, h.1.1.2⟩
  refine ⟨?_, hp.2⟩
  unfold listO
  rw [if_pos hp]
theorem lenV_none {v : ByteArray} {r : List ByteArray} {n : Int} (h : listO v = none) : lenV (v :: r) n = -2 := by rw [lenV, h]
theorem lenV_empty {v : ByteArray} {r : List ByteArray} {n : Int} (h : listO v = some []) : lenV (v :: r) n = -2 := by rw [lenV, h]
theorem lenV_bad {v : ByteArray} {r ps : List ByteArray} {n : Int} (h : listO v = some ps) (hb : lenF ps n = -2) : lenV (v :: r) n = -2 := by
  rw [lenV, h]
  cases ps with
  | nil => rfl
  | cons p ps => exact if_pos hb
theorem lenV_go {v : ByteArray} {r ps : List ByteArray} {n : Int} (h : listO v = some ps) (h0 : ps ≠ []) (hb : lenF ps n ≠ -2) : lenV (v :: r) n = lenV r (lenF ps n) := by
  rw [lenV, h]
  cases ps with
  | nil => exact absurd rfl h0
  | cons p ps => exact if_neg hb

end Go.Proofs.YtfgcgnhffljiaaaGreatDoor.Lnp
