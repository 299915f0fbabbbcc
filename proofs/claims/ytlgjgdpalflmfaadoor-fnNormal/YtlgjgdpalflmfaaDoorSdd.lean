/-
  Walk: spec.l1Dots tells the same as impl.dropDots.
-/
import Derived.Test.YtlgjgdpalflmfaaDoorIdd
import Derived.Test.YtlgjgdpalflmfaaDoorCut
import Derived.Lib.IndexBytes
namespace Go.Proofs.YtlgjgdpalflmfaaDoor.Idd
open Go.RowKit
open Go.Lib
open Go.Proofs.YtlgjgdpalflmfaaDoor.Dot
open Go.Proofs.YtlgjgdpalflmfaaDoor.Ows
open Go.Proofs.YtlgjgdpalflmfaaDoor.Enc
open Go.Proofs.YtlgjgdpalflmfaaDoor.Cut

theorem first_some (l : List UInt8) (c : UInt8) : ∀ (f k0 k : Nat), firstAt l c f k0 = some k → k0 ≤ k ∧ l[k]? = some c ∧ ∀ j, k0 ≤ j → j < k → l[j]? ≠ some c
  | 0, k0, k, h => by cases h
  | f + 1, k0, k, h => by
    simp only [firstAt] at h
    split at h
    · rename_i hlt
      have he := List.getElem?_eq_getElem hlt
      split at h
      · rename_i hc
        obtain rfl := Option.some.inj h
        rw [he] at hc
        exact ⟨Nat.le_refl _, by rw [he, ← hc]; rfl, fun j a b => by omega⟩
      · rename_i hc
        obtain ⟨h1, h2, h3⟩ := first_some l c f (k0 + 1) k h
        refine ⟨by omega, h2, fun j a b => ?_⟩
        by_cases hj : j = k0
        · subst hj
          intro e
          rw [e] at hc
          exact hc rfl
        · exact h3 j (by omega) b
    · cases h

theorem first_none (l : List UInt8) (c : UInt8) : ∀ (f k0 : Nat), l.length ≤ k0 + f → firstAt l c f k0 = none → ∀ j, k0 ≤ j → l[j]? ≠ some c
  | 0, k0, hf, _, j, hj => by rw [List.getElem?_eq_none (by omega)]; exact fun e => by cases e
  | f + 1, k0, hf, h, j, hj => by
    simp only [firstAt] at h
    split at h
    · split at h
      · cases h
      · rename_i hlt hc
        by_cases hjk : j = k0
        · subst hjk
          intro e
          rw [e] at hc
          exact hc rfl
        · exact first_none l c f (k0 + 1) (by omega) h j (by omega)
    · rw [List.getElem?_eq_none (by omega)]; exact fun e => by cases e

theorem cutI_index (t : ByteArray) : (∃ k, cutI t 47 = some k ∧ indexB t slash = k) ∨ (cutI t 47 = none ∧ indexB t slash = -1) := by
  have e : indexB t slash = indexByte t.data.toList 47 := index_one _ _
  rw [e]
  have hge := indexByte_ge t.data.toList 47
  cases hc : cutI t 47 with
  | some k =>
    left
    refine ⟨k, rfl, ?_⟩
    obtain ⟨_, h2, h3⟩ := first_some _ _ _ _ _ hc
    by_cases hn : indexByte t.data.toList 47 = -1
    · exact absurd h2 (indexByte_none hn k)
    · obtain ⟨o, ho⟩ := Int.eq_ofNat_of_zero_le (show 0 ≤ indexByte t.data.toList 47 by omega)
      obtain ⟨k2, k3⟩ := indexByte_some ho
      have : o = k := by
        rcases Nat.lt_trichotomy o k with hlt | heq | hgt
        · exact absurd k2 (h3 o (Nat.zero_le _) hlt)
        · exact heq
        · exact absurd h2 (k3 k hgt)
      rw [ho, this]
  | none =>
    right
    refine ⟨rfl, ?_⟩
    have h := first_none _ _ _ _ (by omega) hc
    by_cases hn : indexByte t.data.toList 47 = -1
    · exact hn
    · obtain ⟨o, ho⟩ := Int.eq_ofNat_of_zero_le (show 0 ≤ indexByte t.data.toList 47 by omega)
      exact absurd (indexByte_some ho).1 (h o (Nat.zero_le _))

theorem parts_more {t : ByteArray} (h : cutB t 47 = true) : parts t = cutA t 47 :: parts (cutZ t 47) := by
  rcases cutI_index t with ⟨k, hk, hi⟩ | ⟨hk, hi⟩
  · obtain ⟨e1, e2, _⟩ := cut_some hk
    rw [e1, e2]
    unfold parts
    rw [countB_hit t slash k (by decide) hi, show 1 + countB (t.extract (k + slash.size) t.size) slash = countB (t.extract (k + slash.size) t.size) slash + 1 from by omega, splitB_hit slash 0 _ t k hi]
    rfl
  · rw [(cut_none hk).2.2] at h; cases h
theorem parts_one {t : ByteArray} (h : cutB t 47 = false) : parts t = [t] ∧ cutA t 47 = t := by
  rcases cutI_index t with ⟨k, hk, hi⟩ | ⟨hk, hi⟩
  · rw [(cut_some hk).2.2] at h; cases h
  · refine ⟨?_, (cut_none hk).1⟩
    unfold parts
    rw [countB_miss _ _ hi, splitB_zero]

theorem parts_ne (t : ByteArray) : 1 ≤ (parts t).length := by rw [parts_len]; omega

theorem cutZ_le (t : ByteArray) (c : UInt8) : (cutZ t c).size ≤ t.size := by
  unfold cutZ
  split
  · rw [ByteArray.size_extract]; omega
  · exact Nat.zero_le _

theorem told_size (M : Nat) (l : List ByteArray) (h : ∀ p ∈ l, p.size ≤ M) : (told l).size ≤ l.length * (M + 1) := tail_len M l h

theorem told_empty (l : List ByteArray) : (told l).toList.isEmpty = l.isEmpty := by
  rw [ByteArray.toList_eq]
  cases l with
  | nil => rfl
  | cons x r => rfl

/-- The end of the text: what is kept, told, and a slash where the last part is dots. -/
theorem dots_end {L : List ByteArray} (hL : L ≠ []) : dots L = if ((told (keptTo L L.length)).toList.isEmpty || dot1 (L[L.length - 1]?.getD none0) || dot2 (L[L.length - 1]?.getD none0)) = true then told (keptTo L L.length) ++ slash else told (keptTo L L.length) := by
  obtain ⟨k, hk⟩ : ∃ k, L.length = k + 1 := ⟨L.length - 1, by have := List.length_pos_iff.2 hL; omega⟩
  unfold dots lastDots
  rw [told_empty]
  cases h1 : dot1 (L[L.length - 1]?.getD none0)
  · cases h2 : dot2 (L[L.length - 1]?.getD none0)
    · have hne : (keptTo L L.length).isEmpty = false := by
        rw [hk, kept_part (by rw [show L.length - 1 = k from by omega] at h1; exact h1) (by rw [show L.length - 1 = k from by omega] at h2; exact h2)]
        simp
      rw [hne]; rfl
    · rw [if_pos (by simp), if_pos (by simp), told_snoc]
      rfl
  · rw [if_pos (by simp), if_pos (by simp), told_snoc]
    rfl

end Go.Proofs.YtlgjgdpalflmfaaDoor.Idd
