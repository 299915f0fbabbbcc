/-
  Chunks that are read: what is told of a text is told of it with more behind it, where more is not asked for.
-/
import Derived.Test.YtimfcbjgoilnpaaDoorChp
namespace Go.Proofs.YtimfcbjgoilnpaaDoor.Chp
open Go.RowKit
open Go.Proofs.YtimfcbjgoilnpaaDoor.Byt (hexv)
open Go.Proofs.YtimfcbjgoilnpaaDoor.Hxn (hxL hxL_snoc)

theorem scan_none : ∀ (s : List UInt8) (j : Nat) (r : List UInt8), scanE s j = none → scanE (s ++ r) j = none
  | [], j, r, h => by simp [scanE] at h
  | c :: s, j, r, h => by
    show scanE (c :: (s ++ r)) j = none
    rw [scanE] at h ⊢
    by_cases h1 : j < 5 ∧ c ≠ 13
    · rw [if_pos h1] at h ⊢
      by_cases h2 : hexv (c.toNat : Int) < 0
      · rw [if_pos h2]
      · rw [if_neg h2] at h ⊢
        exact scan_none s (j + 1) r h
    · rw [if_neg h1] at h
      cases h
theorem scan_some : ∀ (s : List UInt8) (j k : Nat) (r : List UInt8), scanE s j = some k → j ≤ k ∧ k ≤ j + s.length ∧ (k < j + s.length ∨ 5 ≤ k → scanE (s ++ r) j = some k)
  | [], j, k, r, h => by
    simp [scanE] at h
    subst h
    refine ⟨Nat.le_refl _, Nat.le_refl _, fun hh => ?_⟩
    have h5 : 5 ≤ j := by simp at hh; omega
    cases r with
    | nil => rfl
    | cons a r =>
      show scanE (a :: r) j = _
      rw [scanE, if_neg (by omega)]
  | c :: s, j, k, r, h => by
    show _ ∧ _ ∧ (_ → scanE (c :: (s ++ r)) j = some k)
    rw [scanE] at h ⊢
    by_cases h1 : j < 5 ∧ c ≠ 13
    · rw [if_pos h1] at h ⊢
      by_cases h2 : hexv (c.toNat : Int) < 0
      · rw [if_pos h2] at h; cases h
      · rw [if_neg h2] at h ⊢
        obtain ⟨g1, g2, g3⟩ := scan_some s (j + 1) k r h
        refine ⟨by omega, by simp; omega, fun hh => g3 ?_⟩
        simp at hh; omega
    · rw [if_neg h1] at h ⊢
      injection h with h
      subst h
      exact ⟨Nat.le_refl _, by omega, fun _ => rfl⟩
theorem exp_ext (s r : List UInt8) (h : expC s ≠ 1) : expC (s ++ r) = expC s := by
  match s, h with
  | [], h => exact absurd rfl h
  | [a], h =>
    by_cases h1 : a = 13
    · subst h1; exact absurd rfl h
    · show expC (a :: r) = expC [a]
      simp [expC, h1]
  | a :: b :: t, _ => rfl
theorem exp_len {s : List UInt8} (h : expC s = 0) : 2 ≤ s.length := by
  match s, h with
  | [], h => exact absurd h (by decide)
  | [a], h =>
    by_cases h1 : a = 13
    · subst h1; exact absurd h (by decide)
    · simp [expC, h1] at h
  | a :: b :: t, _ => simp

theorem chunks_ext : ∀ (f : Nat) (s r b : List UInt8) (q p : Nat), (chunksL f s b q p).2.2 ≠ 1 → chunksL f (s ++ r) b q p = chunksL f s b q p
  | 0, _, _, _, _, _, _ => rfl
  | f + 1, s, r, b, q, p, h => by
    rw [chunksL] at h
    rw [chunksL, chunksL]
    cases hs : scanE s 0 with
    | none => rw [scan_none s 0 r hs]
    | some k =>
      rw [hs] at h
      dsimp only at h
      obtain ⟨_, g2, g3⟩ := scan_some s 0 k r hs
      rw [Nat.zero_add] at g2 g3
      by_cases c1 : 4 < k ∨ (k = 0 ∧ s ≠ [])
      · have hk : k < s.length ∨ 5 ≤ k := by
          rcases c1 with c1 | ⟨c1, c2⟩
          · exact .inr c1
          · have := List.length_pos_iff.2 c2; omega
        have c1' : 4 < k ∨ (k = 0 ∧ s ++ r ≠ []) := by
          rcases c1 with c1 | ⟨c1, c2⟩
          · exact .inl c1
          · exact .inr ⟨c1, by simp [c2]⟩
        rw [g3 hk]
        dsimp only
        rw [if_pos c1, if_pos c1']
      rw [if_neg c1] at h
      by_cases hk : k < s.length
      · have c1' : ¬ (4 < k ∨ (k = 0 ∧ s ++ r ≠ [])) := by
          rintro (c | ⟨c, _⟩)
          · exact c1 (.inl c)
          · exact c1 (.inr ⟨c, by intro e; rw [e] at hk; simp at hk⟩)
        have ht : (s ++ r).take k = s.take k := List.take_append_of_le_length (by omega)
        have hd : (s ++ r).drop k = s.drop k ++ r := List.drop_append_of_le_length (by omega)
        have hkl : k < (s ++ r).length := by rw [List.length_append]; omega
        rw [g3 (.inl hk)]
        dsimp only
        rw [if_neg c1, if_neg c1', ht, hd]
        generalize hxL (s.take k) = n at h ⊢
        by_cases c2 : 300 < b.length + n ∨ (0 < n ∧ p = 60)
        · rw [if_pos ⟨hkl, c2⟩, if_pos ⟨hk, c2⟩]
        have k2 : ¬ (k < s.length ∧ (300 < b.length + n ∨ (0 < n ∧ p = 60))) := fun x => c2 x.2
        have k2' : ¬ (k < (s ++ r).length ∧ (300 < b.length + n ∨ (0 < n ∧ p = 60))) := fun x => c2 x.2
        rw [if_neg k2] at h
        rw [if_neg k2, if_neg k2']
        by_cases c3 : expC (s.drop k) = 0
        · have hl2 := exp_len c3
          rw [List.length_drop] at hl2
          have hd2 : (s ++ r).drop (k + 2) = s.drop (k + 2) ++ r := List.drop_append_of_le_length (by omega)
          have n3 : ¬ (expC (s.drop k) ≠ 0) := fun x => x c3
          rw [if_neg n3] at h
          rw [exp_ext _ r (by omega), hd2, if_neg n3, if_neg n3]
          generalize s.drop (k + 2) = u at h ⊢
          by_cases c4 : u.length < n
          · rw [if_pos c4] at h; exact absurd rfl h
          rw [if_neg c4] at h
          rw [if_neg c4, if_neg (show ¬ (u ++ r).length < n by rw [List.length_append]; omega)]
          have hdn : (u ++ r).drop n = u.drop n ++ r := List.drop_append_of_le_length (by omega)
          have htn : (u ++ r).take n = u.take n := List.take_append_of_le_length (by omega)
          rw [hdn, htn]
          by_cases c5 : expC (u.drop n) = 0
          · have hl3 := exp_len c5
            rw [List.length_drop] at hl3
            have hdn2 : (u ++ r).drop (n + 2) = u.drop (n + 2) ++ r := List.drop_append_of_le_length (by omega)
            have n5 : ¬ (expC (u.drop n) ≠ 0) := fun x => x c5
            rw [if_neg n5] at h
            rw [exp_ext _ r (by omega), if_neg n5, if_neg n5, hdn2]
            by_cases c6 : n = 0
            · rw [if_pos c6, if_pos c6]
            rw [if_neg c6] at h
            rw [if_neg c6, if_neg c6]
            exact chunks_ext f _ r _ _ _ h
          · rw [if_pos c5] at h
            rw [exp_ext _ r h, if_pos c5, if_pos c5]
        · rw [if_pos c3] at h
          rw [exp_ext _ r h, if_pos c3, if_pos c3]
      · rw [if_neg (fun x => hk x.1), List.drop_eq_nil_of_le (by omega)] at h
        exact absurd rfl h

/-- The fuel doesn't matter where it is more than the text's bytes. -/
theorem chunks_fuel : ∀ (f g : Nat) (s b : List UInt8) (q p : Nat), s.length < f → s.length < g → chunksL f s b q p = chunksL g s b q p
  | 0, _, _, _, _, _, hf, _ => by omega
  | _ + 1, 0, _, _, _, _, _, hg => by omega
  | f + 1, g + 1, s, b, q, p, hf, hg => by
    rw [chunksL, chunksL]
    cases scanE s 0 with
    | none => rfl
    | some k =>
      dsimp only
      by_cases c3 : expC (s.drop k) = 0
      · have h2 := exp_len c3
        rw [List.length_drop] at h2
        rw [chunks_fuel f g ((s.drop (k + 2)).drop (hxL (s.take k) + 2)) _ _ _ (by simp; omega) (by simp; omega)]
      · have n3 : expC (s.drop k) ≠ 0 := c3
        simp only [if_pos n3]

end Go.Proofs.YtimfcbjgoilnpaaDoor.Chp
