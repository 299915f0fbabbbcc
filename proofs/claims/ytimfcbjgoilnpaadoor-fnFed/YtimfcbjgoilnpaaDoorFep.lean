/-
  Feeding (pure): how long a text is of which more is asked for, which codes there are, what a fed unchunk is.
-/
import Derived.Test.YtimfcbjgoilnpaaDoorRke
namespace Go.Proofs.YtimfcbjgoilnpaaDoor.Fep
open Go.RowKit
open Go.Proofs.YtimfcbjgoilnpaaDoor.Hxn (hxL)
open Go.Proofs.YtimfcbjgoilnpaaDoor.Chp
open Go.Proofs.YtimfcbjgoilnpaaDoor.Rkb (rcL rcV rcV_is len_eq expC_cases)

theorem exp_short {l : List UInt8} (h : expC l = 1) : l.length ≤ 1 := by
  match l, h with
  | [], _ => simp
  | [a], _ => simp
  | a :: b :: r, h =>
    by_cases h1 : a = 13 <;> by_cases h2 : b = 10 <;> simp [expC, h1, h2] at h

theorem more_len : ∀ (f : Nat) (t b : List UInt8) (q p : Nat), b.length ≤ 300 → p ≤ 60 → (chunksL f t b q p).2.2 = 1 → t.length ≤ (300 - b.length) + 8 * (61 - p)
  | 0, _, _, _, _, _, _, h => by simp [chunksL] at h
  | f + 1, t, b, q, p, hb, hp, h => by
    rw [chunksL] at h
    cases hs : scanE t 0 with
    | none => rw [hs] at h; simp at h
    | some k =>
      rw [hs] at h
      dsimp only at h
      by_cases c1 : 4 < k ∨ (k = 0 ∧ t ≠ [])
      · rw [if_pos c1] at h; simp at h
      rw [if_neg c1] at h
      by_cases c2 : k < t.length ∧ (300 < b.length + hxL (t.take k) ∨ (0 < hxL (t.take k) ∧ p = 60))
      · rw [if_pos c2] at h; simp at h
      rw [if_neg c2] at h
      have hle := (scan_some t 0 k [] hs).2.1
      by_cases c3 : expC (t.drop k) ≠ 0
      · rw [if_pos c3] at h
        have := exp_short h
        rw [List.length_drop] at this
        omega
      rw [if_neg c3] at h
      have hl2 := exp_len (show expC (t.drop k) = 0 by omega)
      rw [List.length_drop] at hl2
      have hld : (t.drop (k + 2)).length = t.length - (k + 2) := List.length_drop
      generalize hxL (t.take k) = n at h c2
      by_cases c4 : (t.drop (k + 2)).length < n
      · omega
      rw [if_neg c4] at h
      have hln : ((t.drop (k + 2)).drop n).length = t.length - (k + 2) - n := by rw [List.length_drop, hld]
      by_cases c5 : expC ((t.drop (k + 2)).drop n) ≠ 0
      · rw [if_pos c5] at h
        have := exp_short h
        omega
      rw [if_neg c5] at h
      have hl3 := exp_len (show expC ((t.drop (k + 2)).drop n) = 0 by omega)
      by_cases c6 : n = 0
      · rw [if_pos c6] at h; simp at h
      rw [if_neg c6] at h
      have ih := more_len f _ _ _ _ (by rw [List.length_append, List.length_take]; omega) (by omega) h
      rw [List.length_append, List.length_take, List.length_drop, hld] at ih
      omega

theorem code_is : ∀ (f : Nat) (t b : List UInt8) (q p : Nat), b.length ≤ 300 → ((chunksL f t b q p).2.2 = 0 ∧ (chunksL f t b q p).1.length ≤ 300 ∧ (chunksL f t b q p).2.1 ≤ q + t.length) ∨ chunksL f t b q p = ([], 0, 1) ∨ chunksL f t b q p = ([], 0, 2)
  | 0, _, _, _, _, _ => .inr (.inr rfl)
  | f + 1, t, b, q, p, hb => by
    rw [chunksL]
    cases hs : scanE t 0 with
    | none => exact .inr (.inr rfl)
    | some k =>
      dsimp only
      by_cases c1 : 4 < k ∨ (k = 0 ∧ t ≠ [])
      · rw [if_pos c1]; exact .inr (.inr rfl)
      rw [if_neg c1]
      by_cases c2 : k < t.length ∧ (300 < b.length + hxL (t.take k) ∨ (0 < hxL (t.take k) ∧ p = 60))
      · rw [if_pos c2]; exact .inr (.inr rfl)
      rw [if_neg c2]
      rcases expC_cases (t.drop k) with e | e | e
      · have hl2 := exp_len e
        rw [List.length_drop] at hl2
        have hld : (t.drop (k + 2)).length = t.length - (k + 2) := List.length_drop
        rw [e, if_neg (by omega)]
        generalize hxL (t.take k) = n at c2 ⊢
        by_cases c4 : (t.drop (k + 2)).length < n
        · rw [if_pos c4]; exact .inr (.inl rfl)
        rw [if_neg c4]
        have hln : ((t.drop (k + 2)).drop n).length = t.length - (k + 2) - n := by rw [List.length_drop, hld]
        rcases expC_cases ((t.drop (k + 2)).drop n) with e2 | e2 | e2
        · have hl3 := exp_len e2
          rw [e2, if_neg (by omega)]
          by_cases c6 : n = 0
          · rw [if_pos c6]
            exact .inl ⟨rfl, hb, by show q + k + 4 ≤ _; omega⟩
          rw [if_neg c6]
          have ih := code_is f ((t.drop (k + 2)).drop (n + 2)) (b ++ (t.drop (k + 2)).take n) (q + k + 4 + n) (p + 1) (by rw [List.length_append, List.length_take]; omega)
          rcases ih with ⟨i1, i2, i3⟩ | ih | ih
          · refine .inl ⟨i1, i2, Nat.le_trans i3 ?_⟩
            rw [List.length_drop, hld]
            omega
          · exact .inr (.inl ih)
          · exact .inr (.inr ih)
        · rw [e2, if_pos (by decide)]; exact .inr (.inl rfl)
        · rw [e2, if_pos (by decide)]; exact .inr (.inr rfl)
      · rw [e, if_pos (by decide)]; exact .inr (.inl rfl)
      · rw [e, if_pos (by decide)]; exact .inr (.inr rfl)

theorem rc_cases (s : ByteArray) : (∃ (b : ByteArray) (q : Nat), rcL s = (b.data.toList, q, 0) ∧ b.size ≤ 300 ∧ q ≤ s.size) ∨ rcL s = ([], 0, 1) ∨ rcL s = ([], 0, 2) := by
  rcases code_is (s.size + 1) s.data.toList [] 0 0 (by simp) with ⟨h1, h2, h3⟩ | h | h
  · refine .inl ⟨⟨(rcL s).1.toArray⟩, (rcL s).2.1, ?_, by show (rcL s).1.toArray.size ≤ 300; rw [List.size_toArray]; exact h2, by have := len_eq s; unfold rcL; omega⟩
    have e : (rcL s).2.2 = 0 := h1
    show rcL s = ((rcL s).1.toArray.toList, (rcL s).2.1, 0)
    rw [← e]
  · exact .inr (.inl h)
  · exact .inr (.inr h)
theorem rc_more {s : ByteArray} (h : rcL s = ([], 0, 1)) : s.size ≤ 788 := by
  have := more_len (s.size + 1) s.data.toList [] 0 0 (by simp) (by omega) (by show (rcL s).2.2 = 1; rw [h])
  rw [len_eq] at this
  simpa using this

end Go.Proofs.YtimfcbjgoilnpaaDoor.Fep
