/-
  What a reader of chunks tells, state by state (pure): hex digits ahead, and the four states' rests against what is told of the whole.
-/
import Derived.Test.YtimfcbjgoilnpaaDoorChq
namespace Go.Proofs.YtimfcbjgoilnpaaDoor.Rka
open Go.RowKit
open Go.Proofs.YtimfcbjgoilnpaaDoor.Byt (hexv)
open Go.Proofs.YtimfcbjgoilnpaaDoor.Hex (at_list)
open Go.Proofs.YtimfcbjgoilnpaaDoor.Hxn (hxL)
open Go.Proofs.YtimfcbjgoilnpaaDoor.Chp

/-- How many hex digits stand ahead. -/
def hxN : List UInt8 → Nat
  | [] => 0
  | c :: r => if 0 ≤ hexv (c.toNat : Int) then hxN r + 1 else 0
theorem hxN_le : ∀ l : List UInt8, hxN l ≤ l.length
  | [] => Nat.le_refl _
  | c :: r => by
    have := hxN_le r
    rw [hxN]; split <;> simp <;> omega
/-- Where digits stand up to a place and none at it, so many stand ahead. -/
theorem hxN_is : ∀ (l : List UInt8) (k : Nat), k ≤ l.length → (∀ j, j < k → 0 ≤ hexv ((l[j]?.getD 0).toNat : Int)) → (k < l.length → hexv ((l[k]?.getD 0).toNat : Int) < 0) → hxN l = k
  | [], k, h, _, _ => by simp at h; subst h; rfl
  | c :: r, 0, _, _, h2 => by
    have := h2 (by simp)
    rw [hxN, if_neg (by simpa using this)]
  | c :: r, k + 1, h, h1, h2 => by
    have h0 : 0 ≤ hexv (c.toNat : Int) := by have := h1 0 (by omega); simpa using this
    rw [hxN, if_pos h0, hxN_is r k (by simpa using h) (fun j hj => by have := h1 (j + 1) (by omega); simpa using this) (fun hk => by have := h2 (by simpa using hk); simpa using this)]
theorem hxN_at : ∀ (l : List UInt8) (j : Nat), j < hxN l → 0 ≤ hexv ((l[j]?.getD 0).toNat : Int)
  | [], _, h => by simp [hxN] at h
  | c :: r, j, h => by
    rw [hxN] at h
    split at h
    · cases j with
      | zero => simpa
      | succ j => simpa using hxN_at r j (by omega)
    · omega

theorem hexv13 : hexv 13 < 0 := by decide
theorem scan_hx : ∀ (l : List UInt8) (j : Nat), j ≤ 5 → scanE l j = if 5 ≤ j + hxN l then some 5 else match l.drop (hxN l) with | [] => some (j + hxN l) | c :: _ => if c = 13 then some (j + hxN l) else none
  | [], j, hj => by
    rw [scanE, hxN]
    split
    · congr 1; omega
    · rfl
  | c :: r, j, hj => by
    rw [scanE]
    by_cases h5 : j = 5
    · subst h5
      rw [if_neg (by omega), if_pos (by omega)]
    · by_cases hc : c = 13
      · subst hc
        have hn : hxN (13 :: r) = 0 := by rw [hxN, if_neg (by decide)]
        rw [if_neg (by simp), hn, if_neg (by omega)]
        rfl
      · rw [if_pos ⟨by omega, hc⟩]
        by_cases hx : hexv (c.toNat : Int) < 0
        · have hn : hxN (c :: r) = 0 := by rw [hxN, if_neg (by omega)]
          rw [if_pos hx, hn, if_neg (by omega)]
          show none = if c = 13 then _ else none
          rw [if_neg hc]
        · have hn : hxN (c :: r) = hxN r + 1 := by rw [hxN, if_pos (by omega)]
          rw [if_neg hx, scan_hx r (j + 1) (by omega), hn, show j + (hxN r + 1) = j + 1 + hxN r by omega]
          rfl

/-- What is told where a piece's line end is due, where a piece is, and where the size's line end is. -/
def endV (f : Nat) (t b : List UInt8) (q p n : Nat) : List UInt8 × Nat × Int := if expC t ≠ 0 then ([], 0, expC t) else if n = 0 then (b, q + 2, 0) else chunksL f (t.drop 2) b (q + 2) p
def pieceV (f : Nat) (t b : List UInt8) (q p n : Nat) : List UInt8 × Nat × Int := if t.length < n then ([], 0, 1) else endV f (t.drop n) (b ++ t.take n) (q + n) p n
def sizeEndV (f : Nat) (t b : List UInt8) (q p n : Nat) : List UInt8 × Nat × Int := if expC t ≠ 0 then ([], 0, expC t) else pieceV f (t.drop 2) b (q + 2) p n

theorem size_more (f : Nat) (t b : List UInt8) (q p : Nat) (h : hxN t = t.length) (h4 : hxN t ≤ 4) : chunksL (f + 1) t b q p = ([], 0, 1) := by
  have hs := scan_hx t 0 (by omega)
  rw [if_neg (by omega), Nat.zero_add, h, List.drop_length] at hs
  have hs' : scanE t 0 = some t.length := hs
  rw [chunksL, hs']
  dsimp only
  rw [if_neg (by rintro (h1 | ⟨h1, h2⟩); · omega
                 · exact h2 (List.length_eq_zero_iff.1 h1)), if_neg (by omega), List.drop_length, if_pos (by decide)]
  rfl
theorem size_none (f : Nat) (t b : List UInt8) (q p : Nat) (h : hxN t = 0) (ht : t ≠ []) : chunksL (f + 1) t b q p = ([], 0, 2) := by
  have hs := scan_hx t 0 (by omega)
  rw [if_neg (by omega), Nat.zero_add, h, List.drop_zero] at hs
  rw [chunksL]
  cases t with
  | nil => exact absurd rfl ht
  | cons c r =>
    dsimp only at hs
    by_cases hc : c = 13
    · rw [if_pos hc] at hs
      rw [hs]
      dsimp only
      rw [if_pos (.inr ⟨rfl, ht⟩)]
    · rw [if_neg hc] at hs
      rw [hs]
theorem size_long (f : Nat) (t b : List UInt8) (q p : Nat) (h : 4 < hxN t) : chunksL (f + 1) t b q p = ([], 0, 2) := by
  have hs := scan_hx t 0 (by omega)
  rw [if_pos (by omega)] at hs
  rw [chunksL, hs]
  dsimp only
  rw [if_pos (.inl (by omega))]
theorem size_great (f : Nat) (t b : List UInt8) (q p : Nat) (h1 : 1 ≤ hxN t) (h4 : hxN t ≤ 4) (hl : hxN t < t.length) (hg : 300 < b.length + hxL (t.take (hxN t)) ∨ (0 < hxL (t.take (hxN t)) ∧ p = 60)) : chunksL (f + 1) t b q p = ([], 0, 2) := by
  have hs := scan_hx t 0 (by omega)
  rw [if_neg (by omega), Nat.zero_add] at hs
  rw [chunksL]
  cases hd : t.drop (hxN t) with
  | nil =>
    have := List.drop_eq_nil_iff.1 hd
    omega
  | cons c r =>
    rw [hd] at hs
    dsimp only at hs
    by_cases hc : c = 13
    · rw [if_pos hc] at hs
      rw [hs]
      dsimp only
      rw [if_neg (by rintro (h | ⟨h, _⟩) <;> omega), if_pos ⟨hl, hg⟩]
    · rw [if_neg hc] at hs
      rw [hs]
theorem size_goes (f : Nat) (t b : List UInt8) (q p P : Nat) (h1 : 1 ≤ hxN t) (h4 : hxN t ≤ 4) (hl : hxN t < t.length) (hg : ¬ (300 < b.length + hxL (t.take (hxN t)) ∨ (0 < hxL (t.take (hxN t)) ∧ p = 60))) (hP : 0 < hxL (t.take (hxN t)) → P = p + 1) :
    chunksL (f + 1) t b q p = sizeEndV f (t.drop (hxN t)) b (q + hxN t) P (hxL (t.take (hxN t))) := by
  have hs := scan_hx t 0 (by omega)
  rw [if_neg (by omega), Nat.zero_add] at hs
  unfold sizeEndV
  rw [chunksL]
  cases hd : t.drop (hxN t) with
  | nil =>
    have := List.drop_eq_nil_iff.1 hd
    omega
  | cons c r =>
    rw [hd] at hs
    dsimp only at hs
    by_cases hc : c = 13
    · rw [if_pos hc] at hs
      rw [hs]
      dsimp only
      rw [if_neg (by rintro (h | ⟨h, _⟩) <;> omega), if_neg (fun h => hg h.2), hd]
      by_cases he : expC (c :: r) = 0
      · have hd2 : t.drop (hxN t + 2) = (c :: r).drop 2 := by rw [← hd, List.drop_drop]
        have n1 : ¬ (expC (c :: r) ≠ 0) := fun x => x he
        rw [if_neg n1, if_neg n1, hd2]
        unfold pieceV endV
        generalize (c :: r).drop 2 = u
        generalize hn : hxL (t.take (hxN t)) = n at hP ⊢
        by_cases hu : u.length < n
        · rw [if_pos hu, if_pos hu]
        rw [if_neg hu, if_neg hu]
        by_cases he2 : expC (u.drop n) = 0
        · have n2 : ¬ (expC (u.drop n) ≠ 0) := fun x => x he2
          rw [if_neg n2, if_neg n2]
          by_cases h0 : n = 0
          · subst h0
            rw [if_pos rfl, if_pos rfl, List.take_zero, List.append_nil]
          · rw [if_neg h0, if_neg h0, hP (by omega), List.drop_drop, show q + hxN t + 4 + n = q + hxN t + 2 + n + 2 by omega]
        · rw [if_pos he2, if_pos he2]
      · rw [if_pos he, if_pos he]
    · rw [if_neg hc] at hs
      rw [hs]
      have he : expC (c :: r) = 2 := by simp [expC, hc]
      rw [he]
      rfl
theorem more_end {f : Nat} {t b : List UInt8} {q p n : Nat} {x : Int} (h : expC t = x) (hx : x ≠ 0) : sizeEndV f t b q p n = ([], 0, x) ∧ endV f t b q p n = ([], 0, x) := by
  unfold sizeEndV endV
  rw [h, if_pos hx, if_pos hx]
  exact ⟨rfl, rfl⟩
theorem goes_end {f : Nat} {t b : List UInt8} {q p n : Nat} (h : expC t = 0) : sizeEndV f t b q p n = pieceV f (t.drop 2) b (q + 2) p n ∧ (n = 0 → endV f t b q p n = (b, q + 2, 0)) ∧ (n ≠ 0 → endV f t b q p n = chunksL f (t.drop 2) b (q + 2) p) := by
  unfold sizeEndV endV
  rw [h, if_neg (by omega), if_neg (by omega)]
  exact ⟨rfl, fun h0 => by rw [if_pos h0], fun h0 => by rw [if_neg h0]⟩

end Go.Proofs.YtimfcbjgoilnpaaDoor.Rka
