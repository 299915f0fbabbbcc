/-
  What is told of chunks, one round by the size that the scan finds (pure).
-/
import Derived.Test.YtimfcbjgoilnpaaDoorExq
import Derived.Test.YtimfcbjgoilnpaaDoorHxs
namespace Go.Proofs.YtimfcbjgoilnpaaDoor.Cqs
open Go.RowKit
open Go.Proofs.YtimfcbjgoilnpaaDoor.Byt (hexv)
open Go.Proofs.YtimfcbjgoilnpaaDoor.Hex (at_list)
open Go.Proofs.YtimfcbjgoilnpaaDoor.Hxn
open Go.Proofs.YtimfcbjgoilnpaaDoor.Chp
open Go.Proofs.YtimfcbjgoilnpaaDoor.Rka (hxN hxN_at scan_hx)
open Go.Proofs.YtimfcbjgoilnpaaDoor.Rkb (len_eq)

theorem scan_end (j : Nat) : scanE [] j = some j := rfl
theorem scan_five (l : List UInt8) : scanE l 5 = some 5 := by
  cases l with
  | nil => rfl
  | cons c r => rw [scanE, if_neg (by omega)]
theorem scan_13 (r : List UInt8) (j : Nat) : scanE (13 :: r) j = some j := by rw [scanE, if_neg (by simp)]
theorem scan_bad (c : UInt8) (r : List UInt8) (j : Nat) (hj : j < 5) (hc : c ≠ 13) (h : hexv (c.toNat : Int) < 0) : scanE (c :: r) j = none := by rw [scanE, if_pos ⟨hj, hc⟩, if_pos h]
theorem scan_step (c : UInt8) (r : List UInt8) (j : Nat) (hj : j < 5) (hc : c ≠ 13) (h : 0 ≤ hexv (c.toNat : Int)) : scanE (c :: r) j = scanE r (j + 1) := by rw [scanE, if_pos ⟨hj, hc⟩, if_neg (by omega)]
theorem scan_le {l : List UInt8} {j : Nat} (h : scanE l 0 = some j) : j ≤ hxN l ∧ j ≤ 5 := by
  rw [scan_hx l 0 (by omega)] at h
  split at h
  · injection h with h; omega
  · split at h
    · injection h with h; omega
    · split at h
      · injection h with h; omega
      · cases h
theorem ext_take (s : ByteArray) (k j : Nat) : (s.extract k (k + j)).data.toList = (s.data.toList.drop k).take j := by
  rw [Hdg.ext_list, List.drop_take, Nat.add_sub_cancel_left]
theorem size_read (s : ByteArray) (k j : Nat) (h : scanE (s.data.toList.drop k) 0 = some j) (h1 : 1 ≤ j) (h4 : j ≤ 4) (hk : k + j ≤ s.size) : Hxs.l5V (s.extract k (k + j)) = (hxL ((s.data.toList.drop k).take j) : Int) := by
  have hz : (s.extract k (k + j)).size = j := by rw [ByteArray.size_extract]; omega
  have hall : hxAll (s.extract k (k + j)).data.toList = true := by
    rw [ext_take]
    unfold hxAll
    rw [List.all_eq_true]
    intro c hc
    obtain ⟨i, hi, rfl⟩ := List.getElem_of_mem hc
    have hi' : i < j := by rw [List.length_take] at hi; omega
    have := hxN_at (s.data.toList.drop k) i (by have := scan_le h; omega)
    rw [List.length_take] at hi
    rw [List.getElem?_eq_getElem (by omega), Option.getD_some] at this
    rw [List.getElem_take]
    exact decide_eq_true this
  rw [Hxs.l5_yes (hxB_good (by omega) (by omega) hall), ext_take]
theorem size_bd (l : List UInt8) (h : l.length ≤ 4) : hxL l < 65536 := by
  have := hxL_bd (⟨l.toArray⟩ : ByteArray) l.length (by show _ ≤ l.toArray.size; simp)
  have e : (⟨l.toArray⟩ : ByteArray).data.toList = l := by simp
  rw [e, List.take_length] at this
  exact Nat.lt_of_lt_of_le this (Nat.le_trans (Nat.pow_le_pow_right (by omega) h) (by decide))

theorem cs_none {f : Nat} {l b : List UInt8} {q p : Nat} (h : scanE l 0 = none) : chunksL (f + 1) l b q p = ([], 0, 2) := by rw [chunksL, h]
theorem cs_bad {f : Nat} {l b : List UInt8} {q p j : Nat} (h : scanE l 0 = some j) (hb : 4 < j ∨ (j = 0 ∧ l ≠ [])) : chunksL (f + 1) l b q p = ([], 0, 2) := by
  rw [chunksL, h]; dsimp only; rw [if_pos hb]
theorem cs_great {f : Nat} {l b : List UInt8} {q p j : Nat} (h : scanE l 0 = some j) (hb : ¬ (4 < j ∨ (j = 0 ∧ l ≠ []))) (hl : j < l.length) (hg : 300 < b.length + hxL (l.take j) ∨ (0 < hxL (l.take j) ∧ p = 60)) : chunksL (f + 1) l b q p = ([], 0, 2) := by
  rw [chunksL, h]; dsimp only; rw [if_neg hb, if_pos ⟨hl, hg⟩]
theorem cs_exp {f : Nat} {l b : List UInt8} {q p j : Nat} {c : Int} (h : scanE l 0 = some j) (hb : ¬ (4 < j ∨ (j = 0 ∧ l ≠ []))) (hg : ¬ (j < l.length ∧ (300 < b.length + hxL (l.take j) ∨ (0 < hxL (l.take j) ∧ p = 60)))) (hc : expC (l.drop j) = c) (h0 : c ≠ 0) : chunksL (f + 1) l b q p = ([], 0, c) := by
  rw [chunksL, h]; dsimp only; rw [if_neg hb, if_neg hg, hc, if_pos h0]
theorem cs_go {f : Nat} {l b : List UInt8} {q p j : Nat} (h : scanE l 0 = some j) (hb : ¬ (4 < j ∨ (j = 0 ∧ l ≠ []))) (hg : ¬ (j < l.length ∧ (300 < b.length + hxL (l.take j) ∨ (0 < hxL (l.take j) ∧ p = 60)))) (hc : expC (l.drop j) = 0) :
    chunksL (f + 1) l b q p = if (l.drop (j + 2)).length < hxL (l.take j) then ([], 0, 1)
      else if expC ((l.drop (j + 2)).drop (hxL (l.take j))) ≠ 0 then ([], 0, expC ((l.drop (j + 2)).drop (hxL (l.take j))))
      else if hxL (l.take j) = 0 then (b, q + j + 4, 0)
      else chunksL f ((l.drop (j + 2)).drop (hxL (l.take j) + 2)) (b ++ (l.drop (j + 2)).take (hxL (l.take j))) (q + j + 4 + hxL (l.take j)) (p + 1) := by
  rw [chunksL, h]; dsimp only; rw [if_neg hb, if_neg hg, hc, if_neg (by omega)]

end Go.Proofs.YtimfcbjgoilnpaaDoor.Cqs
