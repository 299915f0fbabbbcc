/-
  Chunks told: what they are.
-/
import Derived.Test.YtimfcbjgoilnpaaDoorHxw
import Derived.Test.YtimfcbjgoilnpaaDoorMrk
namespace Go.Proofs.YtimfcbjgoilnpaaDoor.Ckm
open Go.RowKit
open Go.Proofs.YtimfcbjgoilnpaaDoor.Hxt

/-- A chunk: its size, 13, 10, it, 13, 10. -/
def chk (x : ByteArray) : List UInt8 := hexT x.size ++ (13 :: 10 :: (x.data.toList ++ [13, 10]))
def chkL (l : List ByteArray) : List UInt8 := l.flatMap chk
theorem chkL_take (l : List ByteArray) (k : Nat) (h : k < l.length) : chkL (l.take (k + 1)) = chkL (l.take k) ++ chk l[k] := by
  unfold chkL
  rw [List.take_succ_eq_append_getElem h, List.flatMap_append]; simp
def sumS (l : List ByteArray) : Nat := (l.map (·.size)).sum
theorem sumS_take (l : List ByteArray) (k : Nat) (h : k < l.length) : sumS (l.take (k + 1)) = sumS (l.take k) + l[k].size := by
  unfold sumS
  rw [List.take_succ_eq_append_getElem h, List.map_append, List.sum_append]; simp
theorem sumS_le (l : List ByteArray) (k : Nat) : sumS (l.take k) ≤ sumS l := by
  have h : sumS l = sumS (l.take k) + sumS (l.drop k) := by
    unfold sumS
    conv => lhs; rw [← List.take_append_drop k l]
    rw [List.map_append, List.sum_append]
  omega
theorem sumS_at (l : List ByteArray) (k : Nat) (h : k < l.length) : l[k].size ≤ sumS l := by
  have := sumS_take l k h
  have := sumS_le l (k + 1)
  omega
theorem sumS_bd (l : List ByteArray) (N : Nat) (h : ∀ x ∈ l, x.size ≤ N) (k : Nat) (hk : k ≤ l.length) : sumS (l.take k) ≤ N * k := by
  induction k with
  | zero => simp [sumS]
  | succ k ih =>
    rw [sumS_take l k hk, Nat.mul_succ]
    have := h l[k] (List.getElem_mem _)
    have := ih (by omega)
    omega
theorem chk_len (x : ByteArray) (h : x.size ≤ 300) : (chk x).length ≤ x.size + 8 := by
  have := hexT_len 3 x.size (by show x.size < 65536; omega)
  unfold chk
  simp
  omega
theorem chkL_len (l : List ByteArray) (h : ∀ x ∈ l, x.size ≤ 300) (k : Nat) (hk : k ≤ l.length) : (chkL (l.take k)).length ≤ sumS (l.take k) + 8 * k := by
  induction k with
  | zero => simp [chkL]
  | succ k ih =>
    rw [chkL_take l k hk, sumS_take l k hk, List.length_append]
    have := chk_len l[k] (h _ (List.getElem_mem _))
    have := ih (by omega)
    omega

/-- Pieces of which chunks are told. -/
def pcs (l : List ByteArray) : Bool := decide (l.length ≤ 60) && l.all (fun x => x.size != 0) && decide (sumS l ≤ 300)
theorem pcs_parts {l : List ByteArray} (h : pcs l = true) : l.length ≤ 60 ∧ (∀ j, (hj : j < l.length) → l[j].size ≠ 0) ∧ sumS l ≤ 300 := by
  unfold pcs at h
  simp only [Bool.and_eq_true, decide_eq_true_eq, List.all_eq_true] at h
  exact ⟨h.1.1, fun j hj => by simpa using h.1.2 _ (List.getElem_mem hj), h.2⟩
theorem pcs_yes {l : List ByteArray} (h1 : l.length ≤ 60) (h2 : ∀ j, (hj : j < l.length) → l[j].size ≠ 0) (h3 : sumS l ≤ 300) : pcs l = true := by
  unfold pcs
  rw [decide_eq_true h1, decide_eq_true h3, show l.all (fun x => x.size != 0) = true from ?_]
  · rfl
  · rw [List.all_eq_true]
    intro x hx
    obtain ⟨j, hj, rfl⟩ := List.getElem_of_mem hx
    simpa using h2 j hj
theorem pcs_no {l : List ByteArray} (h : ¬ (l.length ≤ 60 ∧ (∀ j, (hj : j < l.length) → l[j].size ≠ 0) ∧ sumS l ≤ 300)) : pcs l = false := by
  cases e : pcs l
  · rfl
  · exact absurd (pcs_parts e) h

/-- ChunkBytes' answer. -/
def ckS (l : List ByteArray) : ByteArray := if pcs l then ⟨(chkL l ++ [48, 13, 10, 13, 10]).toArray⟩ else ⟨#[]⟩
theorem ck_yes {l : List ByteArray} (h : pcs l = true) : ckS l = ⟨(chkL l ++ [48, 13, 10, 13, 10]).toArray⟩ := by unfold ckS; rw [h]; rfl
theorem ck_no {l : List ByteArray} (h : pcs l = false) : ckS l = ⟨#[]⟩ := by unfold ckS; rw [h]; rfl
theorem ret_sb {a b : ByteArray} {x y : Bool} (h : a = b) (h' : x = y) : Ending.returned (.tuple #[.string a, .bool x]) = .returned (.tuple #[.string b, .bool y]) := by rw [h, h']

theorem chunk_app (h : List UInt8) (x : ByteArray) : (((⟨h.toArray⟩ : ByteArray) ++ ⟨#[13, 10]⟩) ++ x) ++ ⟨#[13, 10]⟩ = ⟨(h ++ (13 :: 10 :: (x.data.toList ++ [13, 10]))).toArray⟩ := by
  apply ByteArray.ext; simp [ByteArray.data_append]
theorem app_list (a b : List UInt8) : (⟨a.toArray⟩ : ByteArray) ++ ⟨b.toArray⟩ = ⟨(a ++ b).toArray⟩ := by
  apply ByteArray.ext; simp
theorem empty_of {x : ByteArray} (h : x.size = 0) : x = ⟨#[]⟩ := by
  apply ByteArray.ext
  apply Array.eq_empty_of_size_eq_zero
  exact h

theorem ne_of {s : ByteArray} (h : s.size ≠ 0) : s.toList.isEmpty = false := by
  rw [ByteArray.toList_eq]
  cases hp : s.data.toList with
  | nil =>
    have : s.data.toList.length = s.size := by simp
    rw [hp] at this; simp at this; omega
  | cons c r => rfl

end Go.Proofs.YtimfcbjgoilnpaaDoor.Ckm
