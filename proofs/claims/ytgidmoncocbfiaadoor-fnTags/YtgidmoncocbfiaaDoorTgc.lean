/-
  Walk: spec.ReadTag. Pure: a tag that is told is read again.
-/
import Derived.Test.YtgidmoncocbfiaaDoorTga
namespace Go.Proofs.YtgidmoncocbfiaaDoor.Tga
open Go.RowKit
open Go.Proofs.YtgidmoncocbfiaaDoor.Fbs
open Go.Proofs.YtgidmoncocbfiaaDoor.Unq (heldB)

theorem quo_size (t : ByteArray) : ((⟨#[34]⟩ : ByteArray) ++ t ++ ⟨#[34]⟩).size = t.size + 2 := by
  have c1 : (⟨#[34]⟩ : ByteArray).size = 1 := rfl
  rw [ByteArray.size_append, ByteArray.size_append, c1]; omega
theorem quo_list (t : ByteArray) : ((⟨#[34]⟩ : ByteArray) ++ t ++ ⟨#[34]⟩).data.toList = 34 :: (t.data.toList ++ [34]) := by simp
/-- What is told within quotes is held in them, and read again. -/
theorem inQ_back {t : ByteArray} (h : tagB t = true) : inQ ((⟨#[34]⟩ : ByteArray) ++ t ++ ⟨#[34]⟩) = some t := by
  have hx : ((⟨#[34]⟩ : ByteArray) ++ t ++ ⟨#[34]⟩).extract 1 (((⟨#[34]⟩ : ByteArray) ++ t ++ ⟨#[34]⟩).size - 1) = t := by
    apply ByteArray.ext
    apply Array.ext'
    rw [ByteArray.data_extract, Array.toList_extract, quo_list, quo_size, List.extract_eq_take_drop]
    have e : t.data.toList.length = t.size := by simp
    show (List.drop 1 (34 :: (t.data.toList ++ [34]))).take (t.size + 2 - 1 - 1) = _
    rw [List.drop_succ_cons, List.drop_zero, show t.size + 2 - 1 - 1 = t.data.toList.length from by omega, List.take_left']
    rfl
  have hh : heldB ((⟨#[34]⟩ : ByteArray) ++ t ++ ⟨#[34]⟩).data.toList = true := by
    unfold heldB
    rw [quo_list]
    simp
  unfold inQ
  rw [hx, if_pos ⟨hh, h⟩]

/-- A tag that is told is read again. -/
theorem read_tag (k : Bool) {t : ByteArray} (h : tagB t = true) : readT (tagT k t) = some (k, t) := by
  cases k
  · have hw : weakB (tagT false t) = false := by
      have e : ((tagT false t).extract 0 2).toList = 34 :: ((t.data.toList ++ [34]).take 1) := by
        rw [ByteArray.toList_eq, ByteArray.data_extract, Array.toList_extract, List.extract_eq_take_drop]
        show List.take 2 (List.drop 0 ((⟨#[34]⟩ : ByteArray) ++ t ++ ⟨#[34]⟩).data.toList) = _
        rw [quo_list]; rfl
      unfold weakB
      rw [e]
      simp
    unfold readT
    rw [hw]
    show (inQ ((⟨#[34]⟩ : ByteArray) ++ t ++ ⟨#[34]⟩)).map _ = _
    rw [inQ_back h]; rfl
  · have e0 : (tagT true t).data.toList = 87 :: 47 :: 34 :: (t.data.toList ++ [34]) := by
      show ((⟨#[87, 47, 34]⟩ : ByteArray) ++ t ++ ⟨#[34]⟩).data.toList = _
      simp
    have e1 : (tagT true t).size = t.size + 4 := by
      have a : (tagT true t).data.toList.length = (tagT true t).size := by simp
      have b : t.data.toList.length = t.size := by simp
      rw [e0] at a
      simp only [List.length_cons, List.length_append, List.length_nil] at a
      omega
    have hw : weakB (tagT true t) = true := by
      have e : ((tagT true t).extract 0 2).toList = [87, 47] := by
        rw [ByteArray.toList_eq, ByteArray.data_extract, Array.toList_extract, List.extract_eq_take_drop, e0]; rfl
      unfold weakB
      rw [e, decide_eq_true (by omega)]; rfl
    have hx : (tagT true t).extract 2 (tagT true t).size = (⟨#[34]⟩ : ByteArray) ++ t ++ ⟨#[34]⟩ := by
      apply ByteArray.ext
      apply Array.ext'
      rw [ByteArray.data_extract, Array.toList_extract, List.extract_eq_take_drop, e0, e1, quo_list]
      have b : t.data.toList.length = t.size := by simp
      show (34 :: (t.data.toList ++ [34])).take (t.size + 4 - 2) = _
      apply List.take_of_length_le
      simp only [List.length_cons, List.length_append, List.length_nil]
      omega
    unfold readT
    rw [hw, hx]
    show (inQ _).map _ = _
    rw [inQ_back h]; rfl

end Go.Proofs.YtgidmoncocbfiaaDoor.Tga
