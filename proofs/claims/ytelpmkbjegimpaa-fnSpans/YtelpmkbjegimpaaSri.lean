/-
  Pure: the library's insertion sort of spans by their beginnings is the specification's.
-/
import Derived.Test.YtelpmkbjegimpaaSpj
import Derived.Sort.LotA
namespace Go.Proofs.Ytelpmkbjegimpaa.Spb
open Go.RowKit
open Go.Sort (insInner insOuter insertionSort swp)

def Up (l : List (Int × Int)) : Prop := l.Pairwise (fun a b => a.1 ≤ b.1)
theorem ins_up {l : List (Int × Int)} (h : Up l) (s : Int × Int) : Up (insS l s) := by
  induction l with
  | nil => simp [insS, Up]
  | cons c r ih =>
    unfold Up at h ih ⊢
    rw [List.pairwise_cons] at h
    by_cases hc : c.1 ≤ s.1
    · have e : insS (c :: r) s = c :: insS r s := by unfold insS; simp [List.takeWhile, List.dropWhile, hc]
      rw [e, List.pairwise_cons]
      refine ⟨fun b hb => ?_, ih h.2⟩
      unfold insS at hb
      rw [List.mem_append, List.mem_cons] at hb
      rcases hb with hb | hb | hb
      · exact h.1 b (List.takeWhile_subset _ hb)
      · rw [hb]; exact hc
      · exact h.1 b (List.dropWhile_subset _ hb)
    · have e : insS (c :: r) s = s :: c :: r := by unfold insS; simp [List.takeWhile, List.dropWhile, hc]
      rw [e, List.pairwise_cons, List.pairwise_cons]
      refine ⟨fun b hb => ?_, h⟩
      rcases List.mem_cons.1 hb with hb | hb
      · rw [hb]; omega
      · have := h.1 b hb; omega
theorem ins_last {l : List (Int × Int)} {s : Int × Int} (h : ∀ c ∈ l, c.1 ≤ s.1) : insS l s = l ++ [s] := by
  induction l with
  | nil => rfl
  | cons c r ih =>
    have hc := h c (by simp)
    have e : insS (c :: r) s = c :: insS r s := by unfold insS; simp [List.takeWhile, List.dropWhile, hc]
    rw [e, ih (fun x hx => h x (by simp [hx]))]; rfl
theorem ins_less (l : List (Int × Int)) (t s : Int × Int) (h : s.1 < t.1) : insS (l ++ [t]) s = insS l s ++ [t] := by
  induction l with
  | nil => unfold insS; simp [List.takeWhile, List.dropWhile, show ¬ t.1 ≤ s.1 by omega]
  | cons c r ih =>
    by_cases hc : c.1 ≤ s.1
    · have e : ∀ q, insS (c :: q) s = c :: insS q s := fun q => by unfold insS; simp [List.takeWhile, List.dropWhile, hc]
      rw [List.cons_append, e, e, ih]; rfl
    · have e : ∀ q, insS (c :: q) s = s :: c :: q := fun q => by unfold insS; simp [List.takeWhile, List.dropWhile, hc]
      rw [List.cons_append, e, e]; rfl

/-- One round of the sort: the span at a place goes down to where it belongs. -/
theorem inner_is (lt : Int × Int → Int × Int → Bool) (hlt : ∀ x y, lt x y = decide (x.1 < y.1)) : ∀ (A : List (Int × Int)) (s : Int × Int) (R : List (Int × Int)), Up A → insInner lt 0 A.length (A ++ s :: R).toArray = (insS A s ++ R).toArray := by
  intro A
  generalize hn : A.length = n
  induction n generalizing A with
  | zero =>
    intro s R _
    obtain rfl := List.eq_nil_of_length_eq_zero hn
    rfl
  | succ n ih =>
    intro s R hA
    rcases List.eq_nil_or_concat A with rfl | ⟨B, t, rfl⟩
    · simp at hn
    rw [List.concat_eq_append] at hn hA ⊢
    have hB : B.length = n := by simpa using hn
    have hB2 : B.length + 1 = n + 1 := by omega
    have e1 : (B ++ [t] ++ s :: R).toArray[n + 1]! = s := by
      rw [List.getElem!_toArray, List.getElem!_eq_getElem?_getD, List.append_assoc, List.getElem?_append_right (by omega)]
      simp [show n + 1 - B.length = 1 by omega]
    have e0 : (B ++ [t] ++ s :: R).toArray[n]! = t := by
      rw [List.getElem!_toArray, List.getElem!_eq_getElem?_getD, List.append_assoc, List.getElem?_append_right (by omega)]
      simp [show n - B.length = 0 by omega]
    unfold insInner
    rw [e1, e0, hlt]
    by_cases h : s.1 < t.1
    · have hs : swp (B ++ [t] ++ s :: R).toArray (n + 1) n = (B ++ s :: t :: R).toArray := by
        unfold swp
        rw [e1, e0]
        simp only [List.setIfInBounds_toArray]
        congr 1
        rw [List.append_assoc, List.set_append_right _ _ (by omega), show n + 1 - B.length = 1 by omega]
        rw [List.set_append_right _ _ (by omega), show n - B.length = 0 by omega]
        rfl
      have : (decide (n + 1 > 0) && decide (s.1 < t.1)) = true := by simp [h]
      rw [if_pos this, hs, ih B hB s (t :: R) (by unfold Up at hA ⊢; exact (List.pairwise_append.1 hA).1), ins_less B t s h]
      simp
    · have : ¬ ((decide (n + 1 > 0) && decide (s.1 < t.1)) = true) := by simp [h]
      rw [if_neg this, ins_last (l := B ++ [t]) (s := s)]
      · simp
      · intro c hc
        unfold Up at hA
        rw [List.pairwise_append] at hA
        rcases List.mem_append.1 hc with hc | hc
        · have := hA.2.2 c hc t (by simp); omega
        · have : c = t := by simpa using hc
          rw [this]; omega
theorem outer_is (lt : Int × Int → Int × Int → Bool) (hlt : ∀ x y, lt x y = decide (x.1 < y.1)) : ∀ (R A : List (Int × Int)), Up A → insOuter lt 0 (A.length + R.length) A.length (A ++ R).toArray = (R.foldl insS A).toArray
  | [], A, _ => by unfold insOuter; simp
  | s :: R, A, hA => by
    unfold insOuter
    rw [if_pos (by simp), inner_is lt hlt A s R hA]
    have hl : (insS A s).length = A.length + 1 := by
      unfold insS
      have := congrArg List.length (List.takeWhile_append_dropWhile (p := fun c : Int × Int => decide (c.1 ≤ s.1)) (l := A))
      rw [List.length_append] at this
      rw [List.length_append, List.length_cons]; omega
    have := outer_is lt hlt R (insS A s) (ins_up hA s)
    rw [hl] at this
    rw [show A.length + (s :: R).length = A.length + 1 + R.length by simp; omega, this]
    rfl
theorem sort_is (lt : Int × Int → Int × Int → Bool) (hlt : ∀ x y, lt x y = decide (x.1 < y.1)) (l : List (Int × Int)) : insertionSort lt l.toArray 0 l.toArray.size = (sortS l).toArray := by
  unfold insertionSort
  cases l with
  | nil => unfold insOuter; rfl
  | cons s R =>
    have := outer_is lt hlt R [s] (by simp [Up])
    simp only [List.length_singleton] at this
    rw [show (s :: R).toArray.size = 1 + R.length by simp; omega]
    exact this
end Go.Proofs.Ytelpmkbjegimpaa.Spb
