/-
  Pure: what JoinSpans joins stands apart; joined anew it is the same; a greater gap covers no less.
-/
import Derived.Test.YtelpmkbjegimpaaSpv
namespace Go.Proofs.Ytelpmkbjegimpaa.Spb
open Go.RowKit
open Go.Proofs.Ytelpmkbjegimpaa.Spp

abbrev Good (l : List (Int × Int)) : Prop := ∀ c ∈ l, 0 ≤ c.1 ∧ c.1 < c.2 ∧ c.2 ≤ 1000000
/-- Apart by more than the gap, rising. -/
def Apart (gap : Int) (l : List (Int × Int)) : Prop := l.Pairwise (fun a b => a.2 + gap < b.1)
theorem sum_snoc (D : List (Int × Int)) (c : Int × Int) : sumS (D ++ [c]) = sumS D + (c.2 - c.1) := by
  unfold sumS
  rw [List.foldl_append]; rfl
theorem mstep_apart {gap : Int} (hg : 0 ≤ gap) {O : List (Int × Int)} {s : Int × Int} (hO : Good O) (h : Apart gap O) : Apart gap (mstep gap O s) := by
  rcases List.eq_nil_or_concat O with rfl | ⟨D, t, rfl⟩
  · rw [mstep_nil]; exact List.pairwise_singleton _ _
  · rw [List.concat_eq_append] at h hO ⊢
    rw [mstep_more]
    unfold Apart at h ⊢
    obtain ⟨h1, h2, h3⟩ := List.pairwise_append.1 h
    split
    · split
      · refine List.pairwise_append.2 ⟨h1, List.pairwise_singleton _ _, fun a ha b hb => ?_⟩
        have : b = (t.1, s.2) := by simpa using hb
        rw [this]
        exact h3 a ha t (by simp)
      · exact h
    · next hn =>
      refine List.pairwise_append.2 ⟨h, List.pairwise_singleton _ _, fun a ha b hb => ?_⟩
      have hb : b = s := by simpa using hb
      rw [hb]
      rw [List.mem_append] at ha
      rcases ha with ha | ha
      · have e1 := h3 a ha t (by simp)
        have e2 := hO t (by simp)
        omega
      · have ha : a = t := by simpa using ha
        rw [ha]; omega
theorem fold_apart {gap : Int} (hg : 0 ≤ gap) : ∀ (l O : List (Int × Int)), Good O → Apart gap O → Good l → Apart gap (l.foldl (mstep gap) O)
  | [], _, _, h, _ => h
  | s :: l, O, hO, h, hl => fold_apart hg l (mstep gap O s) (mstep_good hO (hl s (by simp))) (mstep_apart hg hO h) (fun c hc => hl c (by simp [hc]))
theorem join_apart {gap : Int} (hg : 0 ≤ gap) {l : List (Int × Int)} (h : Good l) : Apart gap (joinS l gap) :=
  fold_apart hg (sortS l) [] (fun c hc => absurd hc (by simp)) List.Pairwise.nil (sort_good h)
theorem apart_at {gap : Int} {m : List (Int × Int)} (h : Apart gap m) (i : Nat) (hi : i + 1 < m.length) : m[i].2 + gap < m[i + 1].1 :=
  List.pairwise_iff_getElem.1 h i (i + 1) (by omega) hi (by omega)

/-! What stands apart is its own joining. -/
theorem sort_same {m : List (Int × Int)} (hg : Good m) (h : Apart 0 m) : ∀ i, i ≤ m.length → sortS (m.take i) = m.take i
  | 0, _ => by simp [sortS]
  | i + 1, hi => by
    rw [sort_take m i hi, sort_same hg h i (by omega)]
    have hlen : (m.take i).length = i := by rw [List.length_take]; omega
    rw [ins_at (k := i) (by omega) (fun j hj _ => ?_) (fun hk => absurd hk (by omega))]
    · rw [List.take_of_length_le (by omega), List.drop_eq_nil_of_le (by omega), List.take_succ_eq_append_getElem hi]
    · rw [List.getElem_take]
      have e := List.pairwise_iff_getElem.1 h j i (by omega) hi (by omega)
      have := hg m[j] (List.getElem_mem _)
      omega
theorem fold_same {m : List (Int × Int)} (h : Apart 0 m) : ∀ i, i ≤ m.length → (m.take i).foldl (mstep 0) [] = m.take i
  | 0, _ => by simp
  | i + 1, hi => by
    rw [join_take m 0 i hi, fold_same h i (by omega), List.take_succ_eq_append_getElem hi]
    cases i with
    | zero => simp [mstep_nil]
    | succ j =>
      have e := apart_at h j hi
      rw [List.take_succ_eq_append_getElem (show j < m.length by omega), mstep_more, if_neg (by omega)]
theorem join_same {m : List (Int × Int)} (hg : Good m) (h : Apart 0 m) : joinS m 0 = m := by
  unfold joinS
  have e1 := sort_same hg h m.length (Nat.le_refl _)
  have e2 := fold_same h m.length (Nat.le_refl _)
  rw [List.take_length] at e1 e2
  rw [e1, e2]

/-! A greater gap covers no less. -/
def Wider (A B : List (Int × Int)) : Prop := (A = [] ∧ B = []) ∨ ∃ D F E G T, A = D ++ [(F, T)] ∧ B = E ++ [(G, T)] ∧ sumS A ≤ sumS B
theorem mstep_wider {gap : Int} (hg : 0 ≤ gap) {A B : List (Int × Int)} {s : Int × Int} (hs : s.1 < s.2) (h : Wider A B) : Wider (mstep 0 A s) (mstep gap B s) := by
  rcases h with ⟨rfl, rfl⟩ | ⟨D, F, E, G, T, rfl, rfl, hle⟩
  · rw [mstep_nil, mstep_nil]
    exact .inr ⟨[], s.1, [], s.1, s.2, rfl, rfl, Int.le_refl _⟩
  · rw [mstep_more, mstep_more]
    rw [sum_snoc, sum_snoc] at hle
    dsimp only at hle ⊢
    by_cases h0 : s.1 ≤ T + 0
    · rw [if_pos h0, if_pos (show s.1 ≤ T + gap by omega)]
      by_cases h1 : T < s.2
      · rw [if_pos h1, if_pos h1]
        exact .inr ⟨D, F, E, G, s.2, rfl, rfl, by rw [sum_snoc, sum_snoc]; dsimp only; omega⟩
      · rw [if_neg h1, if_neg h1]
        exact .inr ⟨D, F, E, G, T, rfl, rfl, by rw [sum_snoc, sum_snoc]; exact hle⟩
    · rw [if_neg h0]
      by_cases h2 : s.1 ≤ T + gap
      · rw [if_pos h2, if_pos (show T < s.2 by omega)]
        exact .inr ⟨D ++ [(F, T)], s.1, E, G, s.2, rfl, rfl, by rw [sum_snoc, sum_snoc, sum_snoc]; dsimp only; omega⟩
      · rw [if_neg h2]
        exact .inr ⟨D ++ [(F, T)], s.1, E ++ [(G, T)], s.1, s.2, rfl, rfl, by rw [sum_snoc, sum_snoc, sum_snoc, sum_snoc]; dsimp only; omega⟩
theorem fold_wider {gap : Int} (hg : 0 ≤ gap) : ∀ (l A B : List (Int × Int)), Good l → Wider A B → Wider (l.foldl (mstep 0) A) (l.foldl (mstep gap) B)
  | [], _, _, _, h => h
  | s :: l, _, _, hl, h => fold_wider hg l _ _ (fun c hc => hl c (by simp [hc])) (mstep_wider hg (hl s (by simp)).2.1 h)
theorem cover_wider {gap : Int} (hg : 0 ≤ gap) {l : List (Int × Int)} (h : Good l) : sumS (joinS l 0) ≤ sumS (joinS l gap) := by
  rcases fold_wider hg (sortS l) [] [] (sort_good h) (.inl ⟨rfl, rfl⟩) with ⟨e1, e2⟩ | ⟨D, F, E, G, T, _, _, hle⟩
  · unfold joinS; rw [e1, e2]; exact Int.le_refl _
  · exact hle
theorem join_goodL {l : List (Int × Int)} {gap : Int} (h : goodL l = true) : goodL (joinS l gap) = true := by
  obtain ⟨h1, h2⟩ := goodL_parts h
  have hl := join_len l gap
  have hg := join_good (gap := gap) h2
  unfold goodL
  rw [all_yes (fun i hi => ?_), Bool.true_and]
  · exact decide_eq_true (by omega)
  · obtain ⟨n1, n2, n3⟩ := hg _ (List.getElem_mem hi)
    unfold goodS
    rw [decide_eq_true n1, decide_eq_true n2, decide_eq_true n3]; rfl
/-- What FnSpans asks of joined spans. -/
theorem join_told {l : List (Int × Int)} {gap : Int} (h : joinB l gap = true) :
    coverN (joinS l gap) = sumS (joinS l gap) ∧ coverN l ≤ sumS (joinS l gap) ∧ (gap = 0 → coverN l = sumS (joinS l gap)) ∧ (joinS l gap).length ≤ l.length ∧ goodL (joinS l gap) = true ∧ goodL l = true ∧ ∀ i, (hi : i + 1 < (joinS l gap).length) → (joinS l gap)[i].2 + gap < (joinS l gap)[i + 1].1 := by
  unfold joinB at h
  have hgl : goodL l = true := by simp at h; exact h.1
  have hg0 : 0 ≤ gap := by simp at h; exact h.2.1
  obtain ⟨_, h2⟩ := goodL_parts hgl
  have hm := join_goodL (gap := gap) hgl
  have hap := join_apart hg0 h2
  have hap0 : Apart 0 (joinS l gap) := List.Pairwise.imp (fun h => by omega) hap
  refine ⟨?_, ?_, ?_, join_len l gap, hm, hgl, fun i hi => apart_at hap i hi⟩
  · rw [cover_yes hm, join_same (goodL_parts hm).2 hap0]
  · rw [cover_yes hgl]; exact cover_wider hg0 h2
  · intro e; rw [cover_yes hgl, e]

end Go.Proofs.Ytelpmkbjegimpaa.Spb
