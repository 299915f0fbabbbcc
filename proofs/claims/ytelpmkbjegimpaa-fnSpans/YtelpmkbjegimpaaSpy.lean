/-
  Pure: what stands apart covers as many places as its sum tells; each is covered by what was joined. Texts pasted where they were cut.
-/
import Derived.Test.YtelpmkbjegimpaaSpz
namespace Go.Proofs.Ytelpmkbjegimpaa.Spb
open Go.RowKit
open Go.Proofs.Ytelpmkbjegimpaa.Spp

def covB (l : List (Int × Int)) (x : Nat) : Bool := l.any (fun c => decide (c.1 ≤ (x : Int)) && decide ((x : Int) < c.2))
theorem cov_iff {l : List (Int × Int)} {x : Nat} : covB l x = true ↔ ∃ c ∈ l, c.1 ≤ (x : Int) ∧ (x : Int) < c.2 := by
  unfold covB
  rw [List.any_eq_true]
  simp
theorem mstep_cov {O : List (Int × Int)} {s : Int × Int} {x : Nat} (h : covB (mstep 0 O s) x = true) : covB (O ++ [s]) x = true := by
  rw [cov_iff] at h ⊢
  obtain ⟨c, hc, h1, h2⟩ := h
  rcases List.eq_nil_or_concat O with rfl | ⟨D, t, rfl⟩
  · rw [mstep_nil] at hc
    exact ⟨c, by simpa using hc, h1, h2⟩
  · rw [List.concat_eq_append] at hc ⊢
    rw [mstep_more] at hc
    split at hc
    · next h0 =>
      split at hc
      · rw [List.mem_append] at hc
        rcases hc with hc | hc
        · exact ⟨c, by simp [hc], h1, h2⟩
        · have : c = (t.1, s.2) := by simpa using hc
          rw [this] at h1 h2
          dsimp only at h1 h2
          by_cases hx : (x : Int) < t.2
          · exact ⟨t, by simp, h1, hx⟩
          · exact ⟨s, by simp, by omega, h2⟩
      · exact ⟨c, by rw [List.mem_append]; exact .inl hc, h1, h2⟩
    · exact ⟨c, hc, h1, h2⟩
theorem fold_cov : ∀ (l O : List (Int × Int)) (x : Nat), covB (l.foldl (mstep 0) O) x = true → covB (O ++ l) x = true
  | [], O, x, h => by rw [List.append_nil]; exact h
  | s :: l, O, x, h => by
    have h1 := fold_cov l (mstep 0 O s) x h
    rw [cov_iff] at h1 ⊢
    obtain ⟨c, hc, h2⟩ := h1
    rw [List.mem_append] at hc
    rcases hc with hc | hc
    · have := mstep_cov (O := O) (s := s) (x := x) (cov_iff.2 ⟨c, hc, h2⟩)
      rw [cov_iff] at this
      obtain ⟨d, hd, h3⟩ := this
      exact ⟨d, by simp at hd ⊢; rcases hd with h | h <;> simp [h], h3⟩
    · exact ⟨c, by simp [hc], h2⟩
theorem join_cov {l : List (Int × Int)} {x : Nat} (h : covB (joinS l 0) x = true) : covB l x = true := by
  have h1 := fold_cov (sortS l) [] x h
  rw [List.nil_append, cov_iff] at h1
  obtain ⟨c, hc, h2⟩ := h1
  rw [← List.take_length (l := l)] at hc
  exact cov_iff.2 ⟨c, sort_mem l _ (Nat.le_refl _) c hc, h2⟩
theorem count_more (p : Nat → Bool) (a b : Nat) (h : a ≤ b) : (List.range a).countP p ≤ (List.range b).countP p := by
  obtain ⟨d, rfl⟩ := Nat.exists_eq_add_of_le h
  rw [List.range_add, List.countP_append]; omega
theorem count_cov : ∀ (k : Nat) (m : List (Int × Int)), m.length = k → Good m → Apart 0 m → ∀ n : Nat, (∀ c ∈ m, c.2 ≤ (n : Int)) → sumS m ≤ (((List.range n).countP (covB m) : Nat) : Int)
  | k, m, hk, hg, ha, n, hn => by
    rcases List.eq_nil_or_concat m with rfl | ⟨D, t, rfl⟩
    · simp [sumS]
      try omega
    · rw [List.concat_eq_append] at hk hg ha hn ⊢
      obtain ⟨t1, t2, t3⟩ := hg t (by simp)
      obtain ⟨h1, h2, h3⟩ := List.pairwise_append.1 ha
      have hDl : D.length < k := by rw [← hk]; simp
      have ih := count_cov D.length D rfl (fun c hc => hg c (by simp [hc])) h1 t.1.toNat (fun c hc => by have := h3 c hc t (by simp); omega)
      have hmore := count_more (covB (D ++ [t])) t.2.toNat n (by have := hn t (by simp); omega)
      rw [sum_snoc]
      obtain ⟨d, hd⟩ : ∃ d : Nat, t.2.toNat = t.1.toNat + d := ⟨t.2.toNat - t.1.toNat, by omega⟩
      rw [hd, List.range_add, List.countP_append] at hmore
      have e1 : (List.range t.1.toNat).countP (covB D) ≤ (List.range t.1.toNat).countP (covB (D ++ [t])) := by
        refine List.countP_mono_left (fun x _ hx => ?_)
        rw [cov_iff] at hx ⊢
        obtain ⟨c, hc, h4⟩ := hx
        exact ⟨c, by simp [hc], h4⟩
      have e2 : ((List.range d).map (fun x => t.1.toNat + x)).countP (covB (D ++ [t])) = d := by
        rw [List.countP_eq_length.2 (fun x hx => ?_)]
        · simp
        · simp at hx
          obtain ⟨y, hy, rfl⟩ := hx
          exact cov_iff.2 ⟨t, by simp, by omega, by omega⟩
      omega
termination_by k => k
decreasing_by omega
/-- So many places of a body are covered, at least. -/
theorem cover_count {l : List (Int × Int)} {n : Nat} (h : withinL l (n : Int) = true) : coverN l ≤ (((List.range n).countP (covB l) : Nat) : Int) := by
  obtain ⟨hgl, hin⟩ := withinL_parts h
  have hg := (goodL_parts hgl).2
  rw [cover_yes hgl]
  have hb : ∀ c ∈ joinS l 0, c.2 ≤ (n : Int) := by
    intro c hc
    have hgc := join_good (gap := 0) hg c hc
    have hx : covB (joinS l 0) (c.2 - 1).toNat = true := cov_iff.2 ⟨c, hc, by omega, by omega⟩
    have := cov_iff.1 (join_cov hx)
    obtain ⟨d, hd, _, h2⟩ := this
    have := hin d hd
    omega
  refine Int.le_trans (count_cov _ _ rfl (join_good hg) (join_apart (Int.le_refl 0) hg) n hb) ?_
  have := List.countP_mono_left (l := List.range n) (p := covB (joinS l 0)) (q := covB l) (fun x _ hx => join_cov hx)
  omega

end Go.Proofs.Ytelpmkbjegimpaa.Spb
