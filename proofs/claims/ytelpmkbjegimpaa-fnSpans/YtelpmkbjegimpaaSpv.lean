/-
  Walks: spec.JoinSpans, spec.CoverOf.
-/
import Derived.Test.YtelpmkbjegimpaaSpk
namespace Go.Proofs.Ytelpmkbjegimpaa.Spb
open Go.RowKit
open Go.Proofs.Ytelpmkbjegimpaa.Spp

theorem in_yes (n lo hi : Int) (w : World) (h1 : lo ≤ n) (h2 : n ≤ hi) : Calls Try.prog 36 #[.int .i64 n, .int .i64 lo, .int .i64 hi] w fun e w' => e = .returned (.bool true) ∧ w' = w := by
  go_enter Try.func36, Try.ntmps36
  go_wp2
  go_ret
  exact ⟨ret_b (by first | rfl | exact decide_eq_true h2), rfl⟩
theorem in_no (n lo hi : Int) (w : World) (h1 : n < lo ∨ hi < n) : Calls Try.prog 36 #[.int .i64 n, .int .i64 lo, .int .i64 hi] w fun e w' => e = .returned (.bool false) ∧ w' = w := by
  by_cases h2 : n < lo
  · clear h1
    go_enter Try.func36, Try.ntmps36
    go_wp2
    go_ret
    exact ⟨rfl, rfl⟩
  · have h3 : hi < n := by omega
    clear h1
    go_enter Try.func36, Try.ntmps36
    go_wp2
    go_ret
    exact ⟨ret_b (by first | rfl | exact decide_eq_false (by omega)), rfl⟩

/-- What JoinSpans may join, and answers. -/
def joinB (l : List (Int × Int)) (gap : Int) : Bool := goodL l && (decide (0 ≤ gap) && decide (gap ≤ 1000))
def joinL (l : List (Int × Int)) (gap : Int) : List (Int × Int) := if joinB l gap then joinS l gap else []
theorem join_no {l : List (Int × Int)} {gap : Int} (h : joinB l gap = false) : joinL l gap = [] := by unfold joinL; rw [h]; rfl
theorem join_yes {l : List (Int × Int)} {gap : Int} (h : joinB l gap = true) : joinL l gap = joinS l gap := by unfold joinL; rw [h]; rfl

set_option maxHeartbeats 1600000 in
theorem specJoin_any (a : Option Addr) (ca : Nat) (l : List (Int × Int)) (gap : Int) (w : World) (lo hi : Nat) (hl : l.length ≤ 2000000) (ha : PV w a l lo hi) :
    Calls Try.prog 10 #[.slice a l.length ca, .int .i64 gap] w fun e w' => (∃ r, e = .returned (.tuple #[r, .bool (joinB l gap)]) ∧ spansIn w' w.heap.size r (joinL l gap)) ∧ Below w.heap.size w w' := by
  have HV : Hid (PV w a l lo hi) := ha
  have HG : Hid _ := fun wx hx => l6Spans_any a ca l wx lo hi hl hx
  clear ha
  cases hg : goodL l
  · have hB : joinB l gap = false := by unfold joinB; rw [hg]; rfl
    rw [hg] at HG
    rw [hB, join_no hB]
    clear hB hg
    go_enter Try.func10, Try.ntmps10
    go_wp2_with (go_at_call 35; refine (HG.out _ HV.out).mono ?_; rintro e w2 ⟨rfl, hb2⟩)
    go_ret2
    exact ⟨⟨_, rfl, spansIn.nil _ _⟩, hb2⟩
  · rw [hg] at HG
    obtain ⟨hl12, hgood⟩ := goodL_parts hg
    by_cases hgap : 0 ≤ gap ∧ gap ≤ 1000
    · have hB : joinB l gap = true := by unfold joinB; rw [hg, decide_eq_true hgap.1, decide_eq_true hgap.2]; rfl
      rw [hB, join_yes hB]
      have HJ : Hid _ := fun wx hx => l6Join_any a ca l gap wx lo hi hl12 hgood hgap.1 hgap.2 hx
      have HI : Hid (0 ≤ gap ∧ gap ≤ 1000) := hgap
      clear hB hg hgood hgap
      go_enter Try.func10, Try.ntmps10
      go_wp2_with (first
        | (go_at_call 35; refine (HG.out _ HV.out).mono ?_; rintro e w2 ⟨rfl, hb2⟩; have HV2 : Hid _ := HV.out.below hb2)
        | (go_at_call 36; refine (in_yes _ _ _ _ HI.out.1 HI.out.2).mono ?_; rintro e w' ⟨rfl, hw⟩; obtain rfl := hw.symm)
        | (go_at_call 37; refine (HJ.out _ HV2.out).mono ?_; rintro e w3 ⟨⟨r, rfl, hr⟩, hb3⟩))
      go_ret2
      exact ⟨⟨_, rfl, hr.base hb2.size⟩, hb2.trans (hb3.mono hb2.size)⟩
    · have hB : joinB l gap = false := by
        unfold joinB
        by_cases h0 : 0 ≤ gap
        · rw [hg, decide_eq_true h0, decide_eq_false (by omega)]; rfl
        · rw [hg, decide_eq_false h0]; rfl
      rw [hB, join_no hB]
      have HI : Hid (gap < 0 ∨ 1000 < gap) := by show _ ∨ _; omega
      clear hB hg hgood hgap
      go_enter Try.func10, Try.ntmps10
      go_wp2_with (first
        | (go_at_call 35; refine (HG.out _ HV.out).mono ?_; rintro e w2 ⟨rfl, hb2⟩)
        | (go_at_call 36; refine (in_no _ _ _ _ HI.out).mono ?_; rintro e w' ⟨rfl, hw⟩; obtain rfl := hw.symm))
      go_ret2
      exact ⟨⟨_, rfl, spansIn.nil _ _⟩, hb2⟩

/-! What the spans of a list cover, one by one. -/
def sumS (l : List (Int × Int)) : Int := l.foldl (fun a c => a + (c.2 - c.1)) 0
theorem sum_take (l : List (Int × Int)) (i : Nat) (h : i < l.length) : sumS (l.take (i + 1)) = sumS (l.take i) + (l[i].2 - l[i].1) := by
  unfold sumS
  rw [List.take_succ_eq_append_getElem h, List.foldl_append]; rfl
theorem sum_bd {l : List (Int × Int)} (h : ∀ c ∈ l, 0 ≤ c.1 ∧ c.1 < c.2 ∧ c.2 ≤ 1000000) : ∀ i, i ≤ l.length → 0 ≤ sumS (l.take i) ∧ sumS (l.take i) ≤ 1000000 * i
  | 0, _ => by simp [sumS]
  | i + 1, hi => by
    rw [sum_take l i hi]
    have ih := sum_bd h i (by omega)
    have := h l[i] (List.getElem_mem _)
    omega
theorem mstep_good {gap : Int} {O : List (Int × Int)} {s : Int × Int} (h : ∀ c ∈ O, 0 ≤ c.1 ∧ c.1 < c.2 ∧ c.2 ≤ 1000000) (hs : 0 ≤ s.1 ∧ s.1 < s.2 ∧ s.2 ≤ 1000000) : ∀ c ∈ mstep gap O s, 0 ≤ c.1 ∧ c.1 < c.2 ∧ c.2 ≤ 1000000 := by
  intro c hc
  rcases List.eq_nil_or_concat O with rfl | ⟨D, t, rfl⟩
  · rw [mstep_nil] at hc
    have : c = s := by simpa using hc
    rw [this]; exact hs
  · rw [List.concat_eq_append] at h hc
    rw [mstep_more] at hc
    have ht := h t (by simp)
    split at hc
    · split at hc
      · rw [List.mem_append] at hc
        rcases hc with hc | hc
        · exact h c (by simp [hc])
        · have : c = (t.1, s.2) := by simpa using hc
          rw [this]; exact ⟨ht.1, by show t.1 < s.2; omega, hs.2.2⟩
      · exact h c hc
    · rw [List.mem_append] at hc
      rcases hc with hc | hc
      · exact h c hc
      · have : c = s := by simpa using hc
        rw [this]; exact hs
theorem fold_good {gap : Int} : ∀ (l O : List (Int × Int)), (∀ c ∈ O, 0 ≤ c.1 ∧ c.1 < c.2 ∧ c.2 ≤ 1000000) → (∀ c ∈ l, 0 ≤ c.1 ∧ c.1 < c.2 ∧ c.2 ≤ 1000000) → ∀ c ∈ l.foldl (mstep gap) O, 0 ≤ c.1 ∧ c.1 < c.2 ∧ c.2 ≤ 1000000
  | [], _, h, _ => h
  | s :: l, O, h, hl => fold_good l (mstep gap O s) (mstep_good h (hl s (by simp))) (fun c hc => hl c (by simp [hc]))
theorem sort_good {l : List (Int × Int)} (h : ∀ c ∈ l, 0 ≤ c.1 ∧ c.1 < c.2 ∧ c.2 ≤ 1000000) : ∀ c ∈ sortS l, 0 ≤ c.1 ∧ c.1 < c.2 ∧ c.2 ≤ 1000000 := by
  intro c hc
  rw [← List.take_length (l := l)] at hc
  exact h c (sort_mem l _ (Nat.le_refl _) c hc)
theorem join_good {l : List (Int × Int)} {gap : Int} (h : ∀ c ∈ l, 0 ≤ c.1 ∧ c.1 < c.2 ∧ c.2 ≤ 1000000) : ∀ c ∈ joinS l gap, 0 ≤ c.1 ∧ c.1 < c.2 ∧ c.2 ≤ 1000000 :=
  fold_good (sortS l) [] (by simp) (sort_good h)
theorem join_len (l : List (Int × Int)) (gap : Int) : (joinS l gap).length ≤ l.length := by
  have h1 := fold_len (gap := gap) (l := sortS l) (sortS l).length (Nat.le_refl _)
  rw [List.take_length] at h1
  have h2 := sort_len l l.length (Nat.le_refl _)
  rw [List.take_length] at h2
  unfold joinS; omega

/-- What CoverOf answers. -/
def coverN (l : List (Int × Int)) : Int := if goodL l then sumS (joinS l 0) else 0
theorem cover_no {l : List (Int × Int)} (h : goodL l = false) : coverN l = 0 := by unfold coverN; rw [h]; rfl
theorem cover_yes {l : List (Int × Int)} (h : goodL l = true) : coverN l = sumS (joinS l 0) := by unfold coverN; rw [h]; rfl

set_option maxHeartbeats 1600000 in
theorem specCover_any (a : Option Addr) (ca : Nat) (l : List (Int × Int)) (w : World) (lo hi : Nat) (hl : l.length ≤ 2000000) (ha : PV w a l lo hi) :
    Calls Try.prog 29 #[.slice a l.length ca] w fun e w' => e = .returned (.tuple #[.int .i64 (coverN l), .bool (goodL l)]) ∧ Below w.heap.size w w' := by
  have HV : Hid (PV w a l lo hi) := ha
  have HG : Hid _ := fun wx hx => l6Spans_any a ca l wx lo hi hl hx
  clear ha
  cases hg : goodL l
  · rw [hg] at HG
    rw [cover_no hg]
    clear hg
    go_enter Try.func29, Try.ntmps29
    go_wp2_with (go_at_call 35; refine (HG.out _ HV.out).mono ?_; rintro e w2 ⟨rfl, hb2⟩)
    go_ret2
    exact ⟨rfl, hb2⟩
  · rw [hg] at HG
    obtain ⟨hl12, hgood⟩ := goodL_parts hg
    rw [cover_yes hg]
    have HJ : Hid _ := fun wx hx => l6Join_any a ca l 0 wx lo hi hl12 hgood (by omega) (by omega) hx
    have hJl := join_len l 0
    have HJg : Hid _ := join_good (gap := 0) hgood
    clear hg hgood
    go_enter Try.func29, Try.ntmps29
    generalize joinS l 0 = J at *
    go_wp2_with (first
      | (go_at_call 35; refine (HG.out _ HV.out).mono ?_; rintro e w2 ⟨rfl, hb2⟩; have HV2 : Hid _ := HV.out.below hb2)
      | (go_at_call 37; refine (HJ.out _ HV2.out).mono ?_; rintro e w3 ⟨⟨r, rfl, hr⟩, hb3⟩; obtain ⟨aJ, cJ, rfl, hPV⟩ := pv_of hr))
    have HP : Hid (PV w3 aJ J w2.heap.size w3.heap.size) := hPV
    have HB3 : Hid (Below w.heap.size w w3) := hb2.trans (hb3.mono hb2.size)
    clear hPV hr hb3 hb2 HJ HG HV HV2
    go_loopw [4, 13] (fun n c wr => ∃ i : Nat, i ≤ J.length ∧ c = .int .i64 i ∧ n = .int .i64 (sumS (J.take i)) ∧ Hid (Below w3.heap.size w3 wr)) (fun _ c _ => J.length - (intOf c).toNat)
    case atStart => exact ⟨0, by omega, rfl, rfl, Below.refl _ _⟩
    case round =>
      obtain ⟨i, hi, rfl, rfl, HB⟩ := hrel
      by_cases hlt : i < J.length
      · obtain ⟨g, rfl, _, hc, hd⟩ := row_at (HP.out.below HB.out) hlt
        have HN : Hid (sumS (J.take (i + 1)) = sumS (J.take i) + (J[i].2 - J[i].1)) := sum_take J i hlt
        obtain ⟨b1, b2⟩ := sum_bd HJg.out i hi
        obtain ⟨n1, n2, n3⟩ := HJg.out J[i] (List.getElem_mem _)
        obtain ⟨F, hF⟩ : ∃ F : Int, F = J[i].1 := ⟨_, rfl⟩
        obtain ⟨T, hT⟩ : ∃ T : Int, T = J[i].2 := ⟨_, rfl⟩
        obtain ⟨m, hm⟩ : ∃ m : Int, m = sumS (J.take i) := ⟨_, rfl⟩
        rw [← hF] at hc n1 n2 HN
        rw [← hT] at hd n2 n3 HN
        rw [← hm] at b1 b2 HN
        rw [← hm]
        have Hb1 : Hid _ := HB.out.alloc HB.out.size (.cells #[.int .i64 F, .int .i64 T] 32)
        clear hF hT hm HB
        go_wp2_with fail
        refine ⟨⟨i + 1, by omega, by go_num, by rw [HN.out], Hb1.out⟩, ?_⟩
        simp [intOf]; omega
      · obtain rfl : i = J.length := by omega
        rw [List.take_length]
        go_wp2_with fail
        go_ret2
        exact ⟨rfl, HB3.out.trans (HB.out.mono HB3.out.size)⟩

end Go.Proofs.Ytelpmkbjegimpaa.Spb
