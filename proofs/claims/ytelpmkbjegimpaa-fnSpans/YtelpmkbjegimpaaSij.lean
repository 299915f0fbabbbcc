/-
  Walk: impl.JoinSpans.
-/
import Derived.Test.YtelpmkbjegimpaaSir
import Derived.Test.YtelpmkbjegimpaaSpv
import Derived.RegionTactic
namespace Go.Proofs.Ytelpmkbjegimpaa.Spb
open Go.RowKit
open Go.Proofs.Ytelpmkbjegimpaa.Spp

theorem step_ne (gap : Int) (O : List (Int × Int)) (s : Int × Int) : mstep gap O s ≠ [] := by
  rcases List.eq_nil_or_concat O with e | ⟨D, t, e⟩
  · rw [e, mstep_nil]; simp
  · rw [e, List.concat_eq_append, mstep_more]
    split
    · split <;> simp
    · simp
theorem take_ne (gap : Int) (S : List (Int × Int)) (i : Nat) (h : i < S.length) : (S.take (i + 1)).foldl (mstep gap) [] ≠ [] := by
  rw [join_take S gap i h]
  exact step_ne _ _ _

set_option maxRecDepth 20000 in
set_option maxHeartbeats 6400000 in
theorem implJoin_any (a : Option Addr) (ca : Nat) (l : List (Int × Int)) (gap : Int) (w : World) (lo hi : Nat) (hl : l.length ≤ 2000000) (ha : PV w a l lo hi) :
    Calls Try.prog 9 #[.slice a l.length ca, .int .i64 gap] w fun e w' => (∃ r, e = .returned (.tuple #[r, .bool (joinB l gap)]) ∧ spansIn w' w.heap.size r (joinL l gap)) ∧ Below w.heap.size w w' := by
  have HV : Hid (PV w a l lo hi) := ha
  have HG : Hid _ := fun wx hx => areSpans_any a ca l 1000000 wx lo hi hl hx
  rw [are_good] at HG
  clear ha
  cases hg : goodL l
  · have hB : joinB l gap = false := by unfold joinB; rw [hg]; rfl
    rw [hg] at HG
    rw [hB, join_no hB]
    clear hB hg
    go_enter Try.func9, Try.ntmps9
    go_wp2_with (go_at_call 32; refine (HG.out _ HV.out).mono ?_; rintro e w2 ⟨rfl, hb2⟩)
    go_ret2
    exact ⟨⟨_, rfl, spansIn.nil _ _⟩, hb2⟩
  rw [hg] at HG
  obtain ⟨hl12, hgood⟩ := goodL_parts hg
  by_cases hgap : 0 ≤ gap ∧ gap ≤ 1000
  rotate_left
  · have hB : joinB l gap = false := by
      unfold joinB
      by_cases h0 : 0 ≤ gap
      · rw [hg, decide_eq_true h0, decide_eq_false (by omega)]; rfl
      · rw [hg, decide_eq_false h0]; rfl
    rw [hB, join_no hB]
    have HI : Hid (gap < 0 ∨ 1000 < gap) := by show _ ∨ _; omega
    clear hB hg hgood hgap
    go_enter Try.func9, Try.ntmps9
    go_wp2_with (first
      | (go_at_call 32; refine (HG.out _ HV.out).mono ?_; rintro e w2 ⟨rfl, hb2⟩)
      | (go_at_call 33; refine (between_no _ _ _ _ HI.out).mono ?_; rintro e w' ⟨rfl, hw⟩; obtain rfl := hw.symm))
    go_ret2
    exact ⟨⟨_, rfl, spansIn.nil _ _⟩, hb2⟩
  have hB : joinB l gap = true := by unfold joinB; rw [hg, decide_eq_true hgap.1, decide_eq_true hgap.2]; rfl
  rw [hB, join_yes hB]
  obtain ⟨hgap0, hgap1⟩ := hgap
  have HI : Hid (0 ≤ gap ∧ gap ≤ 1000) := ⟨hgap0, hgap1⟩
  have HRi : Hid _ := fun wx hx => rising_any a ca l wx lo hi hl12 hx
  obtain ⟨S, hSe⟩ : ∃ S, S = sortS l := ⟨_, rfl⟩
  have hSl : S.length ≤ 12 := by
    have := sort_len l l.length (Nat.le_refl _)
    rw [List.take_length] at this
    rw [hSe]; omega
  have HBd : Hid (∀ c ∈ S, 0 ≤ c.1 ∧ c.1 < c.2 ∧ c.2 ≤ 1000000) := by
    intro c hc
    rw [hSe] at hc
    exact sort_good hgood c hc
  have HJ : Hid (joinS l gap = (S.take S.length).foldl (mstep gap) []) := by
    show _ = _
    rw [List.take_length, hSe]; rfl
  rw [← hSe] at HRi
  clear hB hg hgood hSe
  go_enter Try.func9, Try.ntmps9
  go_wp2_with (first
    | (go_at_call 32; refine (HG.out _ HV.out).mono ?_; rintro e w1 ⟨rfl, hb1⟩; have HB1 : Hid _ := hb1.alloc hb1.size (.cells #[] 32); have HV2 : Hid _ := HV.out.below HB1.out; have hs1 : (w1.alloc (.cells #[] 32)).heap.size = w1.heap.size + 1 := (by simp); have HS1 : Hid (spansIn (w1.alloc (.cells #[] 32)) w.heap.size (.slice (some ⟨w1.heap.size, 0, none⟩) 0 0) []) := spansIn.made w1 _ hb1.size; clear hb1)
    | (go_at_call 33; refine (between_yes _ _ _ _ HI.out.1 HI.out.2).mono ?_; rintro e w' ⟨rfl, hw⟩; obtain rfl := hw.symm)
    | (go_at_call 34; refine (HRi.out _ HV2.out).mono ?_; rintro e W0 ⟨⟨ar, cr, rfl, hPV⟩, hb2⟩))
  have HS : Hid (PV W0 ar S w1.heap.size W0.heap.size) := hPV.wide (by omega) (Nat.le_refl _)
  have HB : Hid (Below w.heap.size w W0) := HB1.out.trans (hb2.mono HB1.out.size)
  have HS0 : Hid (spansIn W0 w.heap.size (.slice (some ⟨w1.heap.size, 0, none⟩) 0 0) []) := HS1.out.below hb2
  obtain ⟨g0, hg0⟩ : ∃ g0, g0 = w1.heap.size := ⟨_, rfl⟩
  rw [← hg0] at HS0 HS
  rw [← hg0]
  clear hPV hb2 HB1 HV2 HS1 hs1 HG HRi HV hg0
  go_loopw [6, 22] (fun ov c wr => ∃ i : Nat, i ≤ S.length ∧ c = .int .i64 i ∧ ((i = 0 ∧ ov = .slice (some ⟨g0, 0, none⟩) 0 0 ∧ Hid (wr = W0)) ∨ (0 < i ∧ Hid (spansIn wr W0.heap.size ov ((S.take i).foldl (mstep gap) [])) ∧ Hid (Below W0.heap.size W0 wr)))) (fun _ c _ => S.length - (intOf c).toNat)
  case atStart => exact ⟨0, by omega, rfl, .inl ⟨rfl, rfl, rfl⟩⟩
  case round =>
    obtain ⟨i, hi, rfl, hcase⟩ := hrel
    by_cases hlt2 : i < S.length
    · rcases hcase with ⟨rfl, rfl, hwr⟩ | ⟨hi0, HO, HC⟩
      · have hwr2 := hwr.out
        subst hwr2
        obtain ⟨gs, rfl, hgs, c0, c1⟩ := row_at HS.out hlt2
        have hN := join_take S gap 0 hlt2
        obtain ⟨F, T, hFT⟩ : ∃ F T, S[0] = (F, T) := ⟨_, _, rfl⟩
        rw [hFT] at c0 c1 hN
        have HN : Hid ((S.take (0 + 1)).foldl (mstep gap) [] = mstep gap [] (F, T)) := hN
        dsimp only at c0 c1
        clear hFT hN hwr
        have hs1 : (wr.alloc (.cells #[.int .i64 F, .int .i64 T] 32)).heap.size = wr.heap.size + 1 := by simp
        go_wp2_with fail
        go_quiet (fail)
        obtain ⟨wx, hwx⟩ : ∃ wx, wx = (wr.alloc (.cells #[.int .i64 F, .int .i64 T] 32)).drewN nq := ⟨_, rfl⟩
        have x0 : wx.cell? ⟨wr.heap.size, 0, none⟩ = some (.int .i64 F) := by rw [hwx]; show (wr.alloc _).cell? _ = _; simp [go_sem]
        have x1 : wx.cell? ⟨wr.heap.size, 1, none⟩ = some (.int .i64 T) := by rw [hwx]; show (wr.alloc _).cell? _ = _; simp [go_sem]
        have HCx : Hid (Below wr.heap.size wr wx) := by rw [hwx]; exact bdrewN ((Below.refl _ _).alloc (Nat.le_refl _) _) _
        rw [← hwx]
        clear hwx hs1
        have HCy : Hid (Below wr.heap.size wr (wx.alloc (.cells #[.int .i64 F, .int .i64 T] 32))) := HCx.out.alloc HCx.out.size _
        have y0 : ∀ j u, (flatP [(F, T)])[j]? = some u → (wx.alloc (.cells #[.int .i64 F, .int .i64 T] 32)).cell? ((⟨wx.heap.size, 0, none⟩ : Addr).add j) = some u := by
          intro j u hj
          match j, hj with
          | 0, hj => simp [flatP] at hj; subst hj; simp [Addr.add]
          | 1, hj => simp [flatP] at hj; subst hj; simp [Addr.add]
        have HY : Hid _ := y0
        clear y0
        go_wp2_with (at_builtin; refine wpList_append_fresh (wx.alloc (.cells #[.int .i64 F, .int .i64 T] 32)) rfl _ _ rfl ⟨g0, 0, none⟩ (by rfl) [(F, T)] ⟨wx.heap.size, 0, none⟩ _ (by rfl) HY.out (by simp) (by simp) ?_)
        intro c' w2 hown2 hb2
        have HO2 : Hid (spansIn w2 wr.heap.size (.slice (some ⟨wx.heap.size + 1, 0, none⟩) 1 c') ((S.take (0 + 1)).foldl (mstep gap) [])) := by show spansIn _ _ _ _; rw [HN.out, mstep_nil]; have hz := HCy.out.size; rw [World.size_alloc] at hz; exact hown2.base hz
        have HC2 : Hid (Below wr.heap.size wr w2) := HCy.out.trans (hb2.mono (by have hz := HCy.out.size; rw [World.size_alloc] at hz; exact hz))
        clear hown2 hb2 HCx HCy x0 x1 HY
        go_wp2_with fail
        refine ⟨⟨0 + 1, by omega, by go_num, .inr ⟨by omega, HO2, HC2⟩⟩, ?_⟩
        simp [intOf]; omega
      · obtain ⟨W1, hW1⟩ : ∃ W1, W1 = wr := ⟨_, rfl⟩
        subst hW1
        obtain ⟨gs, rfl, hgs, c0', c1'⟩ := row_at HS.out hlt2
        have c0 := (HC.out.cell (p := ⟨gs, i * 2, none⟩) hgs).trans c0'
        have c1 := (HC.out.cell (p := ⟨gs, i * 2 + 1, none⟩) hgs).trans c1'
        have hN := join_take S gap i hlt2
        obtain ⟨n1, n2, n3⟩ := HBd.out _ (List.getElem_mem hlt2)
        have hOl := fold_len (gap := gap) (l := S) i hi
        have hOb := fold_bd (gap := gap) HBd.out i hi
        have hOne : (S.take i).foldl (mstep gap) [] ≠ [] := by
          have := take_ne gap S (i - 1) (by omega)
          rwa [show i - 1 + 1 = i by omega] at this
        obtain ⟨F, T, hFT⟩ : ∃ F T, S[i] = (F, T) := ⟨_, _, rfl⟩
        rw [hFT] at c0 c1 hN n1 n2 n3
        obtain ⟨O, hO⟩ : ∃ O, O = (S.take i).foldl (mstep gap) [] := ⟨_, rfl⟩
        rw [← hO] at HO hN hOl hOb hOne
        have HN : Hid ((S.take (i + 1)).foldl (mstep gap) [] = mstep gap O (F, T)) := hN
        dsimp only at c0 c1 n1 n2 n3
        clear hO hFT hN c0' c1'
        have hs1 : (W1.alloc (.cells #[.int .i64 F, .int .i64 T] 32)).heap.size = W1.heap.size + 1 := by simp
        have HO1 : Hid (spansIn (W1.alloc (.cells #[.int .i64 F, .int .i64 T] 32)) W0.heap.size u6 O) := spansIn.alloc HO.out _
        have HC1 : Hid (Below W0.heap.size W0 (W1.alloc (.cells #[.int .i64 F, .int .i64 T] 32))) := HC.out.alloc HC.out.size _
        rcases List.eq_nil_or_concat O with hOe | ⟨D, t, hOe⟩
        · exact absurd hOe hOne
        rw [List.concat_eq_append] at hOe
        subst hOe
        rcases spans_form HO1.out with ⟨hu, hOe⟩ | ⟨go, cap, hu, hgo, hgol, hcapo, hco⟩
        · exact absurd hOe hOne
        obtain ⟨F0, T0⟩ := t
        obtain ⟨d, hd⟩ : ∃ d, d = D.length := ⟨_, rfl⟩
        have hdl : (D ++ [(F0, T0)]).length = d + 1 := by rw [List.length_append, hd]; rfl
        have ht := hOb (F0, T0) (by simp)
        have e1 := (hco d (by omega)).2
        have e2 : (D ++ [(F0, T0)])[d]'(by omega) = (F0, T0) := by simp [hd]
        rw [e2] at e1
        rw [hdl] at hu hOl
        subst hu
        dsimp only at ht e1
        have hfz : ∀ i, (W1.alloc (.cells #[.int .i64 F, .int .i64 T] 32)).frozen? ⟨go, i, none⟩ = false := fun i => World.ownsRow.frozenAt (n := (D ++ [(F0, T0)]).length) (cap := cap) (by have := HO1.out; rw [← hdl] at this; exact this) i
        have hgo1 : go < W1.heap.size := by
          rcases spans_form HO.out with ⟨h, _⟩ | ⟨g', _, h, _, h', _⟩
          · cases h
          · injection h with h _ _; injection h with h; injection h with h; rw [h]; exact h'
        clear hco e2 hOb HO hOne
        have hMs := mstep_more gap D (F0, T0) (F, T)
        dsimp only at hMs
        have Hd : Hid (d = D.length) := hd
        have hdn : decide ((d : Int) < 0) = false := decide_eq_false (by omega)
        clear hd hdl hcapo
        obtain ⟨wb, hwb⟩ : ∃ wb, wb = W1.alloc (.cells #[.int .i64 F, .int .i64 T] 32) := ⟨_, rfl⟩
        have k0 : wb.cell? ⟨W1.heap.size, 0, none⟩ = some (.int .i64 F) := by rw [hwb]; simp [go_sem]
        have k1 : wb.cell? ⟨W1.heap.size, 1, none⟩ = some (.int .i64 T) := by rw [hwb]; simp [go_sem]
        by_cases hle : F ≤ T0 + gap
        · have hgt : decide (gap < F - T0) = false := decide_eq_false (by omega)
          have hM2 : mstep gap (D ++ [(F0, T0)]) (F, T) = D ++ [(F0, max T0 T)] := by
            rw [hMs, if_pos hle]
            by_cases hm : T0 < T
            · rw [if_pos hm, Int.max_eq_right (by omega)]
            · rw [if_neg hm, Int.max_eq_left (by omega)]
          clear hMs
          have HN2 : Hid ((S.take (i + 1)).foldl (mstep gap) [] = D ++ [(F0, max T0 T)]) := by show _ = _; rw [HN.out, hM2]
          clear hM2 HN
          go_wp2_with fail
          go_quiet (fail)
          go_wp2_with fail
          go_region
          all_goals (go_wp2_with fail)
          all_goals
            refine ⟨⟨i + 1, by omega, by go_num, .inr ⟨by omega, (?_ : spansIn _ _ _ _), (?_ : Below _ _ _)⟩⟩, ?_⟩
            · rw [HN2.out, Hd.out]
              have := HO1.out
              rw [Hd.out] at this
              exact spans_set (spans_drew this _) (max T0 T)
            · exact (bdrewN HC1.out _).setCell (p := ⟨go, _, none⟩) hgo _
            · simp [intOf]; omega
        · have hgt : decide (gap < F - T0) = true := decide_eq_true (by omega)
          have hM2 : mstep gap (D ++ [(F0, T0)]) (F, T) = D ++ [(F0, T0)] ++ [(F, T)] := by rw [hMs, if_neg hle]
          clear hMs
          have HN2 : Hid ((S.take (i + 1)).foldl (mstep gap) [] = D ++ [(F0, T0)] ++ [(F, T)]) := by show _ = _; rw [HN.out, hM2]
          clear hM2 HN
          go_wp2_with fail
          go_quiet (fail)
          obtain ⟨wx, hwx⟩ : ∃ wx, wx = (W1.alloc (.cells #[.int .i64 F, .int .i64 T] 32)).drewN nq := ⟨_, rfl⟩
          have hown : spansIn wx W0.heap.size (.slice (some ⟨go, 0, none⟩) (d + 1) cap) (D ++ [(F0, T0)]) := by rw [hwx]; exact spans_drew HO1.out _
          have HCx : Hid (Below W0.heap.size W0 wx) := by rw [hwx]; exact bdrewN HC1.out _
          have x0 : wx.cell? ⟨W1.heap.size, 0, none⟩ = some (.int .i64 F) := by rw [hwx]; show (W1.alloc _).cell? _ = _; simp [go_sem]
          have x1 : wx.cell? ⟨W1.heap.size, 1, none⟩ = some (.int .i64 T) := by rw [hwx]; show (W1.alloc _).cell? _ = _; simp [go_sem]
          have hbx := HCx.out.size
          rw [← hwx]
          clear hwx HO1 HC1 hs1 e1 hfz hgol hwb k0 k1
          go_wp2_with (at_builtin; refine wpList_append_span wx rfl _ _ rfl W0.heap.size _ (D ++ [(F0, T0)]) (by rfl) hown F T _ rfl (by rw [List.length_append, ← Hd.out]; simp; omega) hbx W0.heap.size (Nat.le_refl _) wx (Below.refl _ _) ?_)
          intro v2 w2 hown2 hb2
          have HO2 : Hid (spansIn w2 W0.heap.size v2 ((S.take (i + 1)).foldl (mstep gap) [])) := by show spansIn _ _ _ _; rw [HN2.out]; first | exact hown2 | simpa using hown2
          have HC2 : Hid (Below W0.heap.size W0 w2) := HCx.out.trans hb2
          clear hown2 hb2 hown HCx x0 x1 hbx
          go_wp2_with fail
          refine ⟨⟨i + 1, by omega, by go_num, .inr ⟨by omega, HO2, HC2⟩⟩, ?_⟩
          simp [intOf]; omega
    · obtain rfl : i = S.length := by omega
      rcases hcase with ⟨h0, rfl, hwr⟩ | ⟨hi0, HO, HC⟩
      · have hwr2 := hwr.out
        subst hwr2
        have HJ0 : Hid (joinS l gap = []) := by
          show _ = _
          rw [HJ.out, h0]; rfl
        clear hwr
        go_wp2_with fail
        go_ret2
        refine ⟨⟨_, rfl, ?_⟩, HB.out⟩
        rw [HJ0.out]
        exact HS0.out
      · go_wp2_with fail
        go_ret2
        refine ⟨⟨_, rfl, ?_⟩, ?_⟩
        · rw [HJ.out]
          exact HO.out.base HB.out.size
        · exact HB.out.trans (HC.out.mono HB.out.size)

end Go.Proofs.Ytelpmkbjegimpaa.Spb
