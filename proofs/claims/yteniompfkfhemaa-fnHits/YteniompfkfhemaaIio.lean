/-
  Walks: DistancesOf of impl and of spec.
-/
import Derived.Test.YteniompfkfhemaaIir
namespace Go.Proofs.Yteniompfkfhemaa.Iia
open Go.RowKit

set_option maxRecDepth 20000 in
set_option maxHeartbeats 1600000 in
/-- A pile with nothing in it: the row's place and room. -/
theorem pileNil_any (n : Nat) (w : World) (hn : n ≤ 100) :
    Calls Try.prog 45 #[.slice none 0 0, .int .i64 n] w fun e w' => (e = .returned (.agg #[.slice (some ⟨w.heap.size + 1, 0, none⟩) 0 n, .int .i64 n]) ∧ intsIn w' w.heap.size (.slice (some ⟨w.heap.size + 1, 0, none⟩) 0 n) []) ∧ Below w.heap.size w w' := by
  obtain ⟨i0, hi0, hz0, hz1, hz2⟩ := info_parts infoI
  obtain ⟨W0, hW0⟩ : ∃ W, W = w.alloc (.cells #[.slice none 0 0, .int .i64 0] 54) := ⟨_, rfl⟩
  have hB0 : Below w.heap.size w W0 := by rw [hW0]; exact (Below.refl _ _).alloc (Nat.le_refl _) _
  have hs0 : W0.heap.size = w.heap.size + 1 := by rw [hW0]; simp
  have hc0 : W0.heap[w.heap.size]? = some (.cells #[.slice none 0 0, .int .i64 0] 54 (0, 0)) := by rw [hW0]; show (w.heap.push _)[w.heap.size]? = _; simp
  have hmk := run_make (P := Try.prog) W0 23 3 i0 _ Try.underlying23 hi0 hz0 .i64 .i64 (0 : Int) (n : Int) (by omega) (by omega) (by rw [hz2]; omega) (by omega)
  rw [hz1, Int.toNat_natCast] at hmk
  have hmk2 : (Instr.makeSlice 23 (.int .i64 0) (.int .i64 (n : Int))).run Try.prog W0 = .ok (.slice (some ⟨W0.heap.size, 0, none⟩) 0 n) (W0.alloc (.cells (madeCells #[.int .i64 0] (n * 1)) 3)) := hmk
  clear hmk
  obtain ⟨W1, hW1⟩ : ∃ W, W = W0.alloc (.cells (madeCells #[.int .i64 0] (n * 1)) 3) := ⟨_, rfl⟩
  have hown1 : intsIn W1 W0.heap.size (.slice (some ⟨W0.heap.size, 0, none⟩) 0 n) [] := by
    rw [hW1]
    refine ⟨rfl, .inr ⟨W0.heap.size, n, _, rfl, Nat.le_refl _, by show (W0.heap.push _)[W0.heap.size]? = _; simp; rfl, Nat.zero_le _, by unfold maxLen; omega, by simp [madeCells], by simp [flI]⟩⟩
  have hB1 : Below W0.heap.size W0 W1 := by rw [hW1]; exact (Below.refl _ _).alloc (Nat.le_refl _) _
  rw [← hW1] at hmk2
  have hown2 : intsIn W1 (w.heap.size + 1) (.slice (some ⟨w.heap.size + 1, 0, none⟩) 0 n) [] := by
    have := hown1
    rwa [hs0] at this
  have hz1' : w.heap.size + 1 ≤ W1.heap.size := by have := hB1.size; omega
  rw [hs0] at hmk2
  have hB2 : Below w.heap.size w W1 := hB0.trans (hB1.mono hB0.size)
  have HK : Hid (∀ (wx : World), Below (w.heap.size + 1) W1 wx → wx.heap[w.heap.size]? = some (.cells #[.slice none 0 0, .int .i64 0] 54 (0, 0))) := fun wx h => by
    have e1 := hB1.block w.heap.size (by omega)
    exact (h.block w.heap.size (by omega)).trans (e1.trans hc0)
  have HG : Hid (∀ (wx : World), wx.heap[w.heap.size]? = some (.cells #[.slice none 0 0, .int .i64 0] 54 (0, 0)) → wx.cell? ⟨w.heap.size, 0, none⟩ = some (.slice none 0 0) ∧ wx.cell? ⟨w.heap.size, 1, none⟩ = some (.int .i64 0) ∧ (∀ i, wx.frozen? ⟨w.heap.size, i, none⟩ = false)) :=
    fun wx h => ⟨by rw [World.cell?, h]; rfl, by rw [World.cell?, h]; rfl, fun i => by simp [World.frozen?, h]⟩
  rw [hW0] at hmk2
  obtain ⟨f0, f1, f2⟩ := HG.out W1 (HK.out W1 (Below.refl _ _))
  have f3 := f2 0
  have f4 := f2 1
  have HR : Hid (intsIn ((W1.setCell ⟨w.heap.size, 0, none⟩ (.slice (some ⟨w.heap.size + 1, 0, none⟩) 0 n)).setCell ⟨w.heap.size, 1, none⟩ (.int .i64 n)) w.heap.size (.slice (some ⟨w.heap.size + 1, 0, none⟩) 0 n) []) := by
    have hb := hown2.base (Nat.le_succ _)
    refine ⟨hb.1, ?_⟩
    rcases hb.2 with ⟨hn, _⟩ | ⟨g1, cap1, cur, he, hBg, hg1, rest⟩
    · cases hn
    · have hgg : g1 = w.heap.size + 1 := by
        injection he with he1 _ _
        injection he1 with he1
        injection he1 with he1 _ _
        exact he1.symm
      refine .inr ⟨g1, cap1, cur, he, hBg, ?_, rest⟩
      rw [Below.heap_setCell _ _ _ g1 (by show g1 ≠ w.heap.size; omega), Below.heap_setCell _ _ _ g1 (by show g1 ≠ w.heap.size; omega)]
      exact hg1
  have HRB : Hid (Below w.heap.size w ((W1.setCell ⟨w.heap.size, 0, none⟩ (.slice (some ⟨w.heap.size + 1, 0, none⟩) 0 n)).setCell ⟨w.heap.size, 1, none⟩ (.int .i64 n))) :=
    (hB2.setCell (p := ⟨w.heap.size, 0, none⟩) (Nat.le_refl _) _).setCell (p := ⟨w.heap.size, 1, none⟩) (Nat.le_refl _) _
  clear hW1 hz0 hz1 hz2 hs0 hc0 hB0 hown1 hB1 hW0 hB2 HK HG f2 hz1'
  go_enter Try.func45, Try.ntmps45
  go_wp2_with (at_builtin; refine wpList_append_own_none rfl _ _ 23 rfl (w.heap.size + 1) 3 i0 1 Try.underlying23 hi0 (.slice (some ⟨w.heap.size + 1, 0, none⟩) 0 n) 0 _ (by rfl) hown2 (by rfl) ?_)
  exact bodyPost_ret (v := .agg #[.slice (some ⟨w.heap.size + 1, 0, none⟩) 0 n, .int .i64 n]) (by simp [results, Try.results45, go_sem, f0, f1]) rfl ⟨⟨rfl, HR.out⟩, HRB.out⟩

def dtL (l : List Int) : List Int := if refsB l = true then dsL l else []
theorem dt_no {l : List Int} (h : refsB l = false) : dtL l = [] := by unfold dtL; rw [h]; rfl
theorem dt_yes {l : List Int} (h : refsB l = true) : dtL l = dsL l := by unfold dtL; rw [h]; rfl
theorem stk_step {l : List Int} (h : ∀ x ∈ l, 0 ≤ x ∧ x ≤ 99) (k : Nat) (hk : k < l.length) : tchN 100 (stk (l.take k)) l[k] = stk (l.take (k + 1)) := by
  rw [stk_take l k hk]
  have h1 := stk_few (l := l.take (k + 1)) (fun x hx => h x (List.mem_of_mem_take hx))
  rw [stk_take l k hk] at h1
  unfold tchN
  exact List.take_of_length_le h1
theorem dsN_at (l : List Int) (k : Nat) (hk : k < l.length) : dsN l k = plc (stk (l.take k)) l[k] := by
  unfold dsN
  rw [List.getElem?_eq_getElem hk]; rfl

set_option maxRecDepth 20000 in
set_option maxHeartbeats 3200000 in
theorem implDist_any (a : Option Addr) (ca : Nat) (l : List Int) (w : World) (lo hi : Nat) (hl : l.length ≤ 1048576) (ha : IL w a l lo hi) :
    Calls Try.prog 22 #[.slice a l.length ca] w fun e w' => (∃ r, e = .returned (.tuple #[r, .bool (refsB l)]) ∧ intsIn w' w.heap.size r (dtL l)) ∧ Below w.heap.size w w' := by
  have HA : Hid (IL w a l lo hi) := ha
  have HG : Hid _ := goodI_any a ca l w lo hi (by omega) ha
  clear ha
  cases hg : refsB l
  · rw [dt_no hg]
    rw [hg] at HG
    clear hg
    go_enter Try.func22, Try.ntmps22
    go_wp2_with (go_at_call 24; refine Calls.mono HG.out ?_; rintro e w' ⟨rfl, hw⟩; obtain rfl := hw.symm)
    go_ret2
    exact ⟨⟨_, rfl, intsIn.nil _ _⟩, Below.refl _ _⟩
  rw [dt_yes hg]
  obtain ⟨hl2, hpg⟩ := refs_parts hg
  have HPg : Hid (∀ x ∈ l, 0 ≤ x ∧ x ≤ 99) := hpg
  rw [hg] at HG
  have HPo : Hid _ := fun w => pileNil_any 100 w (Nat.le_refl _)
  have HPl : Hid (∀ k g cap (w : World) lo hi y, k ≤ l.length → IL w (some ⟨g, 0, none⟩) (stk (l.take k)) lo hi → Calls Try.prog 46 #[.agg #[.slice (some ⟨g, 0, none⟩) (stk (l.take k)).length cap, .int .i64 100], .int .i64 y] w fun e w' => e = .returned (.int .i64 (plc (stk (l.take k)) y : Int)) ∧ Below w.heap.size w w') :=
    fun k g cap w lo hi y _ h => placeOf_any _ cap (stk (l.take k)) 100 y w lo hi (by have := stk_few (l := l.take k) (fun x hx => hpg x (List.mem_of_mem_take hx)); omega) h
  have HMv : Hid (∀ k b g cap B (w1 : World) y, PileG w1 b g cap B (stk (l.take k)) 100 → Calls Try.prog 47 #[.pointer (some ⟨b, 0, none⟩), .int .i64 y] w1 fun e w' => e = .returned (.tuple #[]) ∧ PileG w' b g cap B (tchN 100 (stk (l.take k)) y) 100 ∧ Kept2 w1 w' b g) :=
    fun k b g cap B w1 y h => moveKept_any b g cap B _ 100 y w1 (Nat.le_refl _) (stk_few (l := l.take k) (fun x hx => hpg x (List.mem_of_mem_take hx))) (stk_nodup _) h
  clear hg hpg
  go_enter Try.func22, Try.ntmps22
  go_wp2_with (first
    | (go_at_call 24; refine Calls.mono HG.out ?_; rintro e w' ⟨rfl, hw⟩; obtain rfl := hw.symm)
    | (go_at_call 45; refine Calls.mono (HPo.out _) ?_; rintro e w1 ⟨⟨rfl, ho1⟩, hb1⟩; have hz1 : w.heap.size + 2 ≤ w1.heap.size := (by obtain ⟨cur, _, hh⟩ := row_at ho1; have := (Array.getElem?_eq_some_iff.1 hh).1; omega)))
  have hP0 : PileG (w1.alloc (.cells #[.slice (some ⟨w.heap.size + 1, 0, none⟩) 0 100, .int .i64 100] 54)) w1.heap.size (w.heap.size + 1) 100 w.heap.size (stk (l.take 0)) 100 :=
    ⟨by show (w1.heap.push _)[w1.heap.size]? = _; simp; rfl, hb1.size, ho1.alloc _, Nat.le_refl _⟩
  have hD0 : intsIn ((w1.alloc (.cells #[.slice (some ⟨w.heap.size + 1, 0, none⟩) 0 100, .int .i64 100] 54)).alloc (.cells #[] 3)) (w1.heap.size + 1) (.slice (some ⟨w1.heap.size + 1, 0, none⟩) 0 0) ((dsL l).take 0) := by
    have := intsIn.made (w1.alloc (.cells #[.slice (some ⟨w.heap.size + 1, 0, none⟩) 0 100, .int .i64 100] 54)) (w1.heap.size + 1) (by simp)
    simpa using this
  obtain ⟨W0, hW0⟩ : ∃ W, W = (w1.alloc (.cells #[.slice (some ⟨w.heap.size + 1, 0, none⟩) 0 100, .int .i64 100] 54)).alloc (.cells #[] 3) := ⟨_, rfl⟩
  have hP1 : PileG W0 w1.heap.size (w.heap.size + 1) 100 w.heap.size (stk (l.take 0)) 100 := by
    rw [hW0]; exact hP0.below ((Below.refl _ _).alloc (Nat.le_refl _) _)
  rw [← hW0] at hD0
  have hB1 : Below w.heap.size w W0 := by rw [hW0]; exact (hb1.alloc hb1.size _).alloc (by have := hb1.size; simp; omega) _
  have hsz0 : w1.heap.size + 1 ≤ W0.heap.size := by rw [hW0]; simp
  obtain ⟨b, hb⟩ : ∃ b, b = w1.heap.size := ⟨_, rfl⟩
  obtain ⟨g, hge⟩ : ∃ g, g = w.heap.size + 1 := ⟨_, rfl⟩
  have hgb : g < b := by omega
  have hwg : w.heap.size ≤ g := by omega
  rw [← hW0, ← hb, ← hge]
  rw [← hb, ← hge] at hP1
  rw [← hb] at hD0 hsz0
  have HP0 : Hid _ := hP1
  have HD0 : Hid _ := hD0
  have HB0 : Hid _ := hB1
  clear hP0 hP1 hD0 hB1 hW0 hb hge ho1 hb1 hz1 HPo HG
  go_loopw [5, 15] (fun v i wr => ∃ k : Nat, k ≤ l.length ∧ i = .int .i64 k ∧ Hid (intsIn wr (b + 1) v ((dsL l).take k)) ∧ Hid (PileG wr b g 100 w.heap.size (stk (l.take k)) 100) ∧ Hid (Below w.heap.size w wr ∧ b + 1 ≤ wr.heap.size)) (fun _ i _ => l.length - (intOf i).toNat)
  case atStart => exact ⟨0, Nat.zero_le _, rfl, HD0, HP0, HB0.out, hsz0⟩
  case round =>
    obtain ⟨k, hk, rfl, HD, HP, HB⟩ := hrel
    by_cases hlt : k < l.length
    · obtain ⟨ad, hade, hc⟩ := (HA.out.below HB.out.1).cell hlt
      subst hade
      have HT : Hid ((dsL l).take (k + 1) = (dsL l).take k ++ [(plc (stk (l.take k)) l[k] : Int)]) := by show _ = _; rw [dsL_take l k hlt, dsN_at l k hlt]
      have HS : Hid (tchN 100 (stk (l.take k)) l[k] = stk (l.take (k + 1))) := stk_step HPg.out k hlt
      have hdl : ((dsL l).take k).length + 1 ≤ 4000000 := by rw [List.length_take, dsL_len]; omega
      have HDl : Hid _ := hdl
      have hIL : IL wr (some ⟨g, 0, none⟩) (stk (l.take k)) w.heap.size wr.heap.size := by
        obtain ⟨a', c', e, hh⟩ := iw_of HP.out.2.2.1
        injection e with e1 _ _
        rw [e1]
        exact hh.il
      have HPk : Hid _ := HPl.out k g 100 wr _ _ l[k] hk hIL
      have HMk : Hid (∀ w1, PileG w1 b g 100 w.heap.size (stk (l.take k)) 100 → Calls Try.prog 47 #[.pointer (some ⟨b, 0, none⟩), .int .i64 l[k]] w1 fun e w' => e = .returned (.tuple #[]) ∧ PileG w' b g 100 w.heap.size (stk (l.take (k + 1))) 100 ∧ Kept2 w1 w' b g) := fun w1 h => by
        have := HMv.out k b g 100 w.heap.size w1 l[k] h
        rw [HS.out] at this
        exact this
      have c0 : wr.cell? ⟨b, 0, none⟩ = some (.slice (some ⟨g, 0, none⟩) (stk (l.take k)).length 100) := by rw [World.cell?, HP.out.1]; rfl
      have c1 : wr.cell? ⟨b, 1, none⟩ = some (.int .i64 100) := by rw [World.cell?, HP.out.1]; rfl
      generalize l[k] = x at *
      generalize plc (stk (l.take k)) x = p at *
      generalize (stk (l.take k)).length = m at c0 HPk
      have HKs : Hid (∀ w2, Below wr.heap.size wr w2 → intsIn w2 (b + 1) u5 ((dsL l).take k) ∧ PileG w2 b g 100 w.heap.size (stk (l.take k)) 100 ∧ Below w.heap.size w w2 ∧ b + 1 ≤ w2.heap.size) :=
        fun w2 h => ⟨HD.out.below h, HP.out.below h, HB.out.1.trans (h.mono HB.out.1.size), Nat.le_trans HB.out.2 h.size⟩
      clear hIL hdl HS HD HP HB
      go_wp2_with (first
        | (go_at_call 46; refine Calls.mono HPk.out ?_; rintro e w2 ⟨rfl, hb2⟩; obtain ⟨hd2, hp2, hB2, hs2⟩ := HKs.out w2 hb2)
        | (at_builtin; refine wpList_append_int w2 rfl _ _ rfl (b + 1) _ _ (by rfl) hd2 (p : Int) _ rfl HDl.out hs2 (b + 1) (Nat.le_refl _) w2 (Below.refl _ _) ?_))
      intro v3 w3 hd3 hb3
      have HD3 : Hid (intsIn w3 (b + 1) v3 ((dsL l).take (k + 1))) := by show intsIn _ _ _ _; rw [HT.out]; exact hd3
      have HP3 : Hid (PileG w3 b g 100 w.heap.size (stk (l.take k)) 100) := hp2.belowB hb3 (by omega) (by omega)
      have HB3 : Hid (Below w.heap.size w w3 ∧ b + 1 ≤ w3.heap.size) := ⟨hB2.trans (hb3.mono (by omega)), Nat.le_trans hs2 hb3.size⟩
      clear hd3 hp2 hB2 hb3 hd2 hs2 hb2 HT HKs HPk
      go_wp2_with (go_at_call 47; refine Calls.mono (HMk.out _ HP3.out) ?_; rintro e w4 ⟨rfl, hp4, hk4⟩)
      have HD4 : Hid (intsIn w4 (b + 1) v3 ((dsL l).take (k + 1))) := HD3.out.kept2 hk4 (by omega) (by omega)
      have HP4 : Hid _ := hp4
      have HB4 : Hid (Below w.heap.size w w4 ∧ b + 1 ≤ w4.heap.size) := ⟨Kept2.below HB3.out.1 hk4 HB3.out.1.size (by omega) hwg, Nat.le_trans HB3.out.2 hk4.2.2.2.1⟩
      clear hp4 hk4 HD3 HP3 HB3 HMk
      go_roundw
      case rel => exact ⟨k + 1, by omega, by go_num, HD4, HP4, HB4⟩
      case measure => simp [intOf]; omega
    · obtain rfl : k = l.length := by omega
      have HE : Hid (intsIn wr w.heap.size u5 (dsL l)) := by
        have h1 : (dsL l).take l.length = dsL l := List.take_of_length_le (by rw [dsL_len]; exact Nat.le_refl _)
        have h2 := HD.out
        rw [h1] at h2
        exact h2.base (by omega)
      clear HD HP HMv HPl
      go_wp2_with fail
      go_ret2
      exact ⟨⟨_, rfl, HE.out⟩, HB.out.1⟩

theorem dsN_found {l : List Int} {i q : Nat} (hi : i < l.length) (hq : q < i) (e : l[q]'(by omega) = l[i]) (hn : ∀ j, (hj : j < i) → q < j → l[j]'(by omega) ≠ l[i]) : dsN l i = unlN ((l.take i).drop q) := by
  rw [dsN_at l i hi]
  refine place_last (l := l.take i) (k := q) (by rw [List.length_take]; omega) (by rw [List.getElem_take]; exact e) (fun j hj hqj => ?_)
  rw [List.length_take] at hj
  rw [List.getElem_take]
  exact hn j (by omega) hqj
theorem dsN_none {l : List Int} {i : Nat} (hi : i < l.length) (hn : ∀ j, (hj : j < i) → l[j]'(by omega) ≠ l[i]) : dsN l i = 0 := by
  rw [dsN_at l i hi]
  refine place_none _ _ (fun hm => ?_)
  obtain ⟨j, hj, e⟩ := List.mem_iff_getElem.1 hm
  rw [List.length_take] at hj
  rw [List.getElem_take] at e
  exact hn j (by omega) e

set_option maxRecDepth 20000 in
set_option maxHeartbeats 3200000 in
theorem specDist_any (a : Option Addr) (ca : Nat) (l : List Int) (w : World) (lo hi : Nat) (hl : l.length ≤ 1048576) (hca : l.length ≤ ca) (ha : IL w a l lo hi) :
    Calls Try.prog 23 #[.slice a l.length ca] w fun e w' => (∃ r, e = .returned (.tuple #[r, .bool (refsB l)]) ∧ intsIn w' w.heap.size r (dtL l)) ∧ Below w.heap.size w w' := by
  have HA : Hid (IL w a l lo hi) := ha
  have HG : Hid _ := goodS_any a ca l w lo hi (by omega) ha
  clear ha
  cases hg : refsB l
  · rw [dt_no hg]
    rw [hg] at HG
    clear hg
    go_enter Try.func23, Try.ntmps23
    go_wp2_with (go_at_call 31; refine Calls.mono HG.out ?_; rintro e w' ⟨rfl, hw⟩; obtain rfl := hw.symm)
    go_ret2
    exact ⟨⟨_, rfl, intsIn.nil _ _⟩, Below.refl _ _⟩
  rw [dt_yes hg]
  rw [hg] at HG
  have HU : Hid (∀ (ad : Addr) q i (wx : World), a = some ad → q < i → i ≤ l.length → Below w.heap.size w wx → Calls Try.prog 48 #[.slice (some (ad.add q)) (i - q) (ca - q)] wx fun e w' => e = .returned (.int .i64 (unlN ((l.take i).drop q) : Int)) ∧ w' = wx) := by
    intro ad q i wx hade hq hil hb
    subst hade
    have hlen : ((l.take i).drop q).length = i - q := by rw [List.length_drop, List.length_take]; omega
    have := unlikeS_any (some (ad.add q)) (ca - q) ((l.take i).drop q) wx lo hi (by omega) (by omega) (((HA.out.below hb).take i).drop q)
    rw [hlen] at this
    exact this
  clear hg
  go_enter Try.func23, Try.ntmps23
  go_wp2_with (go_at_call 31; refine Calls.mono HG.out ?_; rintro e w' ⟨rfl, hw⟩; obtain rfl := hw.symm)
  go_loopw [4, 14] (fun v i wr => ∃ k : Nat, k ≤ l.length ∧ i = .int .i64 k ∧ Hid (intsIn wr w.heap.size v ((dsL l).take k)) ∧ Hid (Below w.heap.size w wr)) (fun _ i _ => l.length - (intOf i).toNat)
  case atStart => exact ⟨0, Nat.zero_le _, rfl, by rw [List.take_zero]; exact intsIn.nil _ _, Below.refl _ _⟩
  case round =>
    obtain ⟨k, hk, rfl, HD, HB⟩ := hrel
    by_cases hlt : k < l.length
    · obtain ⟨ad, hade, hc⟩ := (HA.out.below HB.out).cell hlt
      subst hade
      have HT : Hid ((dsL l).take (k + 1) = (dsL l).take k ++ [(dsN l k : Int)]) := dsL_take l k hlt
      have hdl : ((dsL l).take k).length + 1 ≤ 4000000 := by rw [List.length_take, dsL_len]; omega
      have HDl : Hid _ := hdl
      obtain ⟨x, hx⟩ : ∃ x, x = l[k] := ⟨_, rfl⟩
      have HX : Hid (x = l[k]) := hx
      rw [← hx] at hc
      clear hx hdl
      go_wp2_with fail
      go_loop [7, 8] (fun n j => ∃ m : Nat, m ≤ k ∧ n = .int .i64 0 ∧ j = .int .i64 ((m : Int) - 1) ∧ Hid (∀ q, (hq : q < k) → m ≤ q → l[q]'(by omega) ≠ x)) (fun _ j => (intOf j + 1).toNat)
      case atStart => exact ⟨k, Nat.le_refl _, rfl, by go_num, fun q hq h => absurd h (by omega)⟩
      case round =>
        obtain ⟨m, hm, rfl, rfl, HQ⟩ := hrel
        cases m with
        | zero =>
          have HN : Hid (dsN l k = 0) := dsN_none hlt (fun j hj => by rw [← HX.out]; exact HQ.out j hj (Nat.zero_le _))
          clear HQ
          go_wp2_with (at_builtin; refine wpList_append_int wr rfl _ _ rfl w.heap.size _ _ (by rfl) HD.out (0 : Int) _ rfl HDl.out HB.out.size w.heap.size (Nat.le_refl _) w HB.out ?_)
          intro v3 w3 hd3 hb3
          have HD3 : Hid (intsIn w3 w.heap.size v3 ((dsL l).take (k + 1))) := by show intsIn _ _ _ _; rw [HT.out, HN.out]; exact hd3
          have HB3 : Hid _ := hb3
          clear hd3 hb3 HD HB HN HT
          go_wp2_with fail
          go_roundw
          case rel => exact ⟨k + 1, by omega, by go_num, HD3, HB3⟩
          case measure => simp [intOf]; omega
        | succ q =>
          have hql : q < l.length := by omega
          have hcq : wr.cell? (ad.add q) = some (.int .i64 l[q]) := by
            obtain ⟨ad', e, hcc⟩ := (HA.out.below HB.out).cell hql
            cases e; exact hcc
          have hqi : ((q + 1 : Nat) : Int) - 1 = (q : Int) := by omega
          rw [hqi]
          by_cases hyx : l[q] = x
          · have HN : Hid (dsN l k = unlN ((l.take k).drop q)) := dsN_found hlt (by omega) (by rw [← HX.out]; exact hyx) (fun j hj hqj => by rw [← HX.out]; exact HQ.out j hj (by omega))
            have HUq : Hid _ := HU.out ad q k wr rfl (by omega) hk HB.out
            have hd : decide (l[q] = x) = true := decide_eq_true hyx
            have hul := unl_le ((l.take k).drop q)
            rw [List.length_drop, List.length_take] at hul
            generalize unlN ((l.take k).drop q) = u at *
            generalize l[q] = y at *
            have hq2 : q ≤ k := by omega
            have hne : ¬ (ca - q = 0) := by omega
            have hne2 : ¬ (ca = q) := by omega
            clear HQ HU
            go_wp2_with (first
              | (go_at_call 48; refine Calls.mono HUq.out ?_; rintro e w' ⟨rfl, hw⟩; obtain rfl := hw.symm)
              | (at_builtin; refine wpList_append_int wr rfl _ _ rfl w.heap.size _ _ (by rfl) HD.out (u : Int) _ rfl HDl.out HB.out.size w.heap.size (Nat.le_refl _) w HB.out ?_))
            intro v3 w3 hd3 hb3
            have HD3 : Hid (intsIn w3 w.heap.size v3 ((dsL l).take (k + 1))) := by show intsIn _ _ _ _; rw [HT.out, HN.out]; exact hd3
            have HB3 : Hid _ := hb3
            clear hd3 hb3 HD HB HN HT HUq
            go_wp2_with fail
            go_roundw
            case rel => exact ⟨k + 1, by omega, by go_num, HD3, HB3⟩
            case measure => simp [intOf]; omega
          · have HQ2 : Hid (∀ q', (hq : q' < k) → q ≤ q' → l[q']'(by omega) ≠ x) := fun q' hq' h => by
              by_cases e : q' = q
              · subst e; exact hyx
              · exact HQ.out q' hq' (by omega)
            have hd : decide (l[q] = x) = false := decide_eq_false hyx
            clear HQ
            generalize l[q] = y at *
            go_wp2_with fail
            go_round
            case rel => exact ⟨q, by omega, rfl, by go_num, HQ2⟩
            case measure => simp [intOf]
    · obtain rfl : k = l.length := by omega
      have HE : Hid (intsIn wr w.heap.size u4 (dsL l)) := by
        have h1 : (dsL l).take l.length = dsL l := List.take_of_length_le (by rw [dsL_len]; exact Nat.le_refl _)
        have h2 := HD.out
        rw [h1] at h2
        exact h2
      clear HD HU
      go_wp2_with fail
      go_ret2
      exact ⟨⟨_, rfl, HE.out⟩, HB.out⟩

end Go.Proofs.Yteniompfkfhemaa.Iia
