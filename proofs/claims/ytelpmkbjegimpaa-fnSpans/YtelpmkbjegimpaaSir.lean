/-
  Walk: impl.risingSpans: spans sorted in memory of their own.
-/
import Derived.Test.YtelpmkbjegimpaaSrw
import Derived.Test.YtelpmkbjegimpaaSia
import Derived.Test.YtelpmkbjegimpaaShelf
import Derived.Shelf.SlSortCmp.NoneTotal
namespace Go.Proofs.Ytelpmkbjegimpaa.Spb
open Go.RowKit Go.Sort Go.Shelf

/-- 'append(none.., l...)' where there is no room: new memory. -/
theorem wpList_append_fresh (w : World) {ops : Array Oper} {rest : List Oper} {o : Oper} {a : Act} {Q : Exit → Act → World → Prop} (hgd : o.guard = none) (s x : Operand)
    (ho : o.op = .call { callee := .builtin .append, args := #[s, x], argTypes := #[23, 23] })
    (ad0 : Addr) (hs : a.eval s = .slice (some ad0) 0 0) (l : List (Int × Int)) (ad : Addr) (c : Nat) (hx : a.eval x = .slice (some ad) l.length c) (hc : ∀ j u, (flatP l)[j]? = some u → w.cell? (ad.add j) = some u)
    (h0 : 0 < l.length) (hb : l.length ≤ 1000000)
    (h : ∀ c' w', spansIn w' w.heap.size (.slice (some ⟨w.heap.size, 0, none⟩) l.length c') l → Below w.heap.size w w' → wpList Try.prog ops Q rest (a.put o.dst (.slice (some ⟨w.heap.size, 0, none⟩) l.length c')) w') : wpList Try.prog ops Q (o :: rest) a w := by
  obtain ⟨i0, hi, hz0, hz1, hz2⟩ := info_parts infoP
  have hr := run_append_grow (P := Try.prog) (w := w) 23 o.type 32 i0 (.agg #[.int .i64 0, .int .i64 0]) Try.underlying23 hi hz0 ad0 0 0 [] (by simp) (fun j v hj => by simp at hj) ad l.length c (flatP l) (by rw [hz1]; exact flat_len l) hc (by omega) (by omega) (by rw [hz2]; exact growslice_fits (by omega) (by omega))
  rw [Nat.zero_add] at hr
  refine wpList_plain hgd fun K hK => ?_
  unfold Oper.wp
  simp only [execOp, ho, resolve, invoke, builtin, Sem.run_bind, Sem.run_pure, Result.andThen_ok, List.map_toArray, List.map_cons, List.map_nil, hs, hx, hr]
  have hge := grownCap_ge w l.length 0 32
  have hcm := grownCap_le_maxLen w l.length 0 32 (by unfold maxLen; omega)
  refine hK _ _ (h _ _ ⟨flat_len l, .inr ⟨w.heap.size, _, _, rfl, Nat.le_refl _, heap_alloc_new w.drew _, hge, hcm, ?_, ?_⟩⟩ (((Below.refl _ _).drew).alloc (Nat.le_refl _) _))
  · have hz : (Value.agg #[.int .i64 0, .int .i64 0]).cells.size = 2 := rfl
    simp only [Array.size_append, List.size_toArray, size_zeroCells, hz, List.length_nil, flat_len]
    omega
  · simp only [Array.toList_append, List.nil_append]
    rw [← flat_len l]
    exact List.take_left

theorem closure_any (x y : Int × Int) (W : World) : Calls Try.prog 49 #[.agg #[.int .i64 x.1, .int .i64 x.2], .agg #[.int .i64 y.1, .int .i64 y.2]] W fun e w' => e = .returned (.int .i64 (Lib.compareInt x.1 y.1)) ∧ ∃ q os', w' = grow (W.drewN q) os' := by
  have hcon := fun W' => Try.cmp_Compare_int x.1 y.1 W'
  generalize Lib.compareInt x.1 y.1 = r at hcon ⊢
  go_enter Try.func49, Try.ntmps49
  go_wp2_with (go_at_call 50; refine (hcon _).mono ?_; rintro e w' ⟨rfl, hw⟩; obtain rfl := hw.symm)
  go_ret
  exact ⟨rfl, 0, _, by rw [alloc_eq_grow, alloc_eq_grow, grow_grow]; rfl⟩
theorem lt_is (x y : Int × Int) : ltOf (fun x y : Int × Int => Lib.compareInt x.1 y.1) x y = decide (x.1 < y.1) := by
  unfold ltOf Lib.compareInt
  by_cases h1 : x.1 < y.1
  · simp [h1]
  · by_cases h2 : y.1 < x.1 <;> simp [h1, h2]
theorem hlen_any (n : Nat) (W : World) (h : n ≤ 12) : Calls Try.prog 61 #[.int .u64 n] W fun e w' => (∃ l : Int, e = .returned (.int .i64 l)) ∧ w' = W :=
  (Try.bits_Len n W (by omega) (by omega)).mono fun _ _ ⟨he, hw⟩ => ⟨⟨_, he⟩, hw⟩
/-- slices.SortFunc of a row of spans. -/
theorem sortFunc_any (g cap : Nat) (l : List (Int × Int)) (w : World) (h : RowP w g l) (h12 : l.length ≤ 12) :
    Calls Try.prog 48 #[.slice (some ⟨g, 0, none⟩) l.length cap, .func (.func 49) #[] #[]] w fun e w' => e = .returned (.tuple #[]) ∧ RowP w' g (sortS l) ∧ Below g w w' := by
  have eg : ∀ args w, (callFunc 49 args).run Try.prog w = .ok (.enter 49 args) w := enters_of Try.func49 (by kernel_rfl) rfl
  have hcon := AnyQ.slices_SortFunc_small Try.laysSf6_f48 2 Try.isAgg32 Try.sizeOf32 encP encP_len encP_one (fun x y : Int × Int => Lib.compareInt x.1 y.1) 49 #[] g 0 cap l.toArray w eg (fun _ _ _ _ x y => closure_any x y _) (holds_of h) h.1 (by simpa using h12) hlen_any
  rw [sort_is _ lt_is l] at hcon
  refine (show Calls Try.prog 48 #[.slice (some ⟨g, 0, none⟩) l.toArray.size cap, .func (.func 49) #[] #[]] w _ from hcon).mono ?_
  rintro e w' ⟨rfl, n, os, rfl⟩
  have := sorted_row h (m := sortS l) (by have := sort_len l l.length (Nat.le_refl _); rwa [List.take_length] at this) n os
  exact ⟨rfl, this.1, this.2⟩

set_option maxHeartbeats 1600000 in
theorem rising_any (a : Option Addr) (ca : Nat) (l : List (Int × Int)) (w : World) (lo hi : Nat) (hl : l.length ≤ 12) (ha : PV w a l lo hi) :
    Calls Try.prog 34 #[.slice a l.length ca] w fun e w' => (∃ ar cr, e = .returned (.slice ar (sortS l).length cr) ∧ PV w' ar (sortS l) w.heap.size w'.heap.size) ∧ Below w.heap.size w w' := by
  have hsl : (sortS l).length = l.length := by have := sort_len l l.length (Nat.le_refl _); rwa [List.take_length] at this
  rw [hsl]
  by_cases h0 : l = []
  · subst h0
    have HN := fun p W => AnyF.slices_SortFunc_none Try.laysSf6_f48 p 0 (.func (.func 49) #[] #[]) W
    change ∀ p W, Calls Try.prog 48 _ _ _ at HN
    have HN' : Hid _ := HN
    clear HN ha hsl
    cases a with
    | none =>
      go_enter Try.func34, Try.ntmps34
      go_wp2_with (go_at_call 48; refine (HN'.out _ _).mono ?_; rintro e w' ⟨rfl, hw⟩; obtain rfl := hw.symm)
      go_ret
      exact ⟨⟨_, _, rfl, .inl rfl⟩, Below.refl _ _⟩
    | some ad =>
      go_enter Try.func34, Try.ntmps34
      go_wp2_with (go_at_call 48; refine (HN'.out _ _).mono ?_; rintro e w' ⟨rfl, hw⟩; obtain rfl := hw.symm)
      go_ret
      exact ⟨⟨_, _, rfl, .inl rfl⟩, Below.refl _ _⟩
  · rcases ha with ha | ⟨g, rfl, _, _, ga⟩
    · exact absurd ha h0
    have hpos : 0 < l.length := List.length_pos_iff.2 h0
    have hcells : ∀ j u, (flatP l)[j]? = some u → w.cell? ((⟨g, 0, none⟩ : Addr).add j) = some u := by
      intro j u hj
      have hj2 : j < l.length * 2 := by have := (List.getElem?_eq_some_iff.1 hj).1; rwa [flat_len] at this
      obtain ⟨f1, f2⟩ := flat_at l (j / 2) l[j / 2] (List.getElem?_eq_getElem (by omega))
      obtain ⟨c1, c2⟩ := ga.2.2 (j / 2) l[j / 2] (List.getElem?_eq_getElem (by omega))
      rw [Addr.add_lit, Nat.zero_add]
      rcases (show j % 2 = 0 ∨ j % 2 = 1 by omega) with e | e
      · rw [show j / 2 * 2 = j by omega] at f1 c1
        rw [hj] at f1
        rw [c1, ← f1]
      · rw [show j / 2 * 2 + 1 = j by omega] at f2 c2
        rw [hj] at f2
        rw [c2, ← f2]
    have HC : Hid _ := hcells
    have HSl : Hid _ := hsl
    clear hcells hsl ga
    go_enter Try.func34, Try.ntmps34
    go_wp2_with (at_builtin; refine wpList_append_fresh w rfl _ _ rfl ⟨g, 0, none⟩ (by rfl) l ⟨g, 0, none⟩ ca (by rfl) HC.out hpos (by omega) ?_)
    intro c' w1 hown hb
    obtain ⟨a1, c1, he1, hPV⟩ := pv_of hown
    injection he1 with e1 e2 e3
    subst e1
    clear e2 e3
    rcases hPV with h | ⟨g1, e4, g2, g3, hrow⟩
    · exact absurd h h0
    injection e4 with e5
    have e6 : g1 = w.heap.size := by injection e5 with e7; exact e7.symm
    subst e6
    have HB : Hid _ := hb
    have HR : Hid _ := fun (wx : World) (hx : RowP wx w.heap.size l) => sortFunc_any w.heap.size c' l wx hx hl
    have HRow : Hid (RowP w1 w.heap.size l) := hrow
    clear hb hown HC hrow
    go_wp2_with (go_at_call 48; refine (HR.out _ HRow.out).mono ?_; rintro e w2 ⟨rfl, hrow2, hb2⟩)
    go_ret
    have hP : PV w2 (some ⟨w.heap.size, 0, none⟩) (sortS l) w.heap.size w2.heap.size := Or.inr ⟨w.heap.size, rfl, Nat.le_refl _, hrow2.1, hrow2⟩
    have hB2 := HB.out.trans hb2
    clear HR HRow hrow2 hb2
    generalize sortS l = S at *
    exact ⟨⟨some ⟨w.heap.size, 0, none⟩, c', rfl, hP⟩, hB2⟩

end Go.Proofs.Ytelpmkbjegimpaa.Spb
