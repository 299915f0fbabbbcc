/-
  Walks: draws: (*l1Cur).spans, spec.DrawJoinSpans, DrawCutSpans.
-/
import Derived.Test.YtelpmkbjegimpaaDoorDrb
import Derived.Test.YtelpmkbjegimpaaDoorSpk
namespace Go.Proofs.YtelpmkbjegimpaaDoor.Cur
open Go.RowKit
open Go.Proofs.YtelpmkbjegimpaaDoor.Spb

theorem spans_but {w w' : World} {B cb : Nat} {v : Value} {l : List (Int × Int)} (h : spansIn w B v l) (hb : But cb w w') (hc : cb < B) : spansIn w' B v l := by
  refine ⟨h.1, ?_⟩
  rcases h.2 with hn | ⟨g, cap, cur, rfl, hbg, hg, rest⟩
  · exact .inl hn
  · exact .inr ⟨g, cap, cur, rfl, hbg, (hb.2.2.2.2 g (Array.getElem?_eq_some_iff.1 hg).1 (by omega)).trans hg, rest⟩
theorem pv_but {w w' : World} {cb : Nat} {a : Option Addr} {l : List (Int × Int)} {lo hi : Nat} (h : PV w a l lo hi) (hb : But cb w w') (hc : cb < lo) : PV w' a l lo hi := by
  rcases h with h | ⟨g, h1, h2, h3, h4, h5, h6⟩
  · exact .inl h
  · exact .inr ⟨g, h1, h2, h3, Nat.lt_of_lt_of_le h4 hb.2.2.2.1, fun i => (hb.frozen (p := ⟨g, i, none⟩) h4 (by show g ≠ cb; omega)).trans (h5 i),
      fun i c hc' => ⟨(hb.cell (p := ⟨g, i * 2, none⟩) h4 (by show g ≠ cb; omega)).trans (h6 i c hc').1, (hb.cell (p := ⟨g, i * 2 + 1, none⟩) h4 (by show g ≠ cb; omega)).trans (h6 i c hc').2⟩⟩
theorem amongInts (zs : List Int) (m : Nat) (hm : m = zs.length) (h1 : 1 ≤ m) (h2 : m ≤ 1000) (cb : Nat) (v : Value) (n N : Nat) (w : World) (hC : Cursor w cb v n N) (hN : N ≤ 900000000) :
    Calls Tryd.prog 34 #[.pointer (some ⟨cb, 0, none⟩), .slice (some ⟨w.heap.size, 0, none⟩) m m] (w.alloc (.cells (zs.map fun z => Value.int .i64 z).toArray 3)) fun e w' => ∃ x : Int, e = .returned (.int .i64 x) ∧ Cursor w' cb v n (N + 2) ∧ But cb w w' := by
  subst hm
  have hcb : cb < w.heap.size := hC.2.2.1
  have hb1 := (Below.refl w.heap.size w).alloc (Nat.le_refl _) (.cells (zs.map fun z => Value.int .i64 z).toArray 3)
  refine (among_any cb _ zs.length v n N _ (Cursor.below hC hb1) hN h1 h2 (by simp) (by omega) (ints_made w zs _ _ rfl)).mono ?_
  rintro e w' ⟨x, rfl, hC', hb'⟩
  exact ⟨x, rfl, hC', But.trans (But.of_below hb1) hb'⟩
/-- The first span of a list of the call's own, set anew. -/
theorem spans_head {w : World} {B g n cap : Nat} {c : Int × Int} {r : List (Int × Int)} (h : spansIn w B (.slice (some ⟨g, 0, none⟩) n cap) (c :: r)) (F T : Int) :
    (∃ x, w.cell? ⟨g, 0, none⟩ = some x) ∧ (∃ x, w.cell? ⟨g, 1, none⟩ = some x) ∧ (∀ i, w.frozen? ⟨g, i, none⟩ = false) ∧ g < w.heap.size ∧ B ≤ g ∧
    spansIn ((w.setCell ⟨g, 0, none⟩ (.int .i64 F)).setCell ⟨g, 1, none⟩ (.int .i64 T)) B (.slice (some ⟨g, 0, none⟩) n cap) ((F, T) :: r) := by
  have hn : n = (c :: r).length := by
    rcases h.2 with ⟨h', _⟩ | ⟨_, _, _, h', _⟩
    · cases h'
    · injection h'
  have hh := h
  unfold spansIn at h
  rw [← hn] at h
  obtain ⟨f0, f1⟩ := flat_at (c :: r) 0 c rfl
  have e0 := World.ownsRow.cells hh (g := g) rfl 0 _ f0
  have e1 := World.ownsRow.cells hh (g := g) rfl 1 _ f1
  rw [Addr.add_lit, Nat.zero_add] at e0 e1
  refine ⟨⟨_, e0⟩, ⟨_, e1⟩, fun i => World.ownsRow.frozenAt (n := n) (cap := cap) h i, (h.lt g rfl).2, (h.lt g rfl).1, ?_⟩
  have s0 := (World.ownsRow.stored h 0 (.int .i64 F)).1
  have s1 := (World.ownsRow.stored s0 1 (.int .i64 T)).1
  unfold spansIn
  rw [show ((F, T) :: r).length = n by rw [hn]; rfl]
  exact s1
theorem but_set2 {w0 w : World} {cb g : Nat} (h : But cb w0 w) (hg : w0.heap.size ≤ g) (X Y : Value) : But cb w0 ((w.setCell ⟨g, 0, none⟩ X).setCell ⟨g, 1, none⟩ Y) := by
  refine ⟨h.1, h.2.1, h.2.2.1, by simpa [World.setCell] using h.2.2.2.1, fun k hk hc => ?_⟩
  rw [Below.heap_setCell _ _ _ _ (by show k ≠ g; omega), Below.heap_setCell _ _ _ _ (by show k ≠ g; omega)]
  exact h.2.2.2.2 k hk hc

set_option maxRecDepth 20000 in
set_option maxHeartbeats 6400000 in
theorem spans_any (size : Nat) (hs1 : 1 ≤ size) (hs2 : size ≤ 1000) (cb : Nat) (v : Value) (n N : Nat) (w : World) (hC : Cursor w cb v n N) (hN : N ≤ 500000000) :
    Calls Tryd.prog 19 #[.pointer (some ⟨cb, 0, none⟩), .int .i64 size] w fun e w' => ∃ (r : Value) (l : List (Int × Int)), e = .returned r ∧ l.length ≤ 13 ∧ spansIn w' w.heap.size r l ∧ Cursor w' cb v n (N + 200) ∧ But cb w w' := by
  have hcb : cb < w.heap.size := hC.2.2.1
  have HC0 : Hid _ := hC
  clear hC
  go_enter Tryd.func19, Tryd.ntmps19
  go_wp2_with fail
  refine (pick_at 5 _ rfl cb v n _ _ HC0.out (by omega) (by omega) (by omega)).mono ?_
  rintro e w1 ⟨k0, rfl, hk0, hC1, hb1⟩
  have HC1 : Hid _ := hC1
  have HB1 : Hid _ := hb1
  clear hC1 hb1 HC0
  go_wp2_with fail
  refine (one_at 40 _ rfl cb v n _ _ HC1.out (by omega) (by omega) (by omega)).mono ?_
  rintro e w2 ⟨b, rfl, hC2, hb2⟩
  have HC2 : Hid _ := hC2
  have HB2 : Hid _ := But.trans HB1.out hb2
  clear hC2 hb2 HC1 HB1
  cases b
  · have hk : k0 ≤ 13 := by omega
    have HC3 : Hid (Cursor w2 cb v n (N + 10)) := Cursor.mono HC2.out (by omega)
    have HB3 : Hid (But cb w w2) := HB2.out
    clear HC2 HB2
    go_wp2_with fail
    go_loopw [5, 6] (fun lv nv wr => ∃ (m : Nat) (l : List (Int × Int)), nv = .int .i64 m ∧ m ≤ k0 ∧ l.length + m = k0 ∧ spansIn wr w.heap.size lv l ∧ Hid (Cursor wr cb v n (N + 10 + 4 * (k0 - m))) ∧ Hid (But cb w wr)) (fun _ nv _ => (intOf nv).toNat)
    case atStart => exact ⟨k0, [], rfl, by omega, by simp, spansIn.nil _ _, Cursor.mono HC3.out (by omega), HB3⟩
    case round =>
      obtain ⟨m, l, rfl, hm, hl, hown, HC, HB⟩ := hrel
      clear HC3 HB3
      by_cases h0 : 0 < m
      · go_wp2_with fail
        refine (pick_at size _ rfl cb v n _ _ HC.out (by omega) (by omega) (by omega)).mono ?_
        rintro e u1 ⟨a, rfl, ha, hC1, hb1⟩
        have hown1 := spans_but hown hb1 hcb
        have HB1 : Hid _ := But.trans HB.out hb1
        have HC1 : Hid _ := hC1
        obtain ⟨kk, hkk⟩ : ∃ kk : Nat, kk = size - a := ⟨_, rfl⟩
        have hsa : ((size : Int) - (a : Int)) = (kk : Int) := by omega
        have hk1 : 1 ≤ kk := by omega
        have hk9 : kk ≤ 1000 := by omega
        clear hkk
        clear HC HB hC1 hb1 hown
        go_wp2_with fail
        refine (pick_at kk _ rfl cb v n _ _ HC1.out (by omega) (by omega) (by omega)).mono ?_
        rintro e u2 ⟨k2, rfl, hk2, hC2, hb2⟩
        have hown2 := spans_but hown1 hb2 hcb
        have hs2 : w.heap.size ≤ u2.heap.size := Nat.le_trans HB1.out.2.2.2.1 hb2.2.2.2.1
        have HB2 : Hid _ := But.trans HB1.out hb2
        have HC2 : Hid _ := hC2
        clear HC1 HB1 hC2 hb2 hown1 hsa
        go_wp2_with (at_builtin; refine wpList_append_span u2 rfl _ _ rfl w.heap.size _ l (by rfl) hown2 (a : Int) ((a : Int) + 1 + (k2 : Int)) _ rfl ?q3 hs2 w.heap.size (Nat.le_refl _) u2 (Below.refl _ _) ?_)
        case q3 => omega
        intro v' u3 hown' hbel'
        have HC3 : Hid _ := Cursor.belowB HC2.out hcb hbel'
        have HB3 : Hid _ := But.then HB2.out hbel'
        clear hown2 HC2 HB2 hbel'
        go_wp2_with fail
        go_roundw
        case rel => exact ⟨m - 1, _, by go_num, by omega, by simp; omega, hown', Cursor.mono HC3.out (by omega), HB3⟩
        case measure => simp [intOf]; omega
      · have hll : l.length ≤ 13 := by omega
        have HOw : Hid (spansIn wr w.heap.size u5 l) := hown
        have HC4 : Hid (Cursor wr cb v n (N + 80)) := Cursor.mono HC.out (by omega)
        clear HC hown
        rcases spans_form HOw.out with ⟨rfl, rfl⟩ | ⟨g, cap, rfl, hbg, hg, hlc, hcells⟩
        · clear HOw
          go_wp2_with fail
          go_ret
          exact ⟨_, [], rfl, by simp, spansIn.nil _ _, Cursor.mono HC4.out (by omega), HB.out⟩
        · clear hcells
          cases l with
          | nil =>
            go_wp2_with fail
            go_ret
            exact ⟨_, [], rfl, by simp, HOw.out, Cursor.mono HC4.out (by omega), HB.out⟩
          | cons c r =>
            obtain ⟨q, hq⟩ : ∃ q, q = (c :: r).length := ⟨_, rfl⟩
            have hq1 : q = r.length + 1 := by rw [hq]; rfl
            rw [← hq] at HOw hll hlc hl
            rw [← hq]
            have Hq : Hid (q = (c :: r).length) := hq
            have hq0 : 0 < q := by omega
            clear hq hq1
            go_wp2_with fail
            refine (one_at 30 _ rfl cb v n _ _ HC4.out (by omega) (by omega) (by omega)).mono ?_
            rintro e u1 ⟨b2, rfl, hC1, hb1⟩
            have HO1 : Hid (spansIn u1 w.heap.size (.slice (some ⟨g, 0, none⟩) q cap) (c :: r)) := spans_but HOw.out hb1 hcb
            have HC1 : Hid _ := hC1
            have HB1 : Hid _ := But.trans HB.out hb1
            clear HC4 HB hC1 hb1 HOw
            cases b2
            · go_wp2_with fail
              go_ret
              exact ⟨_, c :: r, rfl, by rw [← Hq.out]; omega, HO1.out, Cursor.mono HC1.out (by omega), HB1.out⟩
            · go_wp2_with fail
              refine (pick_at 3 _ rfl cb v n _ _ HC1.out (by omega) (by omega) (by omega)).mono ?_
              rintro e u2 ⟨k3, rfl, hk3, hC2, hb2⟩
              have HO2 : Hid (spansIn u2 w.heap.size (.slice (some ⟨g, 0, none⟩) q cap) (c :: r)) := spans_but HO1.out hb2 hcb
              have HB2 : Hid _ := But.trans HB1.out hb2
              have HC2 : Hid _ := hC2
              clear HO1 HB1 HC1 hC2 hb2
              go_wp2_with fail
              refine (amongInts [0, 1, 1000000, 1000001] 4 rfl (by omega) (by omega) cb v n _ _ HC2.out (by omega)).mono ?_
              rintro e u3 ⟨z, rfl, hC3, hb3⟩
              have hown3 := spans_but HO2.out hb3 hcb
              have HB3 : Hid _ := But.trans HB2.out hb3
              have HC3 : Hid _ := hC3
              obtain ⟨c0, c1, hf, hgu, hs0, hs1⟩ := spans_head hown3 ((k3 : Int) - 1) z
              clear HO2 HB2 HC2 hC3 hb3 hown3
              have HS : Hid _ := hs1
              obtain ⟨x0, hx0⟩ := c0
              obtain ⟨x1, hx1⟩ := c1
              have hgcb : cb < g := by omega
              go_wp2_with fail
              go_ret
              refine ⟨_, (((k3 : Int) - 1), z) :: r, rfl, ?_, HS.out, ?_, ?_⟩
              · have := Hq.out; simp at this ⊢; omega
              · exact Cursor.mono (Cursor.set (Cursor.set HC3.out hgcb _) hgcb _) (by omega)
              · exact but_set2 HB3.out hbg _ _
  · go_wp2_with fail
    refine (pick_at 2 _ rfl cb v n _ _ HC2.out (by omega) (by omega) (by omega)).mono ?_
    rintro e w3 ⟨k1, rfl, hk1, hC3, hb3⟩
    have HC3 : Hid (Cursor w3 cb v n (N + 10)) := Cursor.mono hC3 (by omega)
    have HB3 : Hid (But cb w w3) := But.trans HB2.out hb3
    have hk : 12 + k1 ≤ 13 := by omega
    have hwr : IntKind.i64.wrap ((12 : Int) + (k1 : Int)) = ((12 + k1 : Nat) : Int) := by rw [IntKind.wrap_i64]; omega
    clear hk0
    obtain ⟨k0, hk0e⟩ : ∃ k0, k0 = 12 + k1 := ⟨_, rfl⟩
    rw [← hk0e] at hwr hk
    clear HC2 HB2 hC3 hb3 hk0e
    go_wp2_with fail
    go_loopw [5, 6] (fun lv nv wr => ∃ (m : Nat) (l : List (Int × Int)), nv = .int .i64 m ∧ m ≤ k0 ∧ l.length + m = k0 ∧ spansIn wr w.heap.size lv l ∧ Hid (Cursor wr cb v n (N + 10 + 4 * (k0 - m))) ∧ Hid (But cb w wr)) (fun _ nv _ => (intOf nv).toNat)
    case atStart => exact ⟨k0, [], rfl, by omega, by simp, spansIn.nil _ _, Cursor.mono HC3.out (by omega), HB3⟩
    case round =>
      obtain ⟨m, l, rfl, hm, hl, hown, HC, HB⟩ := hrel
      clear HC3 HB3
      by_cases h0 : 0 < m
      · go_wp2_with fail
        refine (pick_at size _ rfl cb v n _ _ HC.out (by omega) (by omega) (by omega)).mono ?_
        rintro e u1 ⟨a, rfl, ha, hC1, hb1⟩
        have hown1 := spans_but hown hb1 hcb
        have HB1 : Hid _ := But.trans HB.out hb1
        have HC1 : Hid _ := hC1
        obtain ⟨kk, hkk⟩ : ∃ kk : Nat, kk = size - a := ⟨_, rfl⟩
        have hsa : ((size : Int) - (a : Int)) = (kk : Int) := by omega
        have hk1 : 1 ≤ kk := by omega
        have hk9 : kk ≤ 1000 := by omega
        clear hkk
        clear HC HB hC1 hb1 hown
        go_wp2_with fail
        refine (pick_at kk _ rfl cb v n _ _ HC1.out (by omega) (by omega) (by omega)).mono ?_
        rintro e u2 ⟨k2, rfl, hk2, hC2, hb2⟩
        have hown2 := spans_but hown1 hb2 hcb
        have hs2 : w.heap.size ≤ u2.heap.size := Nat.le_trans HB1.out.2.2.2.1 hb2.2.2.2.1
        have HB2 : Hid _ := But.trans HB1.out hb2
        have HC2 : Hid _ := hC2
        clear HC1 HB1 hC2 hb2 hown1 hsa
        go_wp2_with (at_builtin; refine wpList_append_span u2 rfl _ _ rfl w.heap.size _ l (by rfl) hown2 (a : Int) ((a : Int) + 1 + (k2 : Int)) _ rfl ?q3 hs2 w.heap.size (Nat.le_refl _) u2 (Below.refl _ _) ?_)
        case q3 => omega
        intro v' u3 hown' hbel'
        have HC3 : Hid _ := Cursor.belowB HC2.out hcb hbel'
        have HB3 : Hid _ := But.then HB2.out hbel'
        clear hown2 HC2 HB2 hbel'
        go_wp2_with fail
        go_roundw
        case rel => exact ⟨m - 1, _, by go_num, by omega, by simp; omega, hown', Cursor.mono HC3.out (by omega), HB3⟩
        case measure => simp [intOf]; omega
      · have hll : l.length ≤ 13 := by omega
        have HOw : Hid (spansIn wr w.heap.size u5 l) := hown
        have HC4 : Hid (Cursor wr cb v n (N + 80)) := Cursor.mono HC.out (by omega)
        clear HC hown
        rcases spans_form HOw.out with ⟨rfl, rfl⟩ | ⟨g, cap, rfl, hbg, hg, hlc, hcells⟩
        · clear HOw
          go_wp2_with fail
          go_ret
          exact ⟨_, [], rfl, by simp, spansIn.nil _ _, Cursor.mono HC4.out (by omega), HB.out⟩
        · clear hcells
          cases l with
          | nil =>
            go_wp2_with fail
            go_ret
            exact ⟨_, [], rfl, by simp, HOw.out, Cursor.mono HC4.out (by omega), HB.out⟩
          | cons c r =>
            obtain ⟨q, hq⟩ : ∃ q, q = (c :: r).length := ⟨_, rfl⟩
            have hq1 : q = r.length + 1 := by rw [hq]; rfl
            rw [← hq] at HOw hll hlc hl
            rw [← hq]
            have Hq : Hid (q = (c :: r).length) := hq
            have hq0 : 0 < q := by omega
            clear hq hq1
            go_wp2_with fail
            refine (one_at 30 _ rfl cb v n _ _ HC4.out (by omega) (by omega) (by omega)).mono ?_
            rintro e u1 ⟨b2, rfl, hC1, hb1⟩
            have HO1 : Hid (spansIn u1 w.heap.size (.slice (some ⟨g, 0, none⟩) q cap) (c :: r)) := spans_but HOw.out hb1 hcb
            have HC1 : Hid _ := hC1
            have HB1 : Hid _ := But.trans HB.out hb1
            clear HC4 HB hC1 hb1 HOw
            cases b2
            · go_wp2_with fail
              go_ret
              exact ⟨_, c :: r, rfl, by rw [← Hq.out]; omega, HO1.out, Cursor.mono HC1.out (by omega), HB1.out⟩
            · go_wp2_with fail
              refine (pick_at 3 _ rfl cb v n _ _ HC1.out (by omega) (by omega) (by omega)).mono ?_
              rintro e u2 ⟨k3, rfl, hk3, hC2, hb2⟩
              have HO2 : Hid (spansIn u2 w.heap.size (.slice (some ⟨g, 0, none⟩) q cap) (c :: r)) := spans_but HO1.out hb2 hcb
              have HB2 : Hid _ := But.trans HB1.out hb2
              have HC2 : Hid _ := hC2
              clear HO1 HB1 HC1 hC2 hb2
              go_wp2_with fail
              refine (amongInts [0, 1, 1000000, 1000001] 4 rfl (by omega) (by omega) cb v n _ _ HC2.out (by omega)).mono ?_
              rintro e u3 ⟨z, rfl, hC3, hb3⟩
              have hown3 := spans_but HO2.out hb3 hcb
              have HB3 : Hid _ := But.trans HB2.out hb3
              have HC3 : Hid _ := hC3
              obtain ⟨c0, c1, hf, hgu, hs0, hs1⟩ := spans_head hown3 ((k3 : Int) - 1) z
              clear HO2 HB2 HC2 hC3 hb3 hown3
              have HS : Hid _ := hs1
              obtain ⟨x0, hx0⟩ := c0
              obtain ⟨x1, hx1⟩ := c1
              have hgcb : cb < g := by omega
              go_wp2_with fail
              go_ret
              refine ⟨_, (((k3 : Int) - 1), z) :: r, rfl, ?_, HS.out, ?_, ?_⟩
              · have := Hq.out; simp at this ⊢; omega
              · exact Cursor.mono (Cursor.set (Cursor.set HC3.out hgcb _) hgcb _) (by omega)
              · exact but_set2 HB3.out hbg _ _

def alpha : ByteArray := ⟨#[97, 98, 99, 100, 101, 102, 103, 104, 105, 106, 107, 108, 109, 110, 111, 112, 113, 114, 115, 116, 117, 118, 119, 120, 121, 122]⟩
end Go.Proofs.YtelpmkbjegimpaaDoor.Cur
