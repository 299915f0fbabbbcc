/-
  Walks: impl.moveAhead.
-/
import Derived.Test.YteniompfkfhemaaIii
namespace Go.Proofs.Yteniompfkfhemaa.Iia
open Go.RowKit

/-- All blocks but two are as they were. -/
def Kept2 (w w' : World) (b g : Nat) : Prop := w'.os = w.os ∧ w'.tape = w.tape ∧ w'.output = w.output ∧ w.heap.size ≤ w'.heap.size ∧ ∀ k, k < w.heap.size → k ≠ b → k ≠ g → w'.heap[k]? = w.heap[k]?
theorem Kept2.of_below {w w' : World} (b g : Nat) (h : Below w.heap.size w w') : Kept2 w w' b g := ⟨h.os, h.tape, h.output, h.size, fun k hk _ _ => h.block k hk⟩
theorem Kept2.trans {w1 w2 w3 : World} {b g : Nat} (h : Kept2 w1 w2 b g) (k : Kept2 w2 w3 b g) : Kept2 w1 w3 b g :=
  ⟨k.1.trans h.1, k.2.1.trans h.2.1, k.2.2.1.trans h.2.2.1, Nat.le_trans h.2.2.2.1 k.2.2.2.1, fun i hi hb hg => (k.2.2.2.2 i (Nat.lt_of_lt_of_le hi h.2.2.2.1) hb hg).trans (h.2.2.2.2 i hi hb hg)⟩
theorem Kept2.grown {w w' : World} {b g : Nat} (h : w.grownBy w' (some g)) : Kept2 w w' b g := ⟨h.os, h.tape, h.output, h.size, fun k hk _ hg => h.block k hk (fun e => hg (Option.some.inj e))⟩
theorem Kept2.setB {w w' : World} {b g : Nat} (h : Kept2 w w' b g) (o : Nat) (v : Value) : Kept2 w (w'.setCell ⟨b, o, none⟩ v) b g :=
  ⟨h.1, h.2.1, h.2.2.1, by have := h.2.2.2.1; simpa [World.setCell] using this, fun k hk hb hg => (Below.heap_setCell _ _ _ k (fun e => hb e)).trans (h.2.2.2.2 k hk hb hg)⟩
theorem Kept2.setG {w w' : World} {b g : Nat} (h : Kept2 w w' b g) (o : Nat) (v : Value) : Kept2 w (w'.setCell ⟨g, o, none⟩ v) b g :=
  ⟨h.1, h.2.1, h.2.2.1, by have := h.2.2.2.1; simpa [World.setCell] using this, fun k hk hb hg => (Below.heap_setCell _ _ _ k (fun e => hg e)).trans (h.2.2.2.2 k hk hb hg)⟩
theorem Kept2.below {w0 w w' : World} {B b g : Nat} (h0 : Below B w0 w) (h : Kept2 w w' b g) (hB : B ≤ w.heap.size) (hb : B ≤ b) (hg : B ≤ g) : Below B w0 w' :=
  ⟨h.1.trans h0.os, h.2.1.trans h0.tape, h.2.2.1.trans h0.output, Nat.le_trans h0.size h.2.2.2.1, fun k hk => (h.2.2.2.2 k (by omega) (by omega) (by omega)).trans (h0.block k hk)⟩
theorem intsIn.kept2 {w w' : World} {B b g : Nat} {v : Value} {l : List Int} (h : intsIn w B v l) (hk : Kept2 w w' b g) (hb : b < B) (hg : g < B) : intsIn w' B v l := by
  refine ⟨h.1, ?_⟩
  rcases h.2 with hn | ⟨g1, cap, cur, rfl, hbg, hg1, rest⟩
  · exact .inl hn
  · exact .inr ⟨g1, cap, cur, rfl, hbg, (hk.2.2.2.2 g1 (Array.getElem?_eq_some_iff.1 hg1).1 (by omega) (by omega)).trans hg1, rest⟩
/-- A pile in the block b, its things in the row g, with room for all. -/
def PileG (w : World) (b g cap B : Nat) (l : List Int) (n : Nat) : Prop := w.heap[b]? = some (.cells #[.slice (some ⟨g, 0, none⟩) l.length cap, .int .i64 n] 54 (0, 0)) ∧ B ≤ b ∧ intsIn w B (.slice (some ⟨g, 0, none⟩) l.length cap) l ∧ n ≤ cap
theorem row_at {w : World} {B g n cap : Nat} {l : List Int} (h : intsIn w B (.slice (some ⟨g, 0, none⟩) n cap) l) : ∃ cur, B ≤ g ∧ w.heap[g]? = some (.cells cur 3 (0, 0)) := by
  rcases h.2 with ⟨hn, _⟩ | ⟨g1, cap1, cur, he, hBg, hg1, _⟩
  · cases hn
  · injection he with he1 _ _
    injection he1 with he1
    injection he1 with he1 _ _
    rw [he1]
    exact ⟨cur, hBg, hg1⟩
theorem PileG.belowB {w w' : World} {b g cap B B' : Nat} {l : List Int} {n : Nat} (h : PileG w b g cap B l n) (hb : Below B' w w') (h1 : b < B') (h2 : g < B') : PileG w' b g cap B l n := by
  refine ⟨(hb.block b h1).trans h.1, h.2.1, ⟨h.2.2.1.1, ?_⟩, h.2.2.2⟩
  rcases h.2.2.1.2 with hn | ⟨g1, cap1, cur, he, hBg, hg1, rest⟩
  · exact .inl hn
  · refine .inr ⟨g1, cap1, cur, he, hBg, ?_, rest⟩
    have hgg : g = g1 := by
      injection he with he1 _ _
      injection he1 with he1
      injection he1 with he1 _ _
    rw [← hgg] at hg1 ⊢
    exact (hb.block g h2).trans hg1
theorem PileG.below {w w' : World} {b g cap B : Nat} {l : List Int} {n : Nat} (h : PileG w b g cap B l n) (hb : Below w.heap.size w w') : PileG w' b g cap B l n := by
  obtain ⟨cur, _, hg⟩ := row_at h.2.2.1
  exact h.belowB hb (Array.getElem?_eq_some_iff.1 h.1).1 (Array.getElem?_eq_some_iff.1 hg).1
theorem pile_storedG {w w2 : World} {b B g cap n : Nat} {l : List Int} {y : Int} (hb0 : w.heap[b]? = some (.cells #[.slice (some ⟨g, 0, none⟩) l.length cap, .int .i64 n] 54 (0, 0))) (hBb : B ≤ b) (hbg : b ≠ g) (hg : w.grownBy w2 (some g)) (hown : intsIn w2 B (.slice (some ⟨g, 0, none⟩) (l.length + 1) cap) (l ++ [y])) (hroom : n ≤ cap) :
    PileG (w2.setCell ⟨b, 0, none⟩ (.slice (some ⟨g, 0, none⟩) (l.length + 1) cap)) b g cap B (l ++ [y]) n ∧ w2.cell? ⟨b, 0, none⟩ = some (.slice (some ⟨g, 0, none⟩) l.length cap) ∧ w2.frozen? ⟨b, 0, none⟩ = false := by
  have hb2 := (hg.block b (Array.getElem?_eq_some_iff.1 hb0).1 (fun e => hbg (Option.some.inj e))).trans hb0
  have hlen : (l ++ [y]).length = l.length + 1 := by simp
  refine ⟨⟨?_, hBb, ?_, hroom⟩, by rw [World.cell?, hb2]; rfl, by rw [World.frozen?, hb2]; rfl⟩
  · rw [hlen]; simp [World.setCell, hb2, Array.getElem?_modify]
  · rw [hlen]
    refine ⟨hown.1, ?_⟩
    rcases hown.2 with ⟨hn, _⟩ | ⟨g1, cap1, cur, he, hBg, hg1, rest⟩
    · cases hn
    · refine .inr ⟨g1, cap1, cur, he, hBg, ?_, rest⟩
      have hgg : g = g1 := by
        injection he with he1 _ _
        injection he1 with he1
        injection he1 with he1 _ _
      rw [Below.heap_setCell _ _ _ g1 (by show g1 ≠ b; omega)]
      exact hg1

theorem moved_stateG {w wx : World} {b B g cap n px : Nat} {lx : List Int} {y : Int} {cur : Array Value} {cs : List Value} (hBX : Kept2 w wx b g) (hroom : n ≤ cap) (hp1 : 1 ≤ px) (hp2 : px ≤ lx.length)
    (hb0 : wx.heap[b]? = some (.cells #[.slice (some ⟨g, 0, none⟩) lx.length cap, .int .i64 n] 54 (0, 0))) (hBb : B ≤ b) (hBg : B ≤ g) (hnc : lx.length ≤ cap) (hcm : cap ≤ maxLen) (hcs : cur.size = cap * 1) (htake : cur.toList.take (lx.length * 1) = flI lx) (hbg : b ≠ g)
    (hcsE : cs = flI (lx.take (px - 1))) (hcl : cs.length = px - 1) (w4 : World) (h4 : w4.heap[g]? = some (.cells (splice cur.toList 1 cs).toArray 3 (0, 0))) (hg4 : wx.grownBy w4 (some g)) (hblt : b < wx.heap.size) :
    PileG (w4.setCell ⟨g, 0, none⟩ (.int .i64 y)) b g cap B (y :: (lx.take (px - 1) ++ lx.drop px)) n ∧ Kept2 w (w4.setCell ⟨g, 0, none⟩ (.int .i64 y)) b g ∧ w4.cell? ⟨b, 0, none⟩ = some (.slice (some ⟨g, 0, none⟩) lx.length cap) ∧ (∃ u, w4.cell? ⟨g, 0, none⟩ = some u) ∧ w4.frozen? ⟨g, 0, none⟩ = false := by
  have hold := moved_state (w := wx) (y := y) (Below.refl B wx) hp1 hp2 hb0 hBb hBg hnc hcm hcs htake hbg hcsE hcl w4 h4 hg4 hblt
  obtain ⟨⟨g1, cap1, e1, e2, e3⟩, _, e5, e6, e7⟩ := hold
  have hb4 : w4.heap[b]? = some (.cells #[.slice (some ⟨g, 0, none⟩) lx.length cap, .int .i64 n] 54 (0, 0)) := (hg4.block b hblt (fun e => hbg (Option.some.inj e))).trans hb0
  have hother : (w4.setCell ⟨g, 0, none⟩ (.int .i64 y)).heap[b]? = w4.heap[b]? := Below.heap_setCell _ _ _ b hbg
  have hlen : (y :: (lx.take (px - 1) ++ lx.drop px)).length = lx.length := by
    rw [List.length_cons, List.length_append, List.length_take, List.length_drop]; omega
  rw [hother, hb4] at e1
  injection e1 with e1
  injection e1 with e1 _ _
  have e1' : Value.slice (some ⟨g, 0, none⟩) lx.length cap = Value.slice (some ⟨g1, 0, none⟩) (y :: (lx.take (px - 1) ++ lx.drop px)).length cap1 := by
    have := congrArg (fun a : Array Value => a[0]?) e1
    exact Option.some.inj this
  rw [← e1'] at e3
  exact ⟨⟨by rw [hother, hb4, hlen], hBb, by rw [hlen]; exact e3, hroom⟩, (hBX.trans (Kept2.grown hg4)).setG 0 _, e5, e6, e7⟩

/-- 'append(v, x)' of one number to a row in which there is room. -/
theorem wpList_append_intF (wr : World) {ops : Array Oper} {rest : List Oper} {o : Oper} {a : Act} {Q : Exit → Act → World → Prop} (hgd : o.guard = none) (s x : Operand)
    (ho : o.op = .call { callee := .builtin .append, args := #[s, x], argTypes := #[23, 23] })
    (B g cap0 : Nat) (l : List Int) (hs : a.eval s = .slice (some ⟨g, 0, none⟩) l.length cap0) (hown : intsIn wr B (.slice (some ⟨g, 0, none⟩) l.length cap0) l) (hroom : l.length + 1 ≤ cap0)
    (X : Int) (cap : Nat) (hx : a.eval x = .slice (some ⟨wr.heap.size, 0, none⟩) 1 cap)
    (h : ∀ w', intsIn w' B (.slice (some ⟨g, 0, none⟩) (l.length + 1) cap0) (l ++ [X]) → wr.grownBy w' (some g) → wpList Try.prog ops Q rest (a.put o.dst (.slice (some ⟨g, 0, none⟩) (l.length + 1) cap0)) w') : wpList Try.prog ops Q (o :: rest) a (wr.alloc (.cells #[.int .i64 X] 3)) := by
  obtain ⟨i0, hi, hz0, hz1, hz2⟩ := info_parts infoI
  obtain ⟨w', hrun, hown', hg⟩ := run_append_fits (P := Try.prog) (wr.alloc (.cells #[.int .i64 X] 3)) B 23 o.type 3 i0 1 Try.underlying23 hi hz1 g l.length cap0 (flI l) (World.ownsRow.alloc hown _) ⟨wr.heap.size, 0, none⟩ 1 cap [.int .i64 X] rfl
    (by
      intro j u hj
      match j, hj with
      | 0, hj => simp at hj; subst hj; simp [Addr.add])
    (by intro u hu; simp at hu; subst hu; rfl) hroom
  have h2 : intsIn w' B (.slice (some ⟨g, 0, none⟩) (l.length + 1) cap0) (l ++ [X]) := by
    unfold intsIn
    rw [List.length_append, show flI (l ++ [X]) = flI l ++ [.int .i64 X] from by simp [flI]]
    exact hown'
  have h3 : wr.grownBy w' (some g) := ⟨hg.os, hg.tape, hg.output, Nat.le_trans (by simp) hg.size, fun k hk hr => (hg.block k (by simp; omega) hr).trans (((Below.refl wr.heap.size wr).alloc (Nat.le_refl _) _).block k hk)⟩
  refine wpList_plain hgd fun K hK => ?_
  unfold Oper.wp
  simp [execOp, ho, resolve, invoke, builtin, hs, hx, hrun, Result.andThen]
  exact hK _ _ (h w' h2 h3)

set_option maxRecDepth 20000 in
set_option maxHeartbeats 3200000 in
theorem moveKept_any (b g cap B : Nat) (l : List Int) (n : Nat) (y : Int) (w : World) (hn : n ≤ 100) (hl : l.length ≤ n) (hd : l.Nodup) (hp : PileG w b g cap B l n) :
    Calls Try.prog 47 #[.pointer (some ⟨b, 0, none⟩), .int .i64 y] w fun e w' => e = .returned (.tuple #[]) ∧ PileG w' b g cap B (tchN n l y) n ∧ Kept2 w w' b g := by
  have HP : Hid (PileG w b g cap B l n) := hp
  obtain ⟨hb00, hBb0, hown0, hroom0⟩ := hp
  have c0 : w.cell? ⟨b, 0, none⟩ = some (.slice (some ⟨g, 0, none⟩) l.length cap) := by simp [World.cell?, hb00]
  have c1 : w.cell? ⟨b, 1, none⟩ = some (.int .i64 n) := by simp [World.cell?, hb00]
  by_cases h0 : n = 0
  · subst h0
    have : l = [] := List.eq_nil_of_length_eq_zero (by omega)
    subst this
    clear hb00 hown0
    go_enter Try.func47, Try.ntmps47
    go_wp2_with fail
    exact bodyPost_ret (results_none rfl _ _ _) rfl ⟨rfl, HP.out, Kept2.of_below _ _ (Below.refl _ _)⟩
  have hn0 : ¬ ((n : Int) = 0) := by omega
  have HIW : Hid (IL w (some ⟨g, 0, none⟩) l B w.heap.size) := by
    obtain ⟨a, cap', e, hh⟩ := iw_of hown0
    injection e with e1 e2 e3
    rw [← e1] at hh
    exact hh.il
  have HC : Hid _ := placeOf_any (some ⟨g, 0, none⟩) cap l n y w B w.heap.size (by omega) HIW.out
  have hple := plc_le l y
  have HMt : Hid (0 < plc l y → tchN n l y = y :: (l.take (plc l y - 1) ++ l.drop (plc l y))) := fun h => move_there hd hl h
  have HMr : Hid (plc l y = 0 → l.length < n → tchN n l y = y :: l) := fun h h2 => move_room h2 h
  have HMf : Hid (plc l y = 0 → l.length = n → tchN n l y = y :: l.take (n - 1)) := fun h h2 => move_full h2 (by omega) h
  generalize plc l y = p at *
  clear hb00 hown0 hd HIW
  go_enter Try.func47, Try.ntmps47
  by_cases hp0' : p = 0
  · subst hp0'
    by_cases hlt : l.length < n
    · have HEQ0 : Hid (tchN n l y = y :: l) := HMr.out rfl hlt
      clear HMt HMr HMf
      have hli : (l.length : Int) < (n : Int) := by omega
      have hnq : decide ((l.length : Int) < (n : Int)) = true := decide_eq_true hli
      go_wp2_with (go_at_call 46; refine Calls.mono HC.out ?_; rintro e w1 ⟨rfl, hb1⟩; obtain ⟨hbb, hBb1, hown1, _⟩ := HP.out.below hb1; have d0 : w1.cell? ⟨b, 0, none⟩ = some (.slice (some ⟨g, 0, none⟩) l.length cap) := (by simp [World.cell?, hbb]); have d1 : w1.cell? ⟨b, 1, none⟩ = some (.int .i64 n) := (by simp [World.cell?, hbb]))
      go_quiet (fail)
      obtain ⟨wx, hwx⟩ : ∃ wx, wx = w1.drewN nq := ⟨_, rfl⟩
      have hbx : wx.heap[b]? = some (.cells #[.slice (some ⟨g, 0, none⟩) l.length cap, .int .i64 n] 54 (0, 0)) := by rw [hwx]; exact hbb
      have hownx : intsIn wx B (.slice (some ⟨g, 0, none⟩) l.length cap) l := by rw [hwx]; exact hown1.below (below_drewN _ _)
      have hBX0 : Kept2 w wx b g := by rw [hwx]; exact (Kept2.of_below b g hb1).trans (Kept2.of_below b g (below_drewN _ _))
      have e0 : wx.cell? ⟨b, 0, none⟩ = some (.slice (some ⟨g, 0, none⟩) l.length cap) := by simp [World.cell?, hbx]
      have hbg1 : b ≠ g := fun e => by
        rcases hownx.2 with ⟨hn, _⟩ | ⟨g', cap', cur, he, _, hg, _⟩
        · cases hn
        · injection he with he1 _ _
          injection he1 with he1
          injection he1 with he1 _ _
          rw [← he1, ← e, hbx] at hg
          injection hg with hg
          injection hg with _ h _
          exact absurd h (by decide)
      rw [← hwx]
      clear hwx hbb hown1 d0 d1 hb1 HC HP c0 c1
      have HBb : Hid _ := hbx
      clear hbx
      have hr1 : l.length + 1 ≤ cap := by omega
      go_wp2_with (at_builtin; refine wpList_append_intF wx rfl _ _ rfl B g cap l (by rfl) hownx hr1 y _ rfl ?_)
      intro w2 hown2 hgg
      obtain ⟨hPA2, f0, f1⟩ := pile_storedG HBb.out hBb1 hbg1 hgg hown2 hroom0
      have HPA2 : Hid _ := hPA2
      have HBX2 : Hid (Kept2 w (w2.setCell ⟨b, 0, none⟩ (.slice (some ⟨g, 0, none⟩) (l.length + 1) cap)) b g) := (hBX0.trans (Kept2.grown hgg)).setB 0 _
      clear hPA2 hown2 hgg hownx hBX0 e0 HBb hbg1
      go_wp2_with fail
      obtain ⟨w3, hw3⟩ : ∃ w3, w3 = w2.setCell ⟨b, 0, none⟩ (.slice (some ⟨g, 0, none⟩) (l.length + 1) cap) := ⟨_, rfl⟩
      rw [← hw3] at HPA2 HBX2
      rw [← hw3]
      have hPl : ∃ lx, lx = l ++ [y] := ⟨_, rfl⟩
      obtain ⟨lx, hlx⟩ := hPl
      have hll : l.length + 1 = lx.length := by rw [hlx]; simp
      have hlli : (l.length : Int) + 1 = (lx.length : Int) := by omega
      rw [hlli, hll]
      have HEQ : Hid (tchN n l y = y :: (lx.take (lx.length - 1) ++ lx.drop lx.length)) := by
        show _ = _
        rw [HEQ0.out, List.drop_length, List.append_nil, ← hll, hlx, Nat.add_sub_cancel]
        simp
      have HX : Hid (PileG w3 b g cap B lx n) := by rw [hlx]; exact HPA2.out
      have HBX : Hid (Kept2 w w3 b g) := HBX2.out
      have hp1 : 1 ≤ lx.length := by omega
      have hp2 : lx.length ≤ lx.length := Nat.le_refl _
      have hlx2 : lx.length ≤ n := by omega
      clear HPA2 HBX2 hw3 hr1 hlx hlli hll f0 f1 HEQ0 hlt hli hnq
      -- the copy and the store
      obtain ⟨hb0, hBb, hown, hroom⟩ := HX.out
      rcases hown.2 with ⟨hn, _⟩ | ⟨g', cap', cur, he, hBg, hg, hnc, hcm, hcs, htake⟩
      · cases hn
      injection he with he1 he2 he3
      injection he1 with he1
      injection he1 with he1 he4 he5
      subst he1
      subst he3
      have hcur : cur.toList.length = cap := by rw [Array.length_toList]; omega
      have hbg : b ≠ g := fun e => by
        rw [e] at hb0
        rw [hb0] at hg
        injection hg with hg
        injection hg with _ h _
        exact absurd h (by decide)
      have c0 : w3.cell? ⟨b, 0, none⟩ = some (.slice (some ⟨g, 0, none⟩) lx.length cap) := by simp [World.cell?, hb0]
      have c1 : w3.cell? ⟨b, 1, none⟩ = some (.int .i64 n) := by simp [World.cell?, hb0]
      have hblt := (Array.getElem?_eq_some_iff.1 hb0).1
      obtain ⟨cs, hcsE⟩ : ∃ cs, cs = flI (lx.take (lx.length - 1)) := ⟨_, rfl⟩
      have hcl : cs.length = lx.length - 1 := by rw [hcsE, flI_len, List.length_take]; omega
      have hsrc : ∀ j v, cs[j]? = some v → w3.cell? ((⟨g, 0, none⟩ : Addr).add j) = some v := by
        intro j v hj
        refine World.ownsRow.cells hown (g := g) rfl j v ?_
        have hjl := (List.getElem?_eq_some_iff.1 hj).1
        rw [hcl] at hjl
        rw [hcsE] at hj
        unfold flI at hj ⊢
        rw [List.getElem?_map, List.getElem?_take, if_pos hjl] at hj
        rw [List.getElem?_map]
        exact hj
      have h1c : ∀ v ∈ cs, v.oneCell' = true := fun v hv => by rw [hcsE] at hv; exact flI_one _ v hv
      have HF : Hid (∀ (w4 : World), w4.heap[g]? = some (.cells (splice cur.toList 1 cs).toArray 3 (0, 0)) → w3.grownBy w4 (some g) → PileG (w4.setCell ⟨g, 0, none⟩ (.int .i64 y)) b g cap B (y :: (lx.take (lx.length - 1) ++ lx.drop lx.length)) n ∧ Kept2 w (w4.setCell ⟨g, 0, none⟩ (.int .i64 y)) b g ∧ w4.cell? ⟨b, 0, none⟩ = some (.slice (some ⟨g, 0, none⟩) lx.length cap) ∧ (∃ u, w4.cell? ⟨g, 0, none⟩ = some u) ∧ w4.frozen? ⟨g, 0, none⟩ = false) :=
        fun w4 h4 hg4 => moved_stateG HBX.out hroom hp1 hp2 hb0 hBb hBg hnc hcm hcs htake hbg hcsE hcl w4 h4 hg4 hblt
      have hcurA : w3.heap[g]? = some (.cells cur.toList.toArray 3 (0, 0)) := by simpa using hg
      have hpc : lx.length ≤ cap := by omega
      have hp0 : (1 : Int) ≤ (lx.length : Int) := by omega
      have hk : lx.length - (lx.length - 1) = lx.length - lx.length + 1 := by omega
      clear hown HX hb0 hg htake hcsE
      go_wp2_with fail
      go_region_law (refine step_copy_keep rfl (.tmp 47) (.tmp 51) 23 23 rfl 3 Try.underlying23 (by kernel_rfl) (if cap = 1 then some ⟨g, 0, none⟩ else some ⟨g, 1, none⟩) (some ⟨g, 0, none⟩) (lx.length - 1) (cap - 1) lx.length cap (by rfl) (by rfl) g 1 cur.toList 3 (by first | exact hcurA | simpa using hcurA) cs (by rw [hcl]; simp only [Nat.min_def]; split <;> omega) (fun hcz => ⟨if_neg (by omega), _, rfl, by first | exact hsrc | simpa using hsrc⟩) (by rw [hcur, hcl]; omega) h1c ?_; intro w4 h4 hg4)
      all_goals
        obtain ⟨hPA, hBe, d0, ⟨u0, d1⟩, d2⟩ := HF.out w4 h4.out (by first | exact hg4 | exact grown_drew hg4 | exact grown_drewN hg4)
      all_goals
        have HPA : Hid _ := hPA
        have HBe : Hid _ := hBe
        clear hPA hBe HF h4 hg4 hsrc h1c hcurA hcur hcs hcl c0 c1
        go_wp2_with fail
      all_goals exact bodyPost_end (results_none rfl _ _ _) rfl ⟨rfl, by rw [HEQ.out]; first | exact HPA.out | (obtain rfl : cap = 1 := (by assumption); exact HPA.out), HBe.out⟩
    · have hLE : Hid (l.length = n) := by show _ = _; omega
      have HEQ0 : Hid (tchN n l y = y :: l.take (n - 1)) := HMf.out rfl hLE.out
      clear HMt HMr HMf
      have hnli : ¬ ((l.length : Int) < (n : Int)) := by omega
      have hnq : decide ((l.length : Int) < (n : Int)) = false := decide_eq_false hnli
      go_wp2_with (go_at_call 46; refine Calls.mono HC.out ?_; rintro e w1 ⟨rfl, hb1⟩; obtain ⟨hbb, hBb1, hown1, _⟩ := HP.out.below hb1; have d0 : w1.cell? ⟨b, 0, none⟩ = some (.slice (some ⟨g, 0, none⟩) l.length cap) := (by simp [World.cell?, hbb]); have d1 : w1.cell? ⟨b, 1, none⟩ = some (.int .i64 n) := (by simp [World.cell?, hbb]))
      go_quiet (fail)
      obtain ⟨wx, hwx⟩ : ∃ wx, wx = w1.drewN nq := ⟨_, rfl⟩
      have HX : Hid (PileG wx b g cap B l n) := by rw [hwx]; exact (HP.out.below hb1).below (below_drewN _ _)
      have HBX : Hid (Kept2 w wx b g) := by rw [hwx]; exact (Kept2.of_below b g hb1).trans (Kept2.of_below b g (below_drewN _ _))
      rw [← hwx]
      have HEQ : Hid (tchN n l y = y :: (l.take (l.length - 1) ++ l.drop l.length)) := by
        show _ = _
        rw [HEQ0.out, List.drop_length, List.append_nil, hLE.out]
      have hp1 : 1 ≤ l.length := by have := hLE.out; omega
      have hp2 : l.length ≤ l.length := Nat.le_refl _
      clear hwx hbb hown1 d0 d1 hb1 HC HP c0 c1 HEQ0
      -- the copy and the store
      obtain ⟨hb0, hBb, hown, hroom⟩ := HX.out
      rcases hown.2 with ⟨hn, _⟩ | ⟨g', cap', cur, he, hBg, hg, hnc, hcm, hcs, htake⟩
      · cases hn
      injection he with he1 he2 he3
      injection he1 with he1
      injection he1 with he1 he4 he5
      subst he1
      subst he3
      have hcur : cur.toList.length = cap := by rw [Array.length_toList]; omega
      have hbg : b ≠ g := fun e => by
        rw [e] at hb0
        rw [hb0] at hg
        injection hg with hg
        injection hg with _ h _
        exact absurd h (by decide)
      have c0 : wx.cell? ⟨b, 0, none⟩ = some (.slice (some ⟨g, 0, none⟩) l.length cap) := by simp [World.cell?, hb0]
      have c1 : wx.cell? ⟨b, 1, none⟩ = some (.int .i64 n) := by simp [World.cell?, hb0]
      have hblt := (Array.getElem?_eq_some_iff.1 hb0).1
      obtain ⟨cs, hcsE⟩ : ∃ cs, cs = flI (l.take (l.length - 1)) := ⟨_, rfl⟩
      have hcl : cs.length = l.length - 1 := by rw [hcsE, flI_len, List.length_take]; omega
      have hsrc : ∀ j v, cs[j]? = some v → wx.cell? ((⟨g, 0, none⟩ : Addr).add j) = some v := by
        intro j v hj
        refine World.ownsRow.cells hown (g := g) rfl j v ?_
        have hjl := (List.getElem?_eq_some_iff.1 hj).1
        rw [hcl] at hjl
        rw [hcsE] at hj
        unfold flI at hj ⊢
        rw [List.getElem?_map, List.getElem?_take, if_pos hjl] at hj
        rw [List.getElem?_map]
        exact hj
      have h1c : ∀ v ∈ cs, v.oneCell' = true := fun v hv => by rw [hcsE] at hv; exact flI_one _ v hv
      have HF : Hid (∀ (w4 : World), w4.heap[g]? = some (.cells (splice cur.toList 1 cs).toArray 3 (0, 0)) → wx.grownBy w4 (some g) → PileG (w4.setCell ⟨g, 0, none⟩ (.int .i64 y)) b g cap B (y :: (l.take (l.length - 1) ++ l.drop l.length)) n ∧ Kept2 w (w4.setCell ⟨g, 0, none⟩ (.int .i64 y)) b g ∧ w4.cell? ⟨b, 0, none⟩ = some (.slice (some ⟨g, 0, none⟩) l.length cap) ∧ (∃ u, w4.cell? ⟨g, 0, none⟩ = some u) ∧ w4.frozen? ⟨g, 0, none⟩ = false) :=
        fun w4 h4 hg4 => moved_stateG HBX.out hroom hp1 hp2 hb0 hBb hBg hnc hcm hcs htake hbg hcsE hcl w4 h4 hg4 hblt
      have hcurA : wx.heap[g]? = some (.cells cur.toList.toArray 3 (0, 0)) := by simpa using hg
      have hpc : l.length ≤ cap := by omega
      have hp0 : (1 : Int) ≤ (l.length : Int) := by omega
      have hk : l.length - (l.length - 1) = l.length - l.length + 1 := by omega
      clear hown HX hb0 hg htake hcsE
      go_wp2_with fail
      go_region_law (refine step_copy_keep rfl (.tmp 47) (.tmp 51) 23 23 rfl 3 Try.underlying23 (by kernel_rfl) (if cap = 1 then some ⟨g, 0, none⟩ else some ⟨g, 1, none⟩) (some ⟨g, 0, none⟩) (l.length - 1) (cap - 1) l.length cap (by rfl) (by rfl) g 1 cur.toList 3 (by first | exact hcurA | simpa using hcurA) cs (by rw [hcl]; simp only [Nat.min_def]; split <;> omega) (fun hcz => ⟨if_neg (by omega), _, rfl, by first | exact hsrc | simpa using hsrc⟩) (by rw [hcur, hcl]; omega) h1c ?_; intro w4 h4 hg4)
      all_goals
        obtain ⟨hPA, hBe, d0, ⟨u0, d1⟩, d2⟩ := HF.out w4 h4.out (by first | exact hg4 | exact grown_drew hg4 | exact grown_drewN hg4)
      all_goals
        have HPA : Hid _ := hPA
        have HBe : Hid _ := hBe
        clear hPA hBe HF h4 hg4 hsrc h1c hcurA hcur hcs hcl c0 c1
        go_wp2_with fail
      all_goals exact bodyPost_end (results_none rfl _ _ _) rfl ⟨rfl, by rw [HEQ.out]; first | exact HPA.out | (obtain rfl : cap = 1 := (by assumption); exact HPA.out), HBe.out⟩
  · have hpi : ¬ ((p : Int) = 0) := by omega
    have HEQ : Hid (tchN n l y = y :: (l.take (p - 1) ++ l.drop p)) := HMt.out (by omega)
    clear HMt HMr HMf
    go_wp2_with (go_at_call 46; refine Calls.mono HC.out ?_; rintro e w1 ⟨rfl, hb1⟩)
    have HX : Hid (PileG w1 b g cap B l n) := HP.out.below hb1
    have HBX : Hid (Kept2 w w1 b g) := Kept2.of_below b g hb1
    have hp1 : 1 ≤ p := by omega
    have hp2 := hple
    clear HP HC hb1 c0 c1
    -- the copy and the store
    obtain ⟨hb0, hBb, hown, hroom⟩ := HX.out
    rcases hown.2 with ⟨hn, _⟩ | ⟨g', cap', cur, he, hBg, hg, hnc, hcm, hcs, htake⟩
    · cases hn
    injection he with he1 he2 he3
    injection he1 with he1
    injection he1 with he1 he4 he5
    subst he1
    subst he3
    have hcur : cur.toList.length = cap := by rw [Array.length_toList]; omega
    have hbg : b ≠ g := fun e => by
      rw [e] at hb0
      rw [hb0] at hg
      injection hg with hg
      injection hg with _ h _
      exact absurd h (by decide)
    have c0 : w1.cell? ⟨b, 0, none⟩ = some (.slice (some ⟨g, 0, none⟩) l.length cap) := by simp [World.cell?, hb0]
    have c1 : w1.cell? ⟨b, 1, none⟩ = some (.int .i64 n) := by simp [World.cell?, hb0]
    have hblt := (Array.getElem?_eq_some_iff.1 hb0).1
    obtain ⟨cs, hcsE⟩ : ∃ cs, cs = flI (l.take (p - 1)) := ⟨_, rfl⟩
    have hcl : cs.length = p - 1 := by rw [hcsE, flI_len, List.length_take]; omega
    have hsrc : ∀ j v, cs[j]? = some v → w1.cell? ((⟨g, 0, none⟩ : Addr).add j) = some v := by
      intro j v hj
      refine World.ownsRow.cells hown (g := g) rfl j v ?_
      have hjl := (List.getElem?_eq_some_iff.1 hj).1
      rw [hcl] at hjl
      rw [hcsE] at hj
      unfold flI at hj ⊢
      rw [List.getElem?_map, List.getElem?_take, if_pos hjl] at hj
      rw [List.getElem?_map]
      exact hj
    have h1c : ∀ v ∈ cs, v.oneCell' = true := fun v hv => by rw [hcsE] at hv; exact flI_one _ v hv
    have HF : Hid (∀ (w4 : World), w4.heap[g]? = some (.cells (splice cur.toList 1 cs).toArray 3 (0, 0)) → w1.grownBy w4 (some g) → PileG (w4.setCell ⟨g, 0, none⟩ (.int .i64 y)) b g cap B (y :: (l.take (p - 1) ++ l.drop p)) n ∧ Kept2 w (w4.setCell ⟨g, 0, none⟩ (.int .i64 y)) b g ∧ w4.cell? ⟨b, 0, none⟩ = some (.slice (some ⟨g, 0, none⟩) l.length cap) ∧ (∃ u, w4.cell? ⟨g, 0, none⟩ = some u) ∧ w4.frozen? ⟨g, 0, none⟩ = false) :=
      fun w4 h4 hg4 => moved_stateG HBX.out hroom hp1 hp2 hb0 hBb hBg hnc hcm hcs htake hbg hcsE hcl w4 h4 hg4 hblt
    have hcurA : w1.heap[g]? = some (.cells cur.toList.toArray 3 (0, 0)) := by simpa using hg
    have hpc : p ≤ cap := by omega
    have hp0 : (1 : Int) ≤ (p : Int) := by omega
    have hk : l.length - (p - 1) = l.length - p + 1 := by omega
    clear hown HX hb0 hg htake hcsE
    go_wp2_with fail
    go_region_law (refine step_copy_keep rfl (.tmp 47) (.tmp 51) 23 23 rfl 3 Try.underlying23 (by kernel_rfl) (if cap = 1 then some ⟨g, 0, none⟩ else some ⟨g, 1, none⟩) (some ⟨g, 0, none⟩) (p - 1) (cap - 1) l.length cap (by rfl) (by rfl) g 1 cur.toList 3 (by first | exact hcurA | simpa using hcurA) cs (by rw [hcl]; simp only [Nat.min_def]; split <;> omega) (fun hcz => ⟨if_neg (by omega), _, rfl, by first | exact hsrc | simpa using hsrc⟩) (by rw [hcur, hcl]; omega) h1c ?_; intro w4 h4 hg4)
    all_goals
      obtain ⟨hPA, hBe, d0, ⟨u0, d1⟩, d2⟩ := HF.out w4 h4.out (by first | exact hg4 | exact grown_drew hg4 | exact grown_drewN hg4)
    all_goals
      have HPA : Hid _ := hPA
      have HBe : Hid _ := hBe
      clear hPA hBe HF h4 hg4 hsrc h1c hcurA hcur hcs hcl c0 c1
      go_wp2_with fail
    all_goals exact bodyPost_end (results_none rfl _ _ _) rfl ⟨rfl, by rw [HEQ.out]; first | exact HPA.out | (obtain rfl : cap = 1 := (by assumption); exact HPA.out), HBe.out⟩
end Go.Proofs.Yteniompfkfhemaa.Iia
