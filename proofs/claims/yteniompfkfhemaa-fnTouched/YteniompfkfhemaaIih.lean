/-
  Walks: impl.moveAhead.
-/
import Derived.Test.YteniompfkfhemaaIig
import Derived.Laws.CopyOwn
import Derived.Laws.MakeOwn
namespace Go.Proofs.Yteniompfkfhemaa.Iia
open Go.RowKit

theorem flI_one (l : List Int) : ∀ u ∈ flI l, u.oneCell' = true := by
  intro u hu
  unfold flI at hu
  rw [List.mem_map] at hu
  obtain ⟨x, _, rfl⟩ := hu
  rfl

/-- 'copy' within a region that draws: the row behind it, all other blocks as they were. -/
theorem step_copy_keep {P : Program} {ops : Array Oper} {o : Oper} {a : Act} {w : World} {K : Act → World → Prop} {Q : Exit → Act → World → Prop} {E : Prop} (hgd : o.guard = none) (d s : Operand) (dT sT : TypeId)
    (ho : o.op = .call { callee := .builtin .copy, args := #[d, s], argTypes := #[dT, sT] }) (elem : TypeId) (hu : P.underlying dT = some (.slice elem)) (hsz : (P.info? elem).map (·.size) = some 1)
    (dp sp : Option Addr) (dLen dCap sLen sCap : Nat) (hd : a.eval d = .slice dp dLen dCap) (hs : a.eval s = .slice sp sLen sCap)
    (g off : Nat) (cur : List Value) (t : TypeId) (hg : w.heap[g]? = some (.cells cur.toArray t (0, 0))) (cs : List Value) (hn : cs.length = Nat.min sLen dLen)
    (hpos : 0 < cs.length → dp = some ⟨g, off, none⟩ ∧ ∃ ad, sp = some ad ∧ ∀ j v, cs[j]? = some v → w.cell? (ad.add j) = some v)
    (hfit : off + cs.length ≤ cur.length) (h1 : ∀ v ∈ cs, v.oneCell' = true)
    (h : ∀ w', Hid (w'.heap[g]? = some (.cells (splice cur off cs).toArray t (0, 0))) → w.grownBy w' (some g) → K (a.put o.dst (goInt cs.length)) w') :
    if Region.wanted o (yielded ops a.tmps) = true then Oper.wp P o a w K Q else E := by
  have hw : Region.wanted o (yielded ops a.tmps) = true := by simp [Region.wanted, hgd]
  rw [if_pos hw]
  by_cases h0 : cs.length = 0
  · obtain rfl : cs = [] := List.eq_nil_of_length_eq_zero h0
    have hrun := run_copy_none (P := P) w dT sT o.type elem dp sp dLen dCap sLen sCap hu hsz (by simpa using hn.symm)
    unfold Oper.wp
    simp [execOp, ho, resolve, invoke, builtin, hd, hs, hrun, Result.andThen]
    exact h w (show _ = _ by simpa [splice] using hg) (grown_of _ (Below.refl _ _))
  · obtain ⟨rfl, ad, rfl, hsrc⟩ := hpos (by omega)
    have hrun := run_copy_row (P := P) w dT sT o.type elem g off dLen dCap ad sLen sCap cur.toArray t cs hu hsz hg hn hsrc (by simpa using hfit) h1
    unfold Oper.wp
    simp [execOp, ho, resolve, invoke, builtin, hd, hs, hrun, Result.andThen]
    refine h _ (show _ = _ by simpa [splice] using setRow_heap w g _ _ t _ hg) ⟨rfl, rfl, rfl, by simp [World.setRow], fun k _ hr => setRow_other w g k _ (fun e => hr (by rw [e]))⟩

theorem grown_drew {w w' : World} {row : Option Nat} (h : w.drew.grownBy w' row) : w.grownBy w' row := ⟨h.os, h.tape, h.output, h.size, h.block⟩
theorem grown_drewN {w w' : World} {n : Nat} {row : Option Nat} (h : (w.drewN n).grownBy w' row) : w.grownBy w' row := ⟨h.os, h.tape, h.output, h.size, h.block⟩
/-- A pile in the block b: its things lie in a row of the call's own. -/
def PileAt (w : World) (b B : Nat) (l : List Int) (n : Nat) : Prop := ∃ g cap, w.heap[b]? = some (.cells #[.slice (some ⟨g, 0, none⟩) l.length cap, .int .i64 n] 54 (0, 0)) ∧ B ≤ b ∧ intsIn w B (.slice (some ⟨g, 0, none⟩) l.length cap) l
theorem PileAt.below {w w' : World} {b B : Nat} {l : List Int} {n : Nat} (h : PileAt w b B l n) (hb : Below w.heap.size w w') : PileAt w' b B l n := by
  obtain ⟨g, cap, h1, h2, h3⟩ := h
  exact ⟨g, cap, (hb.block b (Array.getElem?_eq_some_iff.1 h1).1).trans h1, h2, h3.below hb⟩

theorem moved_state {w wx : World} {b B g cap n px : Nat} {lx : List Int} {y : Int} {cur : Array Value} {cs : List Value} (hBX : Below B w wx) (hp1 : 1 ≤ px) (hp2 : px ≤ lx.length)
    (hb0 : wx.heap[b]? = some (.cells #[.slice (some ⟨g, 0, none⟩) lx.length cap, .int .i64 n] 54 (0, 0))) (hBb : B ≤ b) (hBg : B ≤ g) (hnc : lx.length ≤ cap) (hcm : cap ≤ maxLen) (hcs : cur.size = cap * 1) (htake : cur.toList.take (lx.length * 1) = flI lx) (hbg : b ≠ g)
    (hcsE : cs = flI (lx.take (px - 1))) (hcl : cs.length = px - 1) (w4 : World) (h4 : w4.heap[g]? = some (.cells (splice cur.toList 1 cs).toArray 3 (0, 0))) (hg4 : wx.grownBy w4 (some g)) (hblt : b < wx.heap.size) :
    PileAt (w4.setCell ⟨g, 0, none⟩ (.int .i64 y)) b B (y :: (lx.take (px - 1) ++ lx.drop px)) n ∧ Below B w (w4.setCell ⟨g, 0, none⟩ (.int .i64 y)) ∧ w4.cell? ⟨b, 0, none⟩ = some (.slice (some ⟨g, 0, none⟩) lx.length cap) ∧ (∃ u, w4.cell? ⟨g, 0, none⟩ = some u) ∧ w4.frozen? ⟨g, 0, none⟩ = false := by
  have hb4 : w4.heap[b]? = some (.cells #[.slice (some ⟨g, 0, none⟩) lx.length cap, .int .i64 n] 54 (0, 0)) := (hg4.block b hblt (fun e => hbg (Option.some.inj e))).trans hb0
  have hlen : (y :: (lx.take (px - 1) ++ lx.drop px)).length = lx.length := by
    rw [List.length_cons, List.length_append, List.length_take, List.length_drop]; omega
  have hcurl : cur.toList.length = cap := by rw [Array.length_toList]; omega
  have hspl : (splice cur.toList 1 cs).length = cap := by rw [length_splice _ _ _ (by rw [hcurl, hcl]; omega), hcurl]
  have hpos : 0 < (splice cur.toList 1 cs).length := by rw [hspl]; omega
  obtain ⟨u0, rest, hsp⟩ : ∃ u0 rest, splice cur.toList 1 cs = u0 :: rest := by
    cases h : splice cur.toList 1 cs with
    | nil => rw [h] at hpos; simp at hpos
    | cons a r => exact ⟨a, r, rfl⟩
  have hc0 : w4.cell? ⟨g, 0, none⟩ = some u0 := by rw [World.cell?, h4, hsp]; rfl
  have hf0 : w4.frozen? ⟨g, 0, none⟩ = false := by rw [World.frozen?, h4]; rfl
  have hset : (w4.setCell ⟨g, 0, none⟩ (.int .i64 y)).heap[g]? = some (.cells ((.int .i64 y :: rest).toArray) 3 (0, 0)) := by
    have hlt := (Array.getElem?_eq_some_iff.1 h4).1
    rw [hsp] at h4
    simp [World.setCell, h4, Array.getElem?_modify]
  have hother : (w4.setCell ⟨g, 0, none⟩ (.int .i64 y)).heap[b]? = w4.heap[b]? := Below.heap_setCell _ _ _ b hbg
  refine ⟨⟨g, cap, ?_, hBb, ?_⟩, ?_, ?_, ⟨u0, hc0⟩, hf0⟩
  · rw [hother, hb4, hlen]
  · refine ⟨by rw [flI_len]; omega, .inr ⟨g, cap, _, rfl, hBg, hset, by omega, hcm, ?_, ?_⟩⟩
    · have : (u0 :: rest).length = cap := by rw [← hsp]; exact hspl
      simp only [List.size_toArray, List.length_cons] at this ⊢
      omega
    · have hr : rest = cs ++ cur.toList.drop px := by
        have e1 : cur.toList ≠ [] := by intro h; rw [h] at hcurl; simp at hcurl; omega
        obtain ⟨c0, cr, hce⟩ : ∃ c0 cr, cur.toList = c0 :: cr := by
          cases h : cur.toList with
          | nil => exact absurd h e1
          | cons a r => exact ⟨a, r, rfl⟩
        have := hsp
        unfold splice at this
        rw [hcl, show 1 + (px - 1) = px from by omega, hce] at this
        rw [hce]
        injection this with _ h
        simpa using h.symm
      have ht2 : cur.toList.take lx.length = flI lx := by rw [← htake]; congr 1; omega
      rw [hlen, Nat.mul_one]
      show (Value.int .i64 y :: rest).take lx.length = _
      obtain ⟨m, hm⟩ : ∃ m, lx.length = m + 1 := ⟨lx.length - 1, by omega⟩
      rw [hm, List.take_succ_cons, hr, List.take_append]
      have e3 : cs.take m = cs := List.take_of_length_le (by omega)
      have e4 : (cur.toList.drop px).take (m - cs.length) = (flI lx).drop px := by
        rw [← ht2, List.drop_take]
        congr 1; omega
      rw [e3, e4, hcsE]
      simp [flI]
  · exact (grownB hBX hg4 (by omega) (fun k e => by cases e; exact hBg)).setCell (p := ⟨g, 0, none⟩) hBg _
  · rw [World.cell?, hb4]; rfl

/-- 'append(v, x)' of one number to a row that is there: all other blocks stay. -/
theorem wpList_append_intK (wr : World) {ops : Array Oper} {rest : List Oper} {o : Oper} {a : Act} {Q : Exit → Act → World → Prop} (hgd : o.guard = none) (s x : Operand)
    (ho : o.op = .call { callee := .builtin .append, args := #[s, x], argTypes := #[23, 23] })
    (B g cap0 : Nat) (l : List Int) (hs : a.eval s = .slice (some ⟨g, 0, none⟩) l.length cap0) (hown : intsIn wr B (.slice (some ⟨g, 0, none⟩) l.length cap0) l)
    (X : Int) (cap : Nat) (hx : a.eval x = .slice (some ⟨wr.heap.size, 0, none⟩) 1 cap)
    (hb : l.length + 1 ≤ 4000000) (hbase : B ≤ wr.heap.size)
    (h : ∀ g' cap' w', intsIn w' B (.slice (some ⟨g', 0, none⟩) (l.length + 1) cap') (l ++ [X]) → wr.grownBy w' (some g) → wpList Try.prog ops Q rest (a.put o.dst (.slice (some ⟨g', 0, none⟩) (l.length + 1) cap')) w') : wpList Try.prog ops Q (o :: rest) a (wr.alloc (.cells #[.int .i64 X] 3)) := by
  obtain ⟨i0, hi, hz0, hz1, hz2⟩ := info_parts infoI
  refine wpList_append_own _ hgd s x 23 ho B 3 i0 (.int .i64 0) 1 8 Try.underlying23 hi hz0 hz1 hz2 rfl (by decide) _ l.length _ hs (World.ownsRow.alloc hown _) ⟨wr.heap.size, 0, none⟩ 1 cap [.int .i64 X] hx rfl ?_ ?_
    (by unfold maxLen; omega) (by omega) (by simp; omega) ?_
  · intro j u hj
    match j, hj with
    | 0, hj => simp at hj; subst hj; simp [Addr.add]
  · intro u hu; simp at hu; subst hu; rfl
  · intro v' w' hown' hg hne
    have hown2 : intsIn w' B v' (l ++ [X]) := by
      unfold intsIn
      rw [List.length_append, show flI (l ++ [X]) = flI l ++ [.int .i64 X] from by simp [flI]]
      exact hown'
    have hlen : (l ++ [X]).length = l.length + 1 := by simp
    have hown3 := hown2
    rcases hown2.2 with ⟨_, h0⟩ | ⟨g', cap', cur, rfl, _⟩
    · rw [hlen] at h0; omega
    · rw [hlen] at hown3 ⊢
      exact h g' cap' w' hown3 ⟨hg.os, hg.tape, hg.output, Nat.le_trans (by simp) hg.size, fun k hk hr => (hg.block k (by simp; omega) hr).trans (((Below.refl wr.heap.size wr).alloc (Nat.le_refl _) _).block k hk)⟩
theorem pile_stored {w w2 : World} {b B g g' cap cap' n : Nat} {l : List Int} {y : Int} (hb0 : w.heap[b]? = some (.cells #[.slice (some ⟨g, 0, none⟩) l.length cap, .int .i64 n] 54 (0, 0))) (hBb : B ≤ b) (hbg : b ≠ g) (hg : w.grownBy w2 (some g)) (hown : intsIn w2 B (.slice (some ⟨g', 0, none⟩) (l.length + 1) cap') (l ++ [y])) :
    PileAt (w2.setCell ⟨b, 0, none⟩ (.slice (some ⟨g', 0, none⟩) (l.length + 1) cap')) b B (l ++ [y]) n ∧ w2.cell? ⟨b, 0, none⟩ = some (.slice (some ⟨g, 0, none⟩) l.length cap) ∧ w2.frozen? ⟨b, 0, none⟩ = false := by
  have hb2 := (hg.block b (Array.getElem?_eq_some_iff.1 hb0).1 (fun e => hbg (Option.some.inj e))).trans hb0
  have hlen : (l ++ [y]).length = l.length + 1 := by simp
  refine ⟨⟨g', cap', ?_, hBb, ?_⟩, by rw [World.cell?, hb2]; rfl, by rw [World.frozen?, hb2]; rfl⟩
  · rw [hlen]; simp [World.setCell, hb2, Array.getElem?_modify]
  · rw [hlen]
    refine ⟨hown.1, ?_⟩
    rcases hown.2 with ⟨hn, _⟩ | ⟨g1, cap1, cur, he, hBg, hg1, rest⟩
    · cases hn
    · refine .inr ⟨g1, cap1, cur, he, hBg, ?_, rest⟩
      rw [Below.heap_setCell _ _ _ g1 (fun e => by
        rw [e] at hg1
        rw [hb2] at hg1
        injection hg1 with hg1
        injection hg1 with _ h _
        exact absurd h (by decide))]
      exact hg1

set_option maxRecDepth 20000 in
set_option maxHeartbeats 3200000 in
theorem moveAhead_any (b B : Nat) (l : List Int) (n : Nat) (y : Int) (w : World) (hn : n ≤ 100) (hl : l.length ≤ n) (hd : l.Nodup) (hB : B ≤ w.heap.size) (hp : PileAt w b B l n) :
    Calls Try.prog 47 #[.pointer (some ⟨b, 0, none⟩), .int .i64 y] w fun e w' => e = .returned (.tuple #[]) ∧ PileAt w' b B (tchN n l y) n ∧ Below B w w' := by
  obtain ⟨g0, cap0, hb00, hBb0, hown0⟩ := hp
  have HP : Hid (PileAt w b B l n) := ⟨g0, cap0, hb00, hBb0, hown0⟩
  have c0 : w.cell? ⟨b, 0, none⟩ = some (.slice (some ⟨g0, 0, none⟩) l.length cap0) := by simp [World.cell?, hb00]
  have c1 : w.cell? ⟨b, 1, none⟩ = some (.int .i64 n) := by simp [World.cell?, hb00]
  by_cases h0 : n = 0
  · subst h0
    have : l = [] := List.eq_nil_of_length_eq_zero (by omega)
    subst this
    clear hb00 hown0
    go_enter Try.func47, Try.ntmps47
    go_wp2_with fail
    exact bodyPost_ret (results_none rfl _ _ _) rfl ⟨rfl, HP.out, Below.refl _ _⟩
  have hn0 : ¬ ((n : Int) = 0) := by omega
  have HIW : Hid (IL w (some ⟨g0, 0, none⟩) l B w.heap.size) := by
    obtain ⟨a, cap, e, hh⟩ := iw_of hown0
    injection e with e1 e2 e3
    rw [← e1] at hh
    exact hh.il
  have HC : Hid _ := placeOf_any (some ⟨g0, 0, none⟩) cap0 l n y w B w.heap.size (by omega) HIW.out
  have hple := plc_le l y
  have HMt : Hid (0 < plc l y → tchN n l y = y :: (l.take (plc l y - 1) ++ l.drop (plc l y))) := fun h => move_there hd hl h
  have HMr : Hid (plc l y = 0 → l.length < n → tchN n l y = y :: l) := fun h h2 => move_room h2 h
  have HMf : Hid (plc l y = 0 → l.length = n → tchN n l y = y :: l.take (n - 1)) := fun h h2 => move_full h2 (by omega) h
  generalize plc l y = p at *
  clear hb00 hown0 hd HIW
  go_enter Try.func47, Try.ntmps47
  by_cases hp0' : p = 0
  · subst hp0'
    by_cases hlt : l.length < n
    · have HEQ0 : Hid (tchN n l y = y :: l) := HMr.out rfl hlt
      clear HMt HMr HMf
      have hli : (l.length : Int) < (n : Int) := by omega
      have hnq : decide ((l.length : Int) < (n : Int)) = true := decide_eq_true hli
      go_wp2_with (go_at_call 46; refine Calls.mono HC.out ?_; rintro e w1 ⟨rfl, hb1⟩; obtain ⟨g1, cap1, hbb, hBb1, hown1⟩ := HP.out.below hb1; have d0 : w1.cell? ⟨b, 0, none⟩ = some (.slice (some ⟨g1, 0, none⟩) l.length cap1) := (by simp [World.cell?, hbb]); have d1 : w1.cell? ⟨b, 1, none⟩ = some (.int .i64 n) := (by simp [World.cell?, hbb]))
      go_quiet (fail)
      obtain ⟨wx, hwx⟩ : ∃ wx, wx = w1.drewN nq := ⟨_, rfl⟩
      have hbx : wx.heap[b]? = some (.cells #[.slice (some ⟨g1, 0, none⟩) l.length cap1, .int .i64 n] 54 (0, 0)) := by rw [hwx]; exact hbb
      have hownx : intsIn wx B (.slice (some ⟨g1, 0, none⟩) l.length cap1) l := by rw [hwx]; exact hown1.below (below_drewN _ _)
      have hBX0 : Below B w wx := by rw [hwx]; exact (hb1.mono hB).trans ((below_drewN _ _).mono (Nat.le_trans hB hb1.size))
      have e0 : wx.cell? ⟨b, 0, none⟩ = some (.slice (some ⟨g1, 0, none⟩) l.length cap1) := by simp [World.cell?, hbx]
      have hbg1 : b ≠ g1 := fun e => by
        rcases hownx.2 with ⟨hn, _⟩ | ⟨g', cap', cur, he, _, hg, _⟩
        · cases hn
        · injection he with he1 _ _
          injection he1 with he1
          injection he1 with he1 _ _
          rw [← he1, ← e, hbx] at hg
          injection hg with hg
          injection hg with _ h _
          exact absurd h (by decide)
      have hBx : B ≤ wx.heap.size := Nat.le_trans hB hBX0.size
      rw [← hwx]
      clear hwx hbb hown1 d0 d1 hb1 HC HP c0 c1
      have HBb : Hid _ := hbx
      clear hbx
      go_wp2_with (at_builtin; refine wpList_append_intK wx rfl _ _ rfl B g1 cap1 l (by rfl) hownx y _ rfl (by omega) hBx ?_)
      intro g2 cap2 w2 hown2 hg2
      obtain ⟨hPA2, f0, f1⟩ := pile_stored HBb.out hBb1 hbg1 hg2 hown2
      have hbelg : ∀ k, some g1 = some k → B ≤ k := fun k e => by
        cases e
        exact (World.ownsRow.lt hownx g1 rfl).1
      have hBX2 : Below B w w2 := grownB hBX0 hg2 hBx hbelg
      have HPA2 : Hid _ := hPA2
      have HBX2 : Hid (Below B w (w2.setCell ⟨b, 0, none⟩ (.slice (some ⟨g2, 0, none⟩) (l.length + 1) cap2))) := hBX2.setCell (p := ⟨b, 0, none⟩) hBb1 _
      clear hPA2 hBX2 hown2 hg2 hownx hBX0 e0 hbelg HBb hbg1 hBx
      go_wp2_with fail
      obtain ⟨w3, hw3⟩ : ∃ w3, w3 = w2.setCell ⟨b, 0, none⟩ (.slice (some ⟨g2, 0, none⟩) (l.length + 1) cap2) := ⟨_, rfl⟩
      rw [← hw3] at HPA2 HBX2
      rw [← hw3]
      have hPl : ∃ lx, lx = l ++ [y] := ⟨_, rfl⟩
      obtain ⟨lx, hlx⟩ := hPl
      have hll : l.length + 1 = lx.length := by rw [hlx]; simp
      have hlli : (l.length : Int) + 1 = (lx.length : Int) := by omega
      rw [hlli, hll]
      have HEQ : Hid (tchN n l y = y :: (lx.take (lx.length - 1) ++ lx.drop lx.length)) := by
        show _ = _
        rw [HEQ0.out, List.drop_length, List.append_nil, ← hll, hlx, Nat.add_sub_cancel]
        simp
      have HX : Hid (PileAt w3 b B lx n) := by rw [hlx]; exact HPA2.out
      have HBX : Hid (Below B w w3) := HBX2.out
      have hp1 : 1 ≤ lx.length := by omega
      have hp2 : lx.length ≤ lx.length := Nat.le_refl _
      have hlx2 : lx.length ≤ n := by omega
      clear HPA2 HBX2 hw3 hlx hlli hll f0 f1 HEQ0 hlt hli hnq
      -- the copy and the store
      obtain ⟨g, cap, hb0, hBb, hown⟩ := HX.out
      rcases hown.2 with ⟨hn, _⟩ | ⟨g', cap', cur, he, hBg, hg, hnc, hcm, hcs, htake⟩
      · cases hn
      injection he with he1 he2 he3
      injection he1 with he1
      injection he1 with he1 he4 he5
      subst he1
      subst he3
      have hcur : cur.toList.length = cap := by rw [Array.length_toList]; omega
      have hbg : b ≠ g := fun e => by
        rw [e] at hb0
        rw [hb0] at hg
        injection hg with hg
        injection hg with _ h _
        exact absurd h (by decide)
      have c0 : w3.cell? ⟨b, 0, none⟩ = some (.slice (some ⟨g, 0, none⟩) lx.length cap) := by simp [World.cell?, hb0]
      have c1 : w3.cell? ⟨b, 1, none⟩ = some (.int .i64 n) := by simp [World.cell?, hb0]
      have hblt := (Array.getElem?_eq_some_iff.1 hb0).1
      obtain ⟨cs, hcsE⟩ : ∃ cs, cs = flI (lx.take (lx.length - 1)) := ⟨_, rfl⟩
      have hcl : cs.length = lx.length - 1 := by rw [hcsE, flI_len, List.length_take]; omega
      have hsrc : ∀ j v, cs[j]? = some v → w3.cell? ((⟨g, 0, none⟩ : Addr).add j) = some v := by
        intro j v hj
        refine World.ownsRow.cells hown (g := g) rfl j v ?_
        have hjl := (List.getElem?_eq_some_iff.1 hj).1
        rw [hcl] at hjl
        rw [hcsE] at hj
        unfold flI at hj ⊢
        rw [List.getElem?_map, List.getElem?_take, if_pos hjl] at hj
        rw [List.getElem?_map]
        exact hj
      have h1c : ∀ v ∈ cs, v.oneCell' = true := fun v hv => by rw [hcsE] at hv; exact flI_one _ v hv
      have HF : Hid (∀ (w4 : World), w4.heap[g]? = some (.cells (splice cur.toList 1 cs).toArray 3 (0, 0)) → w3.grownBy w4 (some g) → PileAt (w4.setCell ⟨g, 0, none⟩ (.int .i64 y)) b B (y :: (lx.take (lx.length - 1) ++ lx.drop lx.length)) n ∧ Below B w (w4.setCell ⟨g, 0, none⟩ (.int .i64 y)) ∧ w4.cell? ⟨b, 0, none⟩ = some (.slice (some ⟨g, 0, none⟩) lx.length cap) ∧ (∃ u, w4.cell? ⟨g, 0, none⟩ = some u) ∧ w4.frozen? ⟨g, 0, none⟩ = false) :=
        fun w4 h4 hg4 => moved_state HBX.out hp1 hp2 hb0 hBb hBg hnc hcm hcs htake hbg hcsE hcl w4 h4 hg4 hblt
      have hcurA : w3.heap[g]? = some (.cells cur.toList.toArray 3 (0, 0)) := by simpa using hg
      have hpc : lx.length ≤ cap := by omega
      have hp0 : (1 : Int) ≤ (lx.length : Int) := by omega
      have hk : lx.length - (lx.length - 1) = lx.length - lx.length + 1 := by omega
      clear hown HX hb0 hg htake hcsE
      go_wp2_with fail
      go_region_law (refine step_copy_keep rfl (.tmp 47) (.tmp 51) 23 23 rfl 3 Try.underlying23 (by kernel_rfl) (if cap = 1 then some ⟨g, 0, none⟩ else some ⟨g, 1, none⟩) (some ⟨g, 0, none⟩) (lx.length - 1) (cap - 1) lx.length cap (by rfl) (by rfl) g 1 cur.toList 3 (by first | exact hcurA | simpa using hcurA) cs (by rw [hcl]; simp only [Nat.min_def]; split <;> omega) (fun hcz => ⟨if_neg (by omega), _, rfl, by first | exact hsrc | simpa using hsrc⟩) (by rw [hcur, hcl]; omega) h1c ?_; intro w4 h4 hg4)
      all_goals
        obtain ⟨hPA, hBe, d0, ⟨u0, d1⟩, d2⟩ := HF.out w4 h4.out (by first | exact hg4 | exact grown_drew hg4 | exact grown_drewN hg4)
      all_goals
        have HPA : Hid _ := hPA
        have HBe : Hid _ := hBe
        clear hPA hBe HF h4 hg4 hsrc h1c hcurA hcur hcs hcl c0 c1
        go_wp2_with fail
      all_goals exact bodyPost_end (results_none rfl _ _ _) rfl ⟨rfl, by rw [HEQ.out]; exact HPA.out, HBe.out⟩
    · have hLE : Hid (l.length = n) := by show _ = _; omega
      have HEQ0 : Hid (tchN n l y = y :: l.take (n - 1)) := HMf.out rfl hLE.out
      clear HMt HMr HMf
      have hnli : ¬ ((l.length : Int) < (n : Int)) := by omega
      have hnq : decide ((l.length : Int) < (n : Int)) = false := decide_eq_false hnli
      go_wp2_with (go_at_call 46; refine Calls.mono HC.out ?_; rintro e w1 ⟨rfl, hb1⟩; obtain ⟨g1, cap1, hbb, hBb1, hown1⟩ := HP.out.below hb1; have d0 : w1.cell? ⟨b, 0, none⟩ = some (.slice (some ⟨g1, 0, none⟩) l.length cap1) := (by simp [World.cell?, hbb]); have d1 : w1.cell? ⟨b, 1, none⟩ = some (.int .i64 n) := (by simp [World.cell?, hbb]))
      go_quiet (fail)
      obtain ⟨wx, hwx⟩ : ∃ wx, wx = w1.drewN nq := ⟨_, rfl⟩
      have HX : Hid (PileAt wx b B l n) := by rw [hwx]; exact (HP.out.below hb1).below (below_drewN _ _)
      have HBX : Hid (Below B w wx) := by rw [hwx]; exact (hb1.mono hB).trans ((below_drewN _ _).mono (Nat.le_trans hB hb1.size))
      rw [← hwx]
      have HEQ : Hid (tchN n l y = y :: (l.take (l.length - 1) ++ l.drop l.length)) := by
        show _ = _
        rw [HEQ0.out, List.drop_length, List.append_nil, hLE.out]
      have hp1 : 1 ≤ l.length := by have := hLE.out; omega
      have hp2 : l.length ≤ l.length := Nat.le_refl _
      clear hwx hbb hown1 d0 d1 hb1 HC HP c0 c1 HEQ0
      -- the copy and the store
      obtain ⟨g, cap, hb0, hBb, hown⟩ := HX.out
      rcases hown.2 with ⟨hn, _⟩ | ⟨g', cap', cur, he, hBg, hg, hnc, hcm, hcs, htake⟩
      · cases hn
      injection he with he1 he2 he3
      injection he1 with he1
      injection he1 with he1 he4 he5
      subst he1
      subst he3
      have hcur : cur.toList.length = cap := by rw [Array.length_toList]; omega
      have hbg : b ≠ g := fun e => by
        rw [e] at hb0
        rw [hb0] at hg
        injection hg with hg
        injection hg with _ h _
        exact absurd h (by decide)
      have c0 : wx.cell? ⟨b, 0, none⟩ = some (.slice (some ⟨g, 0, none⟩) l.length cap) := by simp [World.cell?, hb0]
      have c1 : wx.cell? ⟨b, 1, none⟩ = some (.int .i64 n) := by simp [World.cell?, hb0]
      have hblt := (Array.getElem?_eq_some_iff.1 hb0).1
      obtain ⟨cs, hcsE⟩ : ∃ cs, cs = flI (l.take (l.length - 1)) := ⟨_, rfl⟩
      have hcl : cs.length = l.length - 1 := by rw [hcsE, flI_len, List.length_take]; omega
      have hsrc : ∀ j v, cs[j]? = some v → wx.cell? ((⟨g, 0, none⟩ : Addr).add j) = some v := by
        intro j v hj
        refine World.ownsRow.cells hown (g := g) rfl j v ?_
        have hjl := (List.getElem?_eq_some_iff.1 hj).1
        rw [hcl] at hjl
        rw [hcsE] at hj
        unfold flI at hj ⊢
        rw [List.getElem?_map, List.getElem?_take, if_pos hjl] at hj
        rw [List.getElem?_map]
        exact hj
      have h1c : ∀ v ∈ cs, v.oneCell' = true := fun v hv => by rw [hcsE] at hv; exact flI_one _ v hv
      have HF : Hid (∀ (w4 : World), w4.heap[g]? = some (.cells (splice cur.toList 1 cs).toArray 3 (0, 0)) → wx.grownBy w4 (some g) → PileAt (w4.setCell ⟨g, 0, none⟩ (.int .i64 y)) b B (y :: (l.take (l.length - 1) ++ l.drop l.length)) n ∧ Below B w (w4.setCell ⟨g, 0, none⟩ (.int .i64 y)) ∧ w4.cell? ⟨b, 0, none⟩ = some (.slice (some ⟨g, 0, none⟩) l.length cap) ∧ (∃ u, w4.cell? ⟨g, 0, none⟩ = some u) ∧ w4.frozen? ⟨g, 0, none⟩ = false) :=
        fun w4 h4 hg4 => moved_state HBX.out hp1 hp2 hb0 hBb hBg hnc hcm hcs htake hbg hcsE hcl w4 h4 hg4 hblt
      have hcurA : wx.heap[g]? = some (.cells cur.toList.toArray 3 (0, 0)) := by simpa using hg
      have hpc : l.length ≤ cap := by omega
      have hp0 : (1 : Int) ≤ (l.length : Int) := by omega
      have hk : l.length - (l.length - 1) = l.length - l.length + 1 := by omega
      clear hown HX hb0 hg htake hcsE
      go_wp2_with fail
      go_region_law (refine step_copy_keep rfl (.tmp 47) (.tmp 51) 23 23 rfl 3 Try.underlying23 (by kernel_rfl) (if cap = 1 then some ⟨g, 0, none⟩ else some ⟨g, 1, none⟩) (some ⟨g, 0, none⟩) (l.length - 1) (cap - 1) l.length cap (by rfl) (by rfl) g 1 cur.toList 3 (by first | exact hcurA | simpa using hcurA) cs (by rw [hcl]; simp only [Nat.min_def]; split <;> omega) (fun hcz => ⟨if_neg (by omega), _, rfl, by first | exact hsrc | simpa using hsrc⟩) (by rw [hcur, hcl]; omega) h1c ?_; intro w4 h4 hg4)
      all_goals
        obtain ⟨hPA, hBe, d0, ⟨u0, d1⟩, d2⟩ := HF.out w4 h4.out (by first | exact hg4 | exact grown_drew hg4 | exact grown_drewN hg4)
      all_goals
        have HPA : Hid _ := hPA
        have HBe : Hid _ := hBe
        clear hPA hBe HF h4 hg4 hsrc h1c hcurA hcur hcs hcl c0 c1
        go_wp2_with fail
      all_goals exact bodyPost_end (results_none rfl _ _ _) rfl ⟨rfl, by rw [HEQ.out]; exact HPA.out, HBe.out⟩
  · have hpi : ¬ ((p : Int) = 0) := by omega
    have HEQ : Hid (tchN n l y = y :: (l.take (p - 1) ++ l.drop p)) := HMt.out (by omega)
    clear HMt HMr HMf
    go_wp2_with (go_at_call 46; refine Calls.mono HC.out ?_; rintro e w1 ⟨rfl, hb1⟩)
    have HX : Hid (PileAt w1 b B l n) := HP.out.below hb1
    have HBX : Hid (Below B w w1) := (hb1.mono hB)
    have hp1 : 1 ≤ p := by omega
    have hp2 := hple
    clear HP HC hb1 c0 c1
    -- the copy and the store
    obtain ⟨g, cap, hb0, hBb, hown⟩ := HX.out
    rcases hown.2 with ⟨hn, _⟩ | ⟨g', cap', cur, he, hBg, hg, hnc, hcm, hcs, htake⟩
    · cases hn
    injection he with he1 he2 he3
    injection he1 with he1
    injection he1 with he1 he4 he5
    subst he1
    subst he3
    have hcur : cur.toList.length = cap := by rw [Array.length_toList]; omega
    have hbg : b ≠ g := fun e => by
      rw [e] at hb0
      rw [hb0] at hg
      injection hg with hg
      injection hg with _ h _
      exact absurd h (by decide)
    have c0 : w1.cell? ⟨b, 0, none⟩ = some (.slice (some ⟨g, 0, none⟩) l.length cap) := by simp [World.cell?, hb0]
    have c1 : w1.cell? ⟨b, 1, none⟩ = some (.int .i64 n) := by simp [World.cell?, hb0]
    have hblt := (Array.getElem?_eq_some_iff.1 hb0).1
    obtain ⟨cs, hcsE⟩ : ∃ cs, cs = flI (l.take (p - 1)) := ⟨_, rfl⟩
    have hcl : cs.length = p - 1 := by rw [hcsE, flI_len, List.length_take]; omega
    have hsrc : ∀ j v, cs[j]? = some v → w1.cell? ((⟨g, 0, none⟩ : Addr).add j) = some v := by
      intro j v hj
      refine World.ownsRow.cells hown (g := g) rfl j v ?_
      have hjl := (List.getElem?_eq_some_iff.1 hj).1
      rw [hcl] at hjl
      rw [hcsE] at hj
      unfold flI at hj ⊢
      rw [List.getElem?_map, List.getElem?_take, if_pos hjl] at hj
      rw [List.getElem?_map]
      exact hj
    have h1c : ∀ v ∈ cs, v.oneCell' = true := fun v hv => by rw [hcsE] at hv; exact flI_one _ v hv
    have HF : Hid (∀ (w4 : World), w4.heap[g]? = some (.cells (splice cur.toList 1 cs).toArray 3 (0, 0)) → w1.grownBy w4 (some g) → PileAt (w4.setCell ⟨g, 0, none⟩ (.int .i64 y)) b B (y :: (l.take (p - 1) ++ l.drop p)) n ∧ Below B w (w4.setCell ⟨g, 0, none⟩ (.int .i64 y)) ∧ w4.cell? ⟨b, 0, none⟩ = some (.slice (some ⟨g, 0, none⟩) l.length cap) ∧ (∃ u, w4.cell? ⟨g, 0, none⟩ = some u) ∧ w4.frozen? ⟨g, 0, none⟩ = false) :=
      fun w4 h4 hg4 => moved_state HBX.out hp1 hp2 hb0 hBb hBg hnc hcm hcs htake hbg hcsE hcl w4 h4 hg4 hblt
    have hcurA : w1.heap[g]? = some (.cells cur.toList.toArray 3 (0, 0)) := by simpa using hg
    have hpc : p ≤ cap := by omega
    have hp0 : (1 : Int) ≤ (p : Int) := by omega
    have hk : l.length - (p - 1) = l.length - p + 1 := by omega
    clear hown HX hb0 hg htake hcsE
    go_wp2_with fail
    go_region_law (refine step_copy_keep rfl (.tmp 47) (.tmp 51) 23 23 rfl 3 Try.underlying23 (by kernel_rfl) (if cap = 1 then some ⟨g, 0, none⟩ else some ⟨g, 1, none⟩) (some ⟨g, 0, none⟩) (p - 1) (cap - 1) l.length cap (by rfl) (by rfl) g 1 cur.toList 3 (by first | exact hcurA | simpa using hcurA) cs (by rw [hcl]; simp only [Nat.min_def]; split <;> omega) (fun hcz => ⟨if_neg (by omega), _, rfl, by first | exact hsrc | simpa using hsrc⟩) (by rw [hcur, hcl]; omega) h1c ?_; intro w4 h4 hg4)
    all_goals
      obtain ⟨hPA, hBe, d0, ⟨u0, d1⟩, d2⟩ := HF.out w4 h4.out (by first | exact hg4 | exact grown_drew hg4 | exact grown_drewN hg4)
    all_goals
      have HPA : Hid _ := hPA
      have HBe : Hid _ := hBe
      clear hPA hBe HF h4 hg4 hsrc h1c hcurA hcur hcs hcl c0 c1
      go_wp2_with fail
    all_goals exact bodyPost_end (results_none rfl _ _ _) rfl ⟨rfl, by rw [HEQ.out]; exact HPA.out, HBe.out⟩
end Go.Proofs.Yteniompfkfhemaa.Iia
