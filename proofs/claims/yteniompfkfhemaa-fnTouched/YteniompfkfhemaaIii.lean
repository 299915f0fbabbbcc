/-
  Walks: impl.pileOf; what is appended whole.
-/
import Derived.Test.YteniompfkfhemaaIih
namespace Go.Proofs.Yteniompfkfhemaa.Iia
open Go.RowKit

/-- What is appended: numbers behind an address, or none. -/
def SrcI (w : World) (x : Value) (l : List Int) : Prop := (x = .slice none 0 0 ∧ l = []) ∨ ∃ ad c, x = .slice (some ad) l.length c ∧ ∀ j u, (flI l)[j]? = some u → w.cell? (ad.add j) = some u
theorem srcI_of {w : World} {a : Option Addr} {c : Nat} {l : List Int} {lo hi : Nat} (h : IL w a l lo hi) (hn : a = none → l = [] ∧ c = 0) : SrcI w (.slice a l.length c) l := by
  cases a with
  | none => obtain ⟨rfl, rfl⟩ := hn rfl; exact .inl ⟨rfl, rfl⟩
  | some ad =>
    refine .inr ⟨ad, c, rfl, fun j u hj => ?_⟩
    unfold flI at hj
    rw [List.getElem?_map] at hj
    cases hx : l[j]? with
    | none => rw [hx] at hj; simp at hj
    | some x =>
      rw [hx] at hj
      have hu : Value.int .i64 x = u := by simpa using hj
      rw [← hu]
      rcases h with h | ⟨ad', h1, _, _, _, h5⟩
      · subst h; simp at hx
      · cases h1; exact h5 j x hx
theorem wpList_append_srcI (wr : World) {ops : Array Oper} {rest : List Oper} {o : Oper} {a : Act} {Q : Exit → Act → World → Prop} (hgd : o.guard = none) (s x : Operand)
    (ho : o.op = .call { callee := .builtin .append, args := #[s, x], argTypes := #[23, 23] })
    (B : Nat) (v : Value) (l : List Int) (hs : a.eval s = v) (hown : intsIn wr B v l) (X : Value) (l1 : List Int) (hx : a.eval x = X) (h1 : SrcI wr X l1)
    (hb : l.length + l1.length ≤ 4000000) (hbase : B ≤ wr.heap.size) (W : World) (hbel : Below B W wr)
    (h : ∀ v' w', intsIn w' B v' (l ++ l1) → Below B W w' → (v' = .slice none 0 0 → v = .slice none 0 0) → wpList Try.prog ops Q rest (a.put o.dst v') w') : wpList Try.prog ops Q (o :: rest) a wr := by
  obtain ⟨i0, hi, hz0, hz1, hz2⟩ := info_parts infoI
  rcases h1 with ⟨rfl, rfl⟩ | ⟨ad, c, rfl, hc⟩
  · refine wpList_append_own_none hgd s x 23 ho B 3 i0 1 Try.underlying23 hi v l.length _ hs hown hx ?_
    exact h v wr (by rw [List.append_nil]; exact hown) hbel (fun e => e)
  · refine wpList_append_own _ hgd s x 23 ho B 3 i0 (.int .i64 0) 1 8 Try.underlying23 hi hz0 hz1 hz2 rfl (by decide) v l.length _ hs hown ad l1.length c (flI l1) hx (by rw [flI_len]; omega)
      hc (flI_one _) (by unfold maxLen; omega) (by omega) hbase ?_
    intro v' w' hown' hg' he
    refine h v' w' ?_ (hbel.grown hg' hbase (fun k hk => (World.ownsRow.lt hown k hk).1)) (fun e => (he.1 e).1)
    unfold intsIn
    rw [List.length_append, show flI (l ++ l1) = flI l ++ flI l1 from by simp [flI]]
    exact hown'

set_option maxRecDepth 20000 in
set_option maxHeartbeats 1600000 in
theorem pileOf_any (X : Value) (l : List Int) (n : Nat) (w : World) (hn : n ≤ 100) (hl : l.length ≤ 2000000) (hs : ∀ wx, Below w.heap.size w wx → SrcI wx X l) :
    Calls Try.prog 45 #[X, .int .i64 n] w fun e w' => (∃ g cap, e = .returned (.agg #[.slice (some ⟨g, 0, none⟩) l.length cap, .int .i64 n]) ∧ intsIn w' w.heap.size (.slice (some ⟨g, 0, none⟩) l.length cap) l) ∧ Below w.heap.size w w' := by
  obtain ⟨i0, hi0, hz0, hz1, hz2⟩ := info_parts infoI
  obtain ⟨W0, hW0⟩ : ∃ W, W = w.alloc (.cells #[.slice none 0 0, .int .i64 0] 54) := ⟨_, rfl⟩
  have hB0 : Below w.heap.size w W0 := by rw [hW0]; exact (Below.refl _ _).alloc (Nat.le_refl _) _
  have hs0 : W0.heap.size = w.heap.size + 1 := by rw [hW0]; simp
  have hc0 : W0.heap[w.heap.size]? = some (.cells #[.slice none 0 0, .int .i64 0] 54 (0, 0)) := by rw [hW0]; show (w.heap.push _)[w.heap.size]? = _; simp
  have hmk := run_make (P := Try.prog) W0 23 3 i0 _ Try.underlying23 hi0 hz0 .i64 .i64 (0 : Int) (n : Int) (by omega) (by omega) (by rw [hz2]; omega) (by omega)
  rw [hz1, Int.toNat_natCast] at hmk
  have hmk2 : (Instr.makeSlice 23 (.int .i64 0) (.int .i64 (n : Int))).run Try.prog W0 = .ok (.slice (some ⟨W0.heap.size, 0, none⟩) 0 n) (W0.alloc (.cells (madeCells #[.int .i64 0] (n * 1)) 3)) := hmk
  clear hmk
  obtain ⟨W1, hW1⟩ : ∃ W, W = W0.alloc (.cells (madeCells #[.int .i64 0] (n * 1)) 3) := ⟨_, rfl⟩
  have hown1 : intsIn W1 W0.heap.size (.slice (some ⟨W0.heap.size, 0, none⟩) 0 n) [] := by
    rw [hW1]
    refine ⟨rfl, .inr ⟨W0.heap.size, n, _, rfl, Nat.le_refl _, by show (W0.heap.push _)[W0.heap.size]? = _; simp; rfl, Nat.zero_le _, by unfold maxLen; omega, by simp [madeCells], by simp [flI]⟩⟩
  have hB1 : Below W0.heap.size W0 W1 := by rw [hW1]; exact (Below.refl _ _).alloc (Nat.le_refl _) _
  rw [← hW1] at hmk2
  have hown2 : intsIn W1 (w.heap.size + 1) (.slice (some ⟨w.heap.size + 1, 0, none⟩) 0 n) [] := by
    have := hown1
    rwa [hs0] at this
  have hz1' : w.heap.size + 1 ≤ W1.heap.size := by have := hB1.size; omega
  rw [hs0] at hmk2
  have hB2 : Below w.heap.size w W1 := hB0.trans (hB1.mono hB0.size)
  have HK : Hid (∀ (wx : World), Below (w.heap.size + 1) W1 wx → wx.heap[w.heap.size]? = some (.cells #[.slice none 0 0, .int .i64 0] 54 (0, 0))) := fun wx h => by
    have e1 := hB1.block w.heap.size (by omega)
    exact (h.block w.heap.size (by omega)).trans (e1.trans hc0)
  have HS : Hid (SrcI W1 X l) := hs W1 (hB0.trans (hB1.mono hB0.size))
  have HG : Hid (∀ (wx : World), wx.heap[w.heap.size]? = some (.cells #[.slice none 0 0, .int .i64 0] 54 (0, 0)) → wx.cell? ⟨w.heap.size, 0, none⟩ = some (.slice none 0 0) ∧ wx.cell? ⟨w.heap.size, 1, none⟩ = some (.int .i64 0) ∧ (∀ i, wx.frozen? ⟨w.heap.size, i, none⟩ = false)) :=
    fun wx h => ⟨by rw [World.cell?, h]; rfl, by rw [World.cell?, h]; rfl, fun i => by simp [World.frozen?, h]⟩
  rw [hW0] at hmk2
  clear hW1 hs hi0 hz0 hz1 hz2 hs0 hc0 hB0 hown1 hB1 hW0
  go_enter Try.func45, Try.ntmps45
  go_wp2_with (at_builtin; refine wpList_append_srcI W1 rfl _ _ rfl (w.heap.size + 1) (.slice (some ⟨w.heap.size + 1, 0, none⟩) 0 n) [] (by rfl) hown2 X l (by rfl) HS.out (by simp; omega) hz1' W1 (Below.refl _ _) ?_)
  intro v2 w2 hown3 hb3 hne
  obtain ⟨f0, f1, f2⟩ := HG.out w2 (HK.out w2 hb3)
  have f3 := f2 0
  have f4 := f2 1
  have hv2 : ∃ g cap, v2 = .slice (some ⟨g, 0, none⟩) l.length cap := by
    rcases hown3.2 with ⟨h, _⟩ | ⟨g, cap, _, h, _⟩
    · exact absurd h hne
    · exact ⟨g, cap, h⟩
  obtain ⟨g, cap, rfl⟩ := hv2
  have HO : Hid (∀ w3, Below (w.heap.size + 1) w2 w3 → True) := fun _ _ => trivial
  have hg0 : w.heap.size ≠ g := fun e => by
    have := (World.ownsRow.lt hown3 g rfl).1
    omega
  have HR : Hid (intsIn ((w2.setCell ⟨w.heap.size, 0, none⟩ (.slice (some ⟨g, 0, none⟩) l.length cap)).setCell ⟨w.heap.size, 1, none⟩ (.int .i64 n)) w.heap.size (.slice (some ⟨g, 0, none⟩) l.length cap) l) := by
    have hb := hown3.base (Nat.le_succ _)
    refine ⟨hb.1, ?_⟩
    rcases hb.2 with ⟨hn, _⟩ | ⟨g1, cap1, cur, he, hBg, hg1, rest⟩
    · cases hn
    · have hgg : g1 = g := by
        injection he with he1 _ _
        injection he1 with he1
        injection he1 with he1 _ _
        exact he1.symm
      refine .inr ⟨g1, cap1, cur, he, hBg, ?_, rest⟩
      rw [Below.heap_setCell _ _ _ g1 (by show g1 ≠ w.heap.size; omega), Below.heap_setCell _ _ _ g1 (by show g1 ≠ w.heap.size; omega)]
      exact hg1
  have HRB : Hid (Below w.heap.size w ((w2.setCell ⟨w.heap.size, 0, none⟩ (.slice (some ⟨g, 0, none⟩) l.length cap)).setCell ⟨w.heap.size, 1, none⟩ (.int .i64 n))) :=
    ((hB2.trans (hb3.mono (Nat.le_succ _))).setCell (p := ⟨w.heap.size, 0, none⟩) (Nat.le_refl _) _).setCell (p := ⟨w.heap.size, 1, none⟩) (Nat.le_refl _) _
  clear hown3 hb3 hne hown2 hB2 HK HS HG hmk2 f2 HO
  go_wp2_with fail
  exact bodyPost_ret (v := .agg #[.slice (some ⟨g, 0, none⟩) l.length cap, .int .i64 n]) (by simp [results, Try.results45, go_sem, f0, f1]) rfl ⟨⟨g, cap, rfl, HR.out⟩, HRB.out⟩

end Go.Proofs.Yteniompfkfhemaa.Iia
