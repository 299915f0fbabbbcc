/-
  Lists of tags that the call itself makes: what an append of a tag leaves; how they are read; compared.
-/
import Derived.Test.YtgidmoncocbfiaaDoorMrk
import Derived.WalkKit
namespace Go.Proofs.YtgidmoncocbfiaaDoor.Tgb
open Go.RowKit
open Go.Proofs.YtgidmoncocbfiaaDoor.Mrk (same_text below_drewN grown_below grown_of grown_set below_grown)

theorem infoG : (Tryd.prog.info? 24).map (fun i => (i.zero, i.size, i.bytes)) = some (some (.agg #[.bool false, .string ⟨#[]⟩]), 2, 24) := by kernel_rfl

/-- The cells of a list of tags. -/
def flatG (l : List (Bool × ByteArray)) : List Value := l.flatMap fun c => [.bool c.1, .string c.2]
theorem flat_len (l : List (Bool × ByteArray)) : (flatG l).length = l.length * 2 := by
  induction l with
  | nil => rfl
  | cons c r ih => simp only [flatG, List.flatMap_cons, List.length_append, List.length_cons, List.length_nil] at ih ⊢; omega
theorem flat_snoc (l : List (Bool × ByteArray)) (c : Bool × ByteArray) : flatG (l ++ [c]) = flatG l ++ [.bool c.1, .string c.2] := by simp [flatG]

/-- The value v holds the tags l, in memory of the call's own from block B on. -/
def tagsIn (w : World) (B : Nat) (v : Value) (l : List (Bool × ByteArray)) : Prop := w.ownsRow B 24 2 v l.length (flatG l)

theorem tagsIn.below {w w' : World} {B : Nat} {v : Value} {l : List (Bool × ByteArray)} (h : tagsIn w B v l) (hb : Below w.heap.size w w') : tagsIn w' B v l := by
  refine ⟨h.1, ?_⟩
  rcases h.2 with hn | ⟨g, cap, cur, rfl, hbg, hg, rest⟩
  · exact .inl hn
  · exact .inr ⟨g, cap, cur, rfl, hbg, (hb.block g (Array.getElem?_eq_some_iff.1 hg).1).trans hg, rest⟩
theorem tagsIn.nil (w : World) (B : Nat) : tagsIn w B (.slice none 0 0) [] := ⟨rfl, .inl ⟨rfl, rfl⟩⟩

/-- 'append(v, c)' of one tag, for the walk. -/
theorem wpList_append_tag (wr : World) {ops : Array Oper} {rest : List Oper} {o : Oper} {a : Act} {Q : Exit → Act → World → Prop} (hgd : o.guard = none) (s x : Operand)
    (ho : o.op = .call { callee := .builtin .append, args := #[s, x], argTypes := #[33, 33] })
    (B : Nat) (v : Value) (l : List (Bool × ByteArray)) (hs : a.eval s = v) (hown : tagsIn wr B v l)
    (X : Bool) (z : ByteArray) (cap : Nat) (hx : a.eval x = .slice (some ⟨wr.heap.size, 0, none⟩) 1 cap)
    (hb : l.length + 1 ≤ 1000000) (hbase : B ≤ wr.heap.size) (B0 : Nat) (hB0 : B0 ≤ B) (W : World) (hbel : Below B0 W wr)
    (h : ∀ v' w', tagsIn w' B v' (l ++ [(X, z)]) → Below B0 W w' → wpList Tryd.prog ops Q rest (a.put o.dst v') w') : wpList Tryd.prog ops Q (o :: rest) a (wr.alloc (.cells #[.bool X, .string z] 24)) := by
  obtain ⟨i0, hi, hz0, hz1, hz2⟩ := info_parts infoG
  refine wpList_append_own _ hgd s x 33 ho B 24 i0 (.agg #[.bool false, .string ⟨#[]⟩]) 2 24 Tryd.underlying33 hi hz0 hz1 hz2 rfl (by decide) v l.length _ hs (World.ownsRow.alloc hown _) ⟨wr.heap.size, 0, none⟩ 1 cap [.bool X, .string z] hx rfl ?_ ?_
    (by unfold maxLen; omega) (by omega) (by simp; omega) ?_
  · intro j u hj
    match j, hj with
    | 0, hj => simp at hj; subst hj; simp [Addr.add]
    | 1, hj => simp at hj; subst hj; simp [Addr.add]
  · intro u hu; simp at hu; rcases hu with rfl | rfl <;> rfl
  · intro v' w' hown' hg _
    refine h v' w' ?_ ((hbel.alloc (by omega) _).grown hg (by simp; omega) (fun k hk => Nat.le_trans hB0 (World.ownsRow.lt hown k hk).1))
    unfold tagsIn
    rw [List.length_append, flat_snoc]
    exact hown'

theorem tagsIn.made (w : World) (B : Nat) (h : B ≤ w.heap.size) : tagsIn (w.alloc (.cells #[] 24)) B (.slice (some ⟨w.heap.size, 0, none⟩) 0 0) [] :=
  ⟨rfl, .inr ⟨w.heap.size, 0, #[], rfl, h, by show (w.heap.push _)[w.heap.size]? = _; simp, Nat.le_refl _, by decide, rfl, rfl⟩⟩
theorem tagsIn.alloc {w : World} {B : Nat} {v : Value} {l : List (Bool × ByteArray)} (h : tagsIn w B v l) (o : Obj) : tagsIn (w.alloc o) B v l := World.ownsRow.alloc h o
theorem tagsIn.base {w : World} {B B' : Nat} {v : Value} {l : List (Bool × ByteArray)} (h : tagsIn w B v l) (hB : B' ≤ B) : tagsIn w B' v l := by
  refine ⟨h.1, ?_⟩
  rcases h.2 with hn | ⟨g, cap, cur, rfl, hbg, rest⟩
  · exact .inl hn
  · exact .inr ⟨g, cap, cur, rfl, Nat.le_trans hB hbg, rest⟩

theorem flat_at : ∀ (l : List (Bool × ByteArray)) (i : Nat) (c : Bool × ByteArray), l[i]? = some c → (flatG l)[i * 2]? = some (.bool c.1) ∧ (flatG l)[i * 2 + 1]? = some (.string c.2)
  | [], i, c, h => by simp at h
  | d :: r, 0, c, h => by
    have : d = c := by simpa using h
    subst this
    exact ⟨rfl, rfl⟩
  | d :: r, i + 1, c, h => by
    have := flat_at r i c (by simpa using h)
    have e : flatG (d :: r) = .bool d.1 :: .string d.2 :: flatG r := rfl
    rw [e, show (i + 1) * 2 = i * 2 + 1 + 1 from by omega, show i * 2 + 1 + 1 + 1 = (i * 2 + 1) + 1 + 1 from rfl]
    simpa using this

/-- A row of tags in a block. -/
def RowG (w : World) (g : Nat) (l : List (Bool × ByteArray)) : Prop := g < w.heap.size ∧ (∀ i, w.frozen? ⟨g, i, none⟩ = false) ∧ ∀ i c, l[i]? = some c → w.cell? ⟨g, i * 2, none⟩ = some (.bool c.1) ∧ w.cell? ⟨g, i * 2 + 1, none⟩ = some (.string c.2)
/-- A list of tags: empty, or in a block from lo on and below hi. -/
def GV (w : World) (a : Option Addr) (l : List (Bool × ByteArray)) (lo hi : Nat) : Prop := l = [] ∨ ∃ g, a = some ⟨g, 0, none⟩ ∧ lo ≤ g ∧ g < hi ∧ RowG w g l

theorem RowG.below {w w' : World} {g : Nat} {l : List (Bool × ByteArray)} (h : RowG w g l) (hb : Below w.heap.size w w') : RowG w' g l :=
  ⟨Nat.lt_of_lt_of_le h.1 hb.size, fun i => (hb.frozen (p := ⟨g, i, none⟩) h.1).trans (h.2.1 i), fun i c hc => ⟨(hb.cell (p := ⟨g, i * 2, none⟩) h.1).trans (h.2.2 i c hc).1, (hb.cell (p := ⟨g, i * 2 + 1, none⟩) h.1).trans (h.2.2 i c hc).2⟩⟩
theorem GV.below {w w' : World} {a : Option Addr} {l : List (Bool × ByteArray)} {lo hi : Nat} (h : GV w a l lo hi) (hb : Below w.heap.size w w') : GV w' a l lo hi := by
  rcases h with h | ⟨g, h1, h2, h3, h4⟩
  · exact .inl h
  · exact .inr ⟨g, h1, h2, h3, h4.below hb⟩
theorem gv_of {w : World} {B : Nat} {v : Value} {l : List (Bool × ByteArray)} (h : tagsIn w B v l) : ∃ a cap, v = .slice a l.length cap ∧ GV w a l B w.heap.size := by
  have hh := h
  rcases h.2 with ⟨rfl, h0⟩ | ⟨g, cap, cur, rfl, hbg, hg, hnc, hcm, hcs, htake⟩
  · have hl : l = [] := by simpa using h0
    subst hl
    exact ⟨none, 0, rfl, .inl rfl⟩
  · refine ⟨_, _, rfl, .inr ⟨g, rfl, hbg, (Array.getElem?_eq_some_iff.1 hg).1, (Array.getElem?_eq_some_iff.1 hg).1, fun i => by simp [World.frozen?, hg], fun i c hc => ?_⟩⟩
    obtain ⟨f1, f2⟩ := flat_at l i c hc
    have e1 := World.ownsRow.cells hh (g := g) rfl (i * 2) _ f1
    have e2 := World.ownsRow.cells hh (g := g) rfl (i * 2 + 1) _ f2
    rw [Addr.add_lit, Nat.zero_add] at e1 e2
    exact ⟨e1, e2⟩


theorem GV.kept {w w' : World} {a : Option Addr} {l : List (Bool × ByteArray)} {lo hi : Nat} (h : GV w a l lo hi) {row : Option Nat} (hg : w.grownBy w' row) (hr : ∀ g, row = some g → hi ≤ g) : GV w' a l lo hi := by
  rcases h with h | ⟨g, h1, h2, h3, h4, h5, h6⟩
  · exact .inl h
  · have hb : w'.heap[g]? = w.heap[g]? := hg.block g h4 (fun e => by have := hr g e.symm; omega)
    have hc : ∀ i, w'.cell? ⟨g, i, none⟩ = w.cell? ⟨g, i, none⟩ := fun i => by unfold World.cell?; rw [hb]
    refine .inr ⟨g, h1, h2, h3, Nat.lt_of_lt_of_le h4 hg.size, fun i => ?_, fun i c hi => ⟨(hc _).trans (h6 i c hi).1, (hc _).trans (h6 i c hi).2⟩⟩
    have := h5 i
    unfold World.frozen? at this ⊢
    rwa [hb]
theorem GV.wide {w : World} {a : Option Addr} {l : List (Bool × ByteArray)} {lo hi lo' hi' : Nat} (h : GV w a l lo hi) (h1 : lo' ≤ lo) (h2 : hi ≤ hi') : GV w a l lo' hi' := by
  rcases h with h | ⟨g, e, g1, g2, hr⟩
  · exact .inl h
  · exact .inr ⟨g, e, by omega, by omega, hr⟩

theorem eqG_one (X : Bool) (z : ByteArray) (w : World) :
    Calls Tryd.prog 28 #[.agg #[.bool X, .string z], .agg #[.bool X, .string z]] w fun e w' => e = .returned (.bool true) ∧ Below w.heap.size w w' := by
  have hs := same_text z
  have hx : (X != X) = false := by simp
  go_enter Tryd.func28, Tryd.ntmps28
  go_wp2
  go_ret
  exact ⟨rfl, ((Below.refl _ _).alloc (Nat.le_refl _) _).alloc (by simp) _⟩

set_option maxHeartbeats 800000 in
theorem eqGS_any (a b : Option Addr) (ca cb : Nat) (l : List (Bool × ByteArray)) (w : World) (lo hi lo' hi' : Nat) (hl : l.length ≤ 2000000) (ha : GV w a l lo hi) (hb : GV w b l lo' hi') :
    Calls Tryd.prog 14 #[.slice a l.length ca, .slice b l.length cb] w fun e w' => e = .returned (.bool true) ∧ Below w.heap.size w w' := by
  by_cases h0 : l = []
  · subst h0
    go_enter Tryd.func14, Tryd.ntmps14
    go_wp2_with fail
    go_loop [5] (fun i => i = .int .i64 0) (fun _ => 0)
    case atStart => rfl
    case round =>
      obtain rfl := hrel
      go_wp2_with fail
      go_ret
      exact ⟨rfl, Below.refl _ _⟩
  · rcases ha with ha | ⟨g, rfl, _, _, ga⟩
    · exact absurd ha h0
    rcases hb with hb | ⟨g', rfl, _, _, gb⟩
    · exact absurd hb h0
    have GA : Hid (RowG w g l) := ga
    have GB : Hid (RowG w g' l) := gb
    go_enter Tryd.func14, Tryd.ntmps14
    go_wp2_with fail
    go_loopw [5] (fun i wr => ∃ k : Nat, k ≤ l.length ∧ i = .int .i64 k ∧ Below w.heap.size w wr) (fun i _ => l.length - (intOf i).toNat)
    case atStart => exact ⟨0, by omega, rfl, Below.refl _ _⟩
    case round =>
      obtain ⟨k, hk, rfl, hbel⟩ := hrel
      by_cases hlt : k < l.length
      · obtain ⟨ca1, ca2⟩ := (GA.out.below hbel).2.2 k l[k] (List.getElem?_eq_getElem hlt)
        obtain ⟨cb1, cb2⟩ := (GB.out.below hbel).2.2 k l[k] (List.getElem?_eq_getElem hlt)
        have HE : Hid _ := eqG_one l[k].1 l[k].2
        go_wp2_with fail
        go_region_with (go_at_call 28; refine (HE.out _).mono ?_; rintro e w2 ⟨rfl, hb2⟩)
        all_goals
          go_wp2_with fail
          go_roundw
          case rel => exact ⟨k + 1, by omega, by go_num, hbel.drew.trans (hb2.mono hbel.size)⟩
          case measure => simp [intOf]; omega
      · go_wp2_with fail
        go_ret
        exact ⟨rfl, hbel⟩


end Go.Proofs.YtgidmoncocbfiaaDoor.Tgb
