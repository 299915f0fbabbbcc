/-
  Lists of fields that the call itself makes: what an append of a field leaves; how they are read.
-/
import Derived.Test.YtfgcgnhffljiaaaGreatDoorMrk
import Derived.Test.YtfgcgnhffljiaaaGreatDoorFgd
import Derived.Test.YtfgcgnhffljiaaaGreatDoorLwf
import Derived.Test.YtfgcgnhffljiaaaGreatDoorLof
namespace Go.Proofs.YtfgcgnhffljiaaaGreatDoor.Fdb
open Go.RowKit
open Go.Proofs.YtfgcgnhffljiaaaGreatDoor.Fbs
open Go.Proofs.YtfgcgnhffljiaaaGreatDoor.Mrk (same_text below_drewN below_grown)

theorem infoF : (Tryz.prog.info? 108).map (fun i => (i.zero, i.size, i.bytes)) = some (some (.agg #[.string ⟨#[]⟩, .string ⟨#[]⟩]), 2, 32) := by kernel_rfl

/-- The cells of a list of fields. -/
def flatF (l : List (ByteArray × ByteArray)) : List Value := l.flatMap fun c => [.string c.1, .string c.2]
theorem flat_len (l : List (ByteArray × ByteArray)) : (flatF l).length = l.length * 2 := by
  induction l with
  | nil => rfl
  | cons c r ih => simp only [flatF, List.flatMap_cons, List.length_append, List.length_cons, List.length_nil] at ih ⊢; omega
theorem flat_snoc (l : List (ByteArray × ByteArray)) (c : ByteArray × ByteArray) : flatF (l ++ [c]) = flatF l ++ [.string c.1, .string c.2] := by simp [flatF]

/-- The value v holds the fields l, in memory of the call's own from block B on. -/
def fieldsIn (w : World) (B : Nat) (v : Value) (l : List (ByteArray × ByteArray)) : Prop := w.ownsRow B 108 2 v l.length (flatF l)

theorem fieldsIn.below {w w' : World} {B : Nat} {v : Value} {l : List (ByteArray × ByteArray)} (h : fieldsIn w B v l) (hb : Below w.heap.size w w') : fieldsIn w' B v l := by
  refine ⟨h.1, ?_⟩
  rcases h.2 with hn | ⟨g, cap, cur, rfl, hbg, hg, rest⟩
  · exact .inl hn
  · exact .inr ⟨g, cap, cur, rfl, hbg, (hb.block g (Array.getElem?_eq_some_iff.1 hg).1).trans hg, rest⟩
theorem fieldsIn.nil (w : World) (B : Nat) : fieldsIn w B (.slice none 0 0) [] := ⟨rfl, .inl ⟨rfl, rfl⟩⟩

/-- 'append(v, c)' of one field, for the walk. -/
theorem wpList_append_field (wr : World) {ops : Array Oper} {rest : List Oper} {o : Oper} {a : Act} {Q : Exit → Act → World → Prop} (hgd : o.guard = none) (s x : Operand)
    (ho : o.op = .call { callee := .builtin .append, args := #[s, x], argTypes := #[29, 29] })
    (B : Nat) (v : Value) (l : List (ByteArray × ByteArray)) (hs : a.eval s = v) (hown : fieldsIn wr B v l)
    (X z : ByteArray) (cap : Nat) (hx : a.eval x = .slice (some ⟨wr.heap.size, 0, none⟩) 1 cap)
    (hb : l.length + 1 ≤ 1000000) (hbase : B ≤ wr.heap.size) (B0 : Nat) (hB0 : B0 ≤ B) (W : World) (hbel : Below B0 W wr)
    (h : ∀ v' w', fieldsIn w' B v' (l ++ [(X, z)]) → Below B0 W w' → wpList Tryz.prog ops Q rest (a.put o.dst v') w') : wpList Tryz.prog ops Q (o :: rest) a (wr.alloc (.cells #[.string X, .string z] 108)) := by
  obtain ⟨i0, hi, hz0, hz1, hz2⟩ := info_parts infoF
  refine wpList_append_own _ hgd s x 29 ho B 108 i0 (.agg #[.string ⟨#[]⟩, .string ⟨#[]⟩]) 2 32 Tryz.underlying29 hi hz0 hz1 hz2 rfl (by decide) v l.length _ hs (World.ownsRow.alloc hown _) ⟨wr.heap.size, 0, none⟩ 1 cap [.string X, .string z] hx rfl ?_ ?_
    (by unfold maxLen; omega) (by omega) (by simp; omega) ?_
  · intro j u hj
    match j, hj with
    | 0, hj => simp at hj; subst hj; simp [Addr.add]
    | 1, hj => simp at hj; subst hj; simp [Addr.add]
  · intro u hu; simp at hu; rcases hu with rfl | rfl <;> rfl
  · intro v' w' hown' hg _
    refine h v' w' ?_ ((hbel.alloc (by omega) _).grown hg (by simp; omega) (fun k hk => Nat.le_trans hB0 (World.ownsRow.lt hown k hk).1))
    unfold fieldsIn
    rw [List.length_append, flat_snoc]
    exact hown'

theorem fieldsIn.made (w : World) (B : Nat) (h : B ≤ w.heap.size) : fieldsIn (w.alloc (.cells #[] 108)) B (.slice (some ⟨w.heap.size, 0, none⟩) 0 0) [] :=
  ⟨rfl, .inr ⟨w.heap.size, 0, #[], rfl, h, by show (w.heap.push _)[w.heap.size]? = _; simp, Nat.le_refl _, by decide, rfl, rfl⟩⟩
theorem fieldsIn.alloc {w : World} {B : Nat} {v : Value} {l : List (ByteArray × ByteArray)} (h : fieldsIn w B v l) (o : Obj) : fieldsIn (w.alloc o) B v l := World.ownsRow.alloc h o
theorem fieldsIn.base {w : World} {B B' : Nat} {v : Value} {l : List (ByteArray × ByteArray)} (h : fieldsIn w B v l) (hB : B' ≤ B) : fieldsIn w B' v l := by
  refine ⟨h.1, ?_⟩
  rcases h.2 with hn | ⟨g, cap, cur, rfl, hbg, rest⟩
  · exact .inl hn
  · exact .inr ⟨g, cap, cur, rfl, Nat.le_trans hB hbg, rest⟩

theorem flat_at : ∀ (l : List (ByteArray × ByteArray)) (i : Nat) (c : ByteArray × ByteArray), l[i]? = some c → (flatF l)[i * 2]? = some (.string c.1) ∧ (flatF l)[i * 2 + 1]? = some (.string c.2)
  | [], i, c, h => by simp at h
  | d :: r, 0, c, h => by
    have : d = c := by simpa using h
    subst this
    exact ⟨rfl, rfl⟩
  | d :: r, i + 1, c, h => by
    have := flat_at r i c (by simpa using h)
    have e : flatF (d :: r) = .string d.1 :: .string d.2 :: flatF r := rfl
    rw [e, show (i + 1) * 2 = i * 2 + 1 + 1 from by omega, show i * 2 + 1 + 1 + 1 = (i * 2 + 1) + 1 + 1 from rfl]
    simpa using this

/-- A row of fields in a block. -/
def RowF (w : World) (g : Nat) (l : List (ByteArray × ByteArray)) : Prop := g < w.heap.size ∧ (∀ i, w.frozen? ⟨g, i, none⟩ = false) ∧ ∀ i c, l[i]? = some c → w.cell? ⟨g, i * 2, none⟩ = some (.string c.1) ∧ w.cell? ⟨g, i * 2 + 1, none⟩ = some (.string c.2)
/-- A list of fields: empty, or in a block from lo on and below hi. -/
def FV (w : World) (a : Option Addr) (l : List (ByteArray × ByteArray)) (lo hi : Nat) : Prop := l = [] ∨ ∃ g, a = some ⟨g, 0, none⟩ ∧ lo ≤ g ∧ g < hi ∧ RowF w g l

theorem RowF.below {w w' : World} {g : Nat} {l : List (ByteArray × ByteArray)} (h : RowF w g l) (hb : Below w.heap.size w w') : RowF w' g l :=
  ⟨Nat.lt_of_lt_of_le h.1 hb.size, fun i => (hb.frozen (p := ⟨g, i, none⟩) h.1).trans (h.2.1 i), fun i c hc => ⟨(hb.cell (p := ⟨g, i * 2, none⟩) h.1).trans (h.2.2 i c hc).1, (hb.cell (p := ⟨g, i * 2 + 1, none⟩) h.1).trans (h.2.2 i c hc).2⟩⟩
theorem FV.below {w w' : World} {a : Option Addr} {l : List (ByteArray × ByteArray)} {lo hi : Nat} (h : FV w a l lo hi) (hb : Below w.heap.size w w') : FV w' a l lo hi := by
  rcases h with h | ⟨g, h1, h2, h3, h4⟩
  · exact .inl h
  · exact .inr ⟨g, h1, h2, h3, h4.below hb⟩
theorem fv_of {w : World} {B : Nat} {v : Value} {l : List (ByteArray × ByteArray)} (h : fieldsIn w B v l) : ∃ a cap, v = .slice a l.length cap ∧ FV w a l B w.heap.size := by
  have hh := h
  rcases h.2 with ⟨rfl, h0⟩ | ⟨g, cap, cur, rfl, hbg, hg, hnc, hcm, hcs, htake⟩
  · have hl : l = [] := by simpa using h0
    subst hl
    exact ⟨none, 0, rfl, .inl rfl⟩
  · refine ⟨_, _, rfl, .inr ⟨g, rfl, hbg, (Array.getElem?_eq_some_iff.1 hg).1, (Array.getElem?_eq_some_iff.1 hg).1, fun i => by simp [World.frozen?, hg], fun i c hc => ?_⟩⟩
    obtain ⟨f1, f2⟩ := flat_at l i c hc
    have e1 := World.ownsRow.cells hh (g := g) rfl (i * 2) _ f1
    have e2 := World.ownsRow.cells hh (g := g) rfl (i * 2 + 1) _ f2
    rw [Addr.add_lit, Nat.zero_add] at e1 e2
    exact ⟨e1, e2⟩


theorem FV.kept {w w' : World} {a : Option Addr} {l : List (ByteArray × ByteArray)} {lo hi : Nat} (h : FV w a l lo hi) {row : Option Nat} (hg : w.grownBy w' row) (hr : ∀ g, row = some g → hi ≤ g) : FV w' a l lo hi := by
  rcases h with h | ⟨g, h1, h2, h3, h4, h5, h6⟩
  · exact .inl h
  · have hb : w'.heap[g]? = w.heap[g]? := hg.block g h4 (fun e => by have := hr g e.symm; omega)
    have hc : ∀ i, w'.cell? ⟨g, i, none⟩ = w.cell? ⟨g, i, none⟩ := fun i => by unfold World.cell?; rw [hb]
    refine .inr ⟨g, h1, h2, h3, Nat.lt_of_lt_of_le h4 hg.size, fun i => ?_, fun i c hi => ⟨(hc _).trans (h6 i c hi).1, (hc _).trans (h6 i c hi).2⟩⟩
    have := h5 i
    unfold World.frozen? at this ⊢
    rwa [hb]
theorem FV.wide {w : World} {a : Option Addr} {l : List (ByteArray × ByteArray)} {lo hi lo' hi' : Nat} (h : FV w a l lo hi) (h1 : lo' ≤ lo) (h2 : hi ≤ hi') : FV w a l lo' hi' := by
  rcases h with h | ⟨g, e, g1, g2, hr⟩
  · exact .inl h
  · exact .inr ⟨g, e, by omega, by omega, hr⟩

theorem eqF_one (X z : ByteArray) (w : World) :
    Calls Tryz.prog 90 #[.agg #[.string X, .string z], .agg #[.string X, .string z]] w fun e w' => e = .returned (.bool true) ∧ Below w.heap.size w w' := by
  have hs := same_text X
  have hs2 := same_text z
  go_enter Tryz.func90, Tryz.ntmps90
  go_wp2
  go_ret
  exact ⟨rfl, ((Below.refl _ _).alloc (Nat.le_refl _) _).alloc (by simp) _⟩

set_option maxHeartbeats 800000 in
theorem eqFS_any (a b : Option Addr) (ca cb : Nat) (l : List (ByteArray × ByteArray)) (w : World) (lo hi lo' hi' : Nat) (hl : l.length ≤ 2000000) (ha : FV w a l lo hi) (hb : FV w b l lo' hi') :
    Calls Tryz.prog 48 #[.slice a l.length ca, .slice b l.length cb] w fun e w' => e = .returned (.bool true) ∧ Below w.heap.size w w' := by
  by_cases h0 : l = []
  · subst h0
    go_enter Tryz.func48, Tryz.ntmps48
    go_wp2_with fail
    go_loop [5] (fun i => i = .int .i64 0) (fun _ => 0)
    case atStart => rfl
    case round =>
      obtain rfl := hrel
      go_wp2_with fail
      go_ret
      exact ⟨rfl, Below.refl _ _⟩
  · rcases ha with ha | ⟨g, rfl, _, _, ga⟩
    · exact absurd ha h0
    rcases hb with hb | ⟨g', rfl, _, _, gb⟩
    · exact absurd hb h0
    have GA : Hid (RowF w g l) := ga
    have GB : Hid (RowF w g' l) := gb
    go_enter Tryz.func48, Tryz.ntmps48
    go_wp2_with fail
    go_loopw [5] (fun i wr => ∃ k : Nat, k ≤ l.length ∧ i = .int .i64 k ∧ Below w.heap.size w wr) (fun i _ => l.length - (intOf i).toNat)
    case atStart => exact ⟨0, by omega, rfl, Below.refl _ _⟩
    case round =>
      obtain ⟨k, hk, rfl, hbel⟩ := hrel
      by_cases hlt : k < l.length
      · obtain ⟨ca1, ca2⟩ := (GA.out.below hbel).2.2 k l[k] (List.getElem?_eq_getElem hlt)
        obtain ⟨cb1, cb2⟩ := (GB.out.below hbel).2.2 k l[k] (List.getElem?_eq_getElem hlt)
        have HE : Hid _ := eqF_one l[k].1 l[k].2
        go_wp2_with fail
        go_region_with (go_at_call 90; refine (HE.out _).mono ?_; rintro e w2 ⟨rfl, hb2⟩)
        all_goals
          go_wp2_with fail
          go_roundw
          case rel => exact ⟨k + 1, by omega, by go_num, hbel.drew.trans (hb2.mono hbel.size)⟩
          case measure => simp [intOf]; omega
      · go_wp2_with fail
        go_ret
        exact ⟨rfl, hbel⟩


end Go.Proofs.YtfgcgnhffljiaaaGreatDoor.Fdb
