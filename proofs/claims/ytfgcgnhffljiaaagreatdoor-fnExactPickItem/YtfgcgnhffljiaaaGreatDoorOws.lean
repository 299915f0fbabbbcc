/-
  Lists of texts that the call itself makes: what an append of a text leaves, a list without its last, a text of such a list read.
-/
import Derived.Test.YtfgcgnhffljiaaaGreatDoorProg
import Derived.WalkKit
import Derived.WalkLawsBesides
import Derived.Below
namespace Go.Proofs.YtfgcgnhffljiaaaGreatDoor.Ows
open Go.RowKit

theorem info9 : (Tryz.prog.info? 9).map (fun i => (i.zero, i.size, i.bytes)) = some (some (.string ⟨#[]⟩), 1, 16) := by kernel_rfl

/-- The value v holds the texts l, in memory of the call's own from block B on. -/
def textsIn (w : World) (B : Nat) (v : Value) (l : List ByteArray) : Prop := w.ownsRow B 9 1 v l.length (l.map Value.string)

theorem textsIn.below {w w' : World} {B : Nat} {v : Value} {l : List ByteArray} (h : textsIn w B v l) (hb : Below w.heap.size w w') : textsIn w' B v l := by
  refine ⟨h.1, ?_⟩
  rcases h.2 with hn | ⟨g, cap, cur, rfl, hbg, hg, rest⟩
  · exact .inl hn
  · exact .inr ⟨g, cap, cur, rfl, hbg, (hb.block g (Array.getElem?_eq_some_iff.1 hg).1).trans hg, rest⟩

theorem textsIn.alloc {w : World} {B : Nat} {v : Value} {l : List ByteArray} (h : textsIn w B v l) (o : Obj) : textsIn (w.alloc o) B v l := World.ownsRow.alloc h o

/-- The value's shape. -/
theorem textsIn.form {w : World} {B : Nat} {v : Value} {l : List ByteArray} (h : textsIn w B v l) : ∃ a cap, v = .slice a l.length cap ∧ l.length ≤ cap ∧ cap ≤ maxLen ∧ (l ≠ [] → ∃ g, a = some ⟨g, 0, none⟩ ∧ B ≤ g ∧ g < w.heap.size) := by
  rcases h.2 with ⟨rfl, h0⟩ | ⟨g, cap, cur, rfl, hbg, hg, hnc, hcm, _⟩
  · have hl : l = [] := by simpa using h0
    subst hl
    exact ⟨none, 0, rfl, Nat.le_refl _, by decide, fun h => absurd rfl h⟩
  · exact ⟨_, cap, rfl, hnc, hcm, fun _ => ⟨g, rfl, hbg, (Array.getElem?_eq_some_iff.1 hg).1⟩⟩

/-- A text of such a list. -/
theorem textsIn.at {w : World} {B : Nat} {g n cap : Nat} {l : List ByteArray} (h : textsIn w B (.slice (some ⟨g, 0, none⟩) n cap) l) (j : Nat) (x : ByteArray) (hx : l[j]? = some x) : w.cell? ⟨g, j, none⟩ = some (.string x) := by
  have := World.ownsRow.cells h (g := g) rfl j (.string x) (by rw [List.getElem?_map, hx]; rfl)
  rwa [Addr.add_lit, Nat.zero_add] at this

/-- A list without its last. -/
theorem textsIn.pop {w : World} {B g cap : Nat} {l : List ByteArray} (hl : l ≠ []) (h : textsIn w B (.slice (some ⟨g, 0, none⟩) l.length cap) l) : textsIn w B (.slice (some ⟨g, 0, none⟩) (l.length - 1) cap) l.dropLast := by
  have hd := List.dropLast_concat_getLast hl
  have hn : l.length = l.dropLast.length + 1 := by rw [List.length_dropLast]; have := List.length_pos_iff.2 hl; omega
  unfold textsIn at h ⊢
  have hx : l.map Value.string = l.dropLast.map Value.string ++ [Value.string (l.getLast hl)] := by
    rw [← List.map_singleton, ← List.map_append, hd]
  rw [hx, hn] at h
  have := ownsRow_pop (by simp) h
  rw [show l.length - 1 = l.dropLast.length from by omega]
  exact this

/-- 'append(v, x)' of one text, for the walk. -/
theorem wpList_append_text (wr : World) {ops : Array Oper} {rest : List Oper} {o : Oper} {a : Act} {Q : Exit → Act → World → Prop} (hgd : o.guard = none) (s x : Operand)
    (ho : o.op = .call { callee := .builtin .append, args := #[s, x], argTypes := #[26, 26] })
    (B : Nat) (v : Value) (l : List ByteArray) (hs : a.eval s = v) (hown : textsIn wr B v l)
    (X : ByteArray) (cap : Nat) (hx : a.eval x = .slice (some ⟨wr.heap.size, 0, none⟩) 1 cap)
    (hb : l.length + 1 ≤ 8796093022208) (hbase : B ≤ wr.heap.size) (B0 : Nat) (hB0 : B0 ≤ B) (W : World) (hbel : Below B0 W wr)
    (h : ∀ v' w', textsIn w' B v' (l ++ [X]) → Below B0 W w' → wpList Tryz.prog ops Q rest (a.put o.dst v') w') : wpList Tryz.prog ops Q (o :: rest) a (wr.alloc (.cells #[.string X] 9)) := by
  obtain ⟨i0, hi, hz0, hz1, hz2⟩ := info_parts info9
  refine wpList_append_own _ hgd s x 26 ho B 9 i0 (.string ⟨#[]⟩) 1 16 Tryz.underlying26 hi hz0 hz1 hz2 rfl (by decide) v l.length _ hs (hown.alloc _) ⟨wr.heap.size, 0, none⟩ 1 cap [.string X] hx rfl ?_ ?_
    (by unfold maxLen; omega) (by omega) (by simp; omega) ?_
  · intro j u hj
    match j, hj with
    | 0, hj => simp at hj; subst hj; simp [Addr.add]
  · intro u hu; simp at hu; subst hu; rfl
  · intro v' w' hown' hg _
    refine h v' w' ?_ ((hbel.alloc (by omega) _).grown hg (by simp; omega) (fun k hk => Nat.le_trans hB0 (World.ownsRow.lt hown k hk).1))
    unfold textsIn
    rw [List.length_append, List.map_append]
    exact hown'

end Go.Proofs.YtfgcgnhffljiaaaGreatDoor.Ows
