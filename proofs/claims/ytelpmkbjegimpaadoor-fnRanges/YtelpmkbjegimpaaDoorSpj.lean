/-
  Joining spans (pure: sorted, then joined), and what the appends of spans leave.
-/
import Derived.Test.YtelpmkbjegimpaaDoorSpp
import Derived.Laws.AppendOwnNone
import Derived.Laws.OwnMore
namespace Go.Proofs.YtelpmkbjegimpaaDoor.Spb
open Go.RowKit

/-- A span put where the first with a greater beginning stands. -/
def insS (l : List (Int × Int)) (s : Int × Int) : List (Int × Int) := l.takeWhile (fun c => decide (c.1 ≤ s.1)) ++ s :: l.dropWhile (fun c => decide (c.1 ≤ s.1))
def sortS (l : List (Int × Int)) : List (Int × Int) := l.foldl insS []
/-- One more span to those that are joined. -/
def mstep (gap : Int) (out : List (Int × Int)) (s : Int × Int) : List (Int × Int) :=
  match out.getLast? with
  | none => [s]
  | some t => if s.1 ≤ t.2 + gap then (if t.2 < s.2 then out.dropLast ++ [(t.1, s.2)] else out) else out ++ [s]
def joinS (l : List (Int × Int)) (gap : Int) : List (Int × Int) := (sortS l).foldl (mstep gap) []

theorem sort_take (l : List (Int × Int)) (i : Nat) (h : i < l.length) : sortS (l.take (i + 1)) = insS (sortS (l.take i)) l[i] := by
  unfold sortS
  rw [List.take_succ_eq_append_getElem h, List.foldl_append]; rfl
theorem join_take (l : List (Int × Int)) (gap : Int) (i : Nat) (h : i < l.length) : (l.take (i + 1)).foldl (mstep gap) [] = mstep gap ((l.take i).foldl (mstep gap) []) l[i] := by
  rw [List.take_succ_eq_append_getElem h, List.foldl_append]; rfl
theorem ins_len (l : List (Int × Int)) (s : Int × Int) : (insS l s).length = l.length + 1 := by
  unfold insS
  have := congrArg List.length (List.takeWhile_append_dropWhile (p := fun c : Int × Int => decide (c.1 ≤ s.1)) (l := l))
  rw [List.length_append] at this
  rw [List.length_append, List.length_cons]; omega
theorem sort_len (l : List (Int × Int)) : ∀ i, i ≤ l.length → (sortS (l.take i)).length = i
  | 0, _ => rfl
  | i + 1, h => by rw [sort_take l i h, ins_len, sort_len l i (by omega)]
theorem ins_mem (l : List (Int × Int)) (s c : Int × Int) : c ∈ insS l s ↔ c = s ∨ c ∈ l := by
  unfold insS
  have := List.takeWhile_append_dropWhile (p := fun c : Int × Int => decide (c.1 ≤ s.1)) (l := l)
  constructor
  · intro h
    rw [List.mem_append, List.mem_cons] at h
    rw [← this, List.mem_append]
    rcases h with h | h | h
    · exact .inr (.inl h)
    · exact .inl h
    · exact .inr (.inr h)
  · intro h
    rw [← this, List.mem_append] at h
    rw [List.mem_append, List.mem_cons]
    rcases h with h | h | h
    · exact .inr (.inl h)
    · exact .inl h
    · exact .inr (.inr h)
theorem sort_mem (l : List (Int × Int)) : ∀ i, i ≤ l.length → ∀ c ∈ sortS (l.take i), c ∈ l
  | 0, _, c, h => by simp [sortS] at h
  | i + 1, hi, c, h => by
    rw [sort_take l i hi, ins_mem] at h
    rcases h with rfl | h
    · exact List.getElem_mem _
    · exact sort_mem l i (by omega) c h
/-- The place of a span: all ahead begin at or below it, the one there beyond it. -/
theorem ins_at {l : List (Int × Int)} {s : Int × Int} {k : Nat} (hk : k ≤ l.length) (h1 : ∀ j, (hj : j < l.length) → j < k → l[j].1 ≤ s.1) (h2 : ∀ hk : k < l.length, s.1 < l[k].1) : insS l s = l.take k ++ s :: l.drop k := by
  have ht : l.takeWhile (fun c => decide (c.1 ≤ s.1)) = l.take k ∧ l.dropWhile (fun c => decide (c.1 ≤ s.1)) = l.drop k := by
    induction k generalizing l with
    | zero =>
      cases l with
      | nil => exact ⟨rfl, rfl⟩
      | cons c r =>
        have := h2 (by simp)
        have hd : decide (c.1 ≤ s.1) = false := decide_eq_false (by simp at this; omega)
        simp [List.takeWhile, List.dropWhile, hd]
    | succ k ih =>
      cases l with
      | nil => simp at hk
      | cons c r =>
        have hc : decide (c.1 ≤ s.1) = true := decide_eq_true (by have := h1 0 (by simp) (by omega); simpa using this)
        obtain ⟨i1, i2⟩ := ih (l := r) (by simpa using hk) (fun j hj hjk => by have := h1 (j + 1) (by simp; omega) (by omega); simpa using this) (fun h => by have := h2 (by simp; omega); simpa using this)
        simp [List.takeWhile, List.dropWhile, hc, i1, i2]
  unfold insS
  rw [ht.1, ht.2]

theorem flat_app (l m : List (Int × Int)) : flatP (l ++ m) = flatP l ++ flatP m := by simp [flatP]
theorem flat_one (l : List (Int × Int)) : ∀ u ∈ flatP l, u.oneCell' = true := by
  intro u hu
  unfold flatP at hu
  rw [List.mem_flatMap] at hu
  obtain ⟨c, _, h⟩ := hu
  simp at h
  rcases h with rfl | rfl <;> rfl
/-- What is appended: spans behind an address, or none. -/
def SrcP (w : World) (x : Value) (l : List (Int × Int)) : Prop := (x = .slice none 0 0 ∧ l = []) ∨ ∃ ad c, x = .slice (some ad) l.length c ∧ ∀ j u, (flatP l)[j]? = some u → w.cell? (ad.add j) = some u
theorem wpList_append_src (wr : World) {ops : Array Oper} {rest : List Oper} {o : Oper} {a : Act} {Q : Exit → Act → World → Prop} (hgd : o.guard = none) (s x : Operand)
    (ho : o.op = .call { callee := .builtin .append, args := #[s, x], argTypes := #[23, 23] })
    (B : Nat) (v : Value) (l : List (Int × Int)) (hs : a.eval s = v) (hown : spansIn wr B v l) (X : Value) (l1 : List (Int × Int)) (hx : a.eval x = X) (h1 : SrcP wr X l1)
    (hb : l.length + l1.length ≤ 1000000) (hbase : B ≤ wr.heap.size) (W : World) (hbel : Below B W wr)
    (h : ∀ v' w', spansIn w' B v' (l ++ l1) → Below B W w' → wpList Tryd.prog ops Q rest (a.put o.dst v') w') : wpList Tryd.prog ops Q (o :: rest) a wr := by
  obtain ⟨i0, hi, hz0, hz1, hz2⟩ := info_parts infoP
  rcases h1 with ⟨rfl, rfl⟩ | ⟨ad, c, rfl, hc⟩
  · refine wpList_append_own_none hgd s x 23 ho B 33 i0 2 Tryd.underlying23 hi v l.length _ hs hown hx ?_
    exact h v wr (by rw [List.append_nil]; exact hown) hbel
  · refine wpList_append_own _ hgd s x 23 ho B 33 i0 (.agg #[.int .i64 0, .int .i64 0]) 2 16 Tryd.underlying23 hi hz0 hz1 hz2 rfl (by decide) v l.length _ hs hown ad l1.length c (flatP l1) hx (flat_len l1)
      hc (flat_one l1) (by unfold maxLen; omega) (by omega) hbase ?_
    intro v' w' hown' hg' _
    refine h v' w' ?_ (hbel.grown hg' hbase (fun k hk => (World.ownsRow.lt hown k hk).1))
    unfold spansIn
    rw [List.length_append, flat_app]
    exact hown'

/-- The two pieces of a row that is cut. -/
theorem src_take {w : World} {B g n cap : Nat} {l : List (Int × Int)} (h : spansIn w B (.slice (some ⟨g, 0, none⟩) n cap) l) (k : Nat) (hk : k ≤ l.length) (c : Nat) : SrcP w (.slice (some ⟨g, 0, none⟩) k c) (l.take k) := by
  refine .inr ⟨⟨g, 0, none⟩, c, by rw [List.length_take, Nat.min_eq_left hk], fun j u hj => World.ownsRow.cells h (g := g) rfl j u ?_⟩
  have e : flatP l = flatP (l.take k) ++ flatP (l.drop k) := by rw [← flat_app, List.take_append_drop]
  rw [e, List.getElem?_append_left (List.getElem?_eq_some_iff.1 hj).1]
  exact hj
theorem src_drop {w : World} {B g n cap : Nat} {l : List (Int × Int)} (h : spansIn w B (.slice (some ⟨g, 0, none⟩) n cap) l) (k : Nat) (hk : k ≤ l.length) (m c : Nat) (hm : m = l.length - k) : SrcP w (.slice (some ⟨g, k * 2, none⟩) m c) (l.drop k) := by
  refine .inr ⟨⟨g, k * 2, none⟩, c, by rw [List.length_drop, hm], fun j u hj => ?_⟩
  have e : flatP l = flatP (l.take k) ++ flatP (l.drop k) := by rw [← flat_app, List.take_append_drop]
  have hl : (flatP (l.take k)).length = k * 2 := by rw [flat_len, List.length_take, Nat.min_eq_left hk]
  have := World.ownsRow.cells h (g := g) rfl (k * 2 + j) u (by rw [e, List.getElem?_append_right (by omega), hl, Nat.add_sub_cancel_left]; exact hj)
  rw [Addr.add_lit] at this ⊢
  rwa [Nat.zero_add] at this

end Go.Proofs.YtelpmkbjegimpaaDoor.Spb
