/-
  Slices of bytes that the call itself makes: what an append of bytes leaves, and the text of such a slice.
-/
import Derived.Test.YteniompfkfhemaaProg
import Derived.WalkKit
import Derived.Below
import Derived.Laws.BytesArg
namespace Go.Proofs.Yteniompfkfhemaa.Own
open Go.RowKit

theorem info5 : (Try.prog.info? 5).map (fun i => (i.zero, i.size, i.bytes)) = some (some (.int .u8 0), 1, 1) := by kernel_rfl

/-- The slice value v holds the bytes l, in memory of the call's own from block B on. -/
def bytesIn (w : World) (B : Nat) (v : Value) (l : List UInt8) : Prop := w.ownsRow B 5 1 v l.length (l.map fun b => Value.int .u8 (b.toNat : Int))

theorem bytesIn.below {w w' : World} {B : Nat} {v : Value} {l : List UInt8} (h : bytesIn w B v l) (hb : Below w.heap.size w w') : bytesIn w' B v l := by
  refine ⟨h.1, ?_⟩
  rcases h.2 with hn | ⟨g, cap, cur, rfl, hbg, hg, rest⟩
  · exact .inl hn
  · exact .inr ⟨g, cap, cur, rfl, hbg, (hb.block g (Array.getElem?_eq_some_iff.1 hg).1).trans hg, rest⟩

/-- 'string(b)' of such a slice. -/
theorem run_text (B : Nat) (v : Value) (l : List UInt8) (w : World) (h : bytesIn w B v l) : (convert 22 9 v).run Try.prog w = .ok (.string ⟨l.toArray⟩) w := by
  have h' := h
  obtain ⟨h1, h2⟩ := h
  rcases h2 with ⟨rfl, h0⟩ | ⟨g, cap, cur, rfl, hbg, hg, hnc, hcm, hcs, htake⟩
  · obtain rfl : l = [] := by simpa using h0
    exact run_convert_bytes_nil w 22 5 Try.underlying22 Try.underlying5 0 0 9 Try.underlying9
  · refine run_convert_bytes_back w 22 9 5 ⟨g, 0, none⟩ cap l Try.underlying22 Try.underlying5 Try.underlying9 (fun j hj => ?_)
    exact World.ownsRow.cells h' (g := g) rfl j _ (by simp [List.getElem?_eq_getElem hj])

theorem bytesIn.alloc {w : World} {B : Nat} {v : Value} {l : List UInt8} (h : bytesIn w B v l) (o : Obj) : bytesIn (w.alloc o) B v l := World.ownsRow.alloc h o

theorem bytes_oneCell (l : List UInt8) : ∀ u ∈ l.map (fun b => Value.int .u8 (b.toNat : Int)), u.oneCell' = true := by
  intro u hu
  obtain ⟨_, _, rfl⟩ := List.mem_map.1 hu
  rfl

/-- 'append(v, news..)' of bytes, for the walk. -/
theorem wpList_append_bytes (w : World) {ops : Array Oper} {rest : List Oper} {o : Oper} {a : Act} {Q : Exit → Act → World → Prop} (hgd : o.guard = none) (s x : Operand)
    (ho : o.op = .call { callee := .builtin .append, args := #[s, x], argTypes := #[22, 22] })
    (B : Nat) (v : Value) (l : List UInt8) (hs : a.eval s = v) (hown : bytesIn w B v l)
    (ad : Addr) (m c : Nat) (news : List UInt8) (hx : a.eval x = .slice (some ad) m c) (hl : news.length = m)
    (hnews : ∀ j u, (news.map fun b => Value.int .u8 (b.toNat : Int))[j]? = some u → w.cell? (ad.add j) = some u)
    (hb : l.length + m ≤ 140737488355328) (hbase : B ≤ w.heap.size) (W : World) (hbel : Below B W w)
    (h : ∀ v' w', bytesIn w' B v' (l ++ news) → Below B W w' → wpList Try.prog ops Q rest (a.put o.dst v') w') : wpList Try.prog ops Q (o :: rest) a w := by
  obtain ⟨i0, hi, hz0, hz1, hz2⟩ := info_parts info5
  refine wpList_append_own w hgd s x 22 ho B 5 i0 (.int .u8 0) 1 1 Try.underlying22 hi hz0 hz1 hz2 rfl (by decide) v l.length _ hs hown ad m c (news.map fun b => Value.int .u8 (b.toNat : Int)) hx (by simp [hl]) hnews (bytes_oneCell news)
    (by unfold maxLen; omega) (by omega) hbase ?_
  intro v' w' hown' hg _
  refine h v' w' ?_ (hbel.grown hg hbase (fun k hk => (World.ownsRow.lt hown k hk).1))
  unfold bytesIn
  rw [List.length_append, List.map_append, hl]
  exact hown'

/-- 'append(v, x)' of one byte, for the walk. -/
theorem wpList_append_one (wr : World) {ops : Array Oper} {rest : List Oper} {o : Oper} {a : Act} {Q : Exit → Act → World → Prop} (hgd : o.guard = none) (s x : Operand)
    (ho : o.op = .call { callee := .builtin .append, args := #[s, x], argTypes := #[22, 22] })
    (B : Nat) (v : Value) (l : List UInt8) (hs : a.eval s = v) (hown : bytesIn wr B v l)
    (X : Int) (c : UInt8) (hX : X = (c.toNat : Int)) (cap : Nat) (hx : a.eval x = .slice (some ⟨wr.heap.size, 0, none⟩) 1 cap)
    (hb : l.length + 1 ≤ 140737488355328) (hbase : B ≤ wr.heap.size) (W : World) (hbel : Below B W wr)
    (h : ∀ v' w', bytesIn w' B v' (l ++ [c]) → Below B W w' → wpList Try.prog ops Q rest (a.put o.dst v') w') : wpList Try.prog ops Q (o :: rest) a (wr.alloc (.cells #[.int .u8 X] 5)) := by
  subst hX
  refine wpList_append_bytes _ hgd s x ho B v l hs (hown.alloc _) ⟨wr.heap.size, 0, none⟩ 1 cap [c] hx rfl ?_ hb (by simp; omega) W (hbel.alloc hbase _) h
  intro j u hj
  match j, hj with
  | 0, hj => simp at hj; subst hj; simp [Addr.add]

end Go.Proofs.Yteniompfkfhemaa.Own
