/-
  'append(v, s...)' of a text's bytes, for the walk.
-/
import Derived.Test.YtimfcbjgoilnpaaDoorOwn
import Derived.Lib.AppendStr
namespace Go.Proofs.YtimfcbjgoilnpaaDoor.Own
open Go.RowKit

theorem strCells_eq (s : ByteArray) : Go.Lib.strCells s = s.data.toList.map fun b => Value.int .u8 (b.toNat : Int) := by
  simp [Go.Lib.strCells]

theorem wpList_append_str (w : World) {ops : Array Oper} {rest : List Oper} {o : Oper} {a : Act} {Q : Exit → Act → World → Prop} (hgd : o.guard = none) (s x : Operand)
    (ho : o.op = .call { callee := .builtin .append, args := #[s, x], argTypes := #[48, 9] })
    (B : Nat) (v : Value) (l : List UInt8) (hs : a.eval s = v) (hown : bytesIn w B v l)
    (X : ByteArray) (hx : a.eval x = .string X)
    (hb : l.length + X.size ≤ 140737488355328) (hbase : B ≤ w.heap.size) (W : World) (hbel : Below B W w)
    (h : ∀ v' w', bytesIn w' B v' (l ++ X.data.toList) → Below B W w' → wpList Tryd.prog ops Q rest (a.put o.dst v') w') : wpList Tryd.prog ops Q (o :: rest) a w := by
  obtain ⟨i0, hi, hz0, hz1, hz2⟩ := info_parts info5
  refine Go.Lib.wpList_append_own_string w hgd s x 48 9 ho B 5 i0 Tryd.underlying48 Tryd.underlying9 hi hz0 hz1 hz2 v l.length _ hs hown X hx
    (by unfold maxLen; omega) hb hbase ?_
  intro v' w' hown' hg _
  refine h v' w' ?_ (hbel.grown hg hbase (fun k hk => (World.ownsRow.lt hown k hk).1))
  unfold bytesIn
  rw [List.length_append, List.map_append, ← strCells_eq, show X.data.toList.length = X.size by simp]
  exact hown'

end Go.Proofs.YtimfcbjgoilnpaaDoor.Own
