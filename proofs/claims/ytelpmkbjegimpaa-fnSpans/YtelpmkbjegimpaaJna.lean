/-
  Walk: impl.joinAnew: the bytes of two texts in memory of its own.
-/
import Derived.Test.YtelpmkbjegimpaaOwn
import Derived.Deep.AppendSrc
import Derived.Lib.EndianMore
import Derived.Laws.IdiomStrings
namespace Go.Proofs.Ytelpmkbjegimpaa.Jna
open Go.RowKit
open Go.Proofs.Ytelpmkbjegimpaa.Own

def cellsB (l : List UInt8) : List Value := l.map fun b => Value.int .u8 (b.toNat : Int)
theorem cellsB_len (l : List UInt8) : (cellsB l).length = l.length := by simp [cellsB]
theorem cellsB_at {l : List UInt8} {j : Nat} (h : j < l.length) : (cellsB l)[j]? = some (.int .u8 (l[j].toNat : Int)) := by simp [cellsB, List.getElem?_eq_getElem h]

theorem bytes_made (s : ByteArray) (w : World) : ∃ g w1, (convert 9 22 (.string s)).run Try.prog w = .ok (.slice (some ⟨w.heap.size, 0, none⟩) s.size g) w1 ∧ s.size ≤ g ∧ Below w.heap.size w w1 ∧ w.heap.size < w1.heap.size ∧
    (∀ j, (hj : j < s.data.toList.length) → w1.cell? ⟨w.heap.size, j, none⟩ = some (.int .u8 (s.data.toList[j].toNat : Int))) ∧ (∀ j, j < g → (w1.cell? ⟨w.heap.size, j, none⟩).isSome = true ∧ w1.frozen? ⟨w.heap.size, j, none⟩ = false) := by
  have hge := grownCap_ge w s.size 0 5
  have hsz : (bytesRow s (grownCap w s.size 0 5)).size = grownCap w s.size 0 5 := by
    simp [bytesRow]; omega
  refine ⟨_, _, run_bytes_of_string w 9 22 5 s Try.underlying9 Try.underlying22 Try.underlying5, hge, ((Below.refl _ _).drew).alloc (Nat.le_refl _) _, by simp, fun j hj => ?_, fun j hj => ⟨?_, ?_⟩⟩
  · have := World.cell?_alloc_mark w.drew (bytesRow s (grownCap w s.size 0 5)) 5 ((bytesRow s (grownCap w s.size 0 5)).size, (bytesRow s (grownCap w s.size 0 5)).size + 1) j
    refine Eq.trans this ?_
    rw [bytesRow_at s _ j (by simpa using hj)]
    simp
  · have := World.cell?_alloc_mark w.drew (bytesRow s (grownCap w s.size 0 5)) 5 ((bytesRow s (grownCap w s.size 0 5)).size, (bytesRow s (grownCap w s.size 0 5)).size + 1) j
    refine (congrArg Option.isSome this).trans ?_
    rw [Array.getElem?_eq_getElem (by omega)]
    rfl
  · have := World.frozen?_alloc_mark w.drew (bytesRow s (grownCap w s.size 0 5)) 5 (bytesRow s (grownCap w s.size 0 5)).size ((bytesRow s (grownCap w s.size 0 5)).size + 1) j
    refine Eq.trans this ?_
    rw [decide_eq_false (by omega)]; rfl

/-- 'append(v, s...)' where v's cells are the bytes l, and all its room may be written; told is the text of what comes. -/
theorem run_join (w : World) (ty : TypeId) (B g : Nat) (l : List UInt8) (n : Nat) (hn : l.length = n) (hg : n ≤ g) (hB : B < w.heap.size)
    (hc : ∀ j, (hj : j < l.length) → w.cell? ⟨B, j, none⟩ = some (.int .u8 (l[j].toNat : Int))) (hr : ∀ j, j < g → (w.cell? ⟨B, j, none⟩).isSome = true ∧ w.frozen? ⟨B, j, none⟩ = false)
    (X : ByteArray) (hb : n + X.size ≤ 140737488355328) :
    ∃ v' w', (Builtin.append_ #[22, 9] ty #[.slice (some ⟨B, 0, none⟩) n g, .string X]).run Try.prog w = .ok v' w' ∧ (convert 22 9 v').run Try.prog w' = .ok (.string ⟨(l ++ X.data.toList).toArray⟩) w' ∧ Below B w w' := by
  subst hn
  obtain ⟨i0, hi, hz0, hz1, hz2⟩ := info_parts info5
  have hxl : X.data.toList.length = X.size := by simp
  have hbc : byteCells X = cellsB X.data.toList := rfl
  have hS : Src Try.prog i0.size 9 (.string X) X.size (byteCells X) w := by rw [hz1]; exact Src.ofString w Try.underlying9 X
  have text : ∀ (w' : World) (B' c : Nat), (∀ j, (hj : j < (l ++ X.data.toList).length) → w'.cell? ⟨B', j, none⟩ = some (.int .u8 ((l ++ X.data.toList)[j].toNat : Int))) → (convert 22 9 (.slice (some ⟨B', 0, none⟩) (l.length + X.size) c)).run Try.prog w' = .ok (.string ⟨(l ++ X.data.toList).toArray⟩) w' := by
    intro w' B' c h
    have := run_convert_bytes_back w' 22 9 5 ⟨B', 0, none⟩ c (l ++ X.data.toList) Try.underlying22 Try.underlying5 Try.underlying9 (fun j hj => by rw [Addr.add_lit, Nat.zero_add]; exact h j hj)
    rwa [List.length_append, hxl] at this
  by_cases hroom : l.length + X.size ≤ g
  · have hcl : (byteCells X).length = X.size := by rw [hbc, cellsB_len, hxl]
    have h := run_append_room_src (P := Try.prog) w 22 9 ty 5 i0 Try.underlying22 hi B 0 l.length g (.string X) X.size (byteCells X) hS hroom (fun j hj => (hr _ (by rw [hz1]; omega)).1) (fun j hj => (hr _ (by rw [hz1]; omega)).2)
    rw [hz1, Nat.zero_add, Nat.mul_one] at h
    refine ⟨_, _, h, text _ _ _ fun j hj => ?_, Go.Lib.below_setCells_w (Nat.le_refl _) _ _ _⟩
    rw [List.length_append, hxl] at hj
    by_cases hjl : j < l.length
    · rw [World.cell?_setCells_out _ _ _ _ _ (fun _ _ => .inl hjl), hc j hjl, List.getElem_append_left hjl]
    · obtain ⟨i, rfl⟩ : ∃ i, j = l.length + i := ⟨j - l.length, by omega⟩
      rw [World.cell?_setCells_in _ _ _ _ (fun i hi => (hr _ (by omega)).1) i (by omega)]
      have hi' : i < X.data.toList.length := by omega
      rw [List.getElem_append_right (by omega)]
      simp [byteCells]
  · have hold : (Builtin.firstCells i0.size l.length (.slice (some ⟨B, 0, none⟩) l.length g)).run Try.prog w.drew = .ok (cellsB l).toArray w.drew :=
      run_firstCells_some w.drew i0.size l.length ⟨B, 0, none⟩ l.length g (cellsB l) (by rw [cellsB_len, hz1, Nat.mul_one]) (fun j v hv => by
        have hj : j < l.length := by rw [← cellsB_len l]; exact (List.getElem?_eq_some_iff.1 hv).1
        rw [cellsB_at hj] at hv
        rw [Addr.add_lit, Nat.zero_add, ← hv]
        exact hc j hj)
    have hn1 := nextslicecap_le (show g < l.length + X.size by omega)
    have h := run_append_grow_src (P := Try.prog) w 22 9 ty 5 i0 (.int .u8 0) Try.underlying22 hi hz0 (some ⟨B, 0, none⟩) l.length g (cellsB l) hold (.string X) X.size (byteCells X) hS (by omega) (by omega) (by rw [hz2]; omega)
    refine ⟨_, _, h, text _ _ _ fun j hj => ?_, ((Below.refl _ _).drew).alloc (by simp; omega) _⟩
    rw [List.length_append, hxl] at hj
    have e := World.cell?_alloc_at (w := w.drew) ((cellsB l ++ byteCells X).toArray ++ Builtin.zeroCells (Value.int .u8 0).cells (grownCap w (l.length + X.size) g 5 - (l.length + X.size))) 5 w.heap.size j rfl
    refine e.trans ?_
    have hcl : (cellsB l ++ byteCells X).toArray.size = l.length + X.size := by simp [cellsB, byteCells]
    rw [Array.getElem?_append_left (by omega)]
    rw [hbc, show cellsB l ++ cellsB X.data.toList = cellsB (l ++ X.data.toList) by simp [cellsB]]
    have := cellsB_at (l := l ++ X.data.toList) (j := j) (by rw [List.length_append, hxl]; exact hj)
    simpa using this

theorem wpList_join (w : World) {ops : Array Oper} {rest : List Oper} {o : Oper} {a : Act} {Q : Exit → Act → World → Prop} (hgd : o.guard = none) (s x : Operand)
    (ho : o.op = .call { callee := .builtin .append, args := #[s, x], argTypes := #[22, 9] })
    (B g : Nat) (l : List UInt8) (n : Nat) (hn : l.length = n) (hs : a.eval s = .slice (some ⟨B, 0, none⟩) n g) (X : ByteArray) (hx : a.eval x = .string X) (hg : n ≤ g) (hB : B < w.heap.size)
    (hc : ∀ j, (hj : j < l.length) → w.cell? ⟨B, j, none⟩ = some (.int .u8 (l[j].toNat : Int))) (hr : ∀ j, j < g → (w.cell? ⟨B, j, none⟩).isSome = true ∧ w.frozen? ⟨B, j, none⟩ = false)
    (hb : n + X.size ≤ 140737488355328)
    (h : ∀ v' w', (convert 22 9 v').run Try.prog w' = .ok (.string ⟨(l ++ X.data.toList).toArray⟩) w' → Below B w w' → wpList Try.prog ops Q rest (a.put o.dst v') w') : wpList Try.prog ops Q (o :: rest) a w := by
  obtain ⟨v', w', hrun, h2, h3⟩ := run_join w o.type B g l n hn hg hB hc hr X hb
  refine wpList_plain hgd fun K hK => ?_
  unfold Oper.wp
  simp [execOp, ho, resolve, invoke, builtin, hs, hx, hrun, Result.andThen]
  exact hK _ _ (h v' w' h2 h3)

theorem join_text (a b : ByteArray) : (⟨(a.data.toList ++ b.data.toList).toArray⟩ : ByteArray) = a ++ b := by
  apply ByteArray.ext
  simp

end Go.Proofs.Ytelpmkbjegimpaa.Jna
