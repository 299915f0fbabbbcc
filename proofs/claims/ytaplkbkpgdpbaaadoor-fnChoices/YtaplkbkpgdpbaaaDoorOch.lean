/-
  Lists of choices that the call itself makes: what an append of a choice leaves; what both programs tell of a list of parts.
-/
import Derived.Test.YtaplkbkpgdpbaaaDoorChc
import Derived.Test.YtaplkbkpgdpbaaaDoorLsp
import Derived.Test.YtaplkbkpgdpbaaaDoorLit
namespace Go.Proofs.YtaplkbkpgdpbaaaDoor.Och
open Go.RowKit
open Go.Proofs.YtaplkbkpgdpbaaaDoor.Fbs
open Go.Proofs.YtaplkbkpgdpbaaaDoor.Tri
open Go.Proofs.YtaplkbkpgdpbaaaDoor.Chc
open Go.Proofs.YtaplkbkpgdpbaaaDoor.Lsp (listO listL)
open Go.Proofs.YtaplkbkpgdpbaaaDoor.Lit (pairF pairL onePart list_pairs)

theorem info48 : (Tryd.prog.info? 48).map (fun i => (i.zero, i.size, i.bytes)) = some (some (.agg #[.string ⟨#[]⟩, .int .i64 0]), 2, 24) := by kernel_rfl

/-- The cells of a list of choices. -/
def flatC (l : List (ByteArray × Int)) : List Value := l.flatMap fun c => [.string c.1, .int .i64 c.2]
theorem flat_len (l : List (ByteArray × Int)) : (flatC l).length = l.length * 2 := by
  induction l with
  | nil => rfl
  | cons c r ih => simp only [flatC, List.flatMap_cons, List.length_append, List.length_cons, List.length_nil] at ih ⊢; omega
theorem flat_snoc (l : List (ByteArray × Int)) (c : ByteArray × Int) : flatC (l ++ [c]) = flatC l ++ [.string c.1, .int .i64 c.2] := by simp [flatC]

/-- The value v holds the choices l, in memory of the call's own from block B on. -/
def choicesIn (w : World) (B : Nat) (v : Value) (l : List (ByteArray × Int)) : Prop := w.ownsRow B 48 2 v l.length (flatC l)

theorem choicesIn.below {w w' : World} {B : Nat} {v : Value} {l : List (ByteArray × Int)} (h : choicesIn w B v l) (hb : Below w.heap.size w w') : choicesIn w' B v l := by
  refine ⟨h.1, ?_⟩
  rcases h.2 with hn | ⟨g, cap, cur, rfl, hbg, hg, rest⟩
  · exact .inl hn
  · exact .inr ⟨g, cap, cur, rfl, hbg, (hb.block g (Array.getElem?_eq_some_iff.1 hg).1).trans hg, rest⟩
theorem choicesIn.nil (w : World) (B : Nat) : choicesIn w B (.slice none 0 0) [] := ⟨rfl, .inl ⟨rfl, rfl⟩⟩

/-- 'append(v, c)' of one choice, for the walk. -/
theorem wpList_append_choice (wr : World) {ops : Array Oper} {rest : List Oper} {o : Oper} {a : Act} {Q : Exit → Act → World → Prop} (hgd : o.guard = none) (s x : Operand)
    (ho : o.op = .call { callee := .builtin .append, args := #[s, x], argTypes := #[44, 44] })
    (B : Nat) (v : Value) (l : List (ByteArray × Int)) (hs : a.eval s = v) (hown : choicesIn wr B v l)
    (X : ByteArray) (z : Int) (cap : Nat) (hx : a.eval x = .slice (some ⟨wr.heap.size, 0, none⟩) 1 cap)
    (hb : l.length + 1 ≤ 1000000) (hbase : B ≤ wr.heap.size) (B0 : Nat) (hB0 : B0 ≤ B) (W : World) (hbel : Below B0 W wr)
    (h : ∀ v' w', choicesIn w' B v' (l ++ [(X, z)]) → Below B0 W w' → wpList Tryd.prog ops Q rest (a.put o.dst v') w') : wpList Tryd.prog ops Q (o :: rest) a (wr.alloc (.cells #[.string X, .int .i64 z] 48)) := by
  obtain ⟨i0, hi, hz0, hz1, hz2⟩ := info_parts info48
  refine wpList_append_own _ hgd s x 44 ho B 48 i0 (.agg #[.string ⟨#[]⟩, .int .i64 0]) 2 24 Tryd.underlying44 hi hz0 hz1 hz2 rfl (by decide) v l.length _ hs (World.ownsRow.alloc hown _) ⟨wr.heap.size, 0, none⟩ 1 cap [.string X, .int .i64 z] hx rfl ?_ ?_
    (by unfold maxLen; omega) (by omega) (by simp; omega) ?_
  · intro j u hj
    match j, hj with
    | 0, hj => simp at hj; subst hj; simp [Addr.add]
    | 1, hj => simp at hj; subst hj; simp [Addr.add]
  · intro u hu; simp at hu; rcases hu with rfl | rfl <;> rfl
  · intro v' w' hown' hg _
    refine h v' w' ?_ ((hbel.alloc (by omega) _).grown hg (by simp; omega) (fun k hk => Nat.le_trans hB0 (World.ownsRow.lt hown k hk).1))
    unfold choicesIn
    rw [List.length_append, flat_snoc]
    exact hown'

/-! What is told of a list. -/
def chF : List ByteArray → List (ByteArray × Int) → Option (List (ByteArray × Int))
  | [], acc => some acc
  | x :: r, acc => match chR x with
    | none => none
    | some c => chF r (acc ++ [c])
theorem chF_none {x : ByteArray} {r : List ByteArray} {acc : List (ByteArray × Int)} (h : chR x = none) : chF (x :: r) acc = none := by unfold chF; rw [h]
theorem chF_some {x : ByteArray} {r : List ByteArray} {acc : List (ByteArray × Int)} {c : ByteArray × Int} (h : chR x = some c) : chF (x :: r) acc = chF r (acc ++ [c]) := by rw [chF, h]
def choO (s : ByteArray) : Option (List (ByteArray × Int)) :=
  match listO s with
  | none => none
  | some l => if 20 < l.length then none else chF l []

/-- What is answered: the choices, in memory of the call's own, and true; or nil and false. -/
def ToldC (w : World) (B : Nat) (e : Ending) : Option (List (ByteArray × Int)) → Prop
  | none => e = .returned (.tuple #[.slice none 0 0, .bool false])
  | some l => ∃ v, e = .returned (.tuple #[v, .bool true]) ∧ choicesIn w B v l

/-- The parts of a list have no blanks at their ends. -/
theorem trimS_cl (y : ByteArray) : Cl (trimS y).data.toList := cl_trim y.data.toList
theorem one_cl (y : ByteArray) (b : Bool) : ∀ p ∈ onePart (trimS y) b, Cl p.1.data.toList ∧ p.1.size ≤ y.size := by
  intro p hp
  unfold onePart at hp
  split at hp
  · cases hp
  · have : p = (trimS y, b) := by simpa using hp
    subst this
    exact ⟨trimS_cl y, trimS_size y⟩
theorem pairF_cl (s : ByteArray) : ∀ (f i fr : Nat) (op : Bool), ∀ p ∈ pairF s f i fr op, Cl p.1.data.toList ∧ p.1.size ≤ s.size
  | 0, _, _, _, p, h => by cases h
  | f + 1, i, fr, op, p, h => by
    unfold pairF at h
    split at h
    · split at h
      · exact pairF_cl s f _ _ _ p h
      · split at h
        · exact pairF_cl s f _ _ _ p h
        · split at h
          · rcases List.mem_append.1 h with h | h
            · have := one_cl _ _ p h
              rw [ByteArray.size_extract] at this
              exact ⟨this.1, by omega⟩
            · exact pairF_cl s f _ _ _ p h
          · exact pairF_cl s f _ _ _ p h
    · have := one_cl _ _ p h
      rw [ByteArray.size_extract] at this
      exact ⟨this.1, by omega⟩
theorem list_cl {s : ByteArray} {l : List ByteArray} (h : listO s = some l) : ∀ x ∈ l, Cl x.data.toList ∧ x.size ≤ 2000000 := by
  unfold Lsp.listO at h
  split at h
  · rename_i hh
    rw [list_pairs] at h
    split at h
    · have : l = (pairL s).map (·.1) := (Option.some.inj h).symm
      subst this
      intro x hx
      obtain ⟨p, hp, rfl⟩ := List.mem_map.1 hx
      have := pairF_cl s _ _ _ _ p hp
      exact ⟨this.1, by omega⟩
    · cases h
  · cases h

end Go.Proofs.YtaplkbkpgdpbaaaDoor.Och
