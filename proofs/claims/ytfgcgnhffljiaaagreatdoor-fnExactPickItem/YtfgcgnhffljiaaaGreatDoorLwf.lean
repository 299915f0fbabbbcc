/-
  Walks: the laws' own helpers for a field: laws.szField, laws.toField; a field among a law's arguments, opened.
-/
import Derived.Test.YtfgcgnhffljiaaaGreatDoorFbs
import Derived.ProofKit
import Derived.Lib.SmallJoins
namespace Go.Proofs.YtfgcgnhffljiaaaGreatDoor.Lwf
open Go.ChangeShapes Go.WideShapes Go.ChangeAt Go.RowKit

theorem sz_yes (S V : ByteArray) (L : Nat) (w : World) (h : S.size + V.size ≤ L) (hL : L ≤ 2000000) :
    Calls Tryz.prog 69 #[.agg #[.string S, .string V], .int .i64 L] w fun e w' => e = .returned (.int .i64 ((L : Int) - S.size - V.size)) ∧ Below w.heap.size w w' := by
  go_enter Tryz.func69, Tryz.ntmps69
  go_wp2
  go_ret
  exact ⟨rfl, (Below.refl _ _).alloc (Nat.le_refl _) _⟩

theorem sz_no (S V : ByteArray) (L : Nat) (w : World) (hS : S.size ≤ maxLen) (hV : V.size ≤ maxLen) (h : ¬ S.size + V.size ≤ L) (hL : L ≤ 2000000) :
    Calls Tryz.prog 69 #[.agg #[.string S, .string V], .int .i64 L] w fun e w' => e = .returned (.int .i64 (-1)) ∧ Below w.heap.size w w' := by
  unfold maxLen at hS hV
  rcases (show L < S.size ∨ (S.size ≤ L ∧ L < S.size + V.size) from by omega) with h1 | ⟨h0, h1⟩
  all_goals
    go_enter Tryz.func69, Tryz.ntmps69
    go_wp2
    go_ret
    exact ⟨rfl, (Below.refl _ _).alloc (Nat.le_refl _) _⟩

theorem toField_any (S V : ByteArray) (w : World) :
    Calls Tryz.prog 80 #[.agg #[.string S, .string V]] w fun e w' => e = .returned (.agg #[.string S, .string V]) ∧ Below w.heap.size w w' := by
  go_enter Tryz.func80, Tryz.ntmps80
  go_wp2
  exact bodyPost_ret (v := .agg #[.string S, .string V]) (by simp [results, Tryz.results80, go_sem]) rfl ⟨rfl, by repeat (first | exact Below.refl _ _ | refine Below.alloc ?_ (by simp <;> omega) _ | refine Below.setCell ?_ (by simp <;> omega) _)⟩

theorem array2 {α : Type} {cs : Array α} (h : cs.size = 2) : ∃ c0 c1, cs = #[c0, c1] := by
  obtain ⟨l⟩ := cs
  match l, h with
  | [c0, c1], _ => exact ⟨c0, c1, rfl⟩
theorem list2 {α : Type} {l : List α} (h : l.length = 2) : ∃ c0 c1, l = [c0, c1] := by
  match l, h with
  | [c0, c1], _ => exact ⟨c0, c1, rfl⟩

theorem cellsF : Tryz.prog.cellsOf 102 = 2 := by kernel_rfl
theorem cellsS : Tryz.prog.cellsOf 9 = 1 := by kernel_rfl

set_option maxRecDepth 100000 in
theorem open_field {H : Type} {enc : TypeId × Value → H} {W : World} {r : Reach} {b0 base : Nat} {sp : Nat → Bool} {held : Bool} {v : Value} {d : DataW H} {p : List MemPlace}
    (hv : Value.okWide Tryz.prog W r b0 102 v) (h : DataW.Trod enc Tryz.prog W base sp held 102 v d p) :
    ∃ (S V : ByteArray), v = .agg #[.string S, .string V] ∧ S.size ≤ maxLen ∧ V.size ≤ maxLen := by
  obtain ⟨cs, rfl, hsz⟩ := okWide_struct Tryz.underlying102 hv
  obtain ⟨c0, c1, rfl⟩ := array2 (hsz.trans cellsF)
  obtain ⟨fuel, hf⟩ := h
  obtain ⟨xs, n, _, _, hl, hlen, hg⟩ := DataW.trod_struct Tryz.underlying102 hf
  obtain ⟨y0, y1, rfl⟩ := list2 (show xs.length = 2 from hlen)
  have g0 := hg 0 _ rfl
  have g1 := hg 1 _ rfl
  obtain ⟨S, e0, _, k0⟩ := DataW.trod_string Tryz.underlying9 g0
  obtain ⟨V, e1, _, k1⟩ := DataW.trod_string Tryz.underlying9 g1
  simp [cellsS, Value.cells] at e0 e1
  subst e0 e1
  exact ⟨S, V, rfl, k0, k1⟩

end Go.Proofs.YtfgcgnhffljiaaaGreatDoor.Lwf
