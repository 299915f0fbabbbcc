/-
  An unchunk among a law's arguments, opened: its four fields.
-/
import Derived.Test.YtimfcbjgoilnpaaDoorProg
import Derived.WalkKit
import Derived.ProofKit
import Derived.Lib.SmallJoins
namespace Go.Proofs.YtimfcbjgoilnpaaDoor.Ouk
open Go.ChangeShapes Go.WideShapes Go.ChangeAt Go.RowKit

theorem array4 {α : Type} {cs : Array α} (h : cs.size = 4) : ∃ c0 c1 c2 c3, cs = #[c0, c1, c2, c3] := by
  obtain ⟨l⟩ := cs
  match l, h with
  | [c0, c1, c2, c3], _ => exact ⟨c0, c1, c2, c3, rfl⟩
theorem list4 {α : Type} {l : List α} (h : l.length = 4) : ∃ c0 c1 c2 c3, l = [c0, c1, c2, c3] := by
  match l, h with
  | [c0, c1, c2, c3], _ => exact ⟨c0, c1, c2, c3, rfl⟩
theorem cellsU : Tryd.prog.cellsOf 33 = 4 := by kernel_rfl
theorem cellsS : Tryd.prog.cellsOf 9 = 1 := by kernel_rfl
theorem cellsB : Tryd.prog.cellsOf 4 = 1 := by kernel_rfl

set_option maxRecDepth 100000 in
theorem open_unchunk {H : Type} {enc : TypeId × Value → H} {W : World} {r : Reach} {b0 base : Nat} {sp : Nat → Bool} {held : Bool} {v : Value} {d : DataW H} {p : List MemPlace}
    (hv : Value.okWide Tryd.prog W r b0 33 v) (h : DataW.Trod enc Tryd.prog W base sp held 33 v d p) :
    ∃ (B R : ByteArray) (x g : Bool), v = .agg #[.string B, .string R, .bool x, .bool g] ∧ B.size ≤ maxLen ∧ R.size ≤ maxLen := by
  obtain ⟨cs, rfl, hsz⟩ := okWide_struct Tryd.underlying33 hv
  obtain ⟨c0, c1, c2, c3, rfl⟩ := array4 (hsz.trans cellsU)
  obtain ⟨fuel, hf⟩ := h
  obtain ⟨xs, n, _, _, hl, hlen, hg⟩ := DataW.trod_struct Tryd.underlying33 hf
  obtain ⟨y0, y1, y2, y3, rfl⟩ := list4 (show xs.length = 4 from hlen)
  have g0 := hg 0 _ rfl
  have g1 := hg 1 _ rfl
  have g2 := hg 2 _ rfl
  have g3 := hg 3 _ rfl
  obtain ⟨B, e0, _, k0⟩ := DataW.trod_string Tryd.underlying9 g0
  obtain ⟨R, e1, _, k1⟩ := DataW.trod_string Tryd.underlying9 g1
  obtain ⟨x, e2, _⟩ := DataW.trod_bool Tryd.underlying4 g2
  obtain ⟨g, e3, _⟩ := DataW.trod_bool Tryd.underlying4 g3
  simp [cellsS, cellsB, Value.cells] at e0 e1 e2 e3
  subst e0 e1 e2 e3
  exact ⟨B, R, x, g, rfl, k0, k1⟩

end Go.Proofs.YtimfcbjgoilnpaaDoor.Ouk
