/-
  An address among a law's arguments, opened: its six fields.
-/
import Derived.Test.YtlgjgdpalflmfaaDoorProg
import Derived.WalkKit
import Derived.ProofKit
import Derived.Lib.SmallJoins
namespace Go.Proofs.YtlgjgdpalflmfaaDoor.Opn
open Go.ChangeShapes Go.WideShapes Go.ChangeAt Go.RowKit

theorem array6 {α : Type} {cs : Array α} (h : cs.size = 6) : ∃ c0 c1 c2 c3 c4 c5, cs = #[c0, c1, c2, c3, c4, c5] := by
  obtain ⟨l⟩ := cs
  match l, h with
  | [c0, c1, c2, c3, c4, c5], _ => exact ⟨c0, c1, c2, c3, c4, c5, rfl⟩

theorem list6 {α : Type} {l : List α} (h : l.length = 6) : ∃ c0 c1 c2 c3 c4 c5, l = [c0, c1, c2, c3, c4, c5] := by
  match l, h with
  | [c0, c1, c2, c3, c4, c5], _ => exact ⟨c0, c1, c2, c3, c4, c5, rfl⟩

theorem cellsU : Tryd.prog.cellsOf 37 = 6 := by kernel_rfl
theorem cellsS : Tryd.prog.cellsOf 9 = 1 := by kernel_rfl
theorem cellsI : Tryd.prog.cellsOf 3 = 1 := by kernel_rfl
theorem cellsB : Tryd.prog.cellsOf 4 = 1 := by kernel_rfl

set_option maxRecDepth 100000 in
theorem open_url {H : Type} {enc : TypeId × Value → H} {W : World} {r : Reach} {b0 base : Nat} {sp : Nat → Bool} {held : Bool} {v : Value} {d : DataW H} {p : List MemPlace}
    (hv : Value.okWide Tryd.prog W r b0 37 v) (h : DataW.Trod enc Tryd.prog W base sp held 37 v d p) :
    ∃ (S Ho P Q : ByteArray) (n : Int) (asks : Bool), v = .agg #[.string S, .string Ho, .int .i64 n, .string P, .string Q, .bool asks] ∧ S.size ≤ maxLen ∧ Ho.size ≤ maxLen ∧ P.size ≤ maxLen ∧ Q.size ≤ maxLen ∧ (Lit.int .i64 n).wf = true := by
  obtain ⟨cs, rfl, hsz⟩ := okWide_struct Tryd.underlying37 hv
  obtain ⟨c0, c1, c2, c3, c4, c5, rfl⟩ := array6 (hsz.trans cellsU)
  obtain ⟨fuel, hf⟩ := h
  obtain ⟨xs, n, _, _, hl, hlen, hg⟩ := DataW.trod_struct Tryd.underlying37 hf
  obtain ⟨y0, y1, y2, y3, y4, y5, rfl⟩ := list6 (show xs.length = 6 from hlen)
  have g0 := hg 0 _ rfl
  have g1 := hg 1 _ rfl
  have g2 := hg 2 _ rfl
  have g3 := hg 3 _ rfl
  have g4 := hg 4 _ rfl
  have g5 := hg 5 _ rfl
  obtain ⟨S, e0, _, k0⟩ := DataW.trod_string Tryd.underlying9 g0
  obtain ⟨Ho, e1, _, k1⟩ := DataW.trod_string Tryd.underlying9 g1
  obtain ⟨m, e2, _, k2⟩ := DataW.trod_int Tryd.underlying3 g2
  obtain ⟨P, e3, _, k3⟩ := DataW.trod_string Tryd.underlying9 g3
  obtain ⟨Q, e4, _, k4⟩ := DataW.trod_string Tryd.underlying9 g4
  obtain ⟨a, e5, _⟩ := DataW.trod_bool Tryd.underlying4 g5
  simp [cellsS, cellsI, cellsB, Value.cells] at e0 e1 e2 e3 e4 e5
  subst e0 e1 e2 e3 e4 e5
  exact ⟨S, Ho, P, Q, m, a, rfl, k0, k1, k3, k4, k2⟩

end Go.Proofs.YtlgjgdpalflmfaaDoor.Opn
