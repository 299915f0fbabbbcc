/-
  An argument []int opened.
-/
import Derived.Test.YteniompfkfhemaaIib
import Derived.ChangeSlices
import Derived.SliceStrings
import Derived.ProofKit
namespace Go.Proofs.Yteniompfkfhemaa.Iil
open Go.RowKit
open Go.Proofs.Yteniompfkfhemaa.Iia

theorem cellsI : Try.prog.cellsOf 3 = 1 := by kernel_rfl
set_option maxRecDepth 100000 in
open Go.ChangeShapes Go.WideShapes Go.ChangeAt in
theorem open_il {H : Type} {enc : TypeId × Value → H} {W : World} {r : Reach} {b0 base : Nat} {sp : Nat → Bool} {held : Bool} {v : Value} {d : DataW H} {p : List MemPlace}
    (hv : Value.okWide Try.prog W r b0 23 v) (h : DataW.Trod enc Try.prog W base sp held 23 v d p) : ∃ (a : Option Addr) (cap : Nat) (l : List Int), v = .slice a l.length cap ∧ IL W a l 0 W.heap.size ∧ l.length ≤ maxLen := by
  obtain ⟨a, len, cap, rfl⟩ := okWide_slice Try.underlying23 hv
  obtain ⟨fuel, hf⟩ := h
  rcases open_ints Try.underlying23 Try.underlying3 cellsI hf with ⟨hc, _⟩ | ⟨a', len', cap', ss, hc, _, hl, hm, hz, hx, hcell, _⟩
  · simp [Value.cells] at hc
    obtain ⟨rfl, rfl, rfl⟩ := hc
    exact ⟨none, 0, [], rfl, .inl rfl, Nat.zero_le _⟩
  · simp [Value.cells] at hc
    obtain ⟨rfl, rfl, rfl⟩ := hc
    have hlz : len ≤ ss.length := by rw [hz]; split <;> omega
    have htl : (ss.take len).length = len := by rw [List.length_take]; omega
    refine ⟨some a', cap, ss.take len, by rw [htl], ?_, by rw [htl]; omega⟩
    by_cases h0 : ss.take len = []
    · exact .inl h0
    · have hc : ∀ i x, (ss.take len)[i]? = some x → W.cell? (a'.add i) = some (.int .i64 x) := by
        intro i x hx
        obtain ⟨hi, rfl⟩ := List.getElem?_eq_some_iff.1 hx
        have hi' : i < ss.length := by omega
        have := hcell i hi'
        rw [List.getD, List.getElem?_eq_getElem hi', Option.getD_some] at this
        rw [this, List.getElem_take]
      have hp := List.length_pos_iff.2 h0
      have hlt := World.block_lt_of_cell? W _ (hc 0 _ (List.getElem?_eq_getElem hp))
      rw [add_block] at hlt
      exact .inr ⟨a', rfl, Nat.zero_le _, hlt, hlt, hc⟩

end Go.Proofs.Yteniompfkfhemaa.Iil
