/-
  Bytes that are drawn from, among a law's arguments; picks with a number told; lists that are chosen from; walk: spec's (*l1Cur).of.
-/
import Derived.Test.YteniompfkfhemaaDra
import Derived.ProofKit
import Derived.SizedLaws
namespace Go.Proofs.Yteniompfkfhemaa.Cur
open Go.ChangeShapes Go.WideShapes Go.ChangeAt Go.RowKit

/-- Bytes among the arguments. -/
def CodeArg (w : World) (v : Value) (n : Nat) : Prop :=
  (v = .slice none 0 0 ∧ n = 0) ∨ ∃ (a : Addr) (cap : Nat), v = .slice (some a) n cap ∧ n ≤ cap ∧ cap ≤ maxLen ∧ ∀ i, i < n → a.block < w.heap.size ∧ ∃ c : UInt8, w.cell? (a.add i) = some (.int .u8 (c.toNat : Int))

theorem CodeArg.below {B : Nat} {w w' : World} {v : Value} {n : Nat} (h : CodeArg w v n) (hB : w.heap.size ≤ B) (hb : Below B w w') : CodeArg w' v n := by
  rcases h with h | ⟨a, cap, h1, h2, h3, h6⟩
  · exact .inl h
  · refine .inr ⟨a, cap, h1, h2, h3, fun i hi => ?_⟩
    obtain ⟨h4, c, hc⟩ := h6 i hi
    exact ⟨Nat.lt_of_lt_of_le h4 hb.size, c, (hb.cell (p := a.add i) (by rw [add_block]; omega)).trans hc⟩
theorem CodeArg.to {w : World} {v : Value} {n cb : Nat} (h : CodeArg w v n) (hc : w.heap.size ≤ cb) : CodeIn w cb v n := by
  rcases h with h | ⟨a, cap, h1, h2, h3, h6⟩
  · exact .inl h
  · refine .inr ⟨a, cap, h1, h2, h3, fun i hi => ?_⟩
    obtain ⟨h4, c, hc'⟩ := h6 i hi
    exact ⟨by omega, c, hc'⟩

/-- The cursor that a draw begins with. -/
theorem start {w : World} {v : Value} {n : Nat} (h : CodeArg w v n) (hn : n ≤ 2000000) (t : TypeId) : Cursor (w.alloc (.cells #[v, .int .i64 0, .int .u64 0] t)) w.heap.size v n 0 := by
  refine ⟨?_, hn, by simp, by rw [World.cell?_alloc_mark]; rfl, ⟨0, Nat.le_refl _, by rw [World.cell?_alloc_mark]; rfl⟩, ⟨0, by rw [World.cell?_alloc_mark]; rfl⟩, fun i => World.frozen?_alloc_at _ t _ i rfl⟩
  have hb := (Below.refl w.heap.size w).alloc (Nat.le_refl _) (.cells #[v, .int .i64 0, .int .u64 0] t)
  rcases h with h | ⟨a, cap, h1, h2, h3, h6⟩
  · exact .inl h
  · refine .inr ⟨a, cap, h1, h2, h3, fun i hi => ?_⟩
    obtain ⟨h4, c, hc'⟩ := h6 i hi
    exact ⟨h4, c, (hb.cell (p := a.add i) (by rw [add_block]; exact h4)).trans hc'⟩

set_option maxRecDepth 100000 in
theorem code_open {H : Type} {enc : TypeId × Value → H} {W : World} {r : Reach} {b0 base : Nat} {sp : Nat → Bool} {held : Bool} {v : Value} {d : DataW H} {p : List MemPlace}
    (hv : Value.okWide Try.prog W r b0 22 v) (h : DataW.Trod enc Try.prog W base sp held 22 v d p) : ∃ n, CodeArg W v n ∧ (n = 0 ∨ ∃ elems spare, d = .slice elems spare ∧ elems.length = n) := by
  obtain ⟨a, len, cap, rfl⟩ := okWide_slice Try.underlying22 hv
  obtain ⟨fuel, hf⟩ := h
  rcases open_ints Try.underlying22 Try.underlying5 (by kernel_rfl) hf with ⟨hc, _⟩ | ⟨a', len', cap', zs, hc, _, hl, hm, hz, hx, hcell, hwf⟩
  · simp [Value.cells] at hc
    obtain ⟨rfl, rfl, rfl⟩ := hc
    exact ⟨0, .inl ⟨rfl, rfl⟩, .inl rfl⟩
  · simp [Value.cells] at hc
    obtain ⟨rfl, rfl, rfl⟩ := hc
    have hlz : len ≤ zs.length := by rw [hz]; split <;> omega
    refine ⟨len, .inr ⟨a', cap, rfl, hl, hm, fun i hi => ?_⟩, .inr ⟨_, _, congrArg Prod.fst hx, by simp [lits]; omega⟩⟩
    have hi' : i < zs.length := by rw [hz]; split <;> omega
    have hc := hcell i hi'
    have hw : (Lit.int .u8 (zs.getD i 0)).wf = true := hwf _ (by rw [List.getD, List.getElem?_eq_getElem hi']; exact List.getElem_mem hi')
    have hb : 0 ≤ zs.getD i 0 ∧ zs.getD i 0 ≤ 255 := by
      simp only [Lit.wf, IntKind.min, IntKind.max, IntKind.signed, IntKind.bits, Bool.and_eq_true] at hw
      simpa using hw
    have hlt := World.block_lt_of_cell? W _ hc
    rw [add_block] at hlt
    refine ⟨hlt, UInt8.ofNat (zs.getD i 0).toNat, hc.trans ?_⟩
    have : ((UInt8.ofNat (zs.getD i 0).toNat).toNat : Int) = zs.getD i 0 := by rw [UInt8.toNat_ofNat']; omega
    rw [this]

theorem code_bound {H : Type} {ts : List TypeId} {ds : List (DataW H)} {j n : Nat} {t : TypeId} {d : DataW H} (h : (DataW.weightsEach Try.prog ts ds).all (· ≤ reachBytes) = true) (ht : ts[j]? = some t) (hd : ds[j]? = some d)
    (hx : n = 0 ∨ ∃ elems spare, d = .slice elems spare ∧ elems.length = n) (hu : Try.prog.underlying t = some (.slice 5) := by kernel_rfl) : n ≤ reachBytes := by
  rcases hx with rfl | ⟨elems, spare, rfl, rfl⟩
  · exact Nat.zero_le _
  · have := sized_slice h ht hd hu
    rw [show Try.prog.bytesOf 5 = 1 by kernel_rfl, Nat.mul_one] at this
    omega

theorem CodeArg.form {w : World} {v : Value} {n : Nat} (h : CodeArg w v n) : ∃ o cap, v = .slice o n cap := by
  rcases h with ⟨h, rfl⟩ | ⟨a, cap, h, _⟩
  · exact ⟨none, 0, h⟩
  · exact ⟨some a, cap, h⟩

theorem ints_made (w : World) (zs : List Int) (t : TypeId) (b : Nat) (hb : b = w.heap.size) : ∀ i, i < zs.length → ∃ z : Int, (w.alloc (.cells (zs.map fun z => Value.int .i64 z).toArray t)).cell? ⟨b, i, none⟩ = some (.int .i64 z) := by
  subst hb
  intro i hi
  exact ⟨zs[i], by rw [World.cell?_alloc_mark]; simp [hi]⟩

theorem pick_at (k : Nat) (K : Int) (hK : K = (k : Int)) (cb : Nat) (v : Value) (n N : Nat) (w : World) (hC : Cursor w cb v n N) (hN : N ≤ 900000000) (h1 : 1 ≤ k) (h2 : k ≤ 1000000) :
    Calls Try.prog 51 #[.pointer (some ⟨cb, 0, none⟩), .int .i64 K] w fun e w' => ∃ x : Nat, e = .returned (.int .i64 x) ∧ x < k ∧ Cursor w' cb v n (N + 2) ∧ But cb w w' := by
  subst hK
  exact pick_any cb v n N k w hC hN h1 h2

theorem one_at (k : Nat) (K : Int) (hK : K = (k : Int)) (cb : Nat) (v : Value) (n N : Nat) (w : World) (hC : Cursor w cb v n N) (hN : N ≤ 900000000) (h1 : 1 ≤ k) (h2 : k ≤ 1000000) :
    Calls Try.prog 50 #[.pointer (some ⟨cb, 0, none⟩), .int .i64 K] w fun e w' => ∃ b : Bool, e = .returned (.bool b) ∧ Cursor w' cb v n (N + 2) ∧ But cb w w' := by
  subst hK
  exact one_any cb v n N k w hC hN h1 h2

theorem texts_made (w : World) (xs : List ByteArray) (M : Nat) (hM : ∀ x ∈ xs, x.size ≤ M) (t : TypeId) (b : Nat) (hb : b = w.heap.size) : ∀ i, i < xs.length → ∃ x : ByteArray, x.size ≤ M ∧ (w.alloc (.cells (xs.map Value.string).toArray t)).cell? ⟨b, i, none⟩ = some (.string x) := by
  subst hb
  intro i hi
  exact ⟨xs[i], hM _ (List.getElem_mem hi), by rw [World.cell?_alloc_mark]; simp [hi]⟩

end Go.Proofs.Yteniompfkfhemaa.Cur
