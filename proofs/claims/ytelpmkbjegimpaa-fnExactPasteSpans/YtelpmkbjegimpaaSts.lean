/-
  Walks: laws' szStringS: an argument []string measured.
-/
import Derived.Test.YtelpmkbjegimpaaMrk
import Derived.SliceStrings
import Derived.ProofKit
namespace Go.Proofs.Ytelpmkbjegimpaa.Sts
open Go.RowKit
open Go.Proofs.Ytelpmkbjegimpaa.Fbs
open Go.Proofs.Ytelpmkbjegimpaa.Ows
open Go.Proofs.Ytelpmkbjegimpaa.Mrk (TV RowT)

theorem add_block (a : Addr) (i : Nat) : (a.add i).block = a.block := by unfold Addr.add; split <;> rfl
/-- A list of texts that is handed in: it is read alone. -/
def AV (w : World) (a : Option Addr) (l : List ByteArray) : Prop := l = [] ∨ ∃ ad : Addr, a = some ad ∧ ad.block < w.heap.size ∧ ∀ i x, l[i]? = some x → w.cell? (ad.add i) = some (.string x)
theorem AV.below {w w' : World} {a : Option Addr} {l : List ByteArray} (h : AV w a l) (hb : Below w.heap.size w w') : AV w' a l := by
  rcases h with h | ⟨ad, h1, h2, h3⟩
  · exact .inl h
  · exact .inr ⟨ad, h1, Nat.lt_of_lt_of_le h2 hb.size, fun i x hx => (hb.cell (p := ad.add i) (by rw [add_block]; exact h2)).trans (h3 i x hx)⟩

/-- What a size tells: where it isn't below 0, the list and its texts are short. -/
def Short (l : List ByteArray) (v : Int) : Prop := 0 ≤ v → l.length ≤ 1048576 ∧ ∀ j, (hj : j < l.length) → l[j].size ≤ 1048576

set_option maxHeartbeats 800000 in
theorem szStringS_any (a : Option Addr) (ca : Nat) (l : List ByteArray) (w : World) (hl : l.length ≤ maxLen) (hx : ∀ x ∈ l, x.size ≤ maxLen) (ha : AV w a l) :
    Calls Try.prog 26 #[.slice a l.length ca, .int .i64 1048576] w fun e w' => ∃ v : Int, e = .returned (.int .i64 v) ∧ Short l v ∧ Below w.heap.size w w' := by
  unfold maxLen at hl hx
  have w1 : IntKind.i64.wrap (1048576 - (l.length : Int)) = 1048576 - (l.length : Int) := by rw [IntKind.wrap_i64]; omega
  by_cases hlong : 1048576 < l.length
  · have hd : decide (1048576 - (l.length : Int) < 0) = true := decide_eq_true (by omega)
    go_enter Try.func26, Try.ntmps26
    go_wp2_with fail
    go_ret
    exact ⟨-1, rfl, fun h => absurd h (by decide), Below.refl _ _⟩
  have hd : decide (1048576 - (l.length : Int) < 0) = false := decide_eq_false (by omega)
  by_cases h0 : l = []
  · subst h0
    go_enter Try.func26, Try.ntmps26
    go_wp2_with fail
    go_loop [1, 5] (fun lv i => lv = .int .i64 1048576 ∧ i = .int .i64 0) (fun _ _ => 0)
    case atStart => exact ⟨by first | rfl | simp, rfl⟩
    case round =>
      obtain ⟨rfl, rfl⟩ := hrel
      go_wp2_with fail
      go_ret
      exact ⟨_, rfl, fun _ => ⟨Nat.zero_le _, fun j hj => absurd hj (by simp)⟩, Below.refl _ _⟩
  rcases ha with ha | ⟨ad, rfl, hadb, ga⟩
  · exact absurd ha h0
  have GA : Hid (AV w (some ad) l) := .inr ⟨ad, rfl, hadb, ga⟩
  clear ga
  go_enter Try.func26, Try.ntmps26
  go_wp2_with fail
  go_loopw [1, 5] (fun lv i wr => ∃ (k : Nat) (V : Int), lv = .int .i64 V ∧ i = .int .i64 k ∧ k ≤ l.length ∧ 0 ≤ V ∧ V ≤ 1048576 ∧ Below w.heap.size w wr ∧ Hid (∀ j, (hj : j < l.length) → j < k → l[j].size ≤ 1048576)) (fun _ i _ => l.length - (intOf i).toNat)
  case atStart => exact ⟨0, _, rfl, rfl, Nat.zero_le _, by omega, by omega, Below.refl _ _, fun j _ h => absurd h (by omega)⟩
  case round =>
    obtain ⟨k, V, rfl, rfl, hk, hv0, hv1, hbel, HS⟩ := hrel
    by_cases hlt : k < l.length
    · have hc : wr.cell? (ad.add k) = some (.string l[k]) := by
        rcases GA.out.below hbel with h | ⟨ad', h1, _, h3⟩
        · exact absurd h h0
        · cases h1; exact h3 k l[k] (List.getElem?_eq_getElem hlt)
      have hsz := hx l[k] (List.getElem_mem hlt)
      have w2 : IntKind.i64.wrap (V - (l[k].size : Int)) = V - (l[k].size : Int) := by rw [IntKind.wrap_i64]; omega
      by_cases hneg : V - (l[k].size : Int) < 0
      · have hd2 : decide (V - (l[k].size : Int) < 0) = true := decide_eq_true hneg
        go_wp2_with fail
        go_ret
        exact ⟨-1, rfl, fun h => absurd h (by decide), hbel⟩
      · have hd2 : decide (V - (l[k].size : Int) < 0) = false := decide_eq_false hneg
        have HS' : Hid (∀ j, (hj : j < l.length) → j < k + 1 → l[j].size ≤ 1048576) := by
          intro j hj h
          by_cases e : j = k
          · subst e; omega
          · exact HS.out j hj (by omega)
        clear HS
        go_wp2_with fail
        go_roundw
        case rel => exact ⟨k + 1, _, rfl, by go_num, by omega, by omega, by omega, hbel, HS'⟩
        case measure => simp [intOf]; omega
    · have HR : Short l V := fun _ => ⟨by omega, fun j hj => HS.out j hj (by omega)⟩
      go_wp2_with fail
      go_ret
      exact ⟨V, rfl, HR, hbel⟩

theorem cellsS : Try.prog.cellsOf 9 = 1 := by kernel_rfl
set_option maxRecDepth 100000 in
open Go.ChangeShapes Go.WideShapes Go.ChangeAt in
theorem open_texts {H : Type} {enc : TypeId × Value → H} {W : World} {r : Reach} {b0 base : Nat} {sp : Nat → Bool} {held : Bool} {v : Value} {d : DataW H} {p : List MemPlace}
    (hv : Value.okWide Try.prog W r b0 35 v) (h : DataW.Trod enc Try.prog W base sp held 35 v d p) : ∃ (a : Option Addr) (cap : Nat) (l : List ByteArray), v = .slice a l.length cap ∧ AV W a l ∧ l.length ≤ maxLen ∧ ∀ x ∈ l, x.size ≤ maxLen := by
  obtain ⟨a, len, cap, rfl⟩ := okWide_slice Try.underlying35 hv
  obtain ⟨fuel, hf⟩ := h
  rcases open_strings Try.underlying35 Try.underlying9 cellsS hf with ⟨hc, _⟩ | ⟨a', len', cap', ss, hc, _, hl, hm, hz, hx, hcell, hsz⟩
  · simp [Value.cells] at hc
    obtain ⟨rfl, rfl, rfl⟩ := hc
    exact ⟨none, 0, [], rfl, .inl rfl, Nat.zero_le _, fun x hx => by cases hx⟩
  · simp [Value.cells] at hc
    obtain ⟨rfl, rfl, rfl⟩ := hc
    have hlz : len ≤ ss.length := by rw [hz]; split <;> omega
    have htl : (ss.take len).length = len := by rw [List.length_take]; omega
    refine ⟨some a', cap, ss.take len, by rw [htl], ?_, by rw [htl]; omega, fun x hx => hsz x (List.mem_of_mem_take hx)⟩
    by_cases h0 : ss.take len = []
    · exact .inl h0
    · have hc : ∀ i x, (ss.take len)[i]? = some x → W.cell? (a'.add i) = some (.string x) := by
        intro i x hx
        obtain ⟨hi, rfl⟩ := List.getElem?_eq_some_iff.1 hx
        have hi' : i < ss.length := by omega
        have := hcell i hi'
        rw [List.getD, List.getElem?_eq_getElem hi', Option.getD_some] at this
        rw [this, List.getElem_take]
      have hp := List.length_pos_iff.2 h0
      have hlt := World.block_lt_of_cell? W _ (hc 0 _ (List.getElem?_eq_getElem hp))
      rw [add_block] at hlt
      exact .inr ⟨a', rfl, hlt, hc⟩

end Go.Proofs.Ytelpmkbjegimpaa.Sts
