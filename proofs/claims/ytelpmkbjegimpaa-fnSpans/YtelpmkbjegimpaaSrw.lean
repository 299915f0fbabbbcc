/-
  A row of spans that the library's sort has laid anew.
-/
import Derived.Test.YtelpmkbjegimpaaSri
import Derived.Shelf.SlSortCmp.SmallK
namespace Go.Proofs.Ytelpmkbjegimpaa.Spb
open Go.RowKit Go.Sort

/-- A span's two cells. -/
def encP (x : Int × Int) : List Value := [.int .i64 x.1, .int .i64 x.2]
theorem encP_len (x : Int × Int) : (encP x).length = 2 := rfl
theorem encP_one (x : Int × Int) : ∀ v ∈ encP x, v.oneCell' = true := by
  intro v hv
  simp [encP] at hv
  rcases hv with rfl | rfl <;> rfl
theorem flatK_at (l : List (Int × Int)) (i c : Nat) (hi : i < l.length) (hc : c < 2) : (flatK encP 2 l.toArray)[i * 2 + c]! = (encP l[i])[c]! := by
  rw [get_flatK encP 2 l.toArray (i * 2 + c) (by simp; omega)]
  rw [show (i * 2 + c) / 2 = i by omega, show (i * 2 + c) % 2 = c by omega, getElem!_pos l.toArray i (by simpa using hi)]
  simp
theorem holds_of {w : World} {g : Nat} {l : List (Int × Int)} (h : RowP w g l) : HoldsK encP 2 w g 0 l.toArray := by
  intro j hj
  have hj2 : j < l.length * 2 := by simpa using hj
  have hi : j / 2 < l.length := by omega
  refine ⟨?_, h.2.1 _⟩
  have he := flatK_at l (j / 2) (j % 2) hi (by omega)
  rw [show j / 2 * 2 + j % 2 = j by omega] at he
  obtain ⟨c0, c1⟩ := h.2.2 (j / 2) l[j / 2] (List.getElem?_eq_getElem hi)
  rw [he, Nat.zero_add]
  rcases (show j % 2 = 0 ∨ j % 2 = 1 by omega) with e | e
  · rw [e]; rw [show j / 2 * 2 = j by omega] at c0; exact c0
  · rw [e]; rw [show j / 2 * 2 + 1 = j by omega] at c1; exact c1
theorem row_of {w : World} {g : Nat} {l : List (Int × Int)} (hg : g < w.heap.size) (hf : ∀ i, w.frozen? ⟨g, i, none⟩ = false) (h : HoldsK encP 2 w g 0 l.toArray) : RowP w g l := by
  refine ⟨hg, hf, fun i c hc => ?_⟩
  obtain ⟨hi, rfl⟩ := List.getElem?_eq_some_iff.1 hc
  have h0 := (h (i * 2 + 0) (by simp; omega)).1
  have h1 := (h (i * 2 + 1) (by simp; omega)).1
  rw [flatK_at l i 0 hi (by omega), Nat.zero_add] at h0
  rw [flatK_at l i 1 hi (by omega), Nat.zero_add] at h1
  exact ⟨h0, h1⟩
theorem grow_at {w : World} {os : Array Obj} {k : Nat} (hk : k < w.heap.size) : (Sort.grow w os).heap[k]? = w.heap[k]? := by
  unfold Sort.grow; exact Array.getElem?_append_left hk
theorem sorted_row {w : World} {g : Nat} {l m : List (Int × Int)} (h : RowP w g l) (hlen : m.length = l.length) (n : Nat) (os : Array Obj) : RowP (sortWorldK encP 2 w g 0 n m.toArray os) g m ∧ Below g w (sortWorldK encP 2 w g 0 n m.toArray os) := by
  have hs : (putRowK encP 2 (Sort.ahead w n) g 0 m.toArray).heap.size = w.heap.size := by unfold putRowK; rw [size_putRow]; rfl
  have hsz : w.heap.size ≤ (sortWorldK encP 2 w g 0 n m.toArray os).heap.size := by unfold sortWorldK; rw [size_grow, hs]; omega
  refine ⟨row_of (Nat.lt_of_lt_of_le h.1 hsz) (fun i => ?_) ?_, ⟨rfl, rfl, rfl, hsz, fun k hk => ?_⟩⟩
  · have e : (sortWorldK encP 2 w g 0 n m.toArray os).heap[g]? = (putRowK encP 2 (Sort.ahead w n) g 0 m.toArray).heap[g]? := grow_at (by rw [hs]; exact h.1)
    rw [World.frozen?_of_block (a := ⟨g, i, none⟩) e]
    unfold putRowK
    rw [frozen?_putRow]
    exact h.2.1 i
  · unfold sortWorldK
    refine holdsK_grow encP 2 _ os g 0 _ (by rw [hs]; exact h.1) ?_
    exact holdsK_putRowK encP 2 _ g 0 l.toArray m.toArray (holdsK_ahead _ _ _ _ _ _ _ (holds_of h)) (by simp [hlen])
  · have hkw : k < w.heap.size := Nat.lt_trans hk h.1
    unfold sortWorldK
    rw [grow_at (by rw [hs]; exact hkw)]
    unfold putRowK putRow mapBlock
    simp only [Array.getElem?_modify]
    rw [if_neg (by omega)]
    rfl

end Go.Proofs.Ytelpmkbjegimpaa.Spb
