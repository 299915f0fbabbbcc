/-
  Walks: the laws' own helpers for lists of texts: laws.markText, eqStringS, markStringS, heldStringS.
-/
import Derived.Test.YtnindmppnfeanaaGreatDoorLsp
import Derived.Deep.QuietTactic
import Derived.BigQuiet
import Derived.Deep.RegionLaw
namespace Go.Proofs.YtnindmppnfeanaaGreatDoor.Mrk
open Go.RowKit
open Go.Proofs.YtnindmppnfeanaaGreatDoor.Fbs
open Go.Proofs.YtnindmppnfeanaaGreatDoor.Ows
open Go.Proofs.YtnindmppnfeanaaGreatDoor.Lsp

/-- A number's digits ahead of others. -/
def dgF : Nat → Nat → List UInt8 → List UInt8
  | 0, _, acc => acc
  | f + 1, k, acc => if k = 0 then acc else dgF f (k / 10) (UInt8.ofNat (48 + k % 10) :: acc)
def mk (k : Nat) : ByteArray := ⟨(109 :: dgF k k []).toArray⟩
theorem dgF_zero (f : Nat) (acc : List UInt8) : dgF f 0 acc = acc := by cases f <;> simp [dgF]
theorem dgF_step {f k : Nat} {acc : List UInt8} (h : 0 < k) : dgF (f + 1) k acc = dgF f (k / 10) (UInt8.ofNat (48 + k % 10) :: acc) := by
  simp only [dgF]; rw [if_neg (by omega)]
theorem byte_of (n : Nat) (h : n < 208) : ((UInt8.ofNat (48 + n)).toNat : Int) = 48 + (n : Int) := by
  rw [UInt8.toNat_ofNat']; omega

theorem text_at (W : World) (b : Nat) (c : UInt8) (hc : W.cell? ⟨b, 0, none⟩ = some (.int .u8 (c.toNat : Int))) : (convert 22 9 (.slice (some ⟨b, 0, none⟩) 1 1)).run Tryz.prog W = .ok (.string ⟨#[c]⟩) W := by
  refine run_convert_bytes_back _ 22 9 5 ⟨b, 0, none⟩ 1 [c] Tryz.underlying22 Tryz.underlying5 Tryz.underlying9 (fun j hj => ?_)
  have h0 : j = 0 := by simpa using hj
  subst h0
  rw [Addr.add_lit]
  exact hc
theorem text_one (w : World) (c : UInt8) (x : Int) (hx : x = (c.toNat : Int)) : (convert 22 9 (.slice (some ⟨w.heap.size, 0, none⟩) 1 1)).run Tryz.prog (w.alloc (.cells #[.int .u8 x] 5)) = .ok (.string ⟨#[c]⟩) (w.alloc (.cells #[.int .u8 x] 5)) := by
  subst hx
  exact text_at _ _ c (by rw [World.cell?_alloc_mark]; rfl)

theorem wrap_dig (n : Nat) : IntKind.u8.wrap (48 + (n : Int) % 10) = 48 + (n : Int) % 10 := by
  have hd : (n : Int) % 10 = ((n % 10 : Nat) : Int) := by omega
  have all : ∀ m : Nat, m < 10 → IntKind.u8.wrap (48 + (m : Int)) = 48 + (m : Int) := by decide
  rw [hd]; exact all _ (by omega)

/-- A row of texts in a block of its own. -/
def RowT (w : World) (g : Nat) (l : List ByteArray) : Prop := g < w.heap.size ∧ (∀ i, w.frozen? ⟨g, i, none⟩ = false) ∧ ∀ i x, l[i]? = some x → w.cell? ⟨g, i, none⟩ = some (.string x)
/-- A list of texts: empty, or in a block from lo on and below hi. -/
def TV (w : World) (a : Option Addr) (l : List ByteArray) (lo hi : Nat) : Prop := l = [] ∨ ∃ g, a = some ⟨g, 0, none⟩ ∧ lo ≤ g ∧ g < hi ∧ RowT w g l

theorem RowT.below {w w' : World} {g : Nat} {l : List ByteArray} (h : RowT w g l) (hb : Below w.heap.size w w') : RowT w' g l :=
  ⟨Nat.lt_of_lt_of_le h.1 hb.size, fun i => (hb.frozen (p := ⟨g, i, none⟩) h.1).trans (h.2.1 i), fun i x hx => (hb.cell (p := ⟨g, i, none⟩) h.1).trans (h.2.2 i x hx)⟩
theorem TV.below {w w' : World} {a : Option Addr} {l : List ByteArray} {lo hi : Nat} (h : TV w a l lo hi) (hb : Below w.heap.size w w') : TV w' a l lo hi := by
  rcases h with h | ⟨g, h1, h2, h3, h4⟩
  · exact .inl h
  · exact .inr ⟨g, h1, h2, h3, h4.below hb⟩
theorem tv_of {w : World} {B : Nat} {v : Value} {l : List ByteArray} (h : textsIn w B v l) : ∃ a cap, v = .slice a l.length cap ∧ TV w a l B w.heap.size := by
  rcases h.2 with ⟨rfl, h0⟩ | ⟨g, cap, cur, rfl, hbg, hg, hnc, hcm, hcs, htake⟩
  · have hl : l = [] := by simpa using h0
    subst hl
    exact ⟨none, 0, rfl, .inl rfl⟩
  · refine ⟨_, _, rfl, .inr ⟨g, rfl, hbg, (Array.getElem?_eq_some_iff.1 hg).1, (Array.getElem?_eq_some_iff.1 hg).1, fun i => by simp [World.frozen?, hg], fun i x hx => textsIn.at h i x hx⟩⟩

theorem same_text (x : ByteArray) : (x.toList == x.toList) = true := by simp

theorem below_drewN (w : World) (n : Nat) : Below w.heap.size w (w.drewN n) := ⟨rfl, rfl, rfl, Nat.le_refl _, fun _ _ => rfl⟩

def marks (k n : Nat) : List ByteArray := (List.range n).map fun i => mk (k + i)
theorem marks_at (k n i : Nat) (h : i < n) : (marks k n)[i]? = some (mk (k + i)) := by
  unfold marks
  rw [List.getElem?_map, List.getElem?_range h]; rfl
theorem marks_len (k n : Nat) : (marks k n).length = n := by simp [marks]

/-- Marks so far: j of n texts of a row turned. -/
def Part (w : World) (g k j n : Nat) : Prop := g < w.heap.size ∧ (∀ i, w.frozen? ⟨g, i, none⟩ = false) ∧ (∀ i, i < j → w.cell? ⟨g, i, none⟩ = some (.string (mk (k + i)))) ∧ ∀ i, j ≤ i → i < n → ∃ x, w.cell? ⟨g, i, none⟩ = some (.string x)
theorem Part.below {w w' : World} {g k j n : Nat} (h : Part w g k j n) (hb : Below w.heap.size w w') : Part w' g k j n := by
  have e : ∀ i, w'.cell? ⟨g, i, none⟩ = w.cell? ⟨g, i, none⟩ := fun i => hb.cell (p := ⟨g, i, none⟩) h.1
  refine ⟨Nat.lt_of_lt_of_le h.1 hb.size, fun i => (hb.frozen (p := ⟨g, i, none⟩) h.1).trans (h.2.1 i), fun i hi => (e i).trans (h.2.2.1 i hi), fun i h1 h2 => ?_⟩
  obtain ⟨x, hx⟩ := h.2.2.2 i h1 h2
  exact ⟨x, (e i).trans hx⟩
theorem Part.step {w : World} {g k j n : Nat} (h : Part w g k j n) (hj : j < n) : Part (w.setCell ⟨g, j, none⟩ (.string (mk (k + j)))) g k (j + 1) n := by
  obtain ⟨h1, h2, h3, h4⟩ := h
  obtain ⟨x0, hx0⟩ := h4 j (Nat.le_refl _) hj
  refine ⟨by simpa [World.setCell] using h1, fun i => by simp [go_sem, h2], fun i hi => ?_, fun i hi hn => ?_⟩
  · by_cases he : i = j
    · subst he; simp [go_sem, hx0]
    · have := h3 i (by omega)
      rw [← this]
      simp [go_sem]
  · obtain ⟨x, hx⟩ := h4 i (by omega) hn
    refine ⟨x, ?_⟩
    rw [← hx]
    simp [go_sem]
theorem Part.row {w : World} {g k n : Nat} (h : Part w g k n n) : RowT w g (marks k n) := by
  refine ⟨h.1, h.2.1, fun i x hx => ?_⟩
  have hi : i < n := by
    have := (List.getElem?_eq_some_iff.1 hx).1
    rwa [marks_len] at this
  rw [marks_at k n i hi] at hx
  cases hx
  exact h.2.2.1 i hi
theorem grown_below {w w1 w2 : World} {row : Option Nat} (h : w.grownBy w1 row) (hb : Below w1.heap.size w1 w2) : w.grownBy w2 row :=
  ⟨hb.os.trans h.os, hb.tape.trans h.tape, hb.output.trans h.output, Nat.le_trans h.size hb.size, fun k hk hr => (hb.block k (Nat.lt_of_lt_of_le hk h.size)).trans (h.block k hk hr)⟩
theorem grown_of {w w1 : World} (row : Option Nat) (hb : Below w.heap.size w w1) : w.grownBy w1 row := ⟨hb.os, hb.tape, hb.output, hb.size, fun k hk _ => hb.block k hk⟩
theorem grown_set {w w1 : World} {g : Nat} (h : w.grownBy w1 (some g)) (j : Nat) (v : Value) : w.grownBy (w1.setCell ⟨g, j, none⟩ v) (some g) :=
  ⟨h.os, h.tape, h.output, by have := h.size; simpa [World.setCell] using this, fun k hk hr => (Below.heap_setCell _ _ _ k (fun e => hr (by rw [e]))).trans (h.block k hk hr)⟩

/-- A list below what has turned is as it was. -/
theorem TV.kept {w w' : World} {a : Option Addr} {l : List ByteArray} {lo hi : Nat} (h : TV w a l lo hi) {row : Option Nat} (hg : w.grownBy w' row) (hr : ∀ g, row = some g → hi ≤ g) : TV w' a l lo hi := by
  rcases h with h | ⟨g, h1, h2, h3, h4, h5, h6⟩
  · exact .inl h
  · have hb : w'.heap[g]? = w.heap[g]? := hg.block g h4 (fun e => by have := hr g e.symm; omega)
    refine .inr ⟨g, h1, h2, h3, Nat.lt_of_lt_of_le h4 hg.size, fun i => ?_, fun i x hx => ?_⟩
    · rw [← h5 i]; unfold World.frozen?; rw [hb]
    · rw [← h6 i x hx]; unfold World.cell?; rw [hb]
theorem below_grown {B : Nat} {w w1 w2 : World} (h : Below B w w1) {row : Option Nat} (hg : w1.grownBy w2 row) (hB : B ≤ w1.heap.size) (hr : ∀ g, row = some g → B ≤ g) : Below B w w2 :=
  h.grown hg hB (fun k e => hr k e)

/-- What is answered, in one shape. -/
def lst (o : Option (List ByteArray)) : List ByteArray := o.getD []
theorem told_tv {w : World} {B : Nat} {e : Ending} {o : Option (List ByteArray)} (h : Lsp.Told w B e o) : ∃ a cap, e = .returned (.tuple #[.slice a (lst o).length cap, .bool o.isSome]) ∧ TV w a (lst o) B w.heap.size := by
  cases o with
  | none => exact ⟨none, 0, h, .inl rfl⟩
  | some l =>
    obtain ⟨v, rfl, hown⟩ := h
    obtain ⟨a, cap, rfl, ht⟩ := tv_of hown
    exact ⟨a, cap, rfl, ht⟩

end Go.Proofs.YtnindmppnfeanaaGreatDoor.Mrk
