/-
  Walks: draws: (*l1Cur).of with what all its texts have, spoilt.
-/
import Derived.Test.YtgidmoncocbfiaaDoorDrb
import Derived.Test.YtgidmoncocbfiaaDoorMrk
namespace Go.Proofs.YtgidmoncocbfiaaDoor.Cur
open Go.RowKit
open Go.Proofs.YtgidmoncocbfiaaDoor.Own

set_option maxHeartbeats 800000 in
theorem of_pr (Pr : ByteArray → Prop) (cb b m : Nat) (v : Value) (n N : Nat) (w : World) (hC : Cursor w cb v n N) (hN : N ≤ 900000000) (h1 : 1 ≤ m) (h2 : m ≤ 1000) (hb : b < w.heap.size) (hbc : b ≠ cb) (hcell : ∀ i, i < m → ∃ x : ByteArray, Pr x ∧ w.cell? ⟨b, i, none⟩ = some (.string x)) :
    Calls Tryd.prog 31 #[.pointer (some ⟨cb, 0, none⟩), .slice (some ⟨b, 0, none⟩) m m] w fun e w' => ∃ x : ByteArray, e = .returned (.string x) ∧ Pr x ∧ Cursor w' cb v n (N + 2) ∧ But cb w w' := by
  have HC : Hid _ := hC
  have HL : Hid _ := hcell
  clear hC hcell
  go_enter Tryd.func31, Tryd.ntmps31
  go_wp2_with fail
  refine (pick_any cb v n N m _ HC.out hN h1 (by omega)).mono ?_
  rintro e w1 ⟨x, rfl, hx, hC1, hb1⟩
  obtain ⟨z, hM, hz⟩ := HL.out x hx
  have hz1 := ((bcells hb1).1 b x hb hbc).trans hz
  have HC1 : Hid _ := hC1
  have Hb1 : Hid _ := hb1
  clear hC1 hb1
  go_wp2_with fail
  go_ret
  exact ⟨z, rfl, hM, HC1.out, Hb1.out⟩
theorem texts_pr (Pr : ByteArray → Prop) (w : World) (xs : List ByteArray) (hM : ∀ x ∈ xs, Pr x) (t : TypeId) (b : Nat) (hb : b = w.heap.size) : ∀ i, i < xs.length → ∃ x : ByteArray, Pr x ∧ (w.alloc (.cells (xs.map Value.string).toArray t)).cell? ⟨b, i, none⟩ = some (.string x) := by
  subst hb
  intro i hi
  exact ⟨xs[i], hM _ (List.getElem_mem hi), by rw [World.cell?_alloc_mark]; simp [hi]⟩

/-- One of some texts that are made ahead of the call. -/
theorem of_new (Pr : ByteArray → Prop) (xs : List ByteArray) (hx : ∀ x ∈ xs, Pr x) (m : Nat) (hm : m = xs.length) (h1 : 1 ≤ m) (h2 : m ≤ 1000) (cb : Nat) (v : Value) (n N : Nat) (w0 w : World) (hC : Cursor w cb v n N) (hB : But cb w0 w) (hN : N ≤ 900000000) :
    Calls Tryd.prog 31 #[.pointer (some ⟨cb, 0, none⟩), .slice (some ⟨w.heap.size, 0, none⟩) m m] (w.alloc (.cells (xs.map Value.string).toArray 9)) fun e w' => ∃ x : ByteArray, e = .returned (.string x) ∧ Pr x ∧ Cursor w' cb v n (N + 2) ∧ But cb w0 w' := by
  subst hm
  have hcb : cb < w.heap.size := hC.2.2.1
  have hb1 := (Below.refl w.heap.size w).alloc (Nat.le_refl _) (.cells (xs.map Value.string).toArray 9)
  refine (of_pr Pr cb _ xs.length v n N _ (Cursor.below hC hb1) hN h1 h2 (by simp) (by omega) (texts_pr Pr w xs hx _ _ rfl)).mono ?_
  rintro e w' ⟨x, rfl, hx, hC', hb'⟩
  refine ⟨x, rfl, hx, hC', But.trans (But.then hB ?_) hb'⟩
  exact (Below.refl w0.heap.size w).alloc hB.2.2.2.1 _

theorem of_new2 (Pr : ByteArray → Prop) (xs : List ByteArray) (hx : ∀ x ∈ xs, Pr x) (m : Nat) (hm : m = xs.length) (h1 : 1 ≤ m) (h2 : m ≤ 1000) (cb : Nat) (v : Value) (n N : Nat) (w : World) (hC : Cursor w cb v n N) (hN : N ≤ 900000000) :
    Calls Tryd.prog 31 #[.pointer (some ⟨cb, 0, none⟩), .slice (some ⟨w.heap.size, 0, none⟩) m m] (w.alloc (.cells (xs.map Value.string).toArray 9)) fun e w' => ∃ x : ByteArray, e = .returned (.string x) ∧ Pr x ∧ Cursor w' cb v n (N + 2) ∧ But cb w w' :=
  of_new Pr xs hx m hm h1 h2 cb v n N w w hC (But.refl cb w) hN

end Go.Proofs.YtgidmoncocbfiaaDoor.Cur
