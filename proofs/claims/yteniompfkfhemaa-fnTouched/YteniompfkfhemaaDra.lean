/-
  Walks: dates that are drawn: spec's among, date.
-/
import Derived.Test.YteniompfkfhemaaCur
namespace Go.Proofs.Yteniompfkfhemaa.Cur
open Go.RowKit

theorem bcells {cb : Nat} {w0 w1 : World} (hb : But cb w0 w1) : (∀ b o, b < w0.heap.size → b ≠ cb → w1.cell? ⟨b, o, none⟩ = w0.cell? ⟨b, o, none⟩) ∧ (∀ b o, b < w0.heap.size → b ≠ cb → w1.frozen? ⟨b, o, none⟩ = w0.frozen? ⟨b, o, none⟩) :=
  ⟨fun b o h h' => hb.cell (p := ⟨b, o, none⟩) h h', fun b o h h' => hb.frozen (p := ⟨b, o, none⟩) h h'⟩

/-- All blocks below B but one are as they were. -/
def ButB (B cb : Nat) (w w' : World) : Prop := w'.os = w.os ∧ w'.tape = w.tape ∧ w'.output = w.output ∧ w.heap.size ≤ w'.heap.size ∧ ∀ k, k < B → k ≠ cb → w'.heap[k]? = w.heap[k]?
theorem ButB.refl (B cb : Nat) (w : World) : ButB B cb w w := ⟨rfl, rfl, rfl, Nat.le_refl _, fun _ _ _ => rfl⟩
theorem ButB.alloc {B cb : Nat} {w w' : World} (h : ButB B cb w w') (hB : B ≤ w.heap.size) (o : Obj) : ButB B cb w (w'.alloc o) :=
  ⟨h.1, h.2.1, h.2.2.1, by have := h.2.2.2.1; simp; omega, fun k hk hc => (Below.heap_alloc w' o k (by have := h.2.2.2.1; omega)).trans (h.2.2.2.2 k hk hc)⟩
theorem ButB.set {B cb : Nat} {w w' : World} (h : ButB B cb w w') {p : Addr} (hp : B ≤ p.block ∨ p.block = cb) (u : Value) : ButB B cb w (w'.setCell p u) :=
  ⟨h.1, h.2.1, h.2.2.1, by have := h.2.2.2.1; simpa [World.setCell] using this, fun k hk hc => (Below.heap_setCell _ _ _ _ (by omega)).trans (h.2.2.2.2 k hk hc)⟩
theorem ButB.call {B cb : Nat} {w w1 w2 : World} (h : ButB B cb w w1) (hB : B ≤ w.heap.size) (k : But cb w1 w2) : ButB B cb w w2 :=
  ⟨k.1.trans h.1, k.2.1.trans h.2.1, k.2.2.1.trans h.2.2.1, Nat.le_trans h.2.2.2.1 k.2.2.2.1, fun i hi hc => (k.2.2.2.2 i (by have := h.2.2.2.1; omega) hc).trans (h.2.2.2.2 i hi hc)⟩
theorem ButB.out {cb : Nat} {w w' : World} (h : ButB w.heap.size cb w w') : But cb w w' := h

/-- A block of six integers of the call's own. -/
def Six (w : World) (b : Nat) : Prop := b < w.heap.size ∧ (∀ i, w.frozen? ⟨b, i, none⟩ = false) ∧ ∃ z0 z1 z2 z3 z4 z5 : Int, w.cell? ⟨b, 0, none⟩ = some (.int .i64 z0) ∧ w.cell? ⟨b, 1, none⟩ = some (.int .i64 z1) ∧ w.cell? ⟨b, 2, none⟩ = some (.int .i64 z2) ∧ w.cell? ⟨b, 3, none⟩ = some (.int .i64 z3) ∧ w.cell? ⟨b, 4, none⟩ = some (.int .i64 z4) ∧ w.cell? ⟨b, 5, none⟩ = some (.int .i64 z5)
theorem Six.made (w : World) (z0 z1 z2 z3 z4 z5 : Int) (t : TypeId) : Six (w.alloc (.cells #[.int .i64 z0, .int .i64 z1, .int .i64 z2, .int .i64 z3, .int .i64 z4, .int .i64 z5] t)) w.heap.size :=
  ⟨by simp, fun i => World.frozen?_alloc_at _ t _ i rfl, z0, z1, z2, z3, z4, z5, by rw [World.cell?_alloc_mark]; rfl, by rw [World.cell?_alloc_mark]; rfl, by rw [World.cell?_alloc_mark]; rfl, by rw [World.cell?_alloc_mark]; rfl, by rw [World.cell?_alloc_mark]; rfl, by rw [World.cell?_alloc_mark]; rfl⟩
theorem Six.alloc {w : World} {b : Nat} (h : Six w b) (o : Obj) : Six (w.alloc o) b := by
  obtain ⟨h1, h2, z0, z1, z2, z3, z4, z5, k0, k1, k2, k3, k4, k5⟩ := h
  refine ⟨by simp; omega, fun i => (World.frozen?_alloc_past o b i h1).trans (h2 i), z0, z1, z2, z3, z4, z5, ?_, ?_, ?_, ?_, ?_, ?_⟩ <;> rw [World.cell?_alloc_past o b _ h1] <;> assumption
theorem Six.but {w w' : World} {b cb : Nat} (h : Six w b) (hb : But cb w w') (hc : b ≠ cb) : Six w' b := by
  obtain ⟨h1, h2, z0, z1, z2, z3, z4, z5, k0, k1, k2, k3, k4, k5⟩ := h
  have e := (bcells hb).1 b
  refine ⟨Nat.lt_of_lt_of_le h1 hb.2.2.2.1, fun i => ((bcells hb).2 b i h1 hc).trans (h2 i), z0, z1, z2, z3, z4, z5, ?_, ?_, ?_, ?_, ?_, ?_⟩ <;> rw [e _ h1 hc] <;> assumption
theorem Six.set {w : World} {b : Nat} (h : Six w b) (b' j : Nat) (z : Int) : Six (w.setCell ⟨b', j, none⟩ (.int .i64 z)) b := by
  obtain ⟨h1, h2, z0, z1, z2, z3, z4, z5, k0, k1, k2, k3, k4, k5⟩ := h
  have e : ∀ (i : Nat) (x : Int), w.cell? ⟨b, i, none⟩ = some (.int .i64 x) → ∃ x' : Int, (w.setCell ⟨b', j, none⟩ (.int .i64 z)).cell? ⟨b, i, none⟩ = some (.int .i64 x') := by
    intro i x hx
    by_cases hs : b = b' ∧ i = j
    · obtain ⟨rfl, rfl⟩ := hs
      exact ⟨z, by simp [go_sem, hx]⟩
    · refine ⟨x, ?_⟩
      rw [← hx]
      by_cases hbb : b = b'
      · subst hbb
        have hij : i ≠ j := fun e => hs ⟨rfl, e⟩
        simp [go_sem]
      · simp [go_sem]
  obtain ⟨y0, e0⟩ := e 0 z0 k0
  obtain ⟨y1, e1⟩ := e 1 z1 k1
  obtain ⟨y2, e2⟩ := e 2 z2 k2
  obtain ⟨y3, e3⟩ := e 3 z3 k3
  obtain ⟨y4, e4⟩ := e 4 z4 k4
  obtain ⟨y5, e5⟩ := e 5 z5 k5
  exact ⟨by simpa [World.setCell] using h1, fun i => by simp [go_sem, h2], y0, y1, y2, y3, y4, y5, e0, e1, e2, e3, e4, e5⟩

set_option maxHeartbeats 800000 in
theorem among_any (cb b m : Nat) (v : Value) (n N : Nat) (w : World) (hC : Cursor w cb v n N) (hN : N ≤ 900000000) (h1 : 1 ≤ m) (h2 : m ≤ 1000) (hb : b < w.heap.size) (hbc : b ≠ cb) (hcell : ∀ i, i < m → ∃ z : Int, w.cell? ⟨b, i, none⟩ = some (.int .i64 z)) :
    Calls Try.prog 58 #[.pointer (some ⟨cb, 0, none⟩), .slice (some ⟨b, 0, none⟩) m m] w fun e w' => ∃ x : Int, e = .returned (.int .i64 x) ∧ Cursor w' cb v n (N + 2) ∧ But cb w w' := by
  have HC : Hid _ := hC
  have HL : Hid _ := hcell
  clear hC hcell
  go_enter Try.func58, Try.ntmps58
  go_wp2_with fail
  refine (pick_any cb v n N m _ HC.out hN h1 (by omega)).mono ?_
  rintro e w1 ⟨x, rfl, hx, hC1, hb1⟩
  obtain ⟨z, hz⟩ := HL.out x hx
  have hz1 := ((bcells hb1).1 b x hb hbc).trans hz
  have HC1 : Hid _ := hC1
  have Hb1 : Hid _ := hb1
  clear hC1 hb1
  go_wp2_with fail
  go_ret
  exact ⟨z, rfl, HC1.out, Hb1.out⟩

end Go.Proofs.Yteniompfkfhemaa.Cur
