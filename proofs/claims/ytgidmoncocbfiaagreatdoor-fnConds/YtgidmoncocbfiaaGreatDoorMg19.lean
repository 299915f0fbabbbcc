/-
  Walks: what draws read: spec's (*l1Cur).next, pick, one.
  Walks: dates that are drawn: spec's among, date.
  Bytes that are drawn from, among a law's arguments; picks with a number told; lists that are chosen from; walk: spec's (*l1Cur).of.
  Walks: draws: (*l1Cur).bytes.
-/
import Derived.Test.YtgidmoncocbfiaaGreatDoorProg
import Derived.WalkKit
import Derived.WalkLawsBesides
import Derived.Below
import Derived.Laws.Bits64b
import Derived.Deep.QuietTactic
import Derived.BigQuiet
import Derived.ProofKit
import Derived.SizedLaws
import Derived.Test.YtgidmoncocbfiaaGreatDoorMg1
import Derived.Deep.OwnRows
namespace Go.Proofs.YtgidmoncocbfiaaGreatDoor.Cur
open Go.RowKit

/-- All blocks that lay there but one are as they were. -/
def But (cb : Nat) (w w' : World) : Prop := w'.os = w.os ∧ w'.tape = w.tape ∧ w'.output = w.output ∧ w.heap.size ≤ w'.heap.size ∧ ∀ k, k < w.heap.size → k ≠ cb → w'.heap[k]? = w.heap[k]?

theorem But.refl (cb : Nat) (w : World) : But cb w w := ⟨rfl, rfl, rfl, Nat.le_refl _, fun _ _ _ => rfl⟩
theorem But.trans {cb : Nat} {a b c : World} (h : But cb a b) (k : But cb b c) : But cb a c :=
  ⟨k.1.trans h.1, k.2.1.trans h.2.1, k.2.2.1.trans h.2.2.1, Nat.le_trans h.2.2.2.1 k.2.2.2.1, fun i hi hc => (k.2.2.2.2 i (Nat.lt_of_lt_of_le hi h.2.2.2.1) hc).trans (h.2.2.2.2 i hi hc)⟩
theorem But.of_below {cb : Nat} {w w' : World} (h : Below w.heap.size w w') : But cb w w' := ⟨h.os, h.tape, h.output, h.size, fun k hk _ => h.block k hk⟩
theorem But.below {cb B : Nat} {w w' : World} (h : But cb w w') (hB : B ≤ cb) (hs : B ≤ w.heap.size) : Below B w w' := ⟨h.1, h.2.1, h.2.2.1, h.2.2.2.1, fun k hk => h.2.2.2.2 k (by omega) (by omega)⟩
theorem But.set {cb : Nat} {a w : World} (h : But cb a w) (o : Nat) (u : Value) : But cb a (w.setCell ⟨cb, o, none⟩ u) :=
  h.trans ⟨rfl, rfl, rfl, by simp [World.setCell], fun k _ hc => Below.heap_setCell _ _ _ _ (by simpa using hc)⟩
theorem But.drew {cb : Nat} {a w : World} (h : But cb a w) : But cb a w.drew := h
theorem But.cell {cb : Nat} {w w' : World} (h : But cb w w') {p : Addr} (hp : p.block < w.heap.size) (hc : p.block ≠ cb) : w'.cell? p = w.cell? p := by
  have := h.2.2.2.2 p.block hp hc
  unfold World.cell?
  rw [this]
theorem But.frozen {cb : Nat} {w w' : World} (h : But cb w w') {p : Addr} (hp : p.block < w.heap.size) (hc : p.block ≠ cb) : w'.frozen? p = w.frozen? p := by
  have := h.2.2.2.2 p.block hp hc
  unfold World.frozen?
  rw [this]

theorem ret_int {k : IntKind} {a b : Int} (h : a = b) : Ending.returned (.int k a) = .returned (.int k b) := by rw [h]
theorem add_block (a : Addr) (i : Nat) : (a.add i).block = a.block := by unfold Addr.add; split <;> rfl

/-- The bytes that are drawn from: an argument's. -/
def CodeIn (w : World) (cb : Nat) (v : Value) (n : Nat) : Prop :=
  (v = .slice none 0 0 ∧ n = 0) ∨ ∃ (a : Addr) (cap : Nat), v = .slice (some a) n cap ∧ n ≤ cap ∧ cap ≤ maxLen ∧ ∀ i, i < n → a.block < cb ∧ ∃ c : UInt8, w.cell? (a.add i) = some (.int .u8 (c.toNat : Int))

theorem CodeIn.but {w w' : World} {cb : Nat} {v : Value} {n : Nat} (h : CodeIn w cb v n) (hc : cb ≤ w.heap.size) (hb : But cb w w') : CodeIn w' cb v n := by
  rcases h with h | ⟨a, cap, h1, h2, h3, h6⟩
  · exact .inl h
  · refine .inr ⟨a, cap, h1, h2, h3, fun i hi => ?_⟩
    obtain ⟨h4, c, hc'⟩ := h6 i hi
    exact ⟨h4, c, (hb.cell (p := a.add i) (by rw [add_block]; omega) (by rw [add_block]; omega)).trans hc'⟩

/-- A cursor: the bytes, the place (at most N), and a seed. -/
def Cursor (w : World) (cb : Nat) (v : Value) (n N : Nat) : Prop :=
  CodeIn w cb v n ∧ n ≤ 2000000 ∧ cb < w.heap.size ∧ w.cell? ⟨cb, 0, none⟩ = some v ∧ (∃ a : Nat, a ≤ N ∧ w.cell? ⟨cb, 1, none⟩ = some (.int .i64 a)) ∧ (∃ s : Int, w.cell? ⟨cb, 2, none⟩ = some (.int .u64 s)) ∧ ∀ i, w.frozen? ⟨cb, i, none⟩ = false

theorem wrap_u (y : Int) : 0 ≤ IntKind.u64.wrap y ∧ IntKind.u64.wrap y < 18446744073709551616 := by
  have : IntKind.u64.wrap y = y % 18446744073709551616 := by rw [IntKind.wrap_u64]
  omega
theorem shr_byte (y : Int) : ∃ x : Nat, wrap64 (bits BinOp.and IntKind.u64 (IntKind.u64.wrap y / 1099511627776) 255) = (x : Int) ∧ x ≤ 255 := by
  obtain ⟨h1, h2⟩ := wrap_u y
  obtain ⟨m, hm⟩ := Int.eq_ofNat_of_zero_le (show 0 ≤ IntKind.u64.wrap y / 1099511627776 by omega)
  rw [hm, show (255 : Int) = ((255 : Nat) : Int) from rfl, bits_and_u64_nat m 255 (by omega) (by omega)]
  have := Nat.and_le_right (n := m) (m := 255)
  refine ⟨m &&& 255, ?_, this⟩
  unfold wrap64
  omega

theorem cursor_next {w w' : World} {cb n N a : Nat} {v : Value} {s' : Int} {q1 q2 : Nat} (hcode : CodeIn w cb v n) (hn : n ≤ 2000000) (hlt : cb < w.heap.size) (c0 : w.cell? ⟨cb, 0, none⟩ = some v) (ha : a ≤ N)
    (c1 : w.cell? ⟨cb, 1, none⟩ = some (.int .i64 a)) (c2 : ∃ s : Int, w.cell? ⟨cb, 2, none⟩ = some (.int .u64 s)) (fr : ∀ i, w.frozen? ⟨cb, i, none⟩ = false)
    (hw : w' = (((w.drewN q1).setCell ⟨cb, 1, none⟩ (.int .i64 ((a : Int) + 1))).setCell ⟨cb, 2, none⟩ (.int .u64 s')).drewN q2) : Cursor w' cb v n (N + 1) ∧ But cb w w' := by
  obtain ⟨s, c2⟩ := c2
  have hB : But cb w w' := by
    rw [hw]
    exact ((((But.refl cb w).set 1 (.int .i64 ((a : Int) + 1))).set 2 (.int .u64 s')) : But cb w _)
  refine ⟨⟨hcode.but (Nat.le_of_lt hlt) hB, hn, Nat.lt_of_lt_of_le hlt hB.2.2.2.1, ?_, ⟨a + 1, by omega, ?_⟩, ⟨s', ?_⟩, ?_⟩, hB⟩
  · rw [hw]; simp [go_sem, c0]
  · rw [hw]; simp [go_sem, c1]
  · rw [hw]; simp [go_sem, c2]
  · intro i; rw [hw]; simp [go_sem, fr]

set_option maxHeartbeats 1600000 in
theorem next_any (cb : Nat) (v : Value) (n N : Nat) (w : World) (hC : Cursor w cb v n N) (hN : N ≤ 1000000000) :
    Calls Tryz.prog 48 #[.pointer (some ⟨cb, 0, none⟩)] w fun e w' => ∃ x : Nat, e = .returned (.int .i64 x) ∧ x ≤ 255 ∧ Cursor w' cb v n (N + 1) ∧ But cb w w' := by
  obtain ⟨hcode, hn, hlt, c0, ⟨a, ha, c1⟩, ⟨s, c2⟩, fr⟩ := hC
  have hcode' := hcode
  rcases hcode' with ⟨rfl, rfl⟩ | ⟨ad, cap, rfl, h2, h3, h6⟩
  · obtain ⟨x, hx, hx2⟩ := shr_byte (IntKind.u64.wrap (IntKind.u64.wrap (s * 6364136223846793005)) + 1442695040888963407)
    have HX : Hid _ := hx
    go_enter Tryz.func48, Tryz.ntmps48
    go_wp2_with fail
    go_quiet (fail)
    go_wp2_with fail
    go_quiet (fail)
    go_wp2_with fail
    go_ret
    exact ⟨x, ret_int HX.out, hx2, cursor_next hcode hn hlt c0 ha c1 ⟨s, c2⟩ fr rfl⟩
  · by_cases hl : a < n
    · obtain ⟨h4, c, hc⟩ := h6 a hl
      have hcb := c.toNat_lt
      go_enter Tryz.func48, Tryz.ntmps48
      go_wp2_with fail
      go_quiet (fail)
      go_wp2_with fail
      go_quiet (fail)
      go_wp2_with fail
      go_quiet (fail)
      go_wp2_with fail
      go_ret
      exact ⟨c.toNat, rfl, by omega, cursor_next hcode hn hlt c0 ha c1 ⟨s, c2⟩ fr rfl⟩
    · obtain ⟨x, hx, hx2⟩ := shr_byte (IntKind.u64.wrap (IntKind.u64.wrap (s * 6364136223846793005)) + 1442695040888963407)
      have HX : Hid _ := hx
      go_enter Tryz.func48, Tryz.ntmps48
      go_wp2_with fail
      go_quiet (fail)
      go_wp2_with fail
      go_quiet (fail)
      go_wp2_with fail
      go_ret
      exact ⟨x, ret_int HX.out, hx2, cursor_next hcode hn hlt c0 ha c1 ⟨s, c2⟩ fr rfl⟩

theorem Cursor.mono {w : World} {cb n N M : Nat} {v : Value} (h : Cursor w cb v n N) (hM : N ≤ M) : Cursor w cb v n M := by
  obtain ⟨h1, h2, h3, h4, ⟨a, ha, h5⟩, h6, h7⟩ := h
  exact ⟨h1, h2, h3, h4, ⟨a, by omega, h5⟩, h6, h7⟩
/-- Memory made, or another block turned, leaves a cursor as it is. -/
theorem Cursor.below {w w' : World} {cb n N : Nat} {v : Value} (h : Cursor w cb v n N) (hb : Below w.heap.size w w') : Cursor w' cb v n N := by
  obtain ⟨h1, h2, h3, h4, ⟨a, ha, h5⟩, ⟨s, h6⟩, h7⟩ := h
  have e : ∀ i, w'.cell? ⟨cb, i, none⟩ = w.cell? ⟨cb, i, none⟩ := fun i => hb.cell (p := ⟨cb, i, none⟩) h3
  refine ⟨h1.but (Nat.le_of_lt h3) (But.of_below hb), h2, Nat.lt_of_lt_of_le h3 hb.size, (e 0).trans h4, ⟨a, ha, (e 1).trans h5⟩, ⟨s, (e 2).trans h6⟩, fun i => (hb.frozen (p := ⟨cb, i, none⟩) h3).trans (h7 i)⟩

set_option maxHeartbeats 1600000 in
theorem pick_any (cb : Nat) (v : Value) (n N k : Nat) (w : World) (hC : Cursor w cb v n N) (hN : N ≤ 900000000) (h1 : 1 ≤ k) (h2 : k ≤ 1000000) :
    Calls Tryz.prog 21 #[.pointer (some ⟨cb, 0, none⟩), .int .i64 k] w fun e w' => ∃ x : Nat, e = .returned (.int .i64 x) ∧ x < k ∧ Cursor w' cb v n (N + 2) ∧ But cb w w' := by
  by_cases hk : k = 1
  · subst hk
    go_enter Tryz.func21, Tryz.ntmps21
    go_wp2_with fail
    go_ret
    exact ⟨0, rfl, by omega, hC.mono (by omega), But.refl _ _⟩
  · by_cases h200 : 200 < k
    · have HC : Hid _ := hC
      clear hC
      go_enter Tryz.func21, Tryz.ntmps21
      go_wp2_with fail
      refine (next_any cb v n N _ HC.out (by omega)).mono ?_
      rintro e w1 ⟨x1, rfl, hx1, hC1, hb1⟩
      have HC1 : Hid _ := hC1
      have Hb1 : Hid _ := hb1
      clear hC1 hb1
      go_wp2_with fail
      refine (next_any cb v n (N + 1) _ HC1.out (by omega)).mono ?_
      rintro e w2 ⟨x2, rfl, hx2, hC2, hb2⟩
      have HC2 : Hid _ := hC2
      have Hb2 : Hid _ := hb2
      clear hC2 hb2
      have hr : ((x1 : Int) * 256 + x2) % (k : Int) = (((x1 * 256 + x2) % k : Nat) : Int) := by
        rw [show (x1 : Int) * 256 + x2 = ((x1 * 256 + x2 : Nat) : Int) from by omega]; exact (Int.natCast_emod _ _).symm
      have hlt := Nat.mod_lt (x1 * 256 + x2) (show k > 0 by omega)
      go_wp2_with fail
      go_ret
      exact ⟨(x1 * 256 + x2) % k, ret_int (by first | exact hr | omega), hlt, HC2.out, But.trans Hb1.out Hb2.out⟩
    · have HC : Hid _ := hC
      clear hC
      go_enter Tryz.func21, Tryz.ntmps21
      go_wp2_with fail
      refine (next_any cb v n N _ HC.out (by omega)).mono ?_
      rintro e w1 ⟨x1, rfl, hx1, hC1, hb1⟩
      have HC1 : Hid _ := hC1
      have Hb1 : Hid _ := hb1
      clear hC1 hb1
      have hr : (x1 : Int) % (k : Int) = ((x1 % k : Nat) : Int) := (Int.natCast_emod _ _).symm
      have hlt := Nat.mod_lt x1 (show k > 0 by omega)
      go_wp2_with fail
      go_ret
      exact ⟨x1 % k, ret_int (by first | exact hr | omega), hlt, Cursor.mono HC1.out (by omega), Hb1.out⟩

theorem one_any (cb : Nat) (v : Value) (n N k : Nat) (w : World) (hC : Cursor w cb v n N) (hN : N ≤ 900000000) (h1 : 1 ≤ k) (h2 : k ≤ 1000000) :
    Calls Tryz.prog 45 #[.pointer (some ⟨cb, 0, none⟩), .int .i64 k] w fun e w' => ∃ b : Bool, e = .returned (.bool b) ∧ Cursor w' cb v n (N + 2) ∧ But cb w w' := by
  have HC : Hid _ := hC
  clear hC
  go_enter Tryz.func45, Tryz.ntmps45
  go_wp2_with fail
  refine (pick_any cb v n N k _ HC.out hN h1 h2).mono ?_
  rintro e w1 ⟨x, rfl, hx, hC1, hb1⟩
  have HC1 : Hid _ := hC1
  have Hb1 : Hid _ := hb1
  clear hC1 hb1
  go_wp2_with fail
  go_ret
  exact ⟨_, rfl, HC1.out, Hb1.out⟩

/-- A store into a later block leaves a cursor as it is. -/
theorem Cursor.set {w : World} {cb n N : Nat} {v : Value} (h : Cursor w cb v n N) {b j : Nat} (hb : cb < b) (u : Value) : Cursor (w.setCell ⟨b, j, none⟩ u) cb v n N := by
  have hB : Below b w (w.setCell ⟨b, j, none⟩ u) := (Below.refl b w).setCell (Nat.le_refl _) u
  obtain ⟨h1, h2, h3, h4, ⟨a, ha, h5⟩, ⟨s, h6⟩, h7⟩ := h
  have e : ∀ i, (w.setCell ⟨b, j, none⟩ u).cell? ⟨cb, i, none⟩ = w.cell? ⟨cb, i, none⟩ := fun i => hB.cell (p := ⟨cb, i, none⟩) hb
  refine ⟨?_, h2, by simpa [World.setCell] using h3, (e 0).trans h4, ⟨a, ha, (e 1).trans h5⟩, ⟨s, (e 2).trans h6⟩, fun i => (hB.frozen (p := ⟨cb, i, none⟩) hb).trans (h7 i)⟩
  rcases h1 with h | ⟨a, cap, k1, k2, k3, k6⟩
  · exact .inl h
  · refine .inr ⟨a, cap, k1, k2, k3, fun i hi => ?_⟩
    obtain ⟨k4, c, hc⟩ := k6 i hi
    exact ⟨k4, c, (hB.cell (p := a.add i) (by rw [add_block]; omega)).trans hc⟩

end Go.Proofs.YtgidmoncocbfiaaGreatDoor.Cur

namespace Go.Proofs.YtgidmoncocbfiaaGreatDoor.Cur
open Go.RowKit

theorem bcells {cb : Nat} {w0 w1 : World} (hb : But cb w0 w1) : (∀ b o, b < w0.heap.size → b ≠ cb → w1.cell? ⟨b, o, none⟩ = w0.cell? ⟨b, o, none⟩) ∧ (∀ b o, b < w0.heap.size → b ≠ cb → w1.frozen? ⟨b, o, none⟩ = w0.frozen? ⟨b, o, none⟩) :=
  ⟨fun b o h h' => hb.cell (p := ⟨b, o, none⟩) h h', fun b o h h' => hb.frozen (p := ⟨b, o, none⟩) h h'⟩

/-- All blocks below B but one are as they were. -/
def ButB (B cb : Nat) (w w' : World) : Prop := w'.os = w.os ∧ w'.tape = w.tape ∧ w'.output = w.output ∧ w.heap.size ≤ w'.heap.size ∧ ∀ k, k < B → k ≠ cb → w'.heap[k]? = w.heap[k]?
theorem ButB.refl (B cb : Nat) (w : World) : ButB B cb w w := ⟨rfl, rfl, rfl, Nat.le_refl _, fun _ _ _ => rfl⟩
theorem ButB.alloc {B cb : Nat} {w w' : World} (h : ButB B cb w w') (hB : B ≤ w.heap.size) (o : Obj) : ButB B cb w (w'.alloc o) :=
  ⟨h.1, h.2.1, h.2.2.1, by have := h.2.2.2.1; simp; omega, fun k hk hc => (Below.heap_alloc w' o k (by have := h.2.2.2.1; omega)).trans (h.2.2.2.2 k hk hc)⟩
theorem ButB.set {B cb : Nat} {w w' : World} (h : ButB B cb w w') {p : Addr} (hp : B ≤ p.block ∨ p.block = cb) (u : Value) : ButB B cb w (w'.setCell p u) :=
  ⟨h.1, h.2.1, h.2.2.1, by have := h.2.2.2.1; simpa [World.setCell] using this, fun k hk hc => (Below.heap_setCell _ _ _ _ (by omega)).trans (h.2.2.2.2 k hk hc)⟩
theorem ButB.call {B cb : Nat} {w w1 w2 : World} (h : ButB B cb w w1) (hB : B ≤ w.heap.size) (k : But cb w1 w2) : ButB B cb w w2 :=
  ⟨k.1.trans h.1, k.2.1.trans h.2.1, k.2.2.1.trans h.2.2.1, Nat.le_trans h.2.2.2.1 k.2.2.2.1, fun i hi hc => (k.2.2.2.2 i (by have := h.2.2.2.1; omega) hc).trans (h.2.2.2.2 i hi hc)⟩
theorem ButB.out {cb : Nat} {w w' : World} (h : ButB w.heap.size cb w w') : But cb w w' := h

/-- A block of six integers of the call's own. -/
def Six (w : World) (b : Nat) : Prop := b < w.heap.size ∧ (∀ i, w.frozen? ⟨b, i, none⟩ = false) ∧ ∃ z0 z1 z2 z3 z4 z5 : Int, w.cell? ⟨b, 0, none⟩ = some (.int .i64 z0) ∧ w.cell? ⟨b, 1, none⟩ = some (.int .i64 z1) ∧ w.cell? ⟨b, 2, none⟩ = some (.int .i64 z2) ∧ w.cell? ⟨b, 3, none⟩ = some (.int .i64 z3) ∧ w.cell? ⟨b, 4, none⟩ = some (.int .i64 z4) ∧ w.cell? ⟨b, 5, none⟩ = some (.int .i64 z5)
theorem Six.made (w : World) (z0 z1 z2 z3 z4 z5 : Int) (t : TypeId) : Six (w.alloc (.cells #[.int .i64 z0, .int .i64 z1, .int .i64 z2, .int .i64 z3, .int .i64 z4, .int .i64 z5] t)) w.heap.size :=
  ⟨by simp, fun i => World.frozen?_alloc_at _ t _ i rfl, z0, z1, z2, z3, z4, z5, by rw [World.cell?_alloc_mark]; rfl, by rw [World.cell?_alloc_mark]; rfl, by rw [World.cell?_alloc_mark]; rfl, by rw [World.cell?_alloc_mark]; rfl, by rw [World.cell?_alloc_mark]; rfl, by rw [World.cell?_alloc_mark]; rfl⟩
theorem Six.alloc {w : World} {b : Nat} (h : Six w b) (o : Obj) : Six (w.alloc o) b := by
  obtain ⟨h1, h2, z0, z1, z2, z3, z4, z5, k0, k1, k2, k3, k4, k5⟩ := h
  refine ⟨by simp; omega, fun i => (World.frozen?_alloc_past o b i h1).trans (h2 i), z0, z1, z2, z3, z4, z5, ?_, ?_, ?_, ?_, ?_, ?_⟩ <;> rw [World.cell?_alloc_past o b _ h1] <;> assumption
theorem Six.but {w w' : World} {b cb : Nat} (h : Six w b) (hb : But cb w w') (hc : b ≠ cb) : Six w' b := by
  obtain ⟨h1, h2, z0, z1, z2, z3, z4, z5, k0, k1, k2, k3, k4, k5⟩ := h
  have e := (bcells hb).1 b
  refine ⟨Nat.lt_of_lt_of_le h1 hb.2.2.2.1, fun i => ((bcells hb).2 b i h1 hc).trans (h2 i), z0, z1, z2, z3, z4, z5, ?_, ?_, ?_, ?_, ?_, ?_⟩ <;> rw [e _ h1 hc] <;> assumption
theorem Six.set {w : World} {b : Nat} (h : Six w b) (b' j : Nat) (z : Int) : Six (w.setCell ⟨b', j, none⟩ (.int .i64 z)) b := by
  obtain ⟨h1, h2, z0, z1, z2, z3, z4, z5, k0, k1, k2, k3, k4, k5⟩ := h
  have e : ∀ (i : Nat) (x : Int), w.cell? ⟨b, i, none⟩ = some (.int .i64 x) → ∃ x' : Int, (w.setCell ⟨b', j, none⟩ (.int .i64 z)).cell? ⟨b, i, none⟩ = some (.int .i64 x') := by
    intro i x hx
    by_cases hs : b = b' ∧ i = j
    · obtain ⟨rfl, rfl⟩ := hs
      exact ⟨z, by simp [go_sem, hx]⟩
    · refine ⟨x, ?_⟩
      rw [← hx]
      by_cases hbb : b = b'
      · subst hbb
        have hij : i ≠ j := fun e => hs ⟨rfl, e⟩
        simp [go_sem]
      · simp [go_sem]
  obtain ⟨y0, e0⟩ := e 0 z0 k0
  obtain ⟨y1, e1⟩ := e 1 z1 k1
  obtain ⟨y2, e2⟩ := e 2 z2 k2
  obtain ⟨y3, e3⟩ := e 3 z3 k3
  obtain ⟨y4, e4⟩ := e 4 z4 k4
  obtain ⟨y5, e5⟩ := e 5 z5 k5
  exact ⟨by simpa [World.setCell] using h1, fun i => by simp [go_sem, h2], y0, y1, y2, y3, y4, y5, e0, e1, e2, e3, e4, e5⟩

end Go.Proofs.YtgidmoncocbfiaaGreatDoor.Cur

namespace Go.Proofs.YtgidmoncocbfiaaGreatDoor.Cur
open Go.ChangeShapes Go.WideShapes Go.ChangeAt Go.RowKit

/-- Bytes among the arguments. -/
def CodeArg (w : World) (v : Value) (n : Nat) : Prop :=
  (v = .slice none 0 0 ∧ n = 0) ∨ ∃ (a : Addr) (cap : Nat), v = .slice (some a) n cap ∧ n ≤ cap ∧ cap ≤ maxLen ∧ ∀ i, i < n → a.block < w.heap.size ∧ ∃ c : UInt8, w.cell? (a.add i) = some (.int .u8 (c.toNat : Int))

theorem CodeArg.below {B : Nat} {w w' : World} {v : Value} {n : Nat} (h : CodeArg w v n) (hB : w.heap.size ≤ B) (hb : Below B w w') : CodeArg w' v n := by
  rcases h with h | ⟨a, cap, h1, h2, h3, h6⟩
  · exact .inl h
  · refine .inr ⟨a, cap, h1, h2, h3, fun i hi => ?_⟩
    obtain ⟨h4, c, hc⟩ := h6 i hi
    exact ⟨Nat.lt_of_lt_of_le h4 hb.size, c, (hb.cell (p := a.add i) (by rw [add_block]; omega)).trans hc⟩
theorem CodeArg.to {w : World} {v : Value} {n cb : Nat} (h : CodeArg w v n) (hc : w.heap.size ≤ cb) : CodeIn w cb v n := by
  rcases h with h | ⟨a, cap, h1, h2, h3, h6⟩
  · exact .inl h
  · refine .inr ⟨a, cap, h1, h2, h3, fun i hi => ?_⟩
    obtain ⟨h4, c, hc'⟩ := h6 i hi
    exact ⟨by omega, c, hc'⟩

/-- The cursor that a draw begins with. -/
theorem start {w : World} {v : Value} {n : Nat} (h : CodeArg w v n) (hn : n ≤ 2000000) (t : TypeId) : Cursor (w.alloc (.cells #[v, .int .i64 0, .int .u64 0] t)) w.heap.size v n 0 := by
  refine ⟨?_, hn, by simp, by rw [World.cell?_alloc_mark]; rfl, ⟨0, Nat.le_refl _, by rw [World.cell?_alloc_mark]; rfl⟩, ⟨0, by rw [World.cell?_alloc_mark]; rfl⟩, fun i => World.frozen?_alloc_at _ t _ i rfl⟩
  have hb := (Below.refl w.heap.size w).alloc (Nat.le_refl _) (.cells #[v, .int .i64 0, .int .u64 0] t)
  rcases h with h | ⟨a, cap, h1, h2, h3, h6⟩
  · exact .inl h
  · refine .inr ⟨a, cap, h1, h2, h3, fun i hi => ?_⟩
    obtain ⟨h4, c, hc'⟩ := h6 i hi
    exact ⟨h4, c, (hb.cell (p := a.add i) (by rw [add_block]; exact h4)).trans hc'⟩

set_option maxRecDepth 100000 in
theorem code_open {H : Type} {enc : TypeId × Value → H} {W : World} {r : Reach} {b0 base : Nat} {sp : Nat → Bool} {held : Bool} {v : Value} {d : DataW H} {p : List MemPlace}
    (hv : Value.okWide Tryz.prog W r b0 22 v) (h : DataW.Trod enc Tryz.prog W base sp held 22 v d p) : ∃ n, CodeArg W v n ∧ (n = 0 ∨ ∃ elems spare, d = .slice elems spare ∧ elems.length = n) := by
  obtain ⟨a, len, cap, rfl⟩ := okWide_slice Tryz.underlying22 hv
  obtain ⟨fuel, hf⟩ := h
  rcases open_ints Tryz.underlying22 Tryz.underlying5 (by kernel_rfl) hf with ⟨hc, _⟩ | ⟨a', len', cap', zs, hc, _, hl, hm, hz, hx, hcell, hwf⟩
  · simp [Value.cells] at hc
    obtain ⟨rfl, rfl, rfl⟩ := hc
    exact ⟨0, .inl ⟨rfl, rfl⟩, .inl rfl⟩
  · simp [Value.cells] at hc
    obtain ⟨rfl, rfl, rfl⟩ := hc
    have hlz : len ≤ zs.length := by rw [hz]; split <;> omega
    refine ⟨len, .inr ⟨a', cap, rfl, hl, hm, fun i hi => ?_⟩, .inr ⟨_, _, congrArg Prod.fst hx, by simp [lits]; omega⟩⟩
    have hi' : i < zs.length := by rw [hz]; split <;> omega
    have hc := hcell i hi'
    have hw : (Lit.int .u8 (zs.getD i 0)).wf = true := hwf _ (by rw [List.getD, List.getElem?_eq_getElem hi']; exact List.getElem_mem hi')
    have hb : 0 ≤ zs.getD i 0 ∧ zs.getD i 0 ≤ 255 := by
      simp only [Lit.wf, IntKind.min, IntKind.max, IntKind.signed, IntKind.bits, Bool.and_eq_true] at hw
      simpa using hw
    have hlt := World.block_lt_of_cell? W _ hc
    rw [add_block] at hlt
    refine ⟨hlt, UInt8.ofNat (zs.getD i 0).toNat, hc.trans ?_⟩
    have : ((UInt8.ofNat (zs.getD i 0).toNat).toNat : Int) = zs.getD i 0 := by rw [UInt8.toNat_ofNat']; omega
    rw [this]

theorem code_bound {H : Type} {ts : List TypeId} {ds : List (DataW H)} {j n : Nat} {t : TypeId} {d : DataW H} (h : (DataW.weightsEach Tryz.prog ts ds).all (· ≤ reachBytes) = true) (ht : ts[j]? = some t) (hd : ds[j]? = some d)
    (hx : n = 0 ∨ ∃ elems spare, d = .slice elems spare ∧ elems.length = n) (hu : Tryz.prog.underlying t = some (.slice 5) := by kernel_rfl) : n ≤ reachBytes := by
  rcases hx with rfl | ⟨elems, spare, rfl, rfl⟩
  · exact Nat.zero_le _
  · have := sized_slice h ht hd hu
    rw [show Tryz.prog.bytesOf 5 = 1 by kernel_rfl, Nat.mul_one] at this
    omega

theorem CodeArg.form {w : World} {v : Value} {n : Nat} (h : CodeArg w v n) : ∃ o cap, v = .slice o n cap := by
  rcases h with ⟨h, rfl⟩ | ⟨a, cap, h, _⟩
  · exact ⟨none, 0, h⟩
  · exact ⟨some a, cap, h⟩

theorem ints_made (w : World) (zs : List Int) (t : TypeId) (b : Nat) (hb : b = w.heap.size) : ∀ i, i < zs.length → ∃ z : Int, (w.alloc (.cells (zs.map fun z => Value.int .i64 z).toArray t)).cell? ⟨b, i, none⟩ = some (.int .i64 z) := by
  subst hb
  intro i hi
  exact ⟨zs[i], by rw [World.cell?_alloc_mark]; simp [hi]⟩

theorem pick_at (k : Nat) (K : Int) (hK : K = (k : Int)) (cb : Nat) (v : Value) (n N : Nat) (w : World) (hC : Cursor w cb v n N) (hN : N ≤ 900000000) (h1 : 1 ≤ k) (h2 : k ≤ 1000000) :
    Calls Tryz.prog 21 #[.pointer (some ⟨cb, 0, none⟩), .int .i64 K] w fun e w' => ∃ x : Nat, e = .returned (.int .i64 x) ∧ x < k ∧ Cursor w' cb v n (N + 2) ∧ But cb w w' := by
  subst hK
  exact pick_any cb v n N k w hC hN h1 h2

theorem one_at (k : Nat) (K : Int) (hK : K = (k : Int)) (cb : Nat) (v : Value) (n N : Nat) (w : World) (hC : Cursor w cb v n N) (hN : N ≤ 900000000) (h1 : 1 ≤ k) (h2 : k ≤ 1000000) :
    Calls Tryz.prog 45 #[.pointer (some ⟨cb, 0, none⟩), .int .i64 K] w fun e w' => ∃ b : Bool, e = .returned (.bool b) ∧ Cursor w' cb v n (N + 2) ∧ But cb w w' := by
  subst hK
  exact one_any cb v n N k w hC hN h1 h2

theorem texts_made (w : World) (xs : List ByteArray) (M : Nat) (hM : ∀ x ∈ xs, x.size ≤ M) (t : TypeId) (b : Nat) (hb : b = w.heap.size) : ∀ i, i < xs.length → ∃ x : ByteArray, x.size ≤ M ∧ (w.alloc (.cells (xs.map Value.string).toArray t)).cell? ⟨b, i, none⟩ = some (.string x) := by
  subst hb
  intro i hi
  exact ⟨xs[i], hM _ (List.getElem_mem hi), by rw [World.cell?_alloc_mark]; simp [hi]⟩

set_option maxHeartbeats 800000 in
theorem of_any (cb b m M : Nat) (v : Value) (n N : Nat) (w : World) (hC : Cursor w cb v n N) (hN : N ≤ 900000000) (h1 : 1 ≤ m) (h2 : m ≤ 1000) (hb : b < w.heap.size) (hbc : b ≠ cb) (hcell : ∀ i, i < m → ∃ x : ByteArray, x.size ≤ M ∧ w.cell? ⟨b, i, none⟩ = some (.string x)) :
    Calls Tryz.prog 18 #[.pointer (some ⟨cb, 0, none⟩), .slice (some ⟨b, 0, none⟩) m m] w fun e w' => ∃ x : ByteArray, e = .returned (.string x) ∧ x.size ≤ M ∧ Cursor w' cb v n (N + 2) ∧ But cb w w' := by
  have HC : Hid _ := hC
  have HL : Hid _ := hcell
  clear hC hcell
  go_enter Tryz.func18, Tryz.ntmps18
  go_wp2_with fail
  refine (pick_any cb v n N m _ HC.out hN h1 (by omega)).mono ?_
  rintro e w1 ⟨x, rfl, hx, hC1, hb1⟩
  obtain ⟨z, hM, hz⟩ := HL.out x hx
  have hz1 := ((bcells hb1).1 b x hb hbc).trans hz
  have HC1 : Hid _ := hC1
  have Hb1 : Hid _ := hb1
  clear hC1 hb1
  go_wp2_with fail
  go_ret
  exact ⟨z, rfl, hM, HC1.out, Hb1.out⟩

end Go.Proofs.YtgidmoncocbfiaaGreatDoor.Cur

namespace Go.Proofs.YtgidmoncocbfiaaGreatDoor.Cur
open Go.RowKit
open Go.Proofs.YtgidmoncocbfiaaGreatDoor.Own

theorem But.then {cb : Nat} {w wr w' : World} (h : But cb w wr) (hb : Below w.heap.size wr w') : But cb w w' :=
  ⟨hb.os.trans h.1, hb.tape.trans h.2.1, hb.output.trans h.2.2.1, Nat.le_trans h.2.2.2.1 hb.size, fun k hk hc => (hb.block k hk).trans (h.2.2.2.2 k hk hc)⟩
theorem Cursor.belowB {w w' : World} {B cb n N : Nat} {v : Value} (h : Cursor w cb v n N) (hB : cb < B) (hb : Below B w w') : Cursor w' cb v n N := by
  obtain ⟨h1, h2, h3, h4, ⟨a, ha, h5⟩, ⟨s, h6⟩, h7⟩ := h
  have e : ∀ i, w'.cell? ⟨cb, i, none⟩ = w.cell? ⟨cb, i, none⟩ := fun i => hb.cell (p := ⟨cb, i, none⟩) hB
  refine ⟨?_, h2, Nat.lt_of_lt_of_le h3 hb.size, (e 0).trans h4, ⟨a, ha, (e 1).trans h5⟩, ⟨s, (e 2).trans h6⟩, fun i => (hb.frozen (p := ⟨cb, i, none⟩) hB).trans (h7 i)⟩
  rcases h1 with h | ⟨a, cap, k1, k2, k3, k6⟩
  · exact .inl h
  · refine .inr ⟨a, cap, k1, k2, k3, fun i hi => ?_⟩
    obtain ⟨k4, c, hc⟩ := k6 i hi
    exact ⟨k4, c, (hb.cell (p := a.add i) (by rw [add_block]; omega)).trans hc⟩
theorem bytes_but {w w' : World} {B cb : Nat} {v : Value} {l : List UInt8} (h : bytesIn w B v l) (hb : But cb w w') (hc : cb < B) : bytesIn w' B v l := by
  refine ⟨h.1, ?_⟩
  rcases h.2 with hn | ⟨g, cap, cur, rfl, hbg, hg, rest⟩
  · exact .inl hn
  · exact .inr ⟨g, cap, cur, rfl, hbg, (hb.2.2.2.2 g (Array.getElem?_eq_some_iff.1 hg).1 (by omega)).trans hg, rest⟩

end Go.Proofs.YtgidmoncocbfiaaGreatDoor.Cur

