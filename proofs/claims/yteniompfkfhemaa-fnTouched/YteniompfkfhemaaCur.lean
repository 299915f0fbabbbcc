/-
  Walks: what draws read: spec's (*l1Cur).next, pick, one.
-/
import Derived.Test.YteniompfkfhemaaProg
import Derived.WalkKit
import Derived.WalkLawsBesides
import Derived.Below
import Derived.Laws.Bits64b
import Derived.Deep.QuietTactic
import Derived.BigQuiet
namespace Go.Proofs.Yteniompfkfhemaa.Cur
open Go.RowKit

/-- All blocks that lay there but one are as they were. -/
def But (cb : Nat) (w w' : World) : Prop := w'.os = w.os ∧ w'.tape = w.tape ∧ w'.output = w.output ∧ w.heap.size ≤ w'.heap.size ∧ ∀ k, k < w.heap.size → k ≠ cb → w'.heap[k]? = w.heap[k]?

theorem But.refl (cb : Nat) (w : World) : But cb w w := ⟨rfl, rfl, rfl, Nat.le_refl _, fun _ _ _ => rfl⟩
theorem But.trans {cb : Nat} {a b c : World} (h : But cb a b) (k : But cb b c) : But cb a c :=
  ⟨k.1.trans h.1, k.2.1.trans h.2.1, k.2.2.1.trans h.2.2.1, Nat.le_trans h.2.2.2.1 k.2.2.2.1, fun i hi hc => (k.2.2.2.2 i (Nat.lt_of_lt_of_le hi h.2.2.2.1) hc).trans (h.2.2.2.2 i hi hc)⟩
theorem But.of_below {cb : Nat} {w w' : World} (h : Below w.heap.size w w') : But cb w w' := ⟨h.os, h.tape, h.output, h.size, fun k hk _ => h.block k hk⟩
theorem But.below {cb B : Nat} {w w' : World} (h : But cb w w') (hB : B ≤ cb) (hs : B ≤ w.heap.size) : Below B w w' := ⟨h.1, h.2.1, h.2.2.1, h.2.2.2.1, fun k hk => h.2.2.2.2 k (by omega) (by omega)⟩
theorem But.set {cb : Nat} {a w : World} (h : But cb a w) (o : Nat) (u : Value) : But cb a (w.setCell ⟨cb, o, none⟩ u) :=
  h.trans ⟨rfl, rfl, rfl, by simp [World.setCell], fun k _ hc => Below.heap_setCell _ _ _ _ (by simpa using hc)⟩
theorem But.drew {cb : Nat} {a w : World} (h : But cb a w) : But cb a w.drew := h
theorem But.cell {cb : Nat} {w w' : World} (h : But cb w w') {p : Addr} (hp : p.block < w.heap.size) (hc : p.block ≠ cb) : w'.cell? p = w.cell? p := by
  have := h.2.2.2.2 p.block hp hc
  unfold World.cell?
  rw [this]
theorem But.frozen {cb : Nat} {w w' : World} (h : But cb w w') {p : Addr} (hp : p.block < w.heap.size) (hc : p.block ≠ cb) : w'.frozen? p = w.frozen? p := by
  have := h.2.2.2.2 p.block hp hc
  unfold World.frozen?
  rw [this]

theorem ret_int {k : IntKind} {a b : Int} (h : a = b) : Ending.returned (.int k a) = .returned (.int k b) := by rw [h]
theorem add_block (a : Addr) (i : Nat) : (a.add i).block = a.block := by unfold Addr.add; split <;> rfl

/-- The bytes that are drawn from: an argument's. -/
def CodeIn (w : World) (cb : Nat) (v : Value) (n : Nat) : Prop :=
  (v = .slice none 0 0 ∧ n = 0) ∨ ∃ (a : Addr) (cap : Nat), v = .slice (some a) n cap ∧ n ≤ cap ∧ cap ≤ maxLen ∧ ∀ i, i < n → a.block < cb ∧ ∃ c : UInt8, w.cell? (a.add i) = some (.int .u8 (c.toNat : Int))

theorem CodeIn.but {w w' : World} {cb : Nat} {v : Value} {n : Nat} (h : CodeIn w cb v n) (hc : cb ≤ w.heap.size) (hb : But cb w w') : CodeIn w' cb v n := by
  rcases h with h | ⟨a, cap, h1, h2, h3, h6⟩
  · exact .inl h
  · refine .inr ⟨a, cap, h1, h2, h3, fun i hi => ?_⟩
    obtain ⟨h4, c, hc'⟩ := h6 i hi
    exact ⟨h4, c, (hb.cell (p := a.add i) (by rw [add_block]; omega) (by rw [add_block]; omega)).trans hc'⟩

/-- A cursor: the bytes, the place (at most N), and a seed. -/
def Cursor (w : World) (cb : Nat) (v : Value) (n N : Nat) : Prop :=
  CodeIn w cb v n ∧ n ≤ 2000000 ∧ cb < w.heap.size ∧ w.cell? ⟨cb, 0, none⟩ = some v ∧ (∃ a : Nat, a ≤ N ∧ w.cell? ⟨cb, 1, none⟩ = some (.int .i64 a)) ∧ (∃ s : Int, w.cell? ⟨cb, 2, none⟩ = some (.int .u64 s)) ∧ ∀ i, w.frozen? ⟨cb, i, none⟩ = false

theorem wrap_u (y : Int) : 0 ≤ IntKind.u64.wrap y ∧ IntKind.u64.wrap y < 18446744073709551616 := by
  have : IntKind.u64.wrap y = y % 18446744073709551616 := by rw [IntKind.wrap_u64]
  omega
theorem shr_byte (y : Int) : ∃ x : Nat, wrap64 (bits BinOp.and IntKind.u64 (IntKind.u64.wrap y / 1099511627776) 255) = (x : Int) ∧ x ≤ 255 := by
  obtain ⟨h1, h2⟩ := wrap_u y
  obtain ⟨m, hm⟩ := Int.eq_ofNat_of_zero_le (show 0 ≤ IntKind.u64.wrap y / 1099511627776 by omega)
  rw [hm, show (255 : Int) = ((255 : Nat) : Int) from rfl, bits_and_u64_nat m 255 (by omega) (by omega)]
  have := Nat.and_le_right (n := m) (m := 255)
  refine ⟨m &&& 255, ?_, this⟩
  unfold wrap64
  omega

theorem cursor_next {w w' : World} {cb n N a : Nat} {v : Value} {s' : Int} {q1 q2 : Nat} (hcode : CodeIn w cb v n) (hn : n ≤ 2000000) (hlt : cb < w.heap.size) (c0 : w.cell? ⟨cb, 0, none⟩ = some v) (ha : a ≤ N)
    (c1 : w.cell? ⟨cb, 1, none⟩ = some (.int .i64 a)) (c2 : ∃ s : Int, w.cell? ⟨cb, 2, none⟩ = some (.int .u64 s)) (fr : ∀ i, w.frozen? ⟨cb, i, none⟩ = false)
    (hw : w' = (((w.drewN q1).setCell ⟨cb, 1, none⟩ (.int .i64 ((a : Int) + 1))).setCell ⟨cb, 2, none⟩ (.int .u64 s')).drewN q2) : Cursor w' cb v n (N + 1) ∧ But cb w w' := by
  obtain ⟨s, c2⟩ := c2
  have hB : But cb w w' := by
    rw [hw]
    exact ((((But.refl cb w).set 1 (.int .i64 ((a : Int) + 1))).set 2 (.int .u64 s')) : But cb w _)
  refine ⟨⟨hcode.but (Nat.le_of_lt hlt) hB, hn, Nat.lt_of_lt_of_le hlt hB.2.2.2.1, ?_, ⟨a + 1, by omega, ?_⟩, ⟨s', ?_⟩, ?_⟩, hB⟩
  · rw [hw]; simp [go_sem, c0]
  · rw [hw]; simp [go_sem, c1]
  · rw [hw]; simp [go_sem, c2]
  · intro i; rw [hw]; simp [go_sem, fr]

set_option maxHeartbeats 1600000 in
theorem next_any (cb : Nat) (v : Value) (n N : Nat) (w : World) (hC : Cursor w cb v n N) (hN : N ≤ 1000000000) :
    Calls Try.prog 62 #[.pointer (some ⟨cb, 0, none⟩)] w fun e w' => ∃ x : Nat, e = .returned (.int .i64 x) ∧ x ≤ 255 ∧ Cursor w' cb v n (N + 1) ∧ But cb w w' := by
  obtain ⟨hcode, hn, hlt, c0, ⟨a, ha, c1⟩, ⟨s, c2⟩, fr⟩ := hC
  have hcode' := hcode
  rcases hcode' with ⟨rfl, rfl⟩ | ⟨ad, cap, rfl, h2, h3, h6⟩
  · obtain ⟨x, hx, hx2⟩ := shr_byte (IntKind.u64.wrap (IntKind.u64.wrap (s * 6364136223846793005)) + 1442695040888963407)
    have HX : Hid _ := hx
    go_enter Try.func62, Try.ntmps62
    go_wp2_with fail
    go_quiet (fail)
    go_wp2_with fail
    go_quiet (fail)
    go_wp2_with fail
    go_ret
    exact ⟨x, ret_int HX.out, hx2, cursor_next hcode hn hlt c0 ha c1 ⟨s, c2⟩ fr rfl⟩
  · by_cases hl : a < n
    · obtain ⟨h4, c, hc⟩ := h6 a hl
      have hcb := c.toNat_lt
      go_enter Try.func62, Try.ntmps62
      go_wp2_with fail
      go_quiet (fail)
      go_wp2_with fail
      go_quiet (fail)
      go_wp2_with fail
      go_quiet (fail)
      go_wp2_with fail
      go_ret
      exact ⟨c.toNat, rfl, by omega, cursor_next hcode hn hlt c0 ha c1 ⟨s, c2⟩ fr rfl⟩
    · obtain ⟨x, hx, hx2⟩ := shr_byte (IntKind.u64.wrap (IntKind.u64.wrap (s * 6364136223846793005)) + 1442695040888963407)
      have HX : Hid _ := hx
      go_enter Try.func62, Try.ntmps62
      go_wp2_with fail
      go_quiet (fail)
      go_wp2_with fail
      go_quiet (fail)
      go_wp2_with fail
      go_ret
      exact ⟨x, ret_int HX.out, hx2, cursor_next hcode hn hlt c0 ha c1 ⟨s, c2⟩ fr rfl⟩

theorem Cursor.mono {w : World} {cb n N M : Nat} {v : Value} (h : Cursor w cb v n N) (hM : N ≤ M) : Cursor w cb v n M := by
  obtain ⟨h1, h2, h3, h4, ⟨a, ha, h5⟩, h6, h7⟩ := h
  exact ⟨h1, h2, h3, h4, ⟨a, by omega, h5⟩, h6, h7⟩
/-- Memory made, or another block turned, leaves a cursor as it is. -/
theorem Cursor.below {w w' : World} {cb n N : Nat} {v : Value} (h : Cursor w cb v n N) (hb : Below w.heap.size w w') : Cursor w' cb v n N := by
  obtain ⟨h1, h2, h3, h4, ⟨a, ha, h5⟩, ⟨s, h6⟩, h7⟩ := h
  have e : ∀ i, w'.cell? ⟨cb, i, none⟩ = w.cell? ⟨cb, i, none⟩ := fun i => hb.cell (p := ⟨cb, i, none⟩) h3
  refine ⟨h1.but (Nat.le_of_lt h3) (But.of_below hb), h2, Nat.lt_of_lt_of_le h3 hb.size, (e 0).trans h4, ⟨a, ha, (e 1).trans h5⟩, ⟨s, (e 2).trans h6⟩, fun i => (hb.frozen (p := ⟨cb, i, none⟩) h3).trans (h7 i)⟩

set_option maxHeartbeats 1600000 in
theorem pick_any (cb : Nat) (v : Value) (n N k : Nat) (w : World) (hC : Cursor w cb v n N) (hN : N ≤ 900000000) (h1 : 1 ≤ k) (h2 : k ≤ 1000000) :
    Calls Try.prog 51 #[.pointer (some ⟨cb, 0, none⟩), .int .i64 k] w fun e w' => ∃ x : Nat, e = .returned (.int .i64 x) ∧ x < k ∧ Cursor w' cb v n (N + 2) ∧ But cb w w' := by
  by_cases hk : k = 1
  · subst hk
    go_enter Try.func51, Try.ntmps51
    go_wp2_with fail
    go_ret
    exact ⟨0, rfl, by omega, hC.mono (by omega), But.refl _ _⟩
  · by_cases h200 : 200 < k
    · have HC : Hid _ := hC
      clear hC
      go_enter Try.func51, Try.ntmps51
      go_wp2_with fail
      refine (next_any cb v n N _ HC.out (by omega)).mono ?_
      rintro e w1 ⟨x1, rfl, hx1, hC1, hb1⟩
      have HC1 : Hid _ := hC1
      have Hb1 : Hid _ := hb1
      clear hC1 hb1
      go_wp2_with fail
      refine (next_any cb v n (N + 1) _ HC1.out (by omega)).mono ?_
      rintro e w2 ⟨x2, rfl, hx2, hC2, hb2⟩
      have HC2 : Hid _ := hC2
      have Hb2 : Hid _ := hb2
      clear hC2 hb2
      have hr : ((x1 : Int) * 256 + x2) % (k : Int) = (((x1 * 256 + x2) % k : Nat) : Int) := by
        rw [show (x1 : Int) * 256 + x2 = ((x1 * 256 + x2 : Nat) : Int) from by omega]; exact (Int.natCast_emod _ _).symm
      have hlt := Nat.mod_lt (x1 * 256 + x2) (show k > 0 by omega)
      go_wp2_with fail
      go_ret
      exact ⟨(x1 * 256 + x2) % k, ret_int (by first | exact hr | omega), hlt, HC2.out, But.trans Hb1.out Hb2.out⟩
    · have HC : Hid _ := hC
      clear hC
      go_enter Try.func51, Try.ntmps51
      go_wp2_with fail
      refine (next_any cb v n N _ HC.out (by omega)).mono ?_
      rintro e w1 ⟨x1, rfl, hx1, hC1, hb1⟩
      have HC1 : Hid _ := hC1
      have Hb1 : Hid _ := hb1
      clear hC1 hb1
      have hr : (x1 : Int) % (k : Int) = ((x1 % k : Nat) : Int) := (Int.natCast_emod _ _).symm
      have hlt := Nat.mod_lt x1 (show k > 0 by omega)
      go_wp2_with fail
      go_ret
      exact ⟨x1 % k, ret_int (by first | exact hr | omega), hlt, Cursor.mono HC1.out (by omega), Hb1.out⟩

theorem one_any (cb : Nat) (v : Value) (n N k : Nat) (w : World) (hC : Cursor w cb v n N) (hN : N ≤ 900000000) (h1 : 1 ≤ k) (h2 : k ≤ 1000000) :
    Calls Try.prog 50 #[.pointer (some ⟨cb, 0, none⟩), .int .i64 k] w fun e w' => ∃ b : Bool, e = .returned (.bool b) ∧ Cursor w' cb v n (N + 2) ∧ But cb w w' := by
  have HC : Hid _ := hC
  clear hC
  go_enter Try.func50, Try.ntmps50
  go_wp2_with fail
  refine (pick_any cb v n N k _ HC.out hN h1 h2).mono ?_
  rintro e w1 ⟨x, rfl, hx, hC1, hb1⟩
  have HC1 : Hid _ := hC1
  have Hb1 : Hid _ := hb1
  clear hC1 hb1
  go_wp2_with fail
  go_ret
  exact ⟨_, rfl, HC1.out, Hb1.out⟩

/-- A store into a later block leaves a cursor as it is. -/
theorem Cursor.set {w : World} {cb n N : Nat} {v : Value} (h : Cursor w cb v n N) {b j : Nat} (hb : cb < b) (u : Value) : Cursor (w.setCell ⟨b, j, none⟩ u) cb v n N := by
  have hB : Below b w (w.setCell ⟨b, j, none⟩ u) := (Below.refl b w).setCell (Nat.le_refl _) u
  obtain ⟨h1, h2, h3, h4, ⟨a, ha, h5⟩, ⟨s, h6⟩, h7⟩ := h
  have e : ∀ i, (w.setCell ⟨b, j, none⟩ u).cell? ⟨cb, i, none⟩ = w.cell? ⟨cb, i, none⟩ := fun i => hB.cell (p := ⟨cb, i, none⟩) hb
  refine ⟨?_, h2, by simpa [World.setCell] using h3, (e 0).trans h4, ⟨a, ha, (e 1).trans h5⟩, ⟨s, (e 2).trans h6⟩, fun i => (hB.frozen (p := ⟨cb, i, none⟩) hb).trans (h7 i)⟩
  rcases h1 with h | ⟨a, cap, k1, k2, k3, k6⟩
  · exact .inl h
  · refine .inr ⟨a, cap, k1, k2, k3, fun i hi => ?_⟩
    obtain ⟨k4, c, hc⟩ := k6 i hi
    exact ⟨k4, c, (hB.cell (p := a.add i) (by rw [add_block]; omega)).trans hc⟩

end Go.Proofs.Yteniompfkfhemaa.Cur
