/-
  Bytes that are drawn from, among a law's arguments; walks: spec's DrawGoodDate, DrawSecondsOf, now, DrawDateAt.
-/
import Derived.Test.YtnjpagejeiiphaaDoorDrd
import Derived.ProofKit
import Derived.SizedLaws
namespace Go.Proofs.YtnjpagejeiiphaaDoor.Cur
open Go.ChangeShapes Go.WideShapes Go.ChangeAt Go.RowKit

/-- Bytes among the arguments. -/
def CodeArg (w : World) (v : Value) (n : Nat) : Prop :=
  (v = .slice none 0 0 ∧ n = 0) ∨ ∃ (a : Addr) (cap : Nat), v = .slice (some a) n cap ∧ n ≤ cap ∧ cap ≤ maxLen ∧ ∀ i, i < n → a.block < w.heap.size ∧ ∃ c : UInt8, w.cell? (a.add i) = some (.int .u8 (c.toNat : Int))

theorem CodeArg.below {B : Nat} {w w' : World} {v : Value} {n : Nat} (h : CodeArg w v n) (hB : w.heap.size ≤ B) (hb : Below B w w') : CodeArg w' v n := by
  rcases h with h | ⟨a, cap, h1, h2, h3, h6⟩
  · exact .inl h
  · refine .inr ⟨a, cap, h1, h2, h3, fun i hi => ?_⟩
    obtain ⟨h4, c, hc⟩ := h6 i hi
    exact ⟨Nat.lt_of_lt_of_le h4 hb.size, c, (hb.cell (p := a.add i) (by rw [add_block]; omega)).trans hc⟩
theorem CodeArg.to {w : World} {v : Value} {n cb : Nat} (h : CodeArg w v n) (hc : w.heap.size ≤ cb) : CodeIn w cb v n := by
  rcases h with h | ⟨a, cap, h1, h2, h3, h6⟩
  · exact .inl h
  · refine .inr ⟨a, cap, h1, h2, h3, fun i hi => ?_⟩
    obtain ⟨h4, c, hc'⟩ := h6 i hi
    exact ⟨by omega, c, hc'⟩

/-- The cursor that a draw begins with. -/
theorem start {w : World} {v : Value} {n : Nat} (h : CodeArg w v n) (hn : n ≤ 2000000) (t : TypeId) : Cursor (w.alloc (.cells #[v, .int .i64 0, .int .u64 0] t)) w.heap.size v n 0 := by
  refine ⟨?_, hn, by simp, by rw [World.cell?_alloc_mark]; rfl, ⟨0, Nat.le_refl _, by rw [World.cell?_alloc_mark]; rfl⟩, ⟨0, by rw [World.cell?_alloc_mark]; rfl⟩, fun i => World.frozen?_alloc_at _ t _ i rfl⟩
  have hb := (Below.refl w.heap.size w).alloc (Nat.le_refl _) (.cells #[v, .int .i64 0, .int .u64 0] t)
  rcases h with h | ⟨a, cap, h1, h2, h3, h6⟩
  · exact .inl h
  · refine .inr ⟨a, cap, h1, h2, h3, fun i hi => ?_⟩
    obtain ⟨h4, c, hc'⟩ := h6 i hi
    exact ⟨h4, c, (hb.cell (p := a.add i) (by rw [add_block]; exact h4)).trans hc'⟩

theorem code_open {H : Type} {enc : TypeId × Value → H} {W : World} {r : Reach} {b0 base : Nat} {sp : Nat → Bool} {held : Bool} {v : Value} {d : DataW H} {p : List MemPlace}
    (hv : Value.okWide Tryd.prog W r b0 22 v) (h : DataW.Trod enc Tryd.prog W base sp held 22 v d p) : ∃ n, CodeArg W v n ∧ (n = 0 ∨ ∃ elems spare, d = .slice elems spare ∧ elems.length = n) := by
  obtain ⟨a, len, cap, rfl⟩ := okWide_slice Tryd.underlying22 hv
  obtain ⟨fuel, hf⟩ := h
  rcases open_ints Tryd.underlying22 Tryd.underlying5 (by kernel_rfl) hf with ⟨hc, _⟩ | ⟨a', len', cap', zs, hc, _, hl, hm, hz, hx, hcell, hwf⟩
  · simp [Value.cells] at hc
    obtain ⟨rfl, rfl, rfl⟩ := hc
    exact ⟨0, .inl ⟨rfl, rfl⟩, .inl rfl⟩
  · simp [Value.cells] at hc
    obtain ⟨rfl, rfl, rfl⟩ := hc
    have hlz : len ≤ zs.length := by rw [hz]; split <;> omega
    refine ⟨len, .inr ⟨a', cap, rfl, hl, hm, fun i hi => ?_⟩, .inr ⟨_, _, congrArg Prod.fst hx, by simp [lits]; omega⟩⟩
    have hi' : i < zs.length := by rw [hz]; split <;> omega
    have hc := hcell i hi'
    have hw : (Lit.int .u8 (zs.getD i 0)).wf = true := hwf _ (by rw [List.getD, List.getElem?_eq_getElem hi']; exact List.getElem_mem hi')
    have hb : 0 ≤ zs.getD i 0 ∧ zs.getD i 0 ≤ 255 := by
      simp only [Lit.wf, IntKind.min, IntKind.max, IntKind.signed, IntKind.bits, Bool.and_eq_true] at hw
      simpa using hw
    have hlt := World.block_lt_of_cell? W _ hc
    rw [add_block] at hlt
    refine ⟨hlt, UInt8.ofNat (zs.getD i 0).toNat, hc.trans ?_⟩
    have : ((UInt8.ofNat (zs.getD i 0).toNat).toNat : Int) = zs.getD i 0 := by rw [UInt8.toNat_ofNat']; omega
    rw [this]

theorem code_bound {H : Type} {ts : List TypeId} {ds : List (DataW H)} {j n : Nat} {t : TypeId} {d : DataW H} (h : (DataW.weightsEach Tryd.prog ts ds).all (· ≤ reachBytes) = true) (ht : ts[j]? = some t) (hd : ds[j]? = some d)
    (hx : n = 0 ∨ ∃ elems spare, d = .slice elems spare ∧ elems.length = n) (hu : Tryd.prog.underlying t = some (.slice 5) := by kernel_rfl) : n ≤ reachBytes := by
  rcases hx with rfl | ⟨elems, spare, rfl, rfl⟩
  · exact Nat.zero_le _
  · have := sized_slice h ht hd hu
    rw [show Tryd.prog.bytesOf 5 = 1 by kernel_rfl, Nat.mul_one] at this
    omega

theorem CodeArg.form {w : World} {v : Value} {n : Nat} (h : CodeArg w v n) : ∃ o cap, v = .slice o n cap := by
  rcases h with ⟨h, rfl⟩ | ⟨a, cap, h, _⟩
  · exact ⟨none, 0, h⟩
  · exact ⟨some a, cap, h⟩

set_option maxHeartbeats 800000 in
theorem drawGood_any (v : Value) (n : Nat) (w : World) (hA : CodeArg w v n) (hn : n ≤ 2000000) :
    Calls Tryd.prog 25 #[v] w fun e w' => ∃ y m d h i s : Int, e = .returned (.agg #[.int .i64 y, .int .i64 m, .int .i64 d, .int .i64 h, .int .i64 i, .int .i64 s]) ∧ Below w.heap.size w w' := by
  obtain ⟨o, cap, rfl⟩ := hA.form
  have hb0 := (Below.refl w.heap.size w).alloc (Nat.le_refl _) (.cells #[.int .i64 0, .int .i64 0, .int .i64 0, .int .i64 0, .int .i64 0, .int .i64 0] 24)
  have hC := start (hA.below (Nat.le_refl _) hb0) hn 52
  have hs : (w.alloc (.cells #[.int .i64 0, .int .i64 0, .int .i64 0, .int .i64 0, .int .i64 0, .int .i64 0] 24)).heap.size = w.heap.size + 1 := by simp
  rw [hs] at hC
  have hb2 : Below w.heap.size w ((w.alloc (.cells #[.int .i64 0, .int .i64 0, .int .i64 0, .int .i64 0, .int .i64 0, .int .i64 0] 24)).alloc (.cells #[.slice o n cap, .int .i64 0, .int .u64 0] 52)) := hb0.alloc (by simp) _
  have hR := Six.alloc (Six.made w 0 0 0 0 0 0 24) (.cells #[.slice o n cap, .int .i64 0, .int .u64 0] 52)
  have HC : Hid _ := hC
  have HR : Hid _ := hR
  have HB : Hid _ := hb2
  clear hC hR hb2 hb0 hA hs
  go_enter Tryd.func25, Tryd.ntmps25
  go_wp2_with fail
  refine (date_any _ _ n 0 _ HC.out (by omega)).mono ?_
  rintro e w1 ⟨y, m, d, h, i, s, rfl, hC1, hb1⟩
  have hR1 := Six.but HR.out hb1 (by omega)
  have hfin : Below w.heap.size w w1 := Below.trans HB.out (But.below hb1 (by omega) (by simp; omega))
  obtain ⟨hr1, hr2, a0, a1, a2, a3, a4, a5, r0, r1, r2, r3, r4, r5⟩ := hR1
  clear hC1 hb1
  go_wp2_with fail
  exact bodyPost_ret (v := .agg #[.int .i64 y, .int .i64 m, .int .i64 d, .int .i64 h, .int .i64 i, .int .i64 s]) (by simp [results, Tryd.results25, go_sem, r0, r1, r2, r3, r4, r5]) rfl ⟨_, _, _, _, _, _, rfl, (((((hfin.setCell (Nat.le_refl _) _).setCell (Nat.le_refl _) _).setCell (Nat.le_refl _) _).setCell (Nat.le_refl _) _).setCell (Nat.le_refl _) _).setCell (Nat.le_refl _) _⟩

set_option maxHeartbeats 800000 in
theorem drawSec_any (v : Value) (n : Nat) (w : World) (hA : CodeArg w v n) (hn : n ≤ 2000000) :
    Calls Tryd.prog 9 #[v] w fun e w' => ∃ y m d h i s : Int, e = .returned (.agg #[.int .i64 y, .int .i64 m, .int .i64 d, .int .i64 h, .int .i64 i, .int .i64 s]) ∧ Below w.heap.size w w' := by
  obtain ⟨o, cap, rfl⟩ := hA.form
  have hb0 := (Below.refl w.heap.size w).alloc (Nat.le_refl _) (.cells #[.int .i64 0, .int .i64 0, .int .i64 0, .int .i64 0, .int .i64 0, .int .i64 0] 24)
  have HA : Hid _ := hA.below (Nat.le_refl _) hb0
  have HR : Hid _ := Six.made w 0 0 0 0 0 0 24
  have HB : Hid _ := hb0
  clear hA hb0
  go_enter Tryd.func9, Tryd.ntmps9
  go_wp2_with fail
  refine (drawGood_any _ n _ HA.out hn).mono ?_
  rintro e w1 ⟨y, m, d, h, i, s, rfl, hb1⟩
  have hR1 := Six.but (cb := w.heap.size + 5) HR.out (But.of_below hb1) (by omega)
  have hfin : Below w.heap.size w w1 := Below.trans HB.out (Below.mono hb1 (by simp))
  obtain ⟨hr1, hr2, a0, a1, a2, a3, a4, a5, r0, r1, r2, r3, r4, r5⟩ := hR1
  clear hb1
  go_wp2_with fail
  exact bodyPost_ret (v := .agg #[.int .i64 y, .int .i64 m, .int .i64 d, .int .i64 h, .int .i64 i, .int .i64 s]) (by simp [results, Tryd.results9, go_sem, r0, r1, r2, r3, r4, r5]) rfl ⟨_, _, _, _, _, _, rfl, (((((hfin.setCell (Nat.le_refl _) _).setCell (Nat.le_refl _) _).setCell (Nat.le_refl _) _).setCell (Nat.le_refl _) _).setCell (Nat.le_refl _) _).setCell (Nat.le_refl _) _⟩

theorem one_at (k : Nat) (K : Int) (hK : K = (k : Int)) (cb : Nat) (v : Value) (n N : Nat) (w : World) (hC : Cursor w cb v n N) (hN : N ≤ 900000000) (h1 : 1 ≤ k) (h2 : k ≤ 1000000) :
    Calls Tryd.prog 44 #[.pointer (some ⟨cb, 0, none⟩), .int .i64 K] w fun e w' => ∃ b : Bool, e = .returned (.bool b) ∧ Cursor w' cb v n (N + 2) ∧ But cb w w' := by
  subst hK
  exact one_any cb v n N k w hC hN h1 h2

set_option maxHeartbeats 1600000 in
theorem now_any (cb : Nat) (v : Value) (n N : Nat) (w : World) (hC : Cursor w cb v n N) (hN : N ≤ 800000000) :
    Calls Tryd.prog 33 #[.pointer (some ⟨cb, 0, none⟩)] w fun e w' => ∃ t : Int, e = .returned (.int .i64 t) ∧ Cursor w' cb v n (N + 8) ∧ But cb w w' := by
  have HC : Hid _ := hC
  have hcb : cb < w.heap.size := hC.2.2.1
  clear hC
  go_enter Tryd.func33, Tryd.ntmps33
  go_wp2_with fail
  refine (one_at 20 _ rfl cb v n _ _ HC.out (by omega) (by omega) (by omega)).mono ?_
  rintro e w1 ⟨b, rfl, hC1, hb1⟩
  have HC1 : Hid _ := hC1
  have HB1 : Hid _ := hb1
  have hs1 : cb < w1.heap.size := hC1.2.2.1
  clear hC1 hb1
  cases b
  · go_wp2_with fail
    refine (pick_at 200 _ rfl cb v n _ _ HC1.out (by omega) (by omega) (by omega)).mono ?_
    rintro e w2 ⟨x2, rfl, hx2, hC2, hb2⟩
    have HC2 : Hid _ := hC2
    have HB2 : Hid _ := But.trans HB1.out hb2
    clear hC2 hb2
    go_wp2_with fail
    refine (pick_at 86400 _ rfl cb v n _ _ HC2.out (by omega) (by omega) (by omega)).mono ?_
    rintro e w3 ⟨x3, rfl, hx3, hC3, hb3⟩
    have HC3 : Hid _ := hC3
    have HB3 : Hid _ := But.trans HB2.out hb3
    clear hC3 hb3
    go_wp2_with fail
    go_ret
    exact ⟨_, rfl, Cursor.mono HC3.out (by omega), HB3.out⟩
  · have HCp : Hid _ := Cursor.below HC1.out ((Below.refl _ _).alloc (Nat.le_refl _) (.cells #[.int .i64 (-1), .int .i64 0, .int .i64 253402300799, .int .i64 253402300800] 3))
    have HBp : Hid _ := But.trans HB1.out (But.of_below ((Below.refl w1.heap.size w1).alloc (Nat.le_refl _) (.cells #[.int .i64 (-1), .int .i64 0, .int .i64 253402300799, .int .i64 253402300800] 3)))
    go_wp2_with fail
    refine (among_any cb _ 4 v n _ _ HCp.out (by omega) (by omega) (by omega) (by simp) (by omega) (ints_made _ [-1, 0, 253402300799, 253402300800] 3 _ rfl)).mono ?_
    rintro e w2 ⟨x2, rfl, hC2, hb2⟩
    have HC2 : Hid _ := hC2
    have HB2 : Hid _ := But.trans HBp.out hb2
    clear hC2 hb2
    go_wp2_with fail
    go_ret
    exact ⟨_, rfl, Cursor.mono HC2.out (by omega), HB2.out⟩

set_option maxHeartbeats 800000 in
theorem drawAt_any (v : Value) (n : Nat) (w : World) (hA : CodeArg w v n) (hn : n ≤ 2000000) :
    Calls Tryd.prog 17 #[v] w fun e w' => ∃ t : Int, e = .returned (.int .i64 t) ∧ Below w.heap.size w w' := by
  obtain ⟨o, cap, rfl⟩ := hA.form
  have HC : Hid _ := start hA hn 52
  have HB : Hid _ := (Below.refl w.heap.size w).alloc (Nat.le_refl _) (.cells #[.slice o n cap, .int .i64 0, .int .u64 0] 52)
  clear hA
  go_enter Tryd.func17, Tryd.ntmps17
  go_wp2_with fail
  refine (now_any _ _ n 0 _ HC.out (by omega)).mono ?_
  rintro e w1 ⟨t, rfl, hC1, hb1⟩
  have hfin : Below w.heap.size w w1 := Below.trans HB.out (But.below hb1 (Nat.le_refl _) (by simp))
  clear hC1 hb1
  go_wp2_with fail
  go_ret
  exact ⟨t, rfl, hfin⟩

end Go.Proofs.YtnjpagejeiiphaaDoor.Cur
