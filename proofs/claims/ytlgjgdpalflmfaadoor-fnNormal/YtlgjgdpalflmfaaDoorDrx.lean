/-
  Walks: spec's DrawGoodUrl, DrawUrlText, (*l1Cur).bytes, DrawPercentEncode.
-/
import Derived.Test.YtlgjgdpalflmfaaDoorDurl
import Derived.Test.YtlgjgdpalflmfaaDoorOwn
import Derived.Deep.OwnRows
namespace Go.Proofs.YtlgjgdpalflmfaaDoor.Cur
open Go.RowKit
open Go.Proofs.YtlgjgdpalflmfaaDoor.Own

set_option maxHeartbeats 800000 in
theorem drawUrl_any (v : Value) (n : Nat) (w : World) (hA : CodeArg w v n) (hn : n ≤ 2000000) :
    Calls Tryd.prog 39 #[v] w fun e w' => ∃ (S H : ByteArray) (n2 : Int) (P Q : ByteArray) (a : Bool), e = .returned (.agg #[.string S, .string H, .int .i64 n2, .string P, .string Q, .bool a]) ∧ (S.size ≤ 100 ∧ H.size ≤ 100 ∧ P.size ≤ 100 ∧ Q.size ≤ 100) ∧ Below w.heap.size w w' := by
  obtain ⟨o, cap, rfl⟩ := hA.form
  have hb0 := (Below.refl w.heap.size w).alloc (Nat.le_refl _) (.cells #[.string ⟨#[]⟩, .string ⟨#[]⟩, .int .i64 0, .string ⟨#[]⟩, .string ⟨#[]⟩, .bool false] 24)
  have hC := start (hA.below (Nat.le_refl _) hb0) hn 51
  have hs : (w.alloc (.cells #[.string ⟨#[]⟩, .string ⟨#[]⟩, .int .i64 0, .string ⟨#[]⟩, .string ⟨#[]⟩, .bool false] 24)).heap.size = w.heap.size + 1 := by simp
  rw [hs] at hC
  have hb2 : Below w.heap.size w ((w.alloc (.cells #[.string ⟨#[]⟩, .string ⟨#[]⟩, .int .i64 0, .string ⟨#[]⟩, .string ⟨#[]⟩, .bool false] 24)).alloc (.cells #[.slice o n cap, .int .i64 0, .int .u64 0] 51)) := hb0.alloc (by simp) _
  have hR := UB.alloc (UB.made w ⟨#[]⟩ ⟨#[]⟩ ⟨#[]⟩ ⟨#[]⟩ 0 false 24 (by decide)) (.cells #[.slice o n cap, .int .i64 0, .int .u64 0] 51)
  have HC : Hid _ := hC
  have HR : Hid _ := hR
  have HB : Hid _ := hb2
  clear hC hR hb2 hb0 hA hs
  go_enter Tryd.func39, Tryd.ntmps39
  go_wp2_with fail
  refine (url_any _ _ n 0 _ HC.out (by omega)).mono ?_
  rintro e w1 ⟨S, H, n2, P, Q, a, rfl, hz, hC1, hb1⟩
  have hR1 := UB.but HR.out hb1 (by omega)
  have hfin : Below w.heap.size w w1 := Below.trans HB.out (But.below hb1 (by omega) (by simp; omega))
  obtain ⟨hr1, hr2, S', H', n', P', Q', a', _, _, _, _, r0, r1, r2, r3, r4, r5⟩ := hR1
  clear hC1 hb1
  go_wp2_with fail
  exact bodyPost_ret (v := .agg #[.string S, .string H, .int .i64 n2, .string P, .string Q, .bool a]) (by simp [results, Tryd.results39, go_sem, r0, r1, r2, r3, r4, r5]) rfl ⟨_, _, _, _, _, _, rfl, hz, (((((hfin.setCell (Nat.le_refl _) _).setCell (Nat.le_refl _) _).setCell (Nat.le_refl _) _).setCell (Nat.le_refl _) _).setCell (Nat.le_refl _) _).setCell (Nat.le_refl _) _⟩

set_option maxHeartbeats 800000 in
theorem drawText_any (v : Value) (n : Nat) (w : World) (hA : CodeArg w v n) (hn : n ≤ 2000000) :
    Calls Tryd.prog 14 #[v] w fun e w' => ∃ (S H : ByteArray) (n2 : Int) (P Q : ByteArray) (a : Bool), e = .returned (.agg #[.string S, .string H, .int .i64 n2, .string P, .string Q, .bool a]) ∧ (S.size ≤ 100 ∧ H.size ≤ 100 ∧ P.size ≤ 100 ∧ Q.size ≤ 100) ∧ Below w.heap.size w w' := by
  obtain ⟨o, cap, rfl⟩ := hA.form
  have hb0 := (Below.refl w.heap.size w).alloc (Nat.le_refl _) (.cells #[.string ⟨#[]⟩, .string ⟨#[]⟩, .int .i64 0, .string ⟨#[]⟩, .string ⟨#[]⟩, .bool false] 24)
  have HA : Hid _ := hA.below (Nat.le_refl _) hb0
  have HR : Hid _ := UB.made w ⟨#[]⟩ ⟨#[]⟩ ⟨#[]⟩ ⟨#[]⟩ 0 false 24 (by decide)
  have HB : Hid _ := hb0
  clear hA hb0
  go_enter Tryd.func14, Tryd.ntmps14
  go_wp2_with fail
  refine (drawUrl_any _ n _ HA.out hn).mono ?_
  rintro e w1 ⟨S, H, n2, P, Q, a, rfl, hz, hb1⟩
  have hR1 := UB.but (cb := w.heap.size + 5) HR.out (But.of_below hb1) (by omega)
  have hfin : Below w.heap.size w w1 := Below.trans HB.out (Below.mono hb1 (by simp))
  obtain ⟨hr1, hr2, S', H', n', P', Q', a', _, _, _, _, r0, r1, r2, r3, r4, r5⟩ := hR1
  clear hb1
  go_wp2_with fail
  exact bodyPost_ret (v := .agg #[.string S, .string H, .int .i64 n2, .string P, .string Q, .bool a]) (by simp [results, Tryd.results14, go_sem, r0, r1, r2, r3, r4, r5]) rfl ⟨_, _, _, _, _, _, rfl, hz, (((((hfin.setCell (Nat.le_refl _) _).setCell (Nat.le_refl _) _).setCell (Nat.le_refl _) _).setCell (Nat.le_refl _) _).setCell (Nat.le_refl _) _).setCell (Nat.le_refl _) _⟩

theorem But.then {cb : Nat} {w wr w' : World} (h : But cb w wr) (hb : Below w.heap.size wr w') : But cb w w' :=
  ⟨hb.os.trans h.1, hb.tape.trans h.2.1, hb.output.trans h.2.2.1, Nat.le_trans h.2.2.2.1 hb.size, fun k hk hc => (hb.block k hk).trans (h.2.2.2.2 k hk hc)⟩
theorem Cursor.belowB {w w' : World} {B cb n N : Nat} {v : Value} (h : Cursor w cb v n N) (hB : cb < B) (hb : Below B w w') : Cursor w' cb v n N := by
  obtain ⟨h1, h2, h3, h4, ⟨a, ha, h5⟩, ⟨s, h6⟩, h7⟩ := h
  have e : ∀ i, w'.cell? ⟨cb, i, none⟩ = w.cell? ⟨cb, i, none⟩ := fun i => hb.cell (p := ⟨cb, i, none⟩) hB
  refine ⟨?_, h2, Nat.lt_of_lt_of_le h3 hb.size, (e 0).trans h4, ⟨a, ha, (e 1).trans h5⟩, ⟨s, (e 2).trans h6⟩, fun i => (hb.frozen (p := ⟨cb, i, none⟩) hB).trans (h7 i)⟩
  rcases h1 with h | ⟨a, cap, k1, k2, k3, k6⟩
  · exact .inl h
  · refine .inr ⟨a, cap, k1, k2, k3, fun i hi => ?_⟩
    obtain ⟨k4, c, hc⟩ := k6 i hi
    exact ⟨k4, c, (hb.cell (p := a.add i) (by rw [add_block]; omega)).trans hc⟩
theorem bytes_but {w w' : World} {B cb : Nat} {v : Value} {l : List UInt8} (h : bytesIn w B v l) (hb : But cb w w') (hc : cb < B) : bytesIn w' B v l := by
  refine ⟨h.1, ?_⟩
  rcases h.2 with hn | ⟨g, cap, cur, rfl, hbg, hg, rest⟩
  · exact .inl hn
  · exact .inr ⟨g, cap, cur, rfl, hbg, (hb.2.2.2.2 g (Array.getElem?_eq_some_iff.1 hg).1 (by omega)).trans hg, rest⟩

set_option maxHeartbeats 1600000 in
theorem bytes_any (cb most : Nat) (v : Value) (n N : Nat) (w : World) (hC : Cursor w cb v n N) (hN : N ≤ 800000000) (hm : most ≤ 100) :
    Calls Tryd.prog 48 #[.pointer (some ⟨cb, 0, none⟩), .int .i64 most] w fun e w' => ∃ (r : Value) (l : List UInt8), e = .returned r ∧ l.length ≤ most ∧ bytesIn w' w.heap.size r l ∧ Cursor w' cb v n (N + 2 + most) ∧ But cb w w' := by
  have hcb : cb < w.heap.size := hC.2.2.1
  have HC0 : Hid _ := hC
  clear hC
  have hw : IntKind.i64.wrap ((most : Int) + 1) = (most : Int) + 1 := by rw [IntKind.wrap_i64]; omega
  go_enter Tryd.func48, Tryd.ntmps48
  go_wp2_with fail
  refine (pick_at (most + 1) _ (by omega) cb v n _ _ HC0.out (by omega) (by omega) (by omega)).mono ?_
  rintro e w1 ⟨x1, rfl, hx1, hC1, hb1⟩
  have HC1 : Hid _ := hC1
  have Hb1 : Hid _ := hb1
  clear hC1 hb1 HC0
  go_wp2_with fail
  go_loopw [5, 6] (fun ov nv wr => ∃ (m : Nat) (l : List UInt8), nv = .int .i64 m ∧ m ≤ x1 ∧ l.length + m = x1 ∧ bytesIn wr w.heap.size ov l ∧ Hid (Cursor wr cb v n (N + 2 + (x1 - m))) ∧ Hid (But cb w wr)) (fun _ nv _ => (intOf nv).toNat)
  case atStart => exact ⟨x1, [], rfl, Nat.le_refl _, by simp, World.ownsRow_nil _ _ _ _, Cursor.mono HC1.out (by omega), Hb1⟩
  case round =>
    obtain ⟨m, l, rfl, hm1, hl, hown, HC, HB⟩ := hrel
    clear HC1 Hb1
    by_cases h0 : 0 < m
    · have hsz := HB.out.2.2.2.1
      go_wp2_with fail
      refine (next_any cb v n _ _ HC.out (by omega)).mono ?_
      rintro e w2 ⟨x, rfl, hx, hC2, hb2⟩
      have hown2 := bytes_but hown hb2 hcb
      have hsz2 : w.heap.size ≤ w2.heap.size := Nat.le_trans hsz hb2.2.2.2.1
      have HC2 : Hid _ := hC2
      have HB2 : Hid _ := But.trans HB.out hb2
      have hX : (x : Int) = ((UInt8.ofNat x).toNat : Int) := by rw [UInt8.toNat_ofNat']; omega
      have HX : Hid _ := hX
      clear hown hb2 hC2 HC HB hX
      go_wp2_with (at_builtin; refine wpList_append_one w2 rfl _ _ rfl w.heap.size _ l (by rfl) hown2 _ _ HX.out _ rfl ?q3 hsz2 w2 (Below.refl _ _) ?_)
      case q3 => omega
      intro v' w3 hown' hbel'
      have HC3 : Hid _ := Cursor.belowB HC2.out hcb hbel'
      have HB3 : Hid _ := But.then HB2.out hbel'
      clear hown2 HC2 HB2 hbel'
      go_wp2_with fail
      go_roundw
      case rel => exact ⟨m - 1, _, by go_num, by omega, by simp; omega, hown', Cursor.mono HC3.out (by omega), HB3⟩
      case measure => simp [intOf]; omega
    · go_wp2_with fail
      go_ret
      exact ⟨_, l, rfl, by omega, hown, Cursor.mono HC.out (by omega), HB.out⟩

theorem row_zero (w : World) (k : Nat) : RowB (w.alloc (.cells (madeCells #[.int .u8 0] k) 5)) w.heap.size k := by
  refine ⟨by simp, fun j hj => ⟨0, ?_⟩, fun j _ => World.frozen?_alloc_at _ 5 _ j rfl⟩
  rw [World.cell?_alloc_mark]
  simp [madeCells, hj, Nat.mod_one]

set_option maxRecDepth 20000 in
set_option maxHeartbeats 1600000 in
theorem drawEnc_any (v : Value) (n : Nat) (w : World) (hA : CodeArg w v n) (hn : n ≤ 2000000) :
    Calls Tryd.prog 19 #[v] w fun e w' => ∃ T : ByteArray, e = .returned (.string T) ∧ T.size ≤ 100 ∧ Below w.heap.size w w' := by
  obtain ⟨o, cap, rfl⟩ := hA.form
  have HC : Hid _ := start hA hn 51
  have HB : Hid _ := (Below.refl w.heap.size w).alloc (Nat.le_refl _) (.cells #[.slice o n cap, .int .i64 0, .int .u64 0] 51)
  clear hA
  go_enter Tryd.func19, Tryd.ntmps19
  go_wp2_with fail
  refine (one_at 30 _ rfl _ _ n 0 _ HC.out (by omega) (by omega) (by omega)).mono ?_
  rintro e w1 ⟨b1, rfl, hC1, hb1⟩
  have HC1 : Hid _ := hC1
  have HB1 : Hid (Below w.heap.size w w1) := Below.trans HB.out (But.below hb1 (by omega) (by simp))
  clear hC1 hb1 HC HB
  cases b1
  · go_wp2_with fail
    refine (pick_at 9 _ rfl _ _ n _ _ HC1.out (by omega) (by omega) (by omega)).mono ?_
    rintro e w2 ⟨x2, rfl, hx2, hC2, hb2⟩
    have HC2 : Hid _ := hC2
    have HB2 : Hid (Below w.heap.size w w2) := Below.trans HB1.out (But.below hb2 (by omega) HB1.out.size)
    clear hC2 hb2 HC1 HB1
    go_wp2_with fail
    refine (bytes_any _ x2 _ n _ _ HC2.out (by omega) (by omega)).mono ?_
    rintro e w3 ⟨r, l, rfl, hl, hown, hC3, hb3⟩
    have HB3 : Hid (Below w.heap.size w w3) := Below.trans HB2.out (But.below hb3 (by omega) HB2.out.size)
    have hcv := run_text _ _ _ _ hown
    clear hC3 hb3 hown HC2 HB2
    have hz : (⟨l.toArray⟩ : ByteArray).size ≤ 100 := by show l.toArray.size ≤ 100; simp; omega
    go_wp2_with fail
    go_ret
    exact ⟨_, rfl, hz, HB3.out⟩
  · go_wp2_with fail
    refine (pick_at 2 _ rfl _ _ n _ _ HC1.out (by omega) (by omega) (by omega)).mono ?_
    rintro e w2 ⟨x2, rfl, hx2, hC2, hb2⟩
    have HC2 : Hid _ := hC2
    have HB2 : Hid (Below w.heap.size w w2) := Below.trans HB1.out (But.below hb2 (by omega) HB1.out.size)
    clear hC2 hb2 HC1 HB1
    rcases (show x2 = 0 ∨ x2 = 1 from by omega) with rfl | rfl
    · have hmk : (Instr.makeSlice 22 (.int .i64 60) (.int .i64 60)).run Tryd.prog w2 = .ok (.slice (some ⟨w2.heap.size, 0, none⟩) 60 60) (w2.alloc (.cells (madeCells #[.int .u8 0] 60) 5)) := run_make_row' (P := Tryd.prog) 22 5 (.int .u8 0) 1 Tryd.underlying22 info5 rfl .i64 .i64 60 (by decide) (by decide) w2
      obtain ⟨T, hT, hcv⟩ := row_text (g := 60) (row_zero w2 60)
      have hB3 : Below w.heap.size w (w2.alloc (.cells (madeCells #[.int .u8 0] 60) 5)) := HB2.out.alloc HB2.out.size _
      generalize w2.alloc (.cells (madeCells #[.int .u8 0] 60) 5) = w3 at hmk hcv hB3
      go_wp2_with fail
      go_ret
      exact ⟨_, rfl, by omega, hB3⟩
    · have hmk : (Instr.makeSlice 22 (.int .i64 61) (.int .i64 61)).run Tryd.prog w2 = .ok (.slice (some ⟨w2.heap.size, 0, none⟩) 61 61) (w2.alloc (.cells (madeCells #[.int .u8 0] 61) 5)) := run_make_row' (P := Tryd.prog) 22 5 (.int .u8 0) 1 Tryd.underlying22 info5 rfl .i64 .i64 61 (by decide) (by decide) w2
      obtain ⟨T, hT, hcv⟩ := row_text (g := 61) (row_zero w2 61)
      have hB3 : Below w.heap.size w (w2.alloc (.cells (madeCells #[.int .u8 0] 61) 5)) := HB2.out.alloc HB2.out.size _
      generalize w2.alloc (.cells (madeCells #[.int .u8 0] 61) 5) = w3 at hmk hcv hB3
      go_wp2_with fail
      go_ret
      exact ⟨_, rfl, by omega, hB3⟩

end Go.Proofs.YtlgjgdpalflmfaaDoor.Cur
