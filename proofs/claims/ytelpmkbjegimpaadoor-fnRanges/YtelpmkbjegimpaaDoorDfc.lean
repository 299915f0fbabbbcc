/-
  Walks: draws: (*l1Cur).of with what all its texts have, spoilt.
-/
import Derived.Test.YtelpmkbjegimpaaDoorDrb
import Derived.Test.YtelpmkbjegimpaaDoorMrk
namespace Go.Proofs.YtelpmkbjegimpaaDoor.Cur
open Go.RowKit
open Go.Proofs.YtelpmkbjegimpaaDoor.Own

set_option maxHeartbeats 800000 in
theorem of_pr (Pr : ByteArray → Prop) (cb b m : Nat) (v : Value) (n N : Nat) (w : World) (hC : Cursor w cb v n N) (hN : N ≤ 900000000) (h1 : 1 ≤ m) (h2 : m ≤ 1000) (hb : b < w.heap.size) (hbc : b ≠ cb) (hcell : ∀ i, i < m → ∃ x : ByteArray, Pr x ∧ w.cell? ⟨b, i, none⟩ = some (.string x)) :
    Calls Tryd.prog 30 #[.pointer (some ⟨cb, 0, none⟩), .slice (some ⟨b, 0, none⟩) m m] w fun e w' => ∃ x : ByteArray, e = .returned (.string x) ∧ Pr x ∧ Cursor w' cb v n (N + 2) ∧ But cb w w' := by
  have HC : Hid _ := hC
  have HL : Hid _ := hcell
  clear hC hcell
  go_enter Tryd.func30, Tryd.ntmps30
  go_wp2_with fail
  refine (pick_any cb v n N m _ HC.out hN h1 (by omega)).mono ?_
  rintro e w1 ⟨x, rfl, hx, hC1, hb1⟩
  obtain ⟨z, hM, hz⟩ := HL.out x hx
  have hz1 := ((bcells hb1).1 b x hb hbc).trans hz
  have HC1 : Hid _ := hC1
  have Hb1 : Hid _ := hb1
  clear hC1 hb1
  go_wp2_with fail
  go_ret
  exact ⟨z, rfl, hM, HC1.out, Hb1.out⟩
theorem texts_pr (Pr : ByteArray → Prop) (w : World) (xs : List ByteArray) (hM : ∀ x ∈ xs, Pr x) (t : TypeId) (b : Nat) (hb : b = w.heap.size) : ∀ i, i < xs.length → ∃ x : ByteArray, Pr x ∧ (w.alloc (.cells (xs.map Value.string).toArray t)).cell? ⟨b, i, none⟩ = some (.string x) := by
  subst hb
  intro i hi
  exact ⟨xs[i], hM _ (List.getElem_mem hi), by rw [World.cell?_alloc_mark]; simp [hi]⟩

/-- One of some texts that are made ahead of the call. -/
theorem of_new (Pr : ByteArray → Prop) (xs : List ByteArray) (hx : ∀ x ∈ xs, Pr x) (m : Nat) (hm : m = xs.length) (h1 : 1 ≤ m) (h2 : m ≤ 1000) (cb : Nat) (v : Value) (n N : Nat) (w0 w : World) (hC : Cursor w cb v n N) (hB : But cb w0 w) (hN : N ≤ 900000000) :
    Calls Tryd.prog 30 #[.pointer (some ⟨cb, 0, none⟩), .slice (some ⟨w.heap.size, 0, none⟩) m m] (w.alloc (.cells (xs.map Value.string).toArray 9)) fun e w' => ∃ x : ByteArray, e = .returned (.string x) ∧ Pr x ∧ Cursor w' cb v n (N + 2) ∧ But cb w0 w' := by
  subst hm
  have hcb : cb < w.heap.size := hC.2.2.1
  have hb1 := (Below.refl w.heap.size w).alloc (Nat.le_refl _) (.cells (xs.map Value.string).toArray 9)
  refine (of_pr Pr cb _ xs.length v n N _ (Cursor.below hC hb1) hN h1 h2 (by simp) (by omega) (texts_pr Pr w xs hx _ _ rfl)).mono ?_
  rintro e w' ⟨x, rfl, hx, hC', hb'⟩
  refine ⟨x, rfl, hx, hC', But.trans (But.then hB ?_) hb'⟩
  exact (Below.refl w0.heap.size w).alloc hB.2.2.2.1 _

theorem of_new2 (Pr : ByteArray → Prop) (xs : List ByteArray) (hx : ∀ x ∈ xs, Pr x) (m : Nat) (hm : m = xs.length) (h1 : 1 ≤ m) (h2 : m ≤ 1000) (cb : Nat) (v : Value) (n N : Nat) (w : World) (hC : Cursor w cb v n N) (hN : N ≤ 900000000) :
    Calls Tryd.prog 30 #[.pointer (some ⟨cb, 0, none⟩), .slice (some ⟨w.heap.size, 0, none⟩) m m] (w.alloc (.cells (xs.map Value.string).toArray 9)) fun e w' => ∃ x : ByteArray, e = .returned (.string x) ∧ Pr x ∧ Cursor w' cb v n (N + 2) ∧ But cb w w' :=
  of_new Pr xs hx m hm h1 h2 cb v n N w w hC (But.refl cb w) hN

set_option maxHeartbeats 1600000 in
theorem spoilt_any (cb : Nat) (v : Value) (n N : Nat) (w : World) (t x : ByteArray) (hC : Cursor w cb v n N) (hN : N ≤ 800000000) (ht : t.size ≤ 100000) (hx1 : 1 ≤ x.size) (hx2 : x.size ≤ 1000) :
    Calls Tryd.prog 33 #[.pointer (some ⟨cb, 0, none⟩), .string t, .string x] w fun e w' => ∃ T : ByteArray, e = .returned (.string T) ∧ T.size ≤ t.size + 2 ∧ Cursor w' cb v n (N + 20) ∧ But cb w w' := by
  have hcb : cb < w.heap.size := hC.2.2.1
  have HC0 : Hid _ := hC
  clear hC
  go_enter Tryd.func33, Tryd.ntmps33
  go_wp2_with fail
  refine (pick_at 3 _ rfl cb v n _ _ HC0.out (by omega) (by omega) (by omega)).mono ?_
  rintro e w1 ⟨x1, rfl, hx1', hC1, hb1⟩
  have HC1 : Hid _ := hC1
  have Hb1 : Hid _ := hb1
  clear hC1 hb1 HC0
  go_wp2_with fail
  go_loopw [1, 7] (fun tv nv wr => ∃ (m : Nat) (T : ByteArray), tv = .string T ∧ nv = .int .i64 m ∧ m ≤ x1 ∧ T.size + m ≤ t.size + x1 ∧ Hid (Cursor wr cb v n (N + 2 + 6 * (x1 - m))) ∧ Hid (But cb w wr)) (fun _ nv _ => (intOf nv).toNat)
  case atStart => exact ⟨x1, t, rfl, rfl, by omega, by omega, Cursor.mono HC1.out (by omega), Hb1⟩
  case round =>
    obtain ⟨m, T, rfl, rfl, hm, hsz, HC, HB⟩ := hrel
    clear HC1 Hb1
    by_cases h0 : 0 < m
    · by_cases hT : 0 < T.size
      · go_wp2_with fail
        refine (pick_at T.size _ rfl cb v n _ _ HC.out (by omega) (by omega) (by omega)).mono ?_
        rintro e w2 ⟨i, rfl, hi, hC2, hb2⟩
        have HC2 : Hid _ := hC2
        have HB2 : Hid _ := But.trans HB.out hb2
        clear HC HB hC2 hb2
        go_wp2_with fail
        refine (pick_at x.size _ rfl cb v n _ _ HC2.out (by omega) (by omega) (by omega)).mono ?_
        rintro e w3 ⟨j, rfl, hj, hC3, hb3⟩
        have HC3 : Hid _ := Cursor.below hC3 ((Below.refl _ _).alloc (Nat.le_refl _) (.cells #[.int .u8 (x[j].toNat : Int)] 5))
        have HB3 : Hid _ := But.then (But.trans HB2.out hb3) ((Below.refl w.heap.size w3).alloc (But.trans HB2.out hb3).2.2.2.1 (.cells #[.int .u8 (x[j].toNat : Int)] 5))
        have hcv := Mrk.text_one w3 x[j] (x[j].toNat : Int) rfl
        have e1 : T.extract 0 i = T.extract 0 i := rfl
        clear HC2 HB2 hC3 hb3 e1
        go_wp2_with fail
        refine (pick_at 3 _ rfl cb v n _ _ HC3.out (by omega) (by omega) (by omega)).mono ?_
        rintro e w4 ⟨k, rfl, hk, hC4, hb4⟩
        have HC4 : Hid _ := hC4
        have HB4 : Hid _ := But.trans HB3.out hb4
        have z1 : (T.extract 0 i).size = i := by rw [ByteArray.size_extract]; omega
        have z2 : (T.extract i T.size).size = T.size - i := by rw [ByteArray.size_extract]; omega
        have z3 : (T.extract (i + 1) T.size).size = T.size - (i + 1) := by rw [ByteArray.size_extract]; omega
        have z4 : (⟨#[x[j]]⟩ : ByteArray).size = 1 := rfl
        clear HC3 HB3 hC4 hb4 hcv
        rcases (show k = 0 ∨ k = 1 ∨ k = 2 by omega) with rfl | rfl | rfl
        · go_wp2_with fail
          go_quiet (fail)
          go_wp2_with fail
          go_roundw
          case rel => exact ⟨m - 1, _, rfl, by go_num, by omega, by simp only [ByteArray.size_append]; omega, Cursor.mono (Cursor.below HC4.out (Mrk.below_drewN _ _)) (by omega), HB4⟩
          case measure => simp [intOf]; omega
        · go_wp2_with fail
          go_quiet (fail)
          go_wp2_with fail
          go_roundw
          case rel => exact ⟨m - 1, _, rfl, by go_num, by omega, by simp only [ByteArray.size_append]; omega, Cursor.mono (Cursor.below HC4.out (Mrk.below_drewN _ _)) (by omega), HB4⟩
          case measure => simp [intOf]; omega
        · go_wp2_with fail
          go_quiet (fail)
          go_wp2_with fail
          go_roundw
          case rel => exact ⟨m - 1, _, rfl, by go_num, by omega, by simp only [ByteArray.size_append]; omega, Cursor.mono (Cursor.below HC4.out (Mrk.below_drewN _ _)) (by omega), HB4⟩
          case measure => simp [intOf]; omega
      · go_wp2_with fail
        go_ret
        exact ⟨T, rfl, by omega, Cursor.mono HC.out (by omega), HB.out⟩
    · go_wp2_with fail
      go_ret
      exact ⟨T, rfl, by omega, Cursor.mono HC.out (by omega), HB.out⟩

end Go.Proofs.YtelpmkbjegimpaaDoor.Cur
