/-
  Walks: spec's DrawNormalUrl, DrawDropDots.
-/
import Derived.Test.YtlgjgdpalflmfaaDoorDrx
namespace Go.Proofs.YtlgjgdpalflmfaaDoor.Cur
open Go.RowKit
open Go.Proofs.YtlgjgdpalflmfaaDoor.Own

set_option maxHeartbeats 800000 in
theorem drawNorm_any (v : Value) (n : Nat) (w : World) (hA : CodeArg w v n) (hn : n ≤ 2000000) :
    Calls Tryd.prog 23 #[v] w fun e w' => ∃ (S H : ByteArray) (n2 : Int) (P Q : ByteArray) (a : Bool), e = .returned (.agg #[.string S, .string H, .int .i64 n2, .string P, .string Q, .bool a]) ∧ (S.size ≤ 100 ∧ H.size ≤ 100 ∧ P.size ≤ 100 ∧ Q.size ≤ 100) ∧ Below w.heap.size w w' := by
  obtain ⟨o, cap, rfl⟩ := hA.form
  have hb0 := (Below.refl w.heap.size w).alloc (Nat.le_refl _) (.cells #[.string ⟨#[]⟩, .string ⟨#[]⟩, .int .i64 0, .string ⟨#[]⟩, .string ⟨#[]⟩, .bool false] 24)
  have HA : Hid _ := hA.below (Nat.le_refl _) hb0
  have HR : Hid _ := UB.made w ⟨#[]⟩ ⟨#[]⟩ ⟨#[]⟩ ⟨#[]⟩ 0 false 24 (by decide)
  have HB : Hid _ := hb0
  clear hA hb0
  go_enter Tryd.func23, Tryd.ntmps23
  go_wp2_with fail
  refine (drawUrl_any _ n _ HA.out hn).mono ?_
  rintro e w1 ⟨S, H, n2, P, Q, a, rfl, hz, hb1⟩
  have hR1 := UB.but (cb := w.heap.size + 5) HR.out (But.of_below hb1) (by omega)
  have hfin : Below w.heap.size w w1 := Below.trans HB.out (Below.mono hb1 (by simp))
  obtain ⟨hr1, hr2, S', H', n', P', Q', a', _, _, _, _, r0, r1, r2, r3, r4, r5⟩ := hR1
  clear hb1
  go_wp2_with fail
  exact bodyPost_ret (v := .agg #[.string S, .string H, .int .i64 n2, .string P, .string Q, .bool a]) (by simp [results, Tryd.results23, go_sem, r0, r1, r2, r3, r4, r5]) rfl ⟨_, _, _, _, _, _, rfl, hz, (((((hfin.setCell (Nat.le_refl _) _).setCell (Nat.le_refl _) _).setCell (Nat.le_refl _) _).setCell (Nat.le_refl _) _).setCell (Nat.le_refl _) _).setCell (Nat.le_refl _) _⟩

set_option maxHeartbeats 1600000 in
theorem drawDots_any (v : Value) (n : Nat) (w : World) (hA : CodeArg w v n) (hn : n ≤ 2000000) :
    Calls Tryd.prog 28 #[v] w fun e w' => ∃ P : ByteArray, e = .returned (.string P) ∧ P.size ≤ 100 ∧ Below w.heap.size w w' := by
  obtain ⟨o, cap, rfl⟩ := hA.form
  have HC : Hid _ := start hA hn 51
  have HB : Hid _ := (Below.refl w.heap.size w).alloc (Nat.le_refl _) (.cells #[.slice o n cap, .int .i64 0, .int .u64 0] 51)
  clear hA
  go_enter Tryd.func28, Tryd.ntmps28
  go_wp2_with fail
  refine (one_at 30 _ rfl _ _ n 0 _ HC.out (by omega) (by omega) (by omega)).mono ?_
  rintro e w1 ⟨b1, rfl, hC1, hb1⟩
  have HC1 : Hid _ := hC1
  have HB1 : Hid (Below w.heap.size w w1) := Below.trans HB.out (But.below hb1 (by omega) (by simp))
  clear hC1 hb1 HC HB
  cases b1
  · go_wp2_with fail
    refine (path_any _ _ n _ _ HC1.out (by omega)).mono ?_
    rintro e w2 ⟨P, rfl, hz, hC2, hb2⟩
    have HB2 : Hid (Below w.heap.size w w2) := Below.trans HB1.out (But.below hb2 (by omega) HB1.out.size)
    clear hC2 hb2 HC1 HB1
    go_wp2_with fail
    go_ret
    exact ⟨_, rfl, hz, HB2.out⟩
  · have hc1 : w.heap.size < w1.heap.size := HC1.out.2.2.1
    have HCa : Hid _ := Cursor.below HC1.out ((Below.refl w1.heap.size w1).alloc (Nat.le_refl _) (.cells (([⟨#[]⟩, ⟨#[97]⟩, ⟨#[47, 46, 46]⟩, ⟨#[47, 46]⟩] : List ByteArray).map Value.string).toArray 9))
    have HBa : Hid _ := HB1.out.alloc HB1.out.size (.cells (([⟨#[]⟩, ⟨#[97]⟩, ⟨#[47, 46, 46]⟩, ⟨#[47, 46]⟩] : List ByteArray).map Value.string).toArray 9)
    go_wp2_with fail
    refine (of_any _ _ 4 3 _ n _ _ HCa.out (by omega) (by omega) (by omega) (by simp) (by omega) (texts_made w1 [⟨#[]⟩, ⟨#[97]⟩, ⟨#[47, 46, 46]⟩, ⟨#[47, 46]⟩] 3 (by decide) 9 _ rfl)).mono ?_
    rintro e w2 ⟨x, rfl, hx, hC2, hb2⟩
    have HB2 : Hid (Below w.heap.size w w2) := Below.trans HBa.out (But.below hb2 (by omega) (by have := HB1.out.size; simp; omega))
    clear hC2 hb2 HC1 HB1 HCa HBa
    go_wp2_with fail
    go_ret
    exact ⟨_, rfl, by omega, HB2.out⟩

end Go.Proofs.YtlgjgdpalflmfaaDoor.Cur
