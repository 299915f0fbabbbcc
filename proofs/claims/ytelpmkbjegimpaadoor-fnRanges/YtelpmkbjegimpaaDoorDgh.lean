/-
  Walk: the draw spec.DrawReadRange.
-/
import Derived.Test.YtelpmkbjegimpaaDoorDgg
namespace Go.Proofs.YtelpmkbjegimpaaDoor.Cur
open Go.RowKit
open Go.Proofs.YtelpmkbjegimpaaDoor.Own
open Go.Proofs.YtelpmkbjegimpaaDoor.Rga
open Go.Proofs.YtelpmkbjegimpaaDoor.Num (num num_any num_size_le)

theorem MS.mono {K L : Int} {l : List UInt8} (h : MS K l) (hK : K ≤ L) : MS L l := fun i j hij => Int.le_trans (h i j hij) hK

set_option maxRecDepth 20000 in
set_option maxHeartbeats 6400000 in
theorem drawRead_any (v : Value) (n : Nat) (w : World) (hA : CodeArg w v n) (hn : n ≤ 2000000) :
    Calls Tryd.prog 11 #[v] w fun e w' => ∃ (T : ByteArray) (z : Int), e = .returned (.tuple #[.string T, .int .i64 z]) ∧ T.size ≤ 100 ∧ MS 9 T.data.toList ∧ Pl T.data.toList ∧ Below w.heap.size w w' := by
  obtain ⟨o, cap, rfl⟩ := hA.form
  have HC0 : Hid _ := start hA hn 45
  have HB0 : Hid _ := (Below.refl w.heap.size w).alloc (Nat.le_refl _) (.cells #[.slice o n cap, .int .i64 0, .int .u64 0] 45)
  have hs0 : (w.alloc (.cells #[.slice o n cap, .int .i64 0, .int .u64 0] 45)).heap.size = w.heap.size + 1 := by simp
  clear hA
  go_enter Tryd.func11, Tryd.ntmps11
  go_wp2_with fail
  refine (pick_at 3 _ rfl _ _ n _ _ HC0.out (by omega) (by omega) (by omega)).mono ?_
  rintro e w1 ⟨k1, rfl, hk1, hC1, hb1⟩
  have HC1 : Hid _ := hC1
  have HB1 : Hid (Below w.heap.size w w1) := HB0.out.trans (hb1.below (Nat.le_refl _) (by omega))
  obtain ⟨k0, hk0e⟩ : ∃ k0 : Nat, k0 = 1 + k1 := ⟨_, rfl⟩
  have hwr : IntKind.i64.wrap ((1 : Int) + (k1 : Int)) = (k0 : Int) := by rw [IntKind.wrap_i64]; omega
  have hk3 : k0 ≤ 3 := by omega
  clear HC0 HB0 hC1 hb1 hk0e hk1 hs0
  go_wp2_with fail
  go_loopw [5, 6] (fun sv nv wr => ∃ (m : Nat) (S : ByteArray), nv = .int .i64 m ∧ m ≤ k0 ∧ sv = .string S ∧ S.size + 9 * m ≤ 6 + 9 * k0 ∧ Hid (Gd S.data.toList ∧ Pl S.data.toList) ∧ Hid (Cursor wr w.heap.size (.slice o n cap) n (10 + 10 * (k0 - m))) ∧ Hid (Below w.heap.size w wr)) (fun _ nv _ => (intOf nv).toNat)
  case atStart => exact ⟨k0, _, rfl, by omega, rfl, by show 6 + _ ≤ _; omega, ⟨bytes_gd, bytes_pl⟩, Cursor.mono HC1.out (by omega), HB1⟩
  case round =>
    obtain ⟨m, S, rfl, hm, rfl, hsz, HG, HC, HB⟩ := hrel
    clear HC1 HB1
    by_cases h0 : 0 < m
    · go_wp2_with fail
      refine (pick_at 30 _ rfl _ _ n _ _ HC.out (by omega) (by omega) (by omega)).mono ?_
      rintro e u1 ⟨a, rfl, ha, hC1, hb1⟩
      have HC1 : Hid _ := hC1
      have HB1 : Hid (Below w.heap.size w u1) := HB.out.trans (hb1.below (Nat.le_refl _) (Nat.le_of_lt HC.out.2.2.1))
      clear HC HB hC1 hb1
      have a100 : a < 100 := by omega
      have zN := (num_facts a100).1
      have k1 : ¬ 9223372036854775807 < (num a).size + 1 := by omega
      have k4 : ¬ 9223372036854775807 < 1 + (num a).size := by omega
      have k5 : ¬ 9223372036854775807 < 1 + (num a).size + 4 := by omega
      go_wp2_with fail
      refine (num_any 1 a _ (by omega) (by omega)).mono ?_
      rintro e u2 ⟨rfl, hb2⟩
      have HC2 : Hid _ := Cursor.below HC1.out hb2
      have HB2 : Hid (Below w.heap.size w u2) := HB1.out.trans (hb2.mono HB1.out.size)
      clear hb2 HC1 HB1
      go_wp2_with fail
      refine (pick_at 10 _ rfl _ _ n _ _ HC2.out (by omega) (by omega) (by omega)).mono ?_
      rintro e u3 ⟨k, rfl, hk, hC3, hb3⟩
      have HC3 : Hid _ := hC3
      have HB3 : Hid (Below w.heap.size w u3) := HB2.out.trans (hb3.below (Nat.le_refl _) (Nat.le_of_lt HC2.out.2.2.1))
      clear hC3 hb3 HC2 HB2
      obtain ⟨b, hbe⟩ : ∃ b : Nat, b = a + k := ⟨_, rfl⟩
      have hw1 : IntKind.i64.wrap ((a : Int) + (k : Int)) = (b : Int) := by rw [IntKind.wrap_i64]; omega
      have hw2 : (a : Int) + (k : Int) = (b : Int) := by omega
      have hb100 : b < 100 := by omega
      have zM := (num_facts hb100).1
      have k2 : ¬ 9223372036854775807 < (num a).size + 1 + (num b).size := by omega
      clear hbe
      go_wp2_with fail
      refine (num_any 1 b _ (by omega) (by omega)).mono ?_
      rintro e u4 ⟨rfl, hb4⟩
      have HC4 : Hid _ := Cursor.below HC3.out hb4
      have HB4 : Hid (Below w.heap.size w u4) := HB3.out.trans (hb4.mono HB3.out.size)
      clear hb4 HC3 HB3
      go_wp2_with fail
      refine (num_any 1 a _ (by omega) (by omega)).mono ?_
      rintro e u5 ⟨rfl, hb5⟩
      have HC5 : Hid _ := Cursor.below HC4.out hb5
      have HB5 : Hid (Below w.heap.size w u5) := HB4.out.trans (hb5.mono HB4.out.size)
      clear hb5 HC4 HB4
      go_wp2_with fail
      refine (num_any 1 a _ (by omega) (by omega)).mono ?_
      rintro e u6 ⟨rfl, hb6⟩
      have HC6 : Hid _ := Cursor.below HC5.out hb6
      have HB6 : Hid (Below w.heap.size w u6) := HB5.out.trans (hb6.mono HB5.out.size)
      clear hb6 HC5 HB5
      go_wp2_with fail
      refine (num_any 1 a _ (by omega) (by omega)).mono ?_
      rintro e u7 ⟨rfl, hb7⟩
      have HC7 : Hid _ := Cursor.below HC6.out hb7
      have HB7 : Hid (Below w.heap.size w u7) := HB6.out.trans (hb7.mono HB6.out.size)
      clear hb7 HC6 HB6
      obtain ⟨q1, q2, q3, q4, q5⟩ := px_all a100 hb100
      have HPx : Hid (∀ x ∈ [num a ++ ⟨#[45]⟩ ++ num b, num a ++ ⟨#[45]⟩, (⟨#[45]⟩ : ByteArray) ++ num a, (⟨#[32]⟩ : ByteArray) ++ num a ++ ⟨#[45, 57, 57, 32]⟩, ⟨#[]⟩], Px x) := by
        intro x hx
        simp only [List.mem_cons, List.not_mem_nil, or_false] at hx
        rcases hx with rfl | rfl | rfl | rfl | rfl
        · exact q1
        · exact q2
        · exact q3
        · exact q4
        · exact q5
      clear q1 q2 q3 q4 q5
      go_wp2_with fail
      refine (of_new2 Px [num a ++ ⟨#[45]⟩ ++ num b, num a ++ ⟨#[45]⟩, (⟨#[45]⟩ : ByteArray) ++ num a, (⟨#[32]⟩ : ByteArray) ++ num a ++ ⟨#[45, 57, 57, 32]⟩, ⟨#[]⟩] HPx.out 5 rfl (by omega) (by omega) _ _ n _ _ HC7.out (by omega)).mono ?_
      rintro e u8 ⟨x, rfl, hx, hC8, hb8⟩
      have HC8 : Hid _ := hC8
      have HB8 : Hid (Below w.heap.size w u8) := HB7.out.trans (hb8.below (Nat.le_refl _) (Nat.le_of_lt HC7.out.2.2.1))
      have HX : Hid (Px x) := hx
      have hx8 := hx.1
      clear HC7 HB7 hC8 hb8 hx HPx k1 k2 k4 k5 zN zM
      have k6 : ¬ 9223372036854775807 < x.size + 1 := by omega
      have k7 : ¬ 9223372036854775807 < S.size + (x.size + 1) := by omega
      go_wp2_with fail
      go_roundw
      case rel =>
        refine ⟨m - 1, _, by go_num, by omega, rfl, ?_, ?_, Cursor.mono HC8.out (by omega), HB8⟩
        · have z1 : (⟨#[44]⟩ : ByteArray).size = 1 := rfl
          rw [ByteArray.size_append, ByteArray.size_append, z1]; omega
        · show Gd _ ∧ Pl _
          have p44 : Pl [44] := fun c hc => by have : c = 44 := by simpa using hc
                                               rw [this]; decide
          rw [app_lists, app_lists, one_list]
          exact ⟨HG.out.1.app HX.out.2.1, HG.out.2.app (HX.out.2.2.app p44)⟩
      case measure => simp [intOf]; omega
    · have hS50 : S.size ≤ 50 := by omega
      have HC2 : Hid (Cursor wr w.heap.size (.slice o n cap) n 60) := Cursor.mono HC.out (by omega)
      clear HC
      go_wp2_with fail
      refine (one_at 6 _ rfl _ _ n _ _ HC2.out (by omega) (by omega) (by omega)).mono ?_
      rintro e u1 ⟨b, rfl, hC3, hb3⟩
      have HC3 : Hid _ := hC3
      have HB3 : Hid (Below w.heap.size w u1) := HB.out.trans (hb3.below (Nat.le_refl _) (Nat.le_of_lt HC2.out.2.2.1))
      clear HC2 HB hC3 hb3
      cases b
      · have HT : Hid (MS 9 S.data.toList ∧ Pl S.data.toList) := ⟨MS.mono HG.out.1.1 (by omega), HG.out.2⟩
        clear HG
        go_wp2_with fail
        refine (amongInts [0, 1, 10, 25, 1000000, 1000001] 6 rfl (by omega) (by omega) _ _ n _ _ HC3.out (by omega)).mono ?_
        rintro e u2 ⟨z, rfl, hC4, hb4⟩
        have hB4 : Below w.heap.size w u2 := HB3.out.trans (hb4.below (Nat.le_refl _) (Nat.le_of_lt HC3.out.2.2.1))
        clear HC3 HB3 hC4 hb4
        go_wp2_with fail
        go_ret2
        exact ⟨S, z, rfl, by omega, HT.out.1, HT.out.2, hB4⟩
      · go_wp2_with fail
        refine (spoilt_keeps Qs ⟨#[45, 44, 48, 98, 61]⟩ (qs_step _ with_pl) _ _ n _ _ S (show Qs 0 S from ⟨MS.mono HG.out.1.1 (by omega), HG.out.2⟩) HC3.out (by omega) (by omega) (by decide) (by decide)).mono ?_
        rintro e u2 ⟨T, k, rfl, hTz, ⟨hk2, hQ⟩, hC4, hb4⟩
        have HC4 : Hid _ := hC4
        have HB4 : Hid (Below w.heap.size w u2) := HB3.out.trans (hb4.below (Nat.le_refl _) (Nat.le_of_lt HC3.out.2.2.1))
        have HT : Hid (MS 9 T.data.toList ∧ Pl T.data.toList) := ⟨MS.mono hQ.1 (by omega), hQ.2⟩
        clear HG HC3 HB3 hC4 hb4 hQ
        go_wp2_with fail
        refine (amongInts [0, 1, 10, 25, 1000000, 1000001] 6 rfl (by omega) (by omega) _ _ n _ _ HC4.out (by omega)).mono ?_
        rintro e u3 ⟨z, rfl, hC5, hb5⟩
        have hB5 : Below w.heap.size w u3 := HB4.out.trans (hb5.below (Nat.le_refl _) (Nat.le_of_lt HC4.out.2.2.1))
        clear HC4 HB4 hC5 hb5
        go_wp2_with fail
        go_ret2
        exact ⟨T, z, rfl, by omega, HT.out.1, HT.out.2, hB5⟩

end Go.Proofs.YtelpmkbjegimpaaDoor.Cur
