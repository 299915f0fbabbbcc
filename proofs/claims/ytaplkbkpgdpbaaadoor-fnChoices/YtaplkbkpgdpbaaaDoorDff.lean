/-
  Walks: draws: spec.DrawListOf.
-/
import Derived.Test.YtaplkbkpgdpbaaaDoorDfe
import Derived.Test.YtaplkbkpgdpbaaaDoorQuo
namespace Go.Proofs.YtaplkbkpgdpbaaaDoor.Cur
open Go.RowKit
open Go.Proofs.YtaplkbkpgdpbaaaDoor.Quo

theorem quo_len (l : List UInt8) : (l.flatMap qb).length ≤ 2 * l.length := by
  induction l with
  | nil => simp
  | cons c r ih =>
    have : (qb c).length ≤ 2 := by unfold qb; split <;> simp
    rw [List.flatMap_cons, List.length_append, List.length_cons]
    omega
theorem quoV_some (s : ByteArray) : ∃ (X : ByteArray) (b : Bool), quoV s = .tuple #[.string X, .bool b] ∧ X.size ≤ 2 * s.size + 2 := by
  unfold quoV
  split
  · refine ⟨quoB s, true, rfl, ?_⟩
    have := quo_len s.data.toList
    have hs : s.data.toList.length = s.size := by simp
    show (quoL s.data.toList ++ [34]).toArray.size ≤ _
    rw [List.size_toArray, List.length_append]
    unfold quoL
    simp only [List.length_cons, List.length_nil]
    omega
  · exact ⟨⟨#[]⟩, false, rfl, Nat.zero_le _⟩

set_option maxRecDepth 20000 in
set_option maxHeartbeats 1600000 in
theorem drawList_any (v : Value) (n : Nat) (w : World) (hA : CodeArg w v n) (hn : n ≤ 2000000) :
    Calls Tryd.prog 27 #[v] w fun e w' => ∃ s : ByteArray, e = .returned (.string s) ∧ s.size ≤ 100 ∧ Below w.heap.size w w' := by
  obtain ⟨o, cap, rfl⟩ := hA.form
  have HC0 : Hid _ := start hA hn 65
  have HB0 : Hid _ := (Below.refl w.heap.size w).alloc (Nat.le_refl _) (.cells #[.slice o n cap, .int .i64 0, .int .u64 0] 65)
  have hs0 : (w.alloc (.cells #[.slice o n cap, .int .i64 0, .int .u64 0] 65)).heap.size = w.heap.size + 1 := by simp
  clear hA
  go_enter Tryd.func27, Tryd.ntmps27
  go_wp2_with fail
  refine (pick_at 5 _ rfl _ _ n _ _ HC0.out (by omega) (by omega) (by omega)).mono ?_
  rintro e w1 ⟨x1, rfl, hx1, hC1, hb1⟩
  have HC1 : Hid _ := hC1
  have Hb1 : Hid (Below w.heap.size w w1) := HB0.out.trans (hb1.below (Nat.le_refl _) (by omega))
  have hs1 : w.heap.size + 1 ≤ w1.heap.size := by have := hb1.2.2.2.1; omega
  clear hC1 hb1 HC0 HB0
  go_wp2_with fail
  go_loopw [4, 5] (fun sv nv wr => ∃ (m : Nat) (T : ByteArray), sv = .string T ∧ nv = .int .i64 m ∧ m ≤ x1 ∧ T.size ≤ 19 * (x1 - m) ∧ Hid (Cursor wr w.heap.size (.slice o n cap) n (2 + 110 * (x1 - m))) ∧ Hid (Below w.heap.size w wr) ∧ w.heap.size + 1 ≤ wr.heap.size) (fun _ nv _ => (intOf nv).toNat)
  case atStart => exact ⟨x1, ⟨#[]⟩, rfl, rfl, by omega, Nat.zero_le _, Cursor.mono HC1.out (by omega), Hb1, hs1⟩
  case round =>
    obtain ⟨m, T, rfl, rfl, hm, hsz, HC, HB, hs⟩ := hrel
    clear HC1 Hb1
    by_cases h0 : 0 < m
    · go_wp2_with fail
      refine (printed_any _ _ n _ _ HC.out (by omega)).mono ?_
      rintro e w2 ⟨p, rfl, hp, hC2, hb2⟩
      have hs2 : w.heap.size + 1 ≤ w2.heap.size := Nat.le_trans hs hb2.2.2.2.1
      have HB2 : Hid (Below w.heap.size w w2) := HB.out.trans (hb2.below (Nat.le_refl _) (by omega))
      have HC2 : Hid _ := hC2
      obtain ⟨q, b, hq, hqs⟩ := quoV_some p
      have HQ0 := fun wx => specQuote_any p wx (by omega)
      rw [hq] at HQ0
      have HQ : Hid _ := HQ0
      clear HC HB hC2 hb2 hq HQ0
      go_wp2_with fail
      refine (HQ.out _).mono ?_
      rintro e w3 ⟨rfl, hb3⟩
      have hs3 : w.heap.size + 1 ≤ w3.heap.size := Nat.le_trans hs2 hb3.size
      have HB3 : Hid (Below w.heap.size w w3) := HB2.out.trans (hb3.mono (by omega))
      have HC3 : Hid _ := Cursor.below HC2.out hb3
      clear HC2 HB2 hb3 HQ
      go_wp2_with fail
      refine (of_new2 (fun x => x.size ≤ 18) [⟨#[97]⟩, ⟨#[32, 98, 32]⟩, ⟨#[]⟩, q, ⟨#[99, 32, 100]⟩] (by
        intro x hx
        simp only [List.mem_cons, List.not_mem_nil, or_false] at hx
        rcases hx with rfl | rfl | rfl | rfl | rfl
        · decide
        · decide
        · decide
        · show x.size ≤ 18; omega
        · decide) 5 rfl (by omega) (by omega) w.heap.size _ n _ _ HC3.out (by omega)).mono ?_
      rintro e w4 ⟨y, rfl, hy, hC4, hb4⟩
      have hs4 : w.heap.size + 1 ≤ w4.heap.size := Nat.le_trans hs3 hb4.2.2.2.1
      have HB4 : Hid (Below w.heap.size w w4) := HB3.out.trans (hb4.below (Nat.le_refl _) (by omega))
      have HC4 : Hid _ := hC4
      have z1 : (y ++ (⟨#[44]⟩ : ByteArray)).size ≤ 19 := by rw [ByteArray.size_append]; have : (⟨#[44]⟩ : ByteArray).size = 1 := rfl; omega
      clear HC3 HB3 hC4 hb4
      go_wp2_with fail
      go_roundw
      case rel => exact ⟨m - 1, _, rfl, by go_num, by omega, by rw [ByteArray.size_append]; omega, Cursor.mono HC4.out (by omega), HB4, hs4⟩
      case measure => simp [intOf]; omega
    · go_wp2_with fail
      refine (one_at 4 _ rfl _ _ n _ _ HC.out (by omega) (by omega) (by omega)).mono ?_
      rintro e w2 ⟨b, rfl, hC2, hb2⟩
      have hs2 : w.heap.size + 1 ≤ w2.heap.size := Nat.le_trans hs hb2.2.2.2.1
      have HC2 : Hid _ := hC2
      have HB2 : Hid (Below w.heap.size w w2) := HB.out.trans (hb2.below (Nat.le_refl _) (by omega))
      clear HC HB hC2 hb2
      cases b
      · go_wp2_with fail
        go_ret
        exact ⟨T, rfl, by omega, HB2.out⟩
      · go_wp2_with fail
        refine (spoilt_any _ _ n _ _ T ⟨#[34, 44, 92]⟩ HC2.out (by omega) (by omega) (by decide) (by decide)).mono ?_
        rintro e w3 ⟨T2, rfl, hT2, hC3, hb3⟩
        have HB3 : Below w.heap.size w w3 := HB2.out.trans (hb3.below (Nat.le_refl _) (by omega))
        clear HC2 HB2 hC3 hb3
        go_wp2_with fail
        go_ret
        exact ⟨T2, rfl, by omega, HB3⟩

end Go.Proofs.YtaplkbkpgdpbaaaDoor.Cur
