/-
  Walk: impl.CoverOf.
-/
import Derived.Test.YtelpmkbjegimpaaSij
namespace Go.Proofs.Ytelpmkbjegimpaa.Spb
open Go.RowKit
open Go.Proofs.Ytelpmkbjegimpaa.Spp

theorem joinB_zero (l : List (Int × Int)) : joinB l 0 = goodL l := by unfold joinB; simp
theorem cover_is (l : List (Int × Int)) : coverN l = sumS (joinL l 0) := by
  unfold coverN joinL
  rw [joinB_zero]
  cases goodL l <;> rfl
theorem joinL_good (l : List (Int × Int)) : (∀ c ∈ joinL l 0, 0 ≤ c.1 ∧ c.1 < c.2 ∧ c.2 ≤ 1000000) ∧ (joinL l 0).length ≤ 12 := by
  cases h : goodL l
  · rw [join_no (by rw [joinB_zero]; exact h)]
    exact ⟨fun c hc => (by cases hc), by simp⟩
  · rw [join_yes (by rw [joinB_zero]; exact h)]
    obtain ⟨h1, h2⟩ := goodL_parts h
    exact ⟨join_good h2, Nat.le_trans (join_len l 0) h1⟩

set_option maxHeartbeats 1600000 in
theorem implCover_any (a : Option Addr) (ca : Nat) (l : List (Int × Int)) (w : World) (lo hi : Nat) (hl : l.length ≤ 2000000) (ha : PV w a l lo hi) :
    Calls Try.prog 12 #[.slice a l.length ca] w fun e w' => e = .returned (.tuple #[.int .i64 (coverN l), .bool (goodL l)]) ∧ Below w.heap.size w w' := by
  have HV : Hid (PV w a l lo hi) := ha
  have HJ : Hid _ := fun wx hx => implJoin_any a ca l 0 wx lo hi hl hx
  rw [joinB_zero] at HJ
  rw [cover_is]
  obtain ⟨hJg, hJl⟩ := joinL_good l
  have HJg : Hid _ := hJg
  clear ha hJg
  go_enter Try.func12, Try.ntmps12
  generalize joinL l 0 = J at *
  generalize goodL l = ok at *
  go_wp2_with (go_at_call 9; refine (HJ.out _ HV.out).mono ?_; rintro e w3 ⟨⟨r, rfl, hr⟩, hb3⟩; obtain ⟨aJ, cJ, rfl, hPV⟩ := pv_of hr)
  have HP : Hid (PV w3 aJ J w.heap.size w3.heap.size) := hPV
  have HB3 : Hid (Below w.heap.size w w3) := hb3
  clear hPV hr hb3 HJ HV
  go_loopw [6, 16] (fun n c wr => ∃ i : Nat, i ≤ J.length ∧ c = .int .i64 i ∧ n = .int .i64 (sumS (J.take i)) ∧ Hid (Below w3.heap.size w3 wr)) (fun _ c _ => J.length - (intOf c).toNat)
  case atStart => exact ⟨0, by omega, rfl, rfl, Below.refl _ _⟩
  case round =>
    obtain ⟨i, hi, rfl, rfl, HB⟩ := hrel
    by_cases hlt : i < J.length
    · obtain ⟨g, rfl, _, hc, hd⟩ := row_at (HP.out.below HB.out) hlt
      have HN : Hid (sumS (J.take (i + 1)) = sumS (J.take i) + (J[i].2 - J[i].1)) := sum_take J i hlt
      obtain ⟨b1, b2⟩ := sum_bd HJg.out i hi
      obtain ⟨n1, n2, n3⟩ := HJg.out J[i] (List.getElem_mem _)
      obtain ⟨F, hF⟩ : ∃ F : Int, F = J[i].1 := ⟨_, rfl⟩
      obtain ⟨T, hT⟩ : ∃ T : Int, T = J[i].2 := ⟨_, rfl⟩
      obtain ⟨m, hm⟩ : ∃ m : Int, m = sumS (J.take i) := ⟨_, rfl⟩
      rw [← hF] at hc n1 n2 HN
      rw [← hT] at hd n2 n3 HN
      rw [← hm] at b1 b2 HN
      rw [← hm]
      have Hb1 : Hid _ := HB.out.alloc HB.out.size (.cells #[.int .i64 F, .int .i64 T] 32)
      clear hF hT hm HB
      go_wp2_with fail
      refine ⟨⟨i + 1, by omega, by go_num, by rw [HN.out], Hb1.out⟩, ?_⟩
      simp [intOf]; omega
    · obtain rfl : i = J.length := by omega
      rw [List.take_length]
      go_wp2_with fail
      go_ret2
      exact ⟨rfl, HB3.out.trans (HB.out.mono HB3.out.size)⟩

end Go.Proofs.Ytelpmkbjegimpaa.Spb
