/-
  Walk: spec.GoodUrl tells the same as impl.GoodUrl.
-/
import Derived.Test.YtlgjgdpalflmfaaDoorGud
namespace Go.Proofs.YtlgjgdpalflmfaaDoor.Gud
open Go.RowKit
open Go.Proofs.YtlgjgdpalflmfaaDoor.Byt
open Go.Proofs.YtlgjgdpalflmfaaDoor.Hex
open Go.Proofs.YtlgjgdpalflmfaaDoor.Enc
open Go.Proofs.YtlgjgdpalflmfaaDoor.Own
open Go.Proofs.YtlgjgdpalflmfaaDoor.Chr
open Go.Proofs.YtlgjgdpalflmfaaDoor.Txt

set_option maxHeartbeats 1600000 in
theorem specGood_any (S H P Q : ByteArray) (n : Int) (asks : Bool) (w : World) (hS : S.size ≤ 2000000) (hH : H.size ≤ 2000000) (hP : P.size ≤ 2000000) (hQ : Q.size ≤ 2000000) :
    Calls Tryd.prog 31 #[.agg #[.string S, .string H, .int .i64 n, .string P, .string Q, .bool asks]] w fun e w' => e = .returned (.bool (goodB S H n P Q asks)) ∧ Below w.heap.size w w' := by
  have hz : ∀ k, k < w.heap.size → k < (w.alloc (.cells #[.string S, .string H, .int .i64 n, .string P, .string Q, .bool asks] 24)).heap.size := by intro k hk; simp; omega
  clear hz
  cases hs : schB S
  · have HR : Hid (goodB S H n P Q asks = false) := by show _ = _; unfold goodB; rw [hs]; rfl
    obtain ⟨h1, h2⟩ := sch_no hs
    clear hs
    go_enter Tryd.func31, Tryd.ntmps31
    go_wp2_with (first
      | (go_at_call 63; refine (specHost_any _ _ hH).mono ?_; rintro e w' ⟨rfl, rfl⟩)
      | (go_at_call 64; go_in)
      | (go_at_call 65; refine (specChars_any _ _ _ (by first | exact hP | exact hQ) (by decide) (by decide)).mono ?_; rintro e w' ⟨rfl, rfl⟩)
      | (go_at_call 41; refine (specText_any S H P Q m _ _ hS hH hP hQ (by omega)).mono ?_; rintro e w1 ⟨rfl, hb1⟩))
    go_ret
    exact ⟨ret_bool HR.out.symm, (Below.refl _ _).alloc (Nat.le_refl _) _⟩
  cases hh : hostOk H.data.toList
  · have HR : Hid (goodB S H n P Q asks = false) := by show _ = _; unfold goodB; rw [hs, hh]; rfl
    rcases sch_cases hs with h1 | ⟨h1, h2⟩
    all_goals
      clear hs
      go_enter Tryd.func31, Tryd.ntmps31
      go_wp2_with (first
        | (go_at_call 63; refine (specHost_any _ _ hH).mono ?_; rintro e w' ⟨rfl, rfl⟩)
        | (go_at_call 64; go_in)
        | (go_at_call 65; refine (specChars_any _ _ _ (by first | exact hP | exact hQ) (by decide) (by decide)).mono ?_; rintro e w' ⟨rfl, rfl⟩)
        | (go_at_call 41; refine (specText_any S H P Q m _ _ hS hH hP hQ (by omega)).mono ?_; rintro e w1 ⟨rfl, hb1⟩))
      go_ret
      exact ⟨ret_bool HR.out.symm, (Below.refl _ _).alloc (Nat.le_refl _) _⟩
  by_cases hn : 0 ≤ n ∧ n ≤ 65535
  case neg =>
    have HR : Hid (goodB S H n P Q asks = false) := by show _ = _; unfold goodB; rw [hs, hh, decide_eq_false hn]; rfl
    rcases (show n < 0 ∨ 65535 < n from by omega) with hn1 | hn1
    all_goals
      rcases sch_cases hs with h1 | ⟨h1, h2⟩
      all_goals
        clear hs hn
        go_enter Tryd.func31, Tryd.ntmps31
        go_wp2_with (first
          | (go_at_call 63; refine (specHost_any _ _ hH).mono ?_; rintro e w' ⟨rfl, rfl⟩)
          | (go_at_call 64; go_in)
          | (go_at_call 65; refine (specChars_any _ _ _ (by first | exact hP | exact hQ) (by decide) (by decide)).mono ?_; rintro e w' ⟨rfl, rfl⟩)
          | (go_at_call 41; refine (specText_any S H P Q m _ _ hS hH hP hQ (by omega)).mono ?_; rintro e w1 ⟨rfl, hb1⟩))
        go_ret
        exact ⟨ret_bool HR.out.symm, (Below.refl _ _).alloc (Nat.le_refl _) _⟩
  obtain ⟨m, rfl⟩ := Int.eq_ofNat_of_zero_le hn.1
  obtain ⟨hn1, hn2⟩ := hn
  rcases prefix_cases P with ⟨hp, hp1, hp2⟩ | ⟨hp, hp1⟩
  case inr =>
    have HR : Hid (goodB S H m P Q asks = false) := by show _ = _; unfold goodB; rw [hs, hh, decide_eq_true ⟨hn1, hn2⟩, hp]; rfl
    rcases hp1 with hp1 | ⟨hp1, hp2⟩
    · have hp4 : ((P.size : Int) == 0) = true := beq_iff_eq.2 (by omega)
      rcases sch_cases hs with h1 | ⟨h1, h2⟩
      all_goals
        clear hs
        go_enter Tryd.func31, Tryd.ntmps31
        go_wp2_with (first
          | (go_at_call 63; refine (specHost_any _ _ hH).mono ?_; rintro e w' ⟨rfl, rfl⟩)
          | (go_at_call 64; go_in)
          | (go_at_call 65; refine (specChars_any _ _ _ (by first | exact hP | exact hQ) (by decide) (by decide)).mono ?_; rintro e w' ⟨rfl, rfl⟩)
          | (go_at_call 41; refine (specText_any S H P Q m _ _ hS hH hP hQ (by omega)).mono ?_; rintro e w1 ⟨rfl, hb1⟩))
        go_ret
        exact ⟨ret_bool HR.out.symm, (Below.refl _ _).alloc (Nat.le_refl _) _⟩
    · have hp3 : ((P[0].toNat : Int) != 47) = true := by simpa using hp2
      have hp4 : ((P.size : Int) == 0) = false := beq_eq_false_iff_ne.2 (by omega)
      rcases sch_cases hs with h1 | ⟨h1, h2⟩
      all_goals
        clear hs hp2
        go_enter Tryd.func31, Tryd.ntmps31
        go_wp2_with (first
          | (go_at_call 63; refine (specHost_any _ _ hH).mono ?_; rintro e w' ⟨rfl, rfl⟩)
          | (go_at_call 64; go_in)
          | (go_at_call 65; refine (specChars_any _ _ _ (by first | exact hP | exact hQ) (by decide) (by decide)).mono ?_; rintro e w' ⟨rfl, rfl⟩)
          | (go_at_call 41; refine (specText_any S H P Q m _ _ hS hH hP hQ (by omega)).mono ?_; rintro e w1 ⟨rfl, hb1⟩))
        go_ret
        exact ⟨ret_bool HR.out.symm, (Below.refl _ _).alloc (Nat.le_refl _) _⟩
  have hp4 : ((P.size : Int) == 0) = false := beq_eq_false_iff_ne.2 (by omega)
  have hp3 : ((P[0].toNat : Int) != 47) = false := by rw [bne, hp2]; rfl
  clear hp2
  cases hcp : charsB P.data.toList [47]
  · have HR : Hid (goodB S H m P Q asks = false) := by show _ = _; unfold goodB; rw [hs, hh, decide_eq_true ⟨hn1, hn2⟩, hp, hcp]; rfl
    rcases sch_cases hs with h1 | ⟨h1, h2⟩
    all_goals
      clear hs
      go_enter Tryd.func31, Tryd.ntmps31
      go_wp2_with (first
        | (go_at_call 63; refine (specHost_any _ _ hH).mono ?_; rintro e w' ⟨rfl, rfl⟩)
        | (go_at_call 64; go_in)
        | (go_at_call 65; refine (specChars_any _ _ _ (by first | exact hP | exact hQ) (by decide) (by decide)).mono ?_; rintro e w' ⟨rfl, rfl⟩)
        | (go_at_call 41; refine (specText_any S H P Q m _ _ hS hH hP hQ (by omega)).mono ?_; rintro e w1 ⟨rfl, hb1⟩))
      go_ret
      exact ⟨ret_bool HR.out.symm, (Below.refl _ _).alloc (Nat.le_refl _) _⟩
  cases hcq : charsB Q.data.toList [47, 63]
  · have HR : Hid (goodB S H m P Q asks = false) := by show _ = _; unfold goodB; rw [hs, hh, decide_eq_true ⟨hn1, hn2⟩, hp, hcp, hcq]; rfl
    rcases sch_cases hs with h1 | ⟨h1, h2⟩
    all_goals
      clear hs
      go_enter Tryd.func31, Tryd.ntmps31
      go_wp2_with (first
        | (go_at_call 63; refine (specHost_any _ _ hH).mono ?_; rintro e w' ⟨rfl, rfl⟩)
        | (go_at_call 64; go_in)
        | (go_at_call 65; refine (specChars_any _ _ _ (by first | exact hP | exact hQ) (by decide) (by decide)).mono ?_; rintro e w' ⟨rfl, rfl⟩)
        | (go_at_call 41; refine (specText_any S H P Q m _ _ hS hH hP hQ (by omega)).mono ?_; rintro e w1 ⟨rfl, hb1⟩))
      go_ret
      exact ⟨ret_bool HR.out.symm, (Below.refl _ _).alloc (Nat.le_refl _) _⟩
  have HT : Hid (goodB S H m P Q asks = ((asks || Q.toList.isEmpty) && decide (((urlB S H m P Q asks).size : Int) ≤ 200))) := by
    show _ = _; unfold goodB; rw [hs, hh, decide_eq_true ⟨hn1, hn2⟩, hp, hcp, hcq]; rfl
  cases hq : Q.toList.isEmpty
  · cases asks
    · have HR : Hid (goodB S H m P Q false = false) := by show _ = _; rw [HT.out, hq]; rfl
      rcases sch_cases hs with h1 | ⟨h1, h2⟩
      all_goals
        clear hs HT
        go_enter Tryd.func31, Tryd.ntmps31
        go_wp2_with (first
          | (go_at_call 63; refine (specHost_any _ _ hH).mono ?_; rintro e w' ⟨rfl, rfl⟩)
          | (go_at_call 64; go_in)
          | (go_at_call 65; refine (specChars_any _ _ _ (by first | exact hP | exact hQ) (by decide) (by decide)).mono ?_; rintro e w' ⟨rfl, rfl⟩)
          | (go_at_call 41; refine (specText_any S H P Q m _ _ hS hH hP hQ (by omega)).mono ?_; rintro e w1 ⟨rfl, hb1⟩))
        go_ret
        exact ⟨ret_bool HR.out.symm, (Below.refl _ _).alloc (Nat.le_refl _) _⟩
    · have HR : Hid (goodB S H m P Q true = decide (((urlB S H m P Q true).size : Int) ≤ 200)) := by show _ = _; rw [HT.out, hq]; rfl
      rcases sch_cases hs with h1 | ⟨h1, h2⟩
      all_goals
        clear hs HT
        go_enter Tryd.func31, Tryd.ntmps31
        go_wp2_with (first
          | (go_at_call 63; refine (specHost_any _ _ hH).mono ?_; rintro e w' ⟨rfl, rfl⟩)
          | (go_at_call 64; go_in)
          | (go_at_call 65; refine (specChars_any _ _ _ (by first | exact hP | exact hQ) (by decide) (by decide)).mono ?_; rintro e w' ⟨rfl, rfl⟩)
          | (go_at_call 41; refine (specText_any S H P Q m _ _ hS hH hP hQ (by omega)).mono ?_; rintro e w1 ⟨rfl, hb1⟩))
        go_ret
        exact ⟨ret_bool HR.out.symm, ((Below.refl _ _).alloc (Nat.le_refl _) _).trans (hb1.mono (by simp))⟩
  · cases asks
    · have HR : Hid (goodB S H m P Q false = decide (((urlB S H m P Q false).size : Int) ≤ 200)) := by show _ = _; rw [HT.out, hq]; rfl
      rcases sch_cases hs with h1 | ⟨h1, h2⟩
      all_goals
        clear hs HT
        go_enter Tryd.func31, Tryd.ntmps31
        go_wp2_with (first
          | (go_at_call 63; refine (specHost_any _ _ hH).mono ?_; rintro e w' ⟨rfl, rfl⟩)
          | (go_at_call 64; go_in)
          | (go_at_call 65; refine (specChars_any _ _ _ (by first | exact hP | exact hQ) (by decide) (by decide)).mono ?_; rintro e w' ⟨rfl, rfl⟩)
          | (go_at_call 41; refine (specText_any S H P Q m _ _ hS hH hP hQ (by omega)).mono ?_; rintro e w1 ⟨rfl, hb1⟩))
        go_ret
        exact ⟨ret_bool HR.out.symm, ((Below.refl _ _).alloc (Nat.le_refl _) _).trans (hb1.mono (by simp))⟩
    · have HR : Hid (goodB S H m P Q true = decide (((urlB S H m P Q true).size : Int) ≤ 200)) := by show _ = _; rw [HT.out, hq]; rfl
      rcases sch_cases hs with h1 | ⟨h1, h2⟩
      all_goals
        clear hs HT
        go_enter Tryd.func31, Tryd.ntmps31
        go_wp2_with (first
          | (go_at_call 63; refine (specHost_any _ _ hH).mono ?_; rintro e w' ⟨rfl, rfl⟩)
          | (go_at_call 64; go_in)
          | (go_at_call 65; refine (specChars_any _ _ _ (by first | exact hP | exact hQ) (by decide) (by decide)).mono ?_; rintro e w' ⟨rfl, rfl⟩)
          | (go_at_call 41; refine (specText_any S H P Q m _ _ hS hH hP hQ (by omega)).mono ?_; rintro e w1 ⟨rfl, hb1⟩))
        go_ret
        exact ⟨ret_bool HR.out.symm, ((Below.refl _ _).alloc (Nat.le_refl _) _).trans (hb1.mono (by simp))⟩

end Go.Proofs.YtlgjgdpalflmfaaDoor.Gud
