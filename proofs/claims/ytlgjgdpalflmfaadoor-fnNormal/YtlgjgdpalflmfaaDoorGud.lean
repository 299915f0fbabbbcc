/-
  Walks: impl.GoodUrl and spec.GoodUrl tell the same.
-/
import Derived.Test.YtlgjgdpalflmfaaDoorUtx
namespace Go.Proofs.YtlgjgdpalflmfaaDoor.Gud
open Go.RowKit
open Go.Proofs.YtlgjgdpalflmfaaDoor.Byt
open Go.Proofs.YtlgjgdpalflmfaaDoor.Hex
open Go.Proofs.YtlgjgdpalflmfaaDoor.Enc
open Go.Proofs.YtlgjgdpalflmfaaDoor.Own
open Go.Proofs.YtlgjgdpalflmfaaDoor.Chr
open Go.Proofs.YtlgjgdpalflmfaaDoor.Txt

def schB (S : ByteArray) : Bool := S.toList == [104, 116, 116, 112] || S.toList == [104, 116, 116, 112, 115]

/-- Whether an address is good. -/
def goodB (S H : ByteArray) (n : Int) (P Q : ByteArray) (asks : Bool) : Bool :=
  schB S && hostOk H.data.toList && decide (0 ≤ n ∧ n ≤ 65535) && Lib.hasPrefix P.data.toList [47] && charsB P.data.toList [47] && charsB Q.data.toList [47, 63] && (asks || Q.toList.isEmpty) && decide (((urlB S H n.toNat P Q asks).size : Int) ≤ 200)

theorem sch_cases {S : ByteArray} (h : schB S = true) : (S.toList == [104, 116, 116, 112]) = true ∨ ((S.toList == [104, 116, 116, 112]) = false ∧ (S.toList == [104, 116, 116, 112, 115]) = true) := by
  unfold schB at h
  cases h1 : S.toList == [104, 116, 116, 112]
  · right; rw [h1] at h; exact ⟨rfl, by simpa using h⟩
  · left; rfl
theorem sch_no {S : ByteArray} (h : schB S = false) : (S.toList == [104, 116, 116, 112]) = false ∧ (S.toList == [104, 116, 116, 112, 115]) = false := by
  unfold schB at h
  simpa only [Bool.or_eq_false_iff] using h

theorem prefix_cases (P : ByteArray) : (Lib.hasPrefix P.data.toList [47] = true ∧ ∃ h : 0 < P.size, (P[0].toNat : Int) = 47) ∨ (Lib.hasPrefix P.data.toList [47] = false ∧ (P.size = 0 ∨ ∃ h : 0 < P.size, (P[0].toNat : Int) ≠ 47)) := by
  by_cases h : 0 < P.size
  · have e := at_list P 0 h
    have hl : 0 < P.data.toList.length := by simpa using h
    rw [List.getElem?_eq_getElem hl] at e
    simp only [Option.getD_some] at e
    cases hp : P.data.toList with
    | nil => rw [hp] at hl; simp at hl
    | cons c r =>
      have hc : P[0] = c := by rw [← e]; simp [hp]
      by_cases h47 : c = 47
      · left
        refine ⟨?_, h, ?_⟩
        · subst h47; rfl
        · rw [hc, h47]; rfl
      · right
        refine ⟨?_, Or.inr ⟨h, ?_⟩⟩
        · simp [Lib.hasPrefix, List.isPrefixOf]; intro e'; exact h47 e'.symm
        · rw [hc]; intro e'; exact h47 (UInt8.toNat_inj.1 (show c.toNat = (47 : UInt8).toNat from by have : (47 : UInt8).toNat = 47 := rfl; omega))
  · right
    have h0 : P.size = 0 := by omega
    have hl : P.data.toList = [] := List.eq_nil_of_length_eq_zero (by simpa using h0)
    exact ⟨by rw [hl]; rfl, Or.inl h0⟩

set_option maxHeartbeats 1600000 in
theorem implGood_any (S H P Q : ByteArray) (n : Int) (asks : Bool) (w : World) (hT : Tab w) (htab : Lib.TabIs Tryd.prog w "internal/strconv.uint64pow10" .u64 Lib.pow10Tab) (hS : S.size ≤ 2000000) (hH : H.size ≤ 2000000) (hP : P.size ≤ 2000000) (hQ : Q.size ≤ 2000000) :
    Calls Tryd.prog 17 #[.agg #[.string S, .string H, .int .i64 n, .string P, .string Q, .bool asks]] w fun e w' => e = .returned (.bool (goodB S H n P Q asks)) ∧ Below w.heap.size w w' := by
  have hz : ∀ k, k < w.heap.size → k < (w.alloc (.cells #[.string S, .string H, .int .i64 n, .string P, .string Q, .bool asks] 24)).heap.size := by intro k hk; simp; omega
  clear hz
  cases hs : schB S
  · have HR : Hid (goodB S H n P Q asks = false) := by show _ = _; unfold goodB; rw [hs]; rfl
    obtain ⟨h1, h2⟩ := sch_no hs
    clear hs
    go_enter Tryd.func17, Tryd.ntmps17
    go_wp2_with (first
      | (go_at_call 42; refine (implHost_any _ _ (hT.alloc _)).mono ?_; rintro e w' ⟨rfl, rfl⟩)
      | (go_at_call 43; refine (Tryd.strings_HasPrefix _ _ _).mono ?_; rintro e w' ⟨rfl, rfl⟩)
      | (go_at_call 44; refine (implChars_any _ _ _ (hT.alloc _) (by first | exact hP | exact hQ) (by decide)).mono ?_; rintro e w' ⟨rfl, rfl⟩)
      | (go_at_call 40; refine (implText_any S H P Q m _ _ hS hH hP hQ (by omega) (tab_alloc htab _)).mono ?_; rintro e w1 ⟨rfl, hb1⟩))
    go_ret
    exact ⟨ret_bool HR.out.symm, (Below.refl _ _).alloc (Nat.le_refl _) _⟩
  cases hh : hostOk H.data.toList
  · have HR : Hid (goodB S H n P Q asks = false) := by show _ = _; unfold goodB; rw [hs, hh]; rfl
    rcases sch_cases hs with h1 | ⟨h1, h2⟩
    all_goals
      clear hs
      go_enter Tryd.func17, Tryd.ntmps17
      go_wp2_with (first
        | (go_at_call 42; refine (implHost_any _ _ (hT.alloc _)).mono ?_; rintro e w' ⟨rfl, rfl⟩)
        | (go_at_call 43; refine (Tryd.strings_HasPrefix _ _ _).mono ?_; rintro e w' ⟨rfl, rfl⟩)
        | (go_at_call 44; refine (implChars_any _ _ _ (hT.alloc _) (by first | exact hP | exact hQ) (by decide)).mono ?_; rintro e w' ⟨rfl, rfl⟩)
        | (go_at_call 40; refine (implText_any S H P Q m _ _ hS hH hP hQ (by omega) (tab_alloc htab _)).mono ?_; rintro e w1 ⟨rfl, hb1⟩))
      go_ret
      exact ⟨ret_bool HR.out.symm, (Below.refl _ _).alloc (Nat.le_refl _) _⟩
  by_cases hn : 0 ≤ n ∧ n ≤ 65535
  case neg =>
    have HR : Hid (goodB S H n P Q asks = false) := by show _ = _; unfold goodB; rw [hs, hh, decide_eq_false hn]; rfl
    rcases (show n < 0 ∨ 65535 < n from by omega) with hn1 | hn1
    all_goals
      rcases sch_cases hs with h1 | ⟨h1, h2⟩
      all_goals
        clear hs hn
        go_enter Tryd.func17, Tryd.ntmps17
        go_wp2_with (first
          | (go_at_call 42; refine (implHost_any _ _ (hT.alloc _)).mono ?_; rintro e w' ⟨rfl, rfl⟩)
          | (go_at_call 43; refine (Tryd.strings_HasPrefix _ _ _).mono ?_; rintro e w' ⟨rfl, rfl⟩)
          | (go_at_call 44; refine (implChars_any _ _ _ (hT.alloc _) (by first | exact hP | exact hQ) (by decide)).mono ?_; rintro e w' ⟨rfl, rfl⟩)
          | (go_at_call 40; refine (implText_any S H P Q m _ _ hS hH hP hQ (by omega) (tab_alloc htab _)).mono ?_; rintro e w1 ⟨rfl, hb1⟩))
        go_ret
        exact ⟨ret_bool HR.out.symm, (Below.refl _ _).alloc (Nat.le_refl _) _⟩
  obtain ⟨m, rfl⟩ := Int.eq_ofNat_of_zero_le hn.1
  obtain ⟨hn1, hn2⟩ := hn
  rcases prefix_cases P with ⟨hp, hp1, hp2⟩ | ⟨hp, hp1⟩
  case inr =>
    have HR : Hid (goodB S H m P Q asks = false) := by show _ = _; unfold goodB; rw [hs, hh, decide_eq_true ⟨hn1, hn2⟩, hp]; rfl
    rcases hp1 with hp1 | ⟨hp1, hp2⟩
    · rcases sch_cases hs with h1 | ⟨h1, h2⟩
      all_goals
        clear hs
        go_enter Tryd.func17, Tryd.ntmps17
        go_wp2_with (first
          | (go_at_call 42; refine (implHost_any _ _ (hT.alloc _)).mono ?_; rintro e w' ⟨rfl, rfl⟩)
          | (go_at_call 43; refine (Tryd.strings_HasPrefix _ _ _).mono ?_; rintro e w' ⟨rfl, rfl⟩)
          | (go_at_call 44; refine (implChars_any _ _ _ (hT.alloc _) (by first | exact hP | exact hQ) (by decide)).mono ?_; rintro e w' ⟨rfl, rfl⟩)
          | (go_at_call 40; refine (implText_any S H P Q m _ _ hS hH hP hQ (by omega) (tab_alloc htab _)).mono ?_; rintro e w1 ⟨rfl, hb1⟩))
        go_ret
        exact ⟨ret_bool HR.out.symm, (Below.refl _ _).alloc (Nat.le_refl _) _⟩
    · have hp3 : ((P[0].toNat : Int) != 47) = true := by simpa using hp2
      rcases sch_cases hs with h1 | ⟨h1, h2⟩
      all_goals
        clear hs hp2
        go_enter Tryd.func17, Tryd.ntmps17
        go_wp2_with (first
          | (go_at_call 42; refine (implHost_any _ _ (hT.alloc _)).mono ?_; rintro e w' ⟨rfl, rfl⟩)
          | (go_at_call 43; refine (Tryd.strings_HasPrefix _ _ _).mono ?_; rintro e w' ⟨rfl, rfl⟩)
          | (go_at_call 44; refine (implChars_any _ _ _ (hT.alloc _) (by first | exact hP | exact hQ) (by decide)).mono ?_; rintro e w' ⟨rfl, rfl⟩)
          | (go_at_call 40; refine (implText_any S H P Q m _ _ hS hH hP hQ (by omega) (tab_alloc htab _)).mono ?_; rintro e w1 ⟨rfl, hb1⟩))
        go_ret
        exact ⟨ret_bool HR.out.symm, (Below.refl _ _).alloc (Nat.le_refl _) _⟩
  cases hcp : charsB P.data.toList [47]
  · have HR : Hid (goodB S H m P Q asks = false) := by show _ = _; unfold goodB; rw [hs, hh, decide_eq_true ⟨hn1, hn2⟩, hp, hcp]; rfl
    rcases sch_cases hs with h1 | ⟨h1, h2⟩
    all_goals
      clear hs
      go_enter Tryd.func17, Tryd.ntmps17
      go_wp2_with (first
        | (go_at_call 42; refine (implHost_any _ _ (hT.alloc _)).mono ?_; rintro e w' ⟨rfl, rfl⟩)
        | (go_at_call 43; refine (Tryd.strings_HasPrefix _ _ _).mono ?_; rintro e w' ⟨rfl, rfl⟩)
        | (go_at_call 44; refine (implChars_any _ _ _ (hT.alloc _) (by first | exact hP | exact hQ) (by decide)).mono ?_; rintro e w' ⟨rfl, rfl⟩)
        | (go_at_call 40; refine (implText_any S H P Q m _ _ hS hH hP hQ (by omega) (tab_alloc htab _)).mono ?_; rintro e w1 ⟨rfl, hb1⟩))
      go_ret
      exact ⟨ret_bool HR.out.symm, (Below.refl _ _).alloc (Nat.le_refl _) _⟩
  cases hcq : charsB Q.data.toList [47, 63]
  · have HR : Hid (goodB S H m P Q asks = false) := by show _ = _; unfold goodB; rw [hs, hh, decide_eq_true ⟨hn1, hn2⟩, hp, hcp, hcq]; rfl
    rcases sch_cases hs with h1 | ⟨h1, h2⟩
    all_goals
      clear hs
      go_enter Tryd.func17, Tryd.ntmps17
      go_wp2_with (first
        | (go_at_call 42; refine (implHost_any _ _ (hT.alloc _)).mono ?_; rintro e w' ⟨rfl, rfl⟩)
        | (go_at_call 43; refine (Tryd.strings_HasPrefix _ _ _).mono ?_; rintro e w' ⟨rfl, rfl⟩)
        | (go_at_call 44; refine (implChars_any _ _ _ (hT.alloc _) (by first | exact hP | exact hQ) (by decide)).mono ?_; rintro e w' ⟨rfl, rfl⟩)
        | (go_at_call 40; refine (implText_any S H P Q m _ _ hS hH hP hQ (by omega) (tab_alloc htab _)).mono ?_; rintro e w1 ⟨rfl, hb1⟩))
      go_ret
      exact ⟨ret_bool HR.out.symm, (Below.refl _ _).alloc (Nat.le_refl _) _⟩
  have HT : Hid (goodB S H m P Q asks = ((asks || Q.toList.isEmpty) && decide (((urlB S H m P Q asks).size : Int) ≤ 200))) := by
    show _ = _; unfold goodB; rw [hs, hh, decide_eq_true ⟨hn1, hn2⟩, hp, hcp, hcq]; rfl
  cases hq : Q.toList.isEmpty
  · cases asks
    · have HR : Hid (goodB S H m P Q false = false) := by show _ = _; rw [HT.out, hq]; rfl
      rcases sch_cases hs with h1 | ⟨h1, h2⟩
      all_goals
        clear hs HT
        go_enter Tryd.func17, Tryd.ntmps17
        go_wp2_with (first
          | (go_at_call 42; refine (implHost_any _ _ (hT.alloc _)).mono ?_; rintro e w' ⟨rfl, rfl⟩)
          | (go_at_call 43; refine (Tryd.strings_HasPrefix _ _ _).mono ?_; rintro e w' ⟨rfl, rfl⟩)
          | (go_at_call 44; refine (implChars_any _ _ _ (hT.alloc _) (by first | exact hP | exact hQ) (by decide)).mono ?_; rintro e w' ⟨rfl, rfl⟩)
          | (go_at_call 40; refine (implText_any S H P Q m _ _ hS hH hP hQ (by omega) (tab_alloc htab _)).mono ?_; rintro e w1 ⟨rfl, hb1⟩))
        go_ret
        exact ⟨ret_bool HR.out.symm, (Below.refl _ _).alloc (Nat.le_refl _) _⟩
    · have HR : Hid (goodB S H m P Q true = decide (((urlB S H m P Q true).size : Int) ≤ 200)) := by show _ = _; rw [HT.out, hq]; rfl
      rcases sch_cases hs with h1 | ⟨h1, h2⟩
      all_goals
        clear hs HT
        go_enter Tryd.func17, Tryd.ntmps17
        go_wp2_with (first
          | (go_at_call 42; refine (implHost_any _ _ (hT.alloc _)).mono ?_; rintro e w' ⟨rfl, rfl⟩)
          | (go_at_call 43; refine (Tryd.strings_HasPrefix _ _ _).mono ?_; rintro e w' ⟨rfl, rfl⟩)
          | (go_at_call 44; refine (implChars_any _ _ _ (hT.alloc _) (by first | exact hP | exact hQ) (by decide)).mono ?_; rintro e w' ⟨rfl, rfl⟩)
          | (go_at_call 40; refine (implText_any S H P Q m _ _ hS hH hP hQ (by omega) (tab_alloc htab _)).mono ?_; rintro e w1 ⟨rfl, hb1⟩))
        go_ret
        exact ⟨ret_bool HR.out.symm, ((Below.refl _ _).alloc (Nat.le_refl _) _).trans (hb1.mono (by simp))⟩
  · cases asks
    · have HR : Hid (goodB S H m P Q false = decide (((urlB S H m P Q false).size : Int) ≤ 200)) := by show _ = _; rw [HT.out, hq]; rfl
      rcases sch_cases hs with h1 | ⟨h1, h2⟩
      all_goals
        clear hs HT
        go_enter Tryd.func17, Tryd.ntmps17
        go_wp2_with (first
          | (go_at_call 42; refine (implHost_any _ _ (hT.alloc _)).mono ?_; rintro e w' ⟨rfl, rfl⟩)
          | (go_at_call 43; refine (Tryd.strings_HasPrefix _ _ _).mono ?_; rintro e w' ⟨rfl, rfl⟩)
          | (go_at_call 44; refine (implChars_any _ _ _ (hT.alloc _) (by first | exact hP | exact hQ) (by decide)).mono ?_; rintro e w' ⟨rfl, rfl⟩)
          | (go_at_call 40; refine (implText_any S H P Q m _ _ hS hH hP hQ (by omega) (tab_alloc htab _)).mono ?_; rintro e w1 ⟨rfl, hb1⟩))
        go_ret
        exact ⟨ret_bool HR.out.symm, ((Below.refl _ _).alloc (Nat.le_refl _) _).trans (hb1.mono (by simp))⟩
    · have HR : Hid (goodB S H m P Q true = decide (((urlB S H m P Q true).size : Int) ≤ 200)) := by show _ = _; rw [HT.out, hq]; rfl
      rcases sch_cases hs with h1 | ⟨h1, h2⟩
      all_goals
        clear hs HT
        go_enter Tryd.func17, Tryd.ntmps17
        go_wp2_with (first
          | (go_at_call 42; refine (implHost_any _ _ (hT.alloc _)).mono ?_; rintro e w' ⟨rfl, rfl⟩)
          | (go_at_call 43; refine (Tryd.strings_HasPrefix _ _ _).mono ?_; rintro e w' ⟨rfl, rfl⟩)
          | (go_at_call 44; refine (implChars_any _ _ _ (hT.alloc _) (by first | exact hP | exact hQ) (by decide)).mono ?_; rintro e w' ⟨rfl, rfl⟩)
          | (go_at_call 40; refine (implText_any S H P Q m _ _ hS hH hP hQ (by omega) (tab_alloc htab _)).mono ?_; rintro e w1 ⟨rfl, hb1⟩))
        go_ret
        exact ⟨ret_bool HR.out.symm, ((Below.refl _ _).alloc (Nat.le_refl _) _).trans (hb1.mono (by simp))⟩

end Go.Proofs.YtlgjgdpalflmfaaDoor.Gud
