/-
  Walks: impl.UrlText and spec.UrlText tell the same.
-/
import Derived.Test.YtlgjgdpalflmfaaDoorGus
namespace Go.Proofs.YtlgjgdpalflmfaaDoor.Gud
open Go.RowKit
open Go.Proofs.YtlgjgdpalflmfaaDoor.Byt
open Go.Proofs.YtlgjgdpalflmfaaDoor.Hex
open Go.Proofs.YtlgjgdpalflmfaaDoor.Enc
open Go.Proofs.YtlgjgdpalflmfaaDoor.Own
open Go.Proofs.YtlgjgdpalflmfaaDoor.Chr
open Go.Proofs.YtlgjgdpalflmfaaDoor.Txt

theorem good_port {S H : ByteArray} {n : Int} {P Q : ByteArray} {asks : Bool} (h : goodB S H n P Q asks = true) : 0 ≤ n ∧ n ≤ 65535 := by
  unfold goodB at h
  simp only [Bool.and_eq_true, decide_eq_true_eq] at h
  exact h.1.1.1.1.1.2

/-- What UrlText tells. -/
def utS (S H : ByteArray) (n : Int) (P Q : ByteArray) (asks : Bool) : ByteArray := if goodB S H n P Q asks then urlB S H n.toNat P Q asks else ⟨#[]⟩

theorem ret_pair {a b : ByteArray} {x y : Bool} (h : a = b) (k : x = y) : Ending.returned (.tuple #[.string a, .bool x]) = .returned (.tuple #[.string b, .bool y]) := by rw [h, k]

set_option maxHeartbeats 800000 in
theorem implUt_any (S H P Q : ByteArray) (n : Int) (asks : Bool) (w : World) (hT : Tab w) (htab : Lib.TabIs Tryd.prog w "internal/strconv.uint64pow10" .u64 Lib.pow10Tab) (hS : S.size ≤ 2000000) (hH : H.size ≤ 2000000) (hP : P.size ≤ 2000000) (hQ : Q.size ≤ 2000000) :
    Calls Tryd.prog 15 #[.agg #[.string S, .string H, .int .i64 n, .string P, .string Q, .bool asks]] w fun e w' => e = .returned (.tuple #[.string (utS S H n P Q asks), .bool (goodB S H n P Q asks)]) ∧ Below w.heap.size w w' := by
  have hT0 := hT.alloc (.cells #[.string S, .string H, .int .i64 n, .string P, .string Q, .bool asks] 24)
  have ht0 := tab_alloc htab (.cells #[.string S, .string H, .int .i64 n, .string P, .string Q, .bool asks] 24)
  have hfin : Below w.heap.size w (w.alloc (.cells #[.string S, .string H, .int .i64 n, .string P, .string Q, .bool asks] 24)) := (Below.refl _ _).alloc (Nat.le_refl _) _
  have hpt := tab_lt ht0
  have hz : w.heap.size ≤ (w.alloc (.cells #[.string S, .string H, .int .i64 n, .string P, .string Q, .bool asks] 24)).heap.size := by simp
  cases hg : goodB S H n P Q asks
  · have HS : Hid (utS S H n P Q asks = ⟨#[]⟩) := by show _ = _; unfold utS; rw [hg]; rfl
    go_enter Tryd.func15, Tryd.ntmps15
    go_wp2_with fail
    refine (implGood_any S H P Q n asks _ hT0 ht0 hS hH hP hQ).mono ?_
    rintro e w1 ⟨rfl, hb1⟩
    rw [hg]
    go_wp2
    go_ret2
    exact ⟨ret_pair HS.out.symm rfl, hfin.trans (hb1.mono hz)⟩
  · obtain ⟨h0, h1⟩ := good_port hg
    obtain ⟨m, rfl⟩ := Int.eq_ofNat_of_zero_le h0
    have HS : Hid (utS S H m P Q asks = urlB S H m P Q asks) := by show _ = _; unfold utS; rw [hg]; rfl
    go_enter Tryd.func15, Tryd.ntmps15
    go_wp2_with fail
    refine (implGood_any S H P Q m asks _ hT0 ht0 hS hH hP hQ).mono ?_
    rintro e w1 ⟨rfl, hb1⟩
    rw [hg]
    obtain ⟨hc1, _⟩ := bcell hb1
    go_wp2_with fail
    refine (implText_any S H P Q m asks _ hS hH hP hQ (by omega) (tab_below ht0 hb1 hpt)).mono ?_
    rintro e w2 ⟨rfl, hb2⟩
    go_wp2
    go_ret2
    exact ⟨ret_pair HS.out.symm rfl, hfin.trans ((hb1.trans (hb2.mono hb1.size)).mono hz)⟩

set_option maxHeartbeats 800000 in
theorem specUt_any (S H P Q : ByteArray) (n : Int) (asks : Bool) (w : World) (hS : S.size ≤ 2000000) (hH : H.size ≤ 2000000) (hP : P.size ≤ 2000000) (hQ : Q.size ≤ 2000000) :
    Calls Tryd.prog 16 #[.agg #[.string S, .string H, .int .i64 n, .string P, .string Q, .bool asks]] w fun e w' => e = .returned (.tuple #[.string (utS S H n P Q asks), .bool (goodB S H n P Q asks)]) ∧ Below w.heap.size w w' := by
  have hfin : Below w.heap.size w (w.alloc (.cells #[.string S, .string H, .int .i64 n, .string P, .string Q, .bool asks] 24)) := (Below.refl _ _).alloc (Nat.le_refl _) _
  have hz : w.heap.size ≤ (w.alloc (.cells #[.string S, .string H, .int .i64 n, .string P, .string Q, .bool asks] 24)).heap.size := by simp
  cases hg : goodB S H n P Q asks
  · have HS : Hid (utS S H n P Q asks = ⟨#[]⟩) := by show _ = _; unfold utS; rw [hg]; rfl
    go_enter Tryd.func16, Tryd.ntmps16
    go_wp2_with fail
    refine (specGood_any S H P Q n asks _ hS hH hP hQ).mono ?_
    rintro e w1 ⟨rfl, hb1⟩
    rw [hg]
    go_wp2
    go_ret2
    exact ⟨ret_pair HS.out.symm rfl, hfin.trans (hb1.mono hz)⟩
  · obtain ⟨h0, h1⟩ := good_port hg
    obtain ⟨m, rfl⟩ := Int.eq_ofNat_of_zero_le h0
    have HS : Hid (utS S H m P Q asks = urlB S H m P Q asks) := by show _ = _; unfold utS; rw [hg]; rfl
    go_enter Tryd.func16, Tryd.ntmps16
    go_wp2_with fail
    refine (specGood_any S H P Q m asks _ hS hH hP hQ).mono ?_
    rintro e w1 ⟨rfl, hb1⟩
    rw [hg]
    obtain ⟨hc1, _⟩ := bcell hb1
    go_wp2_with fail
    refine (specText_any S H P Q m asks _ hS hH hP hQ (by omega)).mono ?_
    rintro e w2 ⟨rfl, hb2⟩
    go_wp2
    go_ret2
    exact ⟨ret_pair HS.out.symm rfl, hfin.trans ((hb1.trans (hb2.mono hb1.size)).mono hz)⟩

end Go.Proofs.YtlgjgdpalflmfaaDoor.Gud
