/-
  Walks: whether two addresses are the same: the ways that are not good, and impl.SameUrl.
-/
import Derived.Test.YtlgjgdpalflmfaaDoorSam
namespace Go.Proofs.YtlgjgdpalflmfaaDoor.Sam
open Go.RowKit
open Go.Proofs.YtlgjgdpalflmfaaDoor.Byt
open Go.Proofs.YtlgjgdpalflmfaaDoor.Hex
open Go.Proofs.YtlgjgdpalflmfaaDoor.Txt
open Go.Proofs.YtlgjgdpalflmfaaDoor.Gud
open Go.Proofs.YtlgjgdpalflmfaaDoor.Pln
open Go.Proofs.YtlgjgdpalflmfaaDoor.Low
open Go.Proofs.YtlgjgdpalflmfaaDoor.Nrm

set_option maxRecDepth 20000 in
set_option maxHeartbeats 1600000 in
theorem specSame_no1 (S H P Q S2 H2 P2 Q2 : ByteArray) (n n2 : Int) (a a2 : Bool) (w : World)
    (hS : S.size ≤ 2000000) (hH : H.size ≤ 2000000) (hP : P.size ≤ 2000000) (hQ : Q.size ≤ 2000000) (hg : goodB S H n P Q a = false) :
    Calls Tryd.prog 38 #[.agg #[.string S, .string H, .int .i64 n, .string P, .string Q, .bool a], .agg #[.string S2, .string H2, .int .i64 n2, .string P2, .string Q2, .bool a2]] w fun e w' => e = .returned (.tuple #[.bool false, .bool false]) ∧ Below w.heap.size w w' := by
  have G := fun w => specGood_any S H P Q n a w hS hH hP hQ
  rw [hg] at G
  have hB0 : Below w.heap.size w ((w.alloc (.cells #[.string S, .string H, .int .i64 n, .string P, .string Q, .bool a] 24)).alloc (.cells #[.string S2, .string H2, .int .i64 n2, .string P2, .string Q2, .bool a2] 24)) := ((Below.refl _ _).alloc (Nat.le_refl _) _).alloc (by simp) _
  go_enter Tryd.func38, Tryd.ntmps38
  go_wp2_with fail
  refine (G _).mono ?_
  rintro e w1 ⟨rfl, hb1⟩
  have hB1 : Below w.heap.size w w1 := hB0.trans (hb1.mono hB0.size)
  clear hb1 hB0
  go_wp2_with fail
  go_ret2
  exact ⟨rfl, hB1⟩

set_option maxRecDepth 20000 in
set_option maxHeartbeats 1600000 in
theorem specSame_no2 (S H P Q S2 H2 P2 Q2 : ByteArray) (n n2 : Int) (a a2 : Bool) (w : World)
    (hS : S.size ≤ 2000000) (hH : H.size ≤ 2000000) (hP : P.size ≤ 2000000) (hQ : Q.size ≤ 2000000) (hg : goodB S H n P Q a = true)
    (hS2 : S2.size ≤ 2000000) (hH2 : H2.size ≤ 2000000) (hP2 : P2.size ≤ 2000000) (hQ2 : Q2.size ≤ 2000000) (hg2 : goodB S2 H2 n2 P2 Q2 a2 = false) :
    Calls Tryd.prog 38 #[.agg #[.string S, .string H, .int .i64 n, .string P, .string Q, .bool a], .agg #[.string S2, .string H2, .int .i64 n2, .string P2, .string Q2, .bool a2]] w fun e w' => e = .returned (.tuple #[.bool false, .bool false]) ∧ Below w.heap.size w w' := by
  have G := fun w => specGood_any S H P Q n a w hS hH hP hQ
  rw [hg] at G
  have G2 := fun w => specGood_any S2 H2 P2 Q2 n2 a2 w hS2 hH2 hP2 hQ2
  rw [hg2] at G2
  have hs0 : (w.alloc (.cells #[.string S, .string H, .int .i64 n, .string P, .string Q, .bool a] 24)).heap.size = w.heap.size + 1 := by simp
  have hB0 : Below w.heap.size w ((w.alloc (.cells #[.string S, .string H, .int .i64 n, .string P, .string Q, .bool a] 24)).alloc (.cells #[.string S2, .string H2, .int .i64 n2, .string P2, .string Q2, .bool a2] 24)) := ((Below.refl _ _).alloc (Nat.le_refl _) _).alloc (by simp) _
  have HU0 : Hid _ := Blk.alloc (Blk.made w #[.string S, .string H, .int .i64 n, .string P, .string Q, .bool a] 24) (.cells #[.string S2, .string H2, .int .i64 n2, .string P2, .string Q2, .bool a2] 24)
  have V0 : Blk ((w.alloc (.cells #[.string S, .string H, .int .i64 n, .string P, .string Q, .bool a] 24)).alloc (.cells #[.string S2, .string H2, .int .i64 n2, .string P2, .string Q2, .bool a2] 24)) (w.heap.size + 1) #[.string S2, .string H2, .int .i64 n2, .string P2, .string Q2, .bool a2] := by rw [← hs0]; exact Blk.made _ _ _
  have HV0 : Hid _ := V0
  clear V0
  clear HU0
  go_enter Tryd.func38, Tryd.ntmps38
  go_wp2_with fail
  refine (G _).mono ?_
  rintro e w1 ⟨rfl, hb1⟩
  have hV1 := Blk.below HV0.out hb1
  have hB1 : Below w.heap.size w w1 := hB0.trans (hb1.mono hB0.size)
  obtain ⟨v1, v2, v3⟩ := hV1
  clear hb1 hB0 HV0 hs0
  go_wp2_with fail
  refine (G2 _).mono ?_
  rintro e w2 ⟨rfl, hb2⟩
  have hB2 : Below w.heap.size w w2 := hB1.trans (hb2.mono hB1.size)
  clear hb2 hB1 v1 v2 v3
  go_wp2_with fail
  go_ret2
  exact ⟨rfl, hB2⟩

set_option maxRecDepth 20000 in
set_option maxHeartbeats 3200000 in
theorem implSame_nn (S H P Q S2 H2 P2 Q2 : ByteArray) (n n2 : Int) (a a2 : Bool) (w : World) (m : Int) (hT : Tab w) (htab : Lib.TabIs Tryd.prog w "internal/strconv.uint64pow10" .u64 Lib.pow10Tab) (hm : w.cell? ⟨1, 0, none⟩ = some (.int .i64 m))
    (hS : S.size ≤ 2000000) (hH : H.size ≤ 2000000) (hP : P.size ≤ 2000000) (hQ : Q.size ≤ 2000000) (hg : goodB S H n P Q a = false)
    (hS2 : S2.size ≤ 2000000) (hH2 : H2.size ≤ 2000000) (hP2 : P2.size ≤ 2000000) (hQ2 : Q2.size ≤ 2000000) (hg2 : goodB S2 H2 n2 P2 Q2 a2 = false) :
    Calls Tryd.prog 26 #[.agg #[.string S, .string H, .int .i64 n, .string P, .string Q, .bool a], .agg #[.string S2, .string H2, .int .i64 n2, .string P2, .string Q2, .bool a2]] w fun e w' => e = .returned (.tuple #[.bool false, .bool false]) ∧ Below w.heap.size w w' := by
  have CA := fun w t p (_ : w.cell? ⟨1, 0, none⟩ = some (.int .i64 m)) => implNorm_no S H P Q n a w t p hS hH hP hQ hg
  have CB := fun w t p (_ : w.cell? ⟨1, 0, none⟩ = some (.int .i64 m)) => implNorm_no S2 H2 P2 Q2 n2 a2 w t p hS2 hH2 hP2 hQ2 hg2
  have HA : Hid _ := CA
  have HB : Hid _ := CB
  clear CA CB
  have hgt := hT.lt
  have hpt := tab_lt htab
  have hmt := World.block_lt_of_cell? _ _ hm
  have hs0 : (w.alloc (.cells #[.string S, .string H, .int .i64 n, .string P, .string Q, .bool a] 24)).heap.size = w.heap.size + 1 := by simp
  have hB0 : Below w.heap.size w ((w.alloc (.cells #[.string S, .string H, .int .i64 n, .string P, .string Q, .bool a] 24)).alloc (.cells #[.string S2, .string H2, .int .i64 n2, .string P2, .string Q2, .bool a2] 24)) := ((Below.refl _ _).alloc (Nat.le_refl _) _).alloc (by simp) _
  have HU0 : Hid _ := Blk.alloc (Blk.made w #[.string S, .string H, .int .i64 n, .string P, .string Q, .bool a] 24) (.cells #[.string S2, .string H2, .int .i64 n2, .string P2, .string Q2, .bool a2] 24)
  have V0 : Blk ((w.alloc (.cells #[.string S, .string H, .int .i64 n, .string P, .string Q, .bool a] 24)).alloc (.cells #[.string S2, .string H2, .int .i64 n2, .string P2, .string Q2, .bool a2] 24)) (w.heap.size + 1) #[.string S2, .string H2, .int .i64 n2, .string P2, .string Q2, .bool a2] := by rw [← hs0]; exact Blk.made _ _ _
  have HV0 : Hid _ := V0
  clear V0
  clear HU0
  go_enter Tryd.func26, Tryd.ntmps26
  go_wp2_with fail
  refine (HA.out _ (hT.below hB0 hgt) (tab_below htab hB0 hpt) ((hB0.cell (p := ⟨1, 0, none⟩) hmt).trans hm)).mono ?_
  rintro e w1 ⟨rfl, hb1⟩
  have hV1 := Blk.below HV0.out hb1
  have hB1 : Below w.heap.size w w1 := hB0.trans (hb1.mono hB0.size)
  have hB1a := hB1.alloc hB1.size (.cells #[.string ⟨#[]⟩, .string ⟨#[]⟩, .int .i64 0, .string ⟨#[]⟩, .string ⟨#[]⟩, .bool false] 24)
  have HN1 : Hid _ := Blk.made w1 #[.string ⟨#[]⟩, .string ⟨#[]⟩, .int .i64 0, .string ⟨#[]⟩, .string ⟨#[]⟩, .bool false] 24
  obtain ⟨v1, v2, v3⟩ := hV1
  clear hb1 hB0 HV0 hs0 hB1
  go_wp2_with fail
  refine (HB.out _ (hT.below hB1a hgt) (tab_below htab hB1a hpt) ((hB1a.cell (p := ⟨1, 0, none⟩) hmt).trans hm)).mono ?_
  rintro e w2 ⟨rfl, hb2⟩
  have hN2 := Blk.below HN1.out hb2
  have hB2 : Below w.heap.size w w2 := hB1a.trans (hb2.mono hB1a.size)
  obtain ⟨x1, x2, x3⟩ := hN2
  clear hb2 hB1a v1 v2 v3 HN1
  go_wp2_with fail
  go_ret2
  exact ⟨rfl, hB2.alloc hB2.size _⟩

set_option maxRecDepth 20000 in
set_option maxHeartbeats 3200000 in
theorem implSame_ny (S H P Q S2 H2 P2 Q2 : ByteArray) (n n2 : Int) (a a2 : Bool) (w : World) (m : Int) (hT : Tab w) (htab : Lib.TabIs Tryd.prog w "internal/strconv.uint64pow10" .u64 Lib.pow10Tab) (hm : w.cell? ⟨1, 0, none⟩ = some (.int .i64 m))
    (hS : S.size ≤ 2000000) (hH : H.size ≤ 2000000) (hP : P.size ≤ 2000000) (hQ : Q.size ≤ 2000000) (hg : goodB S H n P Q a = false)
    (hS2 : S2.size ≤ 2000000) (hH2 : H2.size ≤ 2000000) (hP2 : P2.size ≤ 2000000) (hQ2 : Q2.size ≤ 2000000) (hg2 : goodB S2 H2 n2 P2 Q2 a2 = true) :
    Calls Tryd.prog 26 #[.agg #[.string S, .string H, .int .i64 n, .string P, .string Q, .bool a], .agg #[.string S2, .string H2, .int .i64 n2, .string P2, .string Q2, .bool a2]] w fun e w' => e = .returned (.tuple #[.bool false, .bool false]) ∧ Below w.heap.size w w' := by
  have CA := fun w t p (_ : w.cell? ⟨1, 0, none⟩ = some (.int .i64 m)) => implNorm_no S H P Q n a w t p hS hH hP hQ hg
  have CB := fun w t p q => implNorm_yes S2 H2 P2 Q2 n2 a2 m w t p q hS2 hH2 hP2 hQ2 hg2
  have HA : Hid _ := CA
  have HB : Hid _ := CB
  clear CA CB
  have hgt := hT.lt
  have hpt := tab_lt htab
  have hmt := World.block_lt_of_cell? _ _ hm
  have hs0 : (w.alloc (.cells #[.string S, .string H, .int .i64 n, .string P, .string Q, .bool a] 24)).heap.size = w.heap.size + 1 := by simp
  have hB0 : Below w.heap.size w ((w.alloc (.cells #[.string S, .string H, .int .i64 n, .string P, .string Q, .bool a] 24)).alloc (.cells #[.string S2, .string H2, .int .i64 n2, .string P2, .string Q2, .bool a2] 24)) := ((Below.refl _ _).alloc (Nat.le_refl _) _).alloc (by simp) _
  have HU0 : Hid _ := Blk.alloc (Blk.made w #[.string S, .string H, .int .i64 n, .string P, .string Q, .bool a] 24) (.cells #[.string S2, .string H2, .int .i64 n2, .string P2, .string Q2, .bool a2] 24)
  have V0 : Blk ((w.alloc (.cells #[.string S, .string H, .int .i64 n, .string P, .string Q, .bool a] 24)).alloc (.cells #[.string S2, .string H2, .int .i64 n2, .string P2, .string Q2, .bool a2] 24)) (w.heap.size + 1) #[.string S2, .string H2, .int .i64 n2, .string P2, .string Q2, .bool a2] := by rw [← hs0]; exact Blk.made _ _ _
  have HV0 : Hid _ := V0
  clear V0
  clear HU0
  go_enter Tryd.func26, Tryd.ntmps26
  go_wp2_with fail
  refine (HA.out _ (hT.below hB0 hgt) (tab_below htab hB0 hpt) ((hB0.cell (p := ⟨1, 0, none⟩) hmt).trans hm)).mono ?_
  rintro e w1 ⟨rfl, hb1⟩
  have hV1 := Blk.below HV0.out hb1
  have hB1 : Below w.heap.size w w1 := hB0.trans (hb1.mono hB0.size)
  have hB1a := hB1.alloc hB1.size (.cells #[.string ⟨#[]⟩, .string ⟨#[]⟩, .int .i64 0, .string ⟨#[]⟩, .string ⟨#[]⟩, .bool false] 24)
  have HN1 : Hid _ := Blk.made w1 #[.string ⟨#[]⟩, .string ⟨#[]⟩, .int .i64 0, .string ⟨#[]⟩, .string ⟨#[]⟩, .bool false] 24
  obtain ⟨v1, v2, v3⟩ := hV1
  clear hb1 hB0 HV0 hs0 hB1
  go_wp2_with fail
  refine (HB.out _ (hT.below hB1a hgt) (tab_below htab hB1a hpt) ((hB1a.cell (p := ⟨1, 0, none⟩) hmt).trans hm)).mono ?_
  rintro e w2 ⟨rfl, hb2⟩
  have hN2 := Blk.below HN1.out hb2
  have hB2 : Below w.heap.size w w2 := hB1a.trans (hb2.mono hB1a.size)
  obtain ⟨x1, x2, x3⟩ := hN2
  clear hb2 hB1a v1 v2 v3 HN1
  go_wp2_with fail
  go_ret2
  exact ⟨rfl, hB2.alloc hB2.size _⟩

set_option maxRecDepth 20000 in
set_option maxHeartbeats 3200000 in
theorem implSame_yn (S H P Q S2 H2 P2 Q2 : ByteArray) (n n2 : Int) (a a2 : Bool) (w : World) (m : Int) (hT : Tab w) (htab : Lib.TabIs Tryd.prog w "internal/strconv.uint64pow10" .u64 Lib.pow10Tab) (hm : w.cell? ⟨1, 0, none⟩ = some (.int .i64 m))
    (hS : S.size ≤ 2000000) (hH : H.size ≤ 2000000) (hP : P.size ≤ 2000000) (hQ : Q.size ≤ 2000000) (hg : goodB S H n P Q a = true)
    (hS2 : S2.size ≤ 2000000) (hH2 : H2.size ≤ 2000000) (hP2 : P2.size ≤ 2000000) (hQ2 : Q2.size ≤ 2000000) (hg2 : goodB S2 H2 n2 P2 Q2 a2 = false) :
    Calls Tryd.prog 26 #[.agg #[.string S, .string H, .int .i64 n, .string P, .string Q, .bool a], .agg #[.string S2, .string H2, .int .i64 n2, .string P2, .string Q2, .bool a2]] w fun e w' => e = .returned (.tuple #[.bool false, .bool false]) ∧ Below w.heap.size w w' := by
  have CA := fun w t p q => implNorm_yes S H P Q n a m w t p q hS hH hP hQ hg
  have CB := fun w t p (_ : w.cell? ⟨1, 0, none⟩ = some (.int .i64 m)) => implNorm_no S2 H2 P2 Q2 n2 a2 w t p hS2 hH2 hP2 hQ2 hg2
  have HA : Hid _ := CA
  have HB : Hid _ := CB
  clear CA CB
  have hgt := hT.lt
  have hpt := tab_lt htab
  have hmt := World.block_lt_of_cell? _ _ hm
  have hs0 : (w.alloc (.cells #[.string S, .string H, .int .i64 n, .string P, .string Q, .bool a] 24)).heap.size = w.heap.size + 1 := by simp
  have hB0 : Below w.heap.size w ((w.alloc (.cells #[.string S, .string H, .int .i64 n, .string P, .string Q, .bool a] 24)).alloc (.cells #[.string S2, .string H2, .int .i64 n2, .string P2, .string Q2, .bool a2] 24)) := ((Below.refl _ _).alloc (Nat.le_refl _) _).alloc (by simp) _
  have HU0 : Hid _ := Blk.alloc (Blk.made w #[.string S, .string H, .int .i64 n, .string P, .string Q, .bool a] 24) (.cells #[.string S2, .string H2, .int .i64 n2, .string P2, .string Q2, .bool a2] 24)
  have V0 : Blk ((w.alloc (.cells #[.string S, .string H, .int .i64 n, .string P, .string Q, .bool a] 24)).alloc (.cells #[.string S2, .string H2, .int .i64 n2, .string P2, .string Q2, .bool a2] 24)) (w.heap.size + 1) #[.string S2, .string H2, .int .i64 n2, .string P2, .string Q2, .bool a2] := by rw [← hs0]; exact Blk.made _ _ _
  have HV0 : Hid _ := V0
  clear V0
  clear HU0
  go_enter Tryd.func26, Tryd.ntmps26
  go_wp2_with fail
  refine (HA.out _ (hT.below hB0 hgt) (tab_below htab hB0 hpt) ((hB0.cell (p := ⟨1, 0, none⟩) hmt).trans hm)).mono ?_
  rintro e w1 ⟨rfl, hb1⟩
  have hV1 := Blk.below HV0.out hb1
  have hB1 : Below w.heap.size w w1 := hB0.trans (hb1.mono hB0.size)
  have hB1a := hB1.alloc hB1.size (.cells #[.string S, .string (lowS H), .int .i64 (portI S n), .string (dotB (plnB P)), .string (plnB Q), .bool a] 24)
  have HN1 : Hid _ := Blk.made w1 #[.string S, .string (lowS H), .int .i64 (portI S n), .string (dotB (plnB P)), .string (plnB Q), .bool a] 24
  obtain ⟨v1, v2, v3⟩ := hV1
  clear hb1 hB0 HV0 hs0 hB1
  go_wp2_with fail
  refine (HB.out _ (hT.below hB1a hgt) (tab_below htab hB1a hpt) ((hB1a.cell (p := ⟨1, 0, none⟩) hmt).trans hm)).mono ?_
  rintro e w2 ⟨rfl, hb2⟩
  have hN2 := Blk.below HN1.out hb2
  have hB2 : Below w.heap.size w w2 := hB1a.trans (hb2.mono hB1a.size)
  obtain ⟨x1, x2, x3⟩ := hN2
  clear hb2 hB1a v1 v2 v3 HN1
  go_wp2_with fail
  go_ret2
  exact ⟨rfl, hB2.alloc hB2.size _⟩

set_option maxRecDepth 20000 in
set_option maxHeartbeats 3200000 in
theorem implSame_yy (S H P Q S2 H2 P2 Q2 : ByteArray) (n n2 : Int) (a a2 : Bool) (w : World) (m : Int) (hT : Tab w) (htab : Lib.TabIs Tryd.prog w "internal/strconv.uint64pow10" .u64 Lib.pow10Tab) (hm : w.cell? ⟨1, 0, none⟩ = some (.int .i64 m))
    (hS : S.size ≤ 2000000) (hH : H.size ≤ 2000000) (hP : P.size ≤ 2000000) (hQ : Q.size ≤ 2000000) (hg : goodB S H n P Q a = true)
    (hS2 : S2.size ≤ 2000000) (hH2 : H2.size ≤ 2000000) (hP2 : P2.size ≤ 2000000) (hQ2 : Q2.size ≤ 2000000) (hg2 : goodB S2 H2 n2 P2 Q2 a2 = true) :
    Calls Tryd.prog 26 #[.agg #[.string S, .string H, .int .i64 n, .string P, .string Q, .bool a], .agg #[.string S2, .string H2, .int .i64 n2, .string P2, .string Q2, .bool a2]] w fun e w' => e = .returned (.tuple #[.bool (eqU S (lowS H) (dotB (plnB P)) (plnB Q) S2 (lowS H2) (dotB (plnB P2)) (plnB Q2) (portI S n) (portI S2 n2) a a2), .bool true]) ∧ Below w.heap.size w w' := by
  have CA := fun w t p q => implNorm_yes S H P Q n a m w t p q hS hH hP hQ hg
  have CB := fun w t p q => implNorm_yes S2 H2 P2 Q2 n2 a2 m w t p q hS2 hH2 hP2 hQ2 hg2
  have HA : Hid _ := CA
  have HB : Hid _ := CB
  clear CA CB
  have hgt := hT.lt
  have hpt := tab_lt htab
  have hmt := World.block_lt_of_cell? _ _ hm
  have E := fun wx => url_eq S (lowS H) (dotB (plnB P)) (plnB Q) S2 (lowS H2) (dotB (plnB P2)) (plnB Q2) (portI S n) (portI S2 n2) a a2 wx
  have hs0 : (w.alloc (.cells #[.string S, .string H, .int .i64 n, .string P, .string Q, .bool a] 24)).heap.size = w.heap.size + 1 := by simp
  have hB0 : Below w.heap.size w ((w.alloc (.cells #[.string S, .string H, .int .i64 n, .string P, .string Q, .bool a] 24)).alloc (.cells #[.string S2, .string H2, .int .i64 n2, .string P2, .string Q2, .bool a2] 24)) := ((Below.refl _ _).alloc (Nat.le_refl _) _).alloc (by simp) _
  have HU0 : Hid _ := Blk.alloc (Blk.made w #[.string S, .string H, .int .i64 n, .string P, .string Q, .bool a] 24) (.cells #[.string S2, .string H2, .int .i64 n2, .string P2, .string Q2, .bool a2] 24)
  have V0 : Blk ((w.alloc (.cells #[.string S, .string H, .int .i64 n, .string P, .string Q, .bool a] 24)).alloc (.cells #[.string S2, .string H2, .int .i64 n2, .string P2, .string Q2, .bool a2] 24)) (w.heap.size + 1) #[.string S2, .string H2, .int .i64 n2, .string P2, .string Q2, .bool a2] := by rw [← hs0]; exact Blk.made _ _ _
  have HV0 : Hid _ := V0
  clear V0
  clear HU0
  go_enter Tryd.func26, Tryd.ntmps26
  go_wp2_with fail
  refine (HA.out _ (hT.below hB0 hgt) (tab_below htab hB0 hpt) ((hB0.cell (p := ⟨1, 0, none⟩) hmt).trans hm)).mono ?_
  rintro e w1 ⟨rfl, hb1⟩
  have hV1 := Blk.below HV0.out hb1
  have hB1 : Below w.heap.size w w1 := hB0.trans (hb1.mono hB0.size)
  have hB1a := hB1.alloc hB1.size (.cells #[.string S, .string (lowS H), .int .i64 (portI S n), .string (dotB (plnB P)), .string (plnB Q), .bool a] 24)
  have HN1 : Hid _ := Blk.made w1 #[.string S, .string (lowS H), .int .i64 (portI S n), .string (dotB (plnB P)), .string (plnB Q), .bool a] 24
  obtain ⟨v1, v2, v3⟩ := hV1
  clear hb1 hB0 HV0 hs0 hB1
  go_wp2_with fail
  refine (HB.out _ (hT.below hB1a hgt) (tab_below htab hB1a hpt) ((hB1a.cell (p := ⟨1, 0, none⟩) hmt).trans hm)).mono ?_
  rintro e w2 ⟨rfl, hb2⟩
  have hN2 := Blk.below HN1.out hb2
  have hB2 : Below w.heap.size w w2 := hB1a.trans (hb2.mono hB1a.size)
  obtain ⟨x1, x2, x3⟩ := hN2
  clear hb2 hB1a v1 v2 v3 HN1
  go_wp2_with fail
  go_ret2
  exact ⟨rfl, hB2.alloc hB2.size _⟩

end Go.Proofs.YtlgjgdpalflmfaaDoor.Sam
