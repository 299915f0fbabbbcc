/-
  Walks: whether two addresses are the same: spec.SameUrl, impl.SameUrl.
-/
import Derived.Test.YtlgjgdpalflmfaaDoorNrs
import Derived.Deep.RegionHeld
namespace Go.Proofs.YtlgjgdpalflmfaaDoor.Sam
open Go.RowKit
open Go.Proofs.YtlgjgdpalflmfaaDoor.Byt
open Go.Proofs.YtlgjgdpalflmfaaDoor.Hex
open Go.Proofs.YtlgjgdpalflmfaaDoor.Txt
open Go.Proofs.YtlgjgdpalflmfaaDoor.Gud
open Go.Proofs.YtlgjgdpalflmfaaDoor.Pln
open Go.Proofs.YtlgjgdpalflmfaaDoor.Low
open Go.Proofs.YtlgjgdpalflmfaaDoor.Nrm

/-- Whether two addresses are the same, field by field. -/
def eqU (S H P Q S2 H2 P2 Q2 : ByteArray) (n n2 : Int) (a a2 : Bool) : Bool := (S.toList == S2.toList) && ((H.toList == H2.toList) && ((n == n2) && ((P.toList == P2.toList) && ((Q.toList == Q2.toList) && (a == a2)))))

set_option maxHeartbeats 1600000 in
theorem url_eq (S H P Q S2 H2 P2 Q2 : ByteArray) (n n2 : Int) (a a2 : Bool) (wx : World) :
    (binOp .eql 24 (.agg #[.string S, .string H, .int .i64 n, .string P, .string Q, .bool a]) (.agg #[.string S2, .string H2, .int .i64 n2, .string P2, .string Q2, .bool a2])).run Tryd.prog wx = .ok (.bool (eqU S H P Q S2 H2 P2 Q2 n n2 a a2)) wx := by
  unfold eqU
  cases h1 : S.toList == S2.toList
  · simp [go_sem, h1]
  · cases h2 : H.toList == H2.toList
    · simp [go_sem, h1, h2]
    · cases h3 : n == n2
      · simp [go_sem, h1, h2, h3]
      · cases h4 : P.toList == P2.toList
        · simp [go_sem, h1, h2, h3, h4]
        · cases h5 : Q.toList == Q2.toList
          · simp [go_sem, h1, h2, h3, h4, h5]
          · cases h6 : a == a2
            · simp [go_sem, h1, h2, h3, h4, h5, h6]
            · simp [go_sem, h1, h2, h3, h4, h5, h6]

theorem keep_first (W : World) : Below W.heap.size W W.drew := ⟨rfl, rfl, rfl, Nat.le_refl _, fun _ _ => rfl⟩
theorem keepB {W w0 w1 : World} {n m : Nat} {cs ds : Array Value} (hn : n < W.heap.size) (hm : m < W.heap.size) (h : (∀ i, w0.cell? ⟨n, i, none⟩ = cs[i]?) ∧ (∀ i, w0.cell? ⟨m, i, none⟩ = ds[i]?) ∧ Below W.heap.size W w0) (hb : Below w0.heap.size w0 w1) :
    (∀ i, w1.cell? ⟨n, i, none⟩ = cs[i]?) ∧ (∀ i, w1.cell? ⟨m, i, none⟩ = ds[i]?) ∧ Below W.heap.size W w1 :=
  ⟨fun i => (hb.cell (p := ⟨n, i, none⟩) (Nat.lt_of_lt_of_le hn h.2.2.size)).trans (h.1 i), fun i => (hb.cell (p := ⟨m, i, none⟩) (Nat.lt_of_lt_of_le hm h.2.2.size)).trans (h.2.1 i), h.2.2.trans (hb.mono h.2.2.size)⟩
theorem and3 {a b c : Prop} (h : a ∧ b ∧ c) : c := h.2.2

set_option maxRecDepth 20000 in
set_option maxHeartbeats 3200000 in
theorem specSame_yes (S H P Q S2 H2 P2 Q2 : ByteArray) (n n2 : Int) (a a2 : Bool) (w : World)
    (hS : S.size ≤ 2000000) (hH : H.size ≤ 2000000) (hP : P.size ≤ 2000000) (hQ : Q.size ≤ 2000000) (hg : goodB S H n P Q a = true)
    (hS2 : S2.size ≤ 2000000) (hH2 : H2.size ≤ 2000000) (hP2 : P2.size ≤ 2000000) (hQ2 : Q2.size ≤ 2000000) (hg2 : goodB S2 H2 n2 P2 Q2 a2 = true) :
    Calls Tryd.prog 38 #[.agg #[.string S, .string H, .int .i64 n, .string P, .string Q, .bool a], .agg #[.string S2, .string H2, .int .i64 n2, .string P2, .string Q2, .bool a2]] w fun e w' => e = .returned (.tuple #[.bool (eqU S (lowS H) (dotB (plnB P)) (plnB Q) S2 (lowS H2) (dotB (plnB P2)) (plnB Q2) (portI S n) (portI S2 n2) a a2), .bool true]) ∧ Below w.heap.size w w' := by
  have G := fun w => specGood_any S H P Q n a w hS hH hP hQ
  rw [hg] at G
  have G2 := fun w => specGood_any S2 H2 P2 Q2 n2 a2 w hS2 hH2 hP2 hQ2
  rw [hg2] at G2
  have C := fun w => specNorm_core S H P Q n a w hH hP hQ hg
  have C2 := fun w => specNorm_core S2 H2 P2 Q2 n2 a2 w hH2 hP2 hQ2 hg2
  have HC : Hid _ := C
  have HC2 : Hid _ := C2
  clear C C2
  have E := fun wx => url_eq S (lowS H) (dotB (plnB P)) (plnB Q) S2 (lowS H2) (dotB (plnB P2)) (plnB Q2) (portI S n) (portI S2 n2) a a2 wx
  have hs0 : (w.alloc (.cells #[.string S, .string H, .int .i64 n, .string P, .string Q, .bool a] 24)).heap.size = w.heap.size + 1 := by simp
  have hB0 : Below w.heap.size w ((w.alloc (.cells #[.string S, .string H, .int .i64 n, .string P, .string Q, .bool a] 24)).alloc (.cells #[.string S2, .string H2, .int .i64 n2, .string P2, .string Q2, .bool a2] 24)) := ((Below.refl _ _).alloc (Nat.le_refl _) _).alloc (by simp) _
  have HU0 : Hid _ := Blk.alloc (Blk.made w #[.string S, .string H, .int .i64 n, .string P, .string Q, .bool a] 24) (.cells #[.string S2, .string H2, .int .i64 n2, .string P2, .string Q2, .bool a2] 24)
  have V0 : Blk ((w.alloc (.cells #[.string S, .string H, .int .i64 n, .string P, .string Q, .bool a] 24)).alloc (.cells #[.string S2, .string H2, .int .i64 n2, .string P2, .string Q2, .bool a2] 24)) (w.heap.size + 1) #[.string S2, .string H2, .int .i64 n2, .string P2, .string Q2, .bool a2] := by rw [← hs0]; exact Blk.made _ _ _
  have HV0 : Hid _ := V0
  clear V0
  go_enter Tryd.func38, Tryd.ntmps38
  go_wp2_with fail
  refine (G _).mono ?_
  rintro e w1 ⟨rfl, hb1⟩
  have hU1 := Blk.below HU0.out hb1
  have hV1 := Blk.below HV0.out hb1
  have HU1 : Hid _ := hU1
  have HV1 : Hid _ := hV1
  have hB1 : Below w.heap.size w w1 := hB0.trans (hb1.mono hB0.size)
  obtain ⟨u1, u2, u3⟩ := hU1
  obtain ⟨v1, v2, v3⟩ := hV1
  clear hb1 hB0 HU0 HV0 hs0
  go_wp2_with fail
  refine (G2 _).mono ?_
  rintro e w2 ⟨rfl, hb2⟩
  have hU2 := Blk.below HU1.out hb2
  have hV2 := Blk.below HV1.out hb2
  have HU2 : Hid _ := hU2
  have HV2 : Hid _ := hV2
  have hB2 : Below w.heap.size w w2 := hB1.trans (hb2.mono hB1.size)
  clear hb2 hB1 HU1 HV1 u1 u2 u3 v1 v2 v3
  obtain ⟨u1, u2, u3⟩ := hU2
  obtain ⟨v1, v2, v3⟩ := hV2
  go_wp2_with fail
  go_region_held (fun w' => (∀ i, w'.cell? ⟨w.heap.size, i, none⟩ = (#[.string S, .string H, .int .i64 n, .string P, .string Q, .bool a] : Array Value)[i]?) ∧ (∀ i, w'.cell? ⟨w.heap.size + 1, i, none⟩ = (#[.string S2, .string H2, .int .i64 n2, .string P2, .string Q2, .bool a2] : Array Value)[i]?) ∧ Below w2.heap.size w2 w')
    (first
      | exact ⟨u3, v3, keep_first w2⟩
      | assumption
      | exact keepB u1 v1 (by assumption) (by assumption))
    (first
      | (go_at_call 59; with_reducible refine (HC.out _).mono ?_; rintro e w3 ⟨rfl, hb3⟩)
      | (go_at_call 59; with_reducible refine (HC2.out _).mono ?_; rintro e w4 ⟨rfl, hb4⟩))
  all_goals
    go_wp2
    go_ret2
    exact ⟨rfl, hB2.trans (Below.mono (and3 (by assumption) : Below w2.heap.size w2 _) hB2.size)⟩

end Go.Proofs.YtlgjgdpalflmfaaDoor.Sam
