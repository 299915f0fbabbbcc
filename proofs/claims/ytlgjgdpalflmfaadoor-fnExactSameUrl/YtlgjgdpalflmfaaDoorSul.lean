/-
  Walks: the law FnExactSameUrl.
-/
import Derived.Test.YtlgjgdpalflmfaaDoorSmi
import Derived.Test.YtlgjgdpalflmfaaDoorLwu
import Derived.ProofKit
namespace Go.Proofs.YtlgjgdpalflmfaaDoor.Sul
open Go.ChangeShapes Go.WideShapes Go.ChangeAt Go.RowKit
open Go.Proofs.YtlgjgdpalflmfaaDoor.Byt
open Go.Proofs.YtlgjgdpalflmfaaDoor.Hex
open Go.Proofs.YtlgjgdpalflmfaaDoor.Txt
open Go.Proofs.YtlgjgdpalflmfaaDoor.Gud
open Go.Proofs.YtlgjgdpalflmfaaDoor.Lwu
open Go.Proofs.YtlgjgdpalflmfaaDoor.Pln
open Go.Proofs.YtlgjgdpalflmfaaDoor.Low
open Go.Proofs.YtlgjgdpalflmfaaDoor.Nrm
open Go.Proofs.YtlgjgdpalflmfaaDoor.Sam
open Go.Proofs.YtlgjgdpalflmfaaDoor.Enc (ret_bool)

theorem maxLen_cell {W : World} (h : W.ShapedOpen Tryd.prog) : ∃ m, W.cell? ⟨1, 0, none⟩ = some (.int .i64 m) :=
  Go.Proofs.cell_of_shapedOpen_int (zero := #[.int .i64 0]) (t := 3) h (of_decide_eq_true (by kernel_rfl)) (by kernel_rfl) rfl (by kernel_rfl) (by kernel_rfl) Tryd.underlying3

theorem sz_at (S H P Q : ByteArray) (n : Int) (asks : Bool) (L : Nat) (K : Int) (hK : K = (L : Int)) (w : World) (h : S.size + H.size + P.size + Q.size ≤ L) (hL : L ≤ 2000000) :
    Calls Tryd.prog 30 #[.agg #[.string S, .string H, .int .i64 n, .string P, .string Q, .bool asks], .int .i64 K] w fun e w' => e = .returned (.int .i64 ((L : Int) - S.size - H.size - P.size - Q.size)) ∧ Below w.heap.size w w' := by
  subst hK
  exact sz_yes S H P Q n asks L w h hL
theorem sz_off (S H P Q : ByteArray) (n : Int) (asks : Bool) (L : Nat) (K : Int) (hK : K = (L : Int)) (w : World) (hS : S.size ≤ maxLen) (hH : H.size ≤ maxLen) (hP : P.size ≤ maxLen) (hQ : Q.size ≤ maxLen) (h : ¬ S.size + H.size + P.size + Q.size ≤ L) (hL : L ≤ 2000000) :
    Calls Tryd.prog 30 #[.agg #[.string S, .string H, .int .i64 n, .string P, .string Q, .bool asks], .int .i64 K] w fun e w' => e = .returned (.int .i64 (-1)) ∧ Below w.heap.size w w' := by
  subst hK
  exact sz_no S H P Q n asks L w hS hH hP hQ h hL

set_option maxRecDepth 20000 in
set_option maxHeartbeats 6400000 in
theorem walk (S H P Q S2 H2 P2 Q2 : ByteArray) (n n2 : Int) (a a2 : Bool) (w : World) (hT : Tab w) (htab : Lib.TabIs Tryd.prog w "internal/strconv.uint64pow10" .u64 Lib.pow10Tab) (hsh : w.ShapedOpen Tryd.prog) (hS : S.size ≤ maxLen) (hH : H.size ≤ maxLen) (hP : P.size ≤ maxLen) (hQ : Q.size ≤ maxLen) (hS2 : S2.size ≤ maxLen) (hH2 : H2.size ≤ maxLen) (hP2 : P2.size ≤ maxLen) (hQ2 : Q2.size ≤ maxLen) :
    Calls Tryd.prog 13 #[.agg #[.string S, .string H, .int .i64 n, .string P, .string Q, .bool a], .agg #[.string S2, .string H2, .int .i64 n2, .string P2, .string Q2, .bool a2]] w fun e w' => e = .returned (.bool true) ∧ Below w.heap.size w w' := by
  obtain ⟨m, hm⟩ := maxLen_cell hsh
  clear hsh
  have hgt := hT.lt
  have hpt := tab_lt htab
  have hmt := World.block_lt_of_cell? _ _ hm
  by_cases h : S.size + H.size + P.size + Q.size ≤ 1048576
  · clear hS hH hP hQ
    by_cases h2 : S2.size + H2.size + P2.size + Q2.size ≤ 1048576 - S.size - H.size - P.size - Q.size
    · clear hS2 hH2 hP2 hQ2
      cases hg : goodB S H n P Q a <;> cases hg2 : goodB S2 H2 n2 P2 Q2 a2
      · have hs0 : (w.alloc (.cells #[.string S, .string H, .int .i64 n, .string P, .string Q, .bool a] 37)).heap.size = w.heap.size + 1 := by simp
        have hB0 : Below w.heap.size w ((w.alloc (.cells #[.string S, .string H, .int .i64 n, .string P, .string Q, .bool a] 37)).alloc (.cells #[.string S2, .string H2, .int .i64 n2, .string P2, .string Q2, .bool a2] 37)) := ((Below.refl _ _).alloc (Nat.le_refl _) _).alloc (by simp) _
        have HU0 : Hid _ := Blk.alloc (Blk.made w #[.string S, .string H, .int .i64 n, .string P, .string Q, .bool a] 37) (.cells #[.string S2, .string H2, .int .i64 n2, .string P2, .string Q2, .bool a2] 37)
        have V0 : Blk ((w.alloc (.cells #[.string S, .string H, .int .i64 n, .string P, .string Q, .bool a] 37)).alloc (.cells #[.string S2, .string H2, .int .i64 n2, .string P2, .string Q2, .bool a2] 37)) (w.heap.size + 1) #[.string S2, .string H2, .int .i64 n2, .string P2, .string Q2, .bool a2] := by rw [← hs0]; exact Blk.made _ _ _
        have HV0 : Hid _ := V0
        clear V0
        have SP : Hid _ := fun w => specSame_no1 S H P Q S2 H2 P2 Q2 n n2 a a2 w (by omega) (by omega) (by omega) (by omega) hg
        have IM : Hid _ := fun w8 (t : Below w.heap.size w w8) => implSame_nn S H P Q S2 H2 P2 Q2 n n2 a a2 w8 m (hT.below t hgt) (tab_below htab t hpt) ((t.cell (p := ⟨1, 0, none⟩) hmt).trans hm) (by omega) (by omega) (by omega) (by omega) hg (by omega) (by omega) (by omega) (by omega) hg2
        go_enter Tryd.func13, Tryd.ntmps13
        go_wp2_with fail
        refine (sz_yes S H P Q n a 1048576 _ h (by decide)).mono ?_
        rintro e w1 ⟨rfl, hb1⟩
        have hU1 := Blk.below HU0.out hb1
        have hV1 := Blk.below HV0.out hb1
        have HU1 : Hid _ := hU1
        have HV1 : Hid _ := hV1
        have hB1 : Below w.heap.size w w1 := hB0.trans (hb1.mono hB0.size)
        clear hb1 hB0 HU0 HV0 hs0
        obtain ⟨u1, u2, u3⟩ := hU1
        obtain ⟨v1, v2, v3⟩ := hV1
        go_wp2_with fail
        refine (sz_at S2 H2 P2 Q2 n2 a2 (1048576 - S.size - H.size - P.size - Q.size) _ (by omega) _ h2 (by omega)).mono ?_
        rintro e w2 ⟨rfl, hb2⟩
        have hU2 := Blk.below HU1.out hb2
        have hV2 := Blk.below HV1.out hb2
        have HU2 : Hid _ := hU2
        have HV2 : Hid _ := hV2
        have hB2 : Below w.heap.size w w2 := hB1.trans (hb2.mono hB1.size)
        clear hb2 hB1 HU1 HV1 u1 u2 u3 v1 v2 v3
        obtain ⟨u1, u2, u3⟩ := hU2
        obtain ⟨v1, v2, v3⟩ := hV2
        go_wp2_with fail
        go_region_held (fun w' => (∀ i, w'.cell? ⟨w.heap.size, i, none⟩ = (#[.string S, .string H, .int .i64 n, .string P, .string Q, .bool a] : Array Value)[i]?) ∧ (∀ i, w'.cell? ⟨w.heap.size + 1, i, none⟩ = (#[.string S2, .string H2, .int .i64 n2, .string P2, .string Q2, .bool a2] : Array Value)[i]?) ∧ Below w2.heap.size w2 w')
            (first
              | exact ⟨u3, v3, keep_first w2⟩
              | assumption
              | exact keepB u1 v1 (by assumption) (by assumption))
            (first
              | (go_at_call 32; with_reducible refine (toUrl_any S H P Q n a _).mono ?_; rintro e w3 ⟨rfl, hb3⟩)
              | (go_at_call 32; with_reducible refine (toUrl_any S2 H2 P2 Q2 n2 a2 _).mono ?_; rintro e w4 ⟨rfl, hb4⟩)
              | (go_at_call 38; with_reducible refine (SP.out _).mono ?_; rintro e w5 ⟨rfl, hb5⟩))
        obtain ⟨u3', v3', hbx⟩ := (show (∀ i, w5.cell? ⟨w.heap.size, i, none⟩ = (#[.string S, .string H, .int .i64 n, .string P, .string Q, .bool a] : Array Value)[i]?) ∧ (∀ i, w5.cell? ⟨w.heap.size + 1, i, none⟩ = (#[.string S2, .string H2, .int .i64 n2, .string P2, .string Q2, .bool a2] : Array Value)[i]?) ∧ Below w2.heap.size w2 w5 from by assumption)
        have hB5 : Below w.heap.size w w5 := hB2.trans (hbx.mono hB2.size)
        have u1' := Nat.lt_of_lt_of_le u1 hbx.size
        have v1' := Nat.lt_of_lt_of_le v1 hbx.size
        clear hbx u1 u2 u3 v1 v2 v3 HU2 HV2 hB2
        go_wp2_with fail
        go_region_held (fun w' => (∀ i, w'.cell? ⟨w.heap.size, i, none⟩ = (#[.string S, .string H, .int .i64 n, .string P, .string Q, .bool a] : Array Value)[i]?) ∧ (∀ i, w'.cell? ⟨w.heap.size + 1, i, none⟩ = (#[.string S2, .string H2, .int .i64 n2, .string P2, .string Q2, .bool a2] : Array Value)[i]?) ∧ Below w5.heap.size w5 w')
            (first
              | exact ⟨u3', v3', keep_first w5⟩
              | assumption
              | exact keepB u1' v1' (by assumption) (by assumption))
            (first
              | (go_at_call 32; with_reducible refine (toUrl_any S H P Q n a _).mono ?_; rintro e w6 ⟨rfl, hb6⟩)
              | (go_at_call 32; with_reducible refine (toUrl_any S2 H2 P2 Q2 n2 a2 _).mono ?_; rintro e w7 ⟨rfl, hb7⟩)
              | (go_at_call 26; with_reducible refine (IM.out _ (hB5.trans (Below.mono (and3 (by assumption)) hB5.size))).mono ?_; rintro e w8 ⟨rfl, hb8⟩))
        have hbx := and3 (show (∀ i, w8.cell? ⟨w.heap.size, i, none⟩ = (#[.string S, .string H, .int .i64 n, .string P, .string Q, .bool a] : Array Value)[i]?) ∧ (∀ i, w8.cell? ⟨w.heap.size + 1, i, none⟩ = (#[.string S2, .string H2, .int .i64 n2, .string P2, .string Q2, .bool a2] : Array Value)[i]?) ∧ Below w5.heap.size w5 w8 from by assumption)
        have hB8 : Below w.heap.size w w8 := hB5.trans (hbx.mono hB5.size)
        go_wp2_with fail
        go_ret
        exact ⟨rfl, hB8⟩
      · have hs0 : (w.alloc (.cells #[.string S, .string H, .int .i64 n, .string P, .string Q, .bool a] 37)).heap.size = w.heap.size + 1 := by simp
        have hB0 : Below w.heap.size w ((w.alloc (.cells #[.string S, .string H, .int .i64 n, .string P, .string Q, .bool a] 37)).alloc (.cells #[.string S2, .string H2, .int .i64 n2, .string P2, .string Q2, .bool a2] 37)) := ((Below.refl _ _).alloc (Nat.le_refl _) _).alloc (by simp) _
        have HU0 : Hid _ := Blk.alloc (Blk.made w #[.string S, .string H, .int .i64 n, .string P, .string Q, .bool a] 37) (.cells #[.string S2, .string H2, .int .i64 n2, .string P2, .string Q2, .bool a2] 37)
        have V0 : Blk ((w.alloc (.cells #[.string S, .string H, .int .i64 n, .string P, .string Q, .bool a] 37)).alloc (.cells #[.string S2, .string H2, .int .i64 n2, .string P2, .string Q2, .bool a2] 37)) (w.heap.size + 1) #[.string S2, .string H2, .int .i64 n2, .string P2, .string Q2, .bool a2] := by rw [← hs0]; exact Blk.made _ _ _
        have HV0 : Hid _ := V0
        clear V0
        have SP : Hid _ := fun w => specSame_no1 S H P Q S2 H2 P2 Q2 n n2 a a2 w (by omega) (by omega) (by omega) (by omega) hg
        have IM : Hid _ := fun w8 (t : Below w.heap.size w w8) => implSame_ny S H P Q S2 H2 P2 Q2 n n2 a a2 w8 m (hT.below t hgt) (tab_below htab t hpt) ((t.cell (p := ⟨1, 0, none⟩) hmt).trans hm) (by omega) (by omega) (by omega) (by omega) hg (by omega) (by omega) (by omega) (by omega) hg2
        go_enter Tryd.func13, Tryd.ntmps13
        go_wp2_with fail
        refine (sz_yes S H P Q n a 1048576 _ h (by decide)).mono ?_
        rintro e w1 ⟨rfl, hb1⟩
        have hU1 := Blk.below HU0.out hb1
        have hV1 := Blk.below HV0.out hb1
        have HU1 : Hid _ := hU1
        have HV1 : Hid _ := hV1
        have hB1 : Below w.heap.size w w1 := hB0.trans (hb1.mono hB0.size)
        clear hb1 hB0 HU0 HV0 hs0
        obtain ⟨u1, u2, u3⟩ := hU1
        obtain ⟨v1, v2, v3⟩ := hV1
        go_wp2_with fail
        refine (sz_at S2 H2 P2 Q2 n2 a2 (1048576 - S.size - H.size - P.size - Q.size) _ (by omega) _ h2 (by omega)).mono ?_
        rintro e w2 ⟨rfl, hb2⟩
        have hU2 := Blk.below HU1.out hb2
        have hV2 := Blk.below HV1.out hb2
        have HU2 : Hid _ := hU2
        have HV2 : Hid _ := hV2
        have hB2 : Below w.heap.size w w2 := hB1.trans (hb2.mono hB1.size)
        clear hb2 hB1 HU1 HV1 u1 u2 u3 v1 v2 v3
        obtain ⟨u1, u2, u3⟩ := hU2
        obtain ⟨v1, v2, v3⟩ := hV2
        go_wp2_with fail
        go_region_held (fun w' => (∀ i, w'.cell? ⟨w.heap.size, i, none⟩ = (#[.string S, .string H, .int .i64 n, .string P, .string Q, .bool a] : Array Value)[i]?) ∧ (∀ i, w'.cell? ⟨w.heap.size + 1, i, none⟩ = (#[.string S2, .string H2, .int .i64 n2, .string P2, .string Q2, .bool a2] : Array Value)[i]?) ∧ Below w2.heap.size w2 w')
            (first
              | exact ⟨u3, v3, keep_first w2⟩
              | assumption
              | exact keepB u1 v1 (by assumption) (by assumption))
            (first
              | (go_at_call 32; with_reducible refine (toUrl_any S H P Q n a _).mono ?_; rintro e w3 ⟨rfl, hb3⟩)
              | (go_at_call 32; with_reducible refine (toUrl_any S2 H2 P2 Q2 n2 a2 _).mono ?_; rintro e w4 ⟨rfl, hb4⟩)
              | (go_at_call 38; with_reducible refine (SP.out _).mono ?_; rintro e w5 ⟨rfl, hb5⟩))
        obtain ⟨u3', v3', hbx⟩ := (show (∀ i, w5.cell? ⟨w.heap.size, i, none⟩ = (#[.string S, .string H, .int .i64 n, .string P, .string Q, .bool a] : Array Value)[i]?) ∧ (∀ i, w5.cell? ⟨w.heap.size + 1, i, none⟩ = (#[.string S2, .string H2, .int .i64 n2, .string P2, .string Q2, .bool a2] : Array Value)[i]?) ∧ Below w2.heap.size w2 w5 from by assumption)
        have hB5 : Below w.heap.size w w5 := hB2.trans (hbx.mono hB2.size)
        have u1' := Nat.lt_of_lt_of_le u1 hbx.size
        have v1' := Nat.lt_of_lt_of_le v1 hbx.size
        clear hbx u1 u2 u3 v1 v2 v3 HU2 HV2 hB2
        go_wp2_with fail
        go_region_held (fun w' => (∀ i, w'.cell? ⟨w.heap.size, i, none⟩ = (#[.string S, .string H, .int .i64 n, .string P, .string Q, .bool a] : Array Value)[i]?) ∧ (∀ i, w'.cell? ⟨w.heap.size + 1, i, none⟩ = (#[.string S2, .string H2, .int .i64 n2, .string P2, .string Q2, .bool a2] : Array Value)[i]?) ∧ Below w5.heap.size w5 w')
            (first
              | exact ⟨u3', v3', keep_first w5⟩
              | assumption
              | exact keepB u1' v1' (by assumption) (by assumption))
            (first
              | (go_at_call 32; with_reducible refine (toUrl_any S H P Q n a _).mono ?_; rintro e w6 ⟨rfl, hb6⟩)
              | (go_at_call 32; with_reducible refine (toUrl_any S2 H2 P2 Q2 n2 a2 _).mono ?_; rintro e w7 ⟨rfl, hb7⟩)
              | (go_at_call 26; with_reducible refine (IM.out _ (hB5.trans (Below.mono (and3 (by assumption)) hB5.size))).mono ?_; rintro e w8 ⟨rfl, hb8⟩))
        have hbx := and3 (show (∀ i, w8.cell? ⟨w.heap.size, i, none⟩ = (#[.string S, .string H, .int .i64 n, .string P, .string Q, .bool a] : Array Value)[i]?) ∧ (∀ i, w8.cell? ⟨w.heap.size + 1, i, none⟩ = (#[.string S2, .string H2, .int .i64 n2, .string P2, .string Q2, .bool a2] : Array Value)[i]?) ∧ Below w5.heap.size w5 w8 from by assumption)
        have hB8 : Below w.heap.size w w8 := hB5.trans (hbx.mono hB5.size)
        go_wp2_with fail
        go_ret
        exact ⟨rfl, hB8⟩
      · have hs0 : (w.alloc (.cells #[.string S, .string H, .int .i64 n, .string P, .string Q, .bool a] 37)).heap.size = w.heap.size + 1 := by simp
        have hB0 : Below w.heap.size w ((w.alloc (.cells #[.string S, .string H, .int .i64 n, .string P, .string Q, .bool a] 37)).alloc (.cells #[.string S2, .string H2, .int .i64 n2, .string P2, .string Q2, .bool a2] 37)) := ((Below.refl _ _).alloc (Nat.le_refl _) _).alloc (by simp) _
        have HU0 : Hid _ := Blk.alloc (Blk.made w #[.string S, .string H, .int .i64 n, .string P, .string Q, .bool a] 37) (.cells #[.string S2, .string H2, .int .i64 n2, .string P2, .string Q2, .bool a2] 37)
        have V0 : Blk ((w.alloc (.cells #[.string S, .string H, .int .i64 n, .string P, .string Q, .bool a] 37)).alloc (.cells #[.string S2, .string H2, .int .i64 n2, .string P2, .string Q2, .bool a2] 37)) (w.heap.size + 1) #[.string S2, .string H2, .int .i64 n2, .string P2, .string Q2, .bool a2] := by rw [← hs0]; exact Blk.made _ _ _
        have HV0 : Hid _ := V0
        clear V0
        have SP : Hid _ := fun w => specSame_no2 S H P Q S2 H2 P2 Q2 n n2 a a2 w (by omega) (by omega) (by omega) (by omega) hg (by omega) (by omega) (by omega) (by omega) hg2
        have IM : Hid _ := fun w8 (t : Below w.heap.size w w8) => implSame_yn S H P Q S2 H2 P2 Q2 n n2 a a2 w8 m (hT.below t hgt) (tab_below htab t hpt) ((t.cell (p := ⟨1, 0, none⟩) hmt).trans hm) (by omega) (by omega) (by omega) (by omega) hg (by omega) (by omega) (by omega) (by omega) hg2
        go_enter Tryd.func13, Tryd.ntmps13
        go_wp2_with fail
        refine (sz_yes S H P Q n a 1048576 _ h (by decide)).mono ?_
        rintro e w1 ⟨rfl, hb1⟩
        have hU1 := Blk.below HU0.out hb1
        have hV1 := Blk.below HV0.out hb1
        have HU1 : Hid _ := hU1
        have HV1 : Hid _ := hV1
        have hB1 : Below w.heap.size w w1 := hB0.trans (hb1.mono hB0.size)
        clear hb1 hB0 HU0 HV0 hs0
        obtain ⟨u1, u2, u3⟩ := hU1
        obtain ⟨v1, v2, v3⟩ := hV1
        go_wp2_with fail
        refine (sz_at S2 H2 P2 Q2 n2 a2 (1048576 - S.size - H.size - P.size - Q.size) _ (by omega) _ h2 (by omega)).mono ?_
        rintro e w2 ⟨rfl, hb2⟩
        have hU2 := Blk.below HU1.out hb2
        have hV2 := Blk.below HV1.out hb2
        have HU2 : Hid _ := hU2
        have HV2 : Hid _ := hV2
        have hB2 : Below w.heap.size w w2 := hB1.trans (hb2.mono hB1.size)
        clear hb2 hB1 HU1 HV1 u1 u2 u3 v1 v2 v3
        obtain ⟨u1, u2, u3⟩ := hU2
        obtain ⟨v1, v2, v3⟩ := hV2
        go_wp2_with fail
        go_region_held (fun w' => (∀ i, w'.cell? ⟨w.heap.size, i, none⟩ = (#[.string S, .string H, .int .i64 n, .string P, .string Q, .bool a] : Array Value)[i]?) ∧ (∀ i, w'.cell? ⟨w.heap.size + 1, i, none⟩ = (#[.string S2, .string H2, .int .i64 n2, .string P2, .string Q2, .bool a2] : Array Value)[i]?) ∧ Below w2.heap.size w2 w')
            (first
              | exact ⟨u3, v3, keep_first w2⟩
              | assumption
              | exact keepB u1 v1 (by assumption) (by assumption))
            (first
              | (go_at_call 32; with_reducible refine (toUrl_any S H P Q n a _).mono ?_; rintro e w3 ⟨rfl, hb3⟩)
              | (go_at_call 32; with_reducible refine (toUrl_any S2 H2 P2 Q2 n2 a2 _).mono ?_; rintro e w4 ⟨rfl, hb4⟩)
              | (go_at_call 38; with_reducible refine (SP.out _).mono ?_; rintro e w5 ⟨rfl, hb5⟩))
        obtain ⟨u3', v3', hbx⟩ := (show (∀ i, w5.cell? ⟨w.heap.size, i, none⟩ = (#[.string S, .string H, .int .i64 n, .string P, .string Q, .bool a] : Array Value)[i]?) ∧ (∀ i, w5.cell? ⟨w.heap.size + 1, i, none⟩ = (#[.string S2, .string H2, .int .i64 n2, .string P2, .string Q2, .bool a2] : Array Value)[i]?) ∧ Below w2.heap.size w2 w5 from by assumption)
        have hB5 : Below w.heap.size w w5 := hB2.trans (hbx.mono hB2.size)
        have u1' := Nat.lt_of_lt_of_le u1 hbx.size
        have v1' := Nat.lt_of_lt_of_le v1 hbx.size
        clear hbx u1 u2 u3 v1 v2 v3 HU2 HV2 hB2
        go_wp2_with fail
        go_region_held (fun w' => (∀ i, w'.cell? ⟨w.heap.size, i, none⟩ = (#[.string S, .string H, .int .i64 n, .string P, .string Q, .bool a] : Array Value)[i]?) ∧ (∀ i, w'.cell? ⟨w.heap.size + 1, i, none⟩ = (#[.string S2, .string H2, .int .i64 n2, .string P2, .string Q2, .bool a2] : Array Value)[i]?) ∧ Below w5.heap.size w5 w')
            (first
              | exact ⟨u3', v3', keep_first w5⟩
              | assumption
              | exact keepB u1' v1' (by assumption) (by assumption))
            (first
              | (go_at_call 32; with_reducible refine (toUrl_any S H P Q n a _).mono ?_; rintro e w6 ⟨rfl, hb6⟩)
              | (go_at_call 32; with_reducible refine (toUrl_any S2 H2 P2 Q2 n2 a2 _).mono ?_; rintro e w7 ⟨rfl, hb7⟩)
              | (go_at_call 26; with_reducible refine (IM.out _ (hB5.trans (Below.mono (and3 (by assumption)) hB5.size))).mono ?_; rintro e w8 ⟨rfl, hb8⟩))
        have hbx := and3 (show (∀ i, w8.cell? ⟨w.heap.size, i, none⟩ = (#[.string S, .string H, .int .i64 n, .string P, .string Q, .bool a] : Array Value)[i]?) ∧ (∀ i, w8.cell? ⟨w.heap.size + 1, i, none⟩ = (#[.string S2, .string H2, .int .i64 n2, .string P2, .string Q2, .bool a2] : Array Value)[i]?) ∧ Below w5.heap.size w5 w8 from by assumption)
        have hB8 : Below w.heap.size w w8 := hB5.trans (hbx.mono hB5.size)
        go_wp2_with fail
        go_ret
        exact ⟨rfl, hB8⟩
      · have hs0 : (w.alloc (.cells #[.string S, .string H, .int .i64 n, .string P, .string Q, .bool a] 37)).heap.size = w.heap.size + 1 := by simp
        have hB0 : Below w.heap.size w ((w.alloc (.cells #[.string S, .string H, .int .i64 n, .string P, .string Q, .bool a] 37)).alloc (.cells #[.string S2, .string H2, .int .i64 n2, .string P2, .string Q2, .bool a2] 37)) := ((Below.refl _ _).alloc (Nat.le_refl _) _).alloc (by simp) _
        have HU0 : Hid _ := Blk.alloc (Blk.made w #[.string S, .string H, .int .i64 n, .string P, .string Q, .bool a] 37) (.cells #[.string S2, .string H2, .int .i64 n2, .string P2, .string Q2, .bool a2] 37)
        have V0 : Blk ((w.alloc (.cells #[.string S, .string H, .int .i64 n, .string P, .string Q, .bool a] 37)).alloc (.cells #[.string S2, .string H2, .int .i64 n2, .string P2, .string Q2, .bool a2] 37)) (w.heap.size + 1) #[.string S2, .string H2, .int .i64 n2, .string P2, .string Q2, .bool a2] := by rw [← hs0]; exact Blk.made _ _ _
        have HV0 : Hid _ := V0
        clear V0
        have SP : Hid _ := fun w => specSame_yes S H P Q S2 H2 P2 Q2 n n2 a a2 w (by omega) (by omega) (by omega) (by omega) hg (by omega) (by omega) (by omega) (by omega) hg2
        have IM : Hid _ := fun w8 (t : Below w.heap.size w w8) => implSame_yy S H P Q S2 H2 P2 Q2 n n2 a a2 w8 m (hT.below t hgt) (tab_below htab t hpt) ((t.cell (p := ⟨1, 0, none⟩) hmt).trans hm) (by omega) (by omega) (by omega) (by omega) hg (by omega) (by omega) (by omega) (by omega) hg2
        go_enter Tryd.func13, Tryd.ntmps13
        go_wp2_with fail
        refine (sz_yes S H P Q n a 1048576 _ h (by decide)).mono ?_
        rintro e w1 ⟨rfl, hb1⟩
        have hU1 := Blk.below HU0.out hb1
        have hV1 := Blk.below HV0.out hb1
        have HU1 : Hid _ := hU1
        have HV1 : Hid _ := hV1
        have hB1 : Below w.heap.size w w1 := hB0.trans (hb1.mono hB0.size)
        clear hb1 hB0 HU0 HV0 hs0
        obtain ⟨u1, u2, u3⟩ := hU1
        obtain ⟨v1, v2, v3⟩ := hV1
        go_wp2_with fail
        refine (sz_at S2 H2 P2 Q2 n2 a2 (1048576 - S.size - H.size - P.size - Q.size) _ (by omega) _ h2 (by omega)).mono ?_
        rintro e w2 ⟨rfl, hb2⟩
        have hU2 := Blk.below HU1.out hb2
        have hV2 := Blk.below HV1.out hb2
        have HU2 : Hid _ := hU2
        have HV2 : Hid _ := hV2
        have hB2 : Below w.heap.size w w2 := hB1.trans (hb2.mono hB1.size)
        clear hb2 hB1 HU1 HV1 u1 u2 u3 v1 v2 v3
        obtain ⟨u1, u2, u3⟩ := hU2
        obtain ⟨v1, v2, v3⟩ := hV2
        go_wp2_with fail
        go_region_held (fun w' => (∀ i, w'.cell? ⟨w.heap.size, i, none⟩ = (#[.string S, .string H, .int .i64 n, .string P, .string Q, .bool a] : Array Value)[i]?) ∧ (∀ i, w'.cell? ⟨w.heap.size + 1, i, none⟩ = (#[.string S2, .string H2, .int .i64 n2, .string P2, .string Q2, .bool a2] : Array Value)[i]?) ∧ Below w2.heap.size w2 w')
            (first
              | exact ⟨u3, v3, keep_first w2⟩
              | assumption
              | exact keepB u1 v1 (by assumption) (by assumption))
            (first
              | (go_at_call 32; with_reducible refine (toUrl_any S H P Q n a _).mono ?_; rintro e w3 ⟨rfl, hb3⟩)
              | (go_at_call 32; with_reducible refine (toUrl_any S2 H2 P2 Q2 n2 a2 _).mono ?_; rintro e w4 ⟨rfl, hb4⟩)
              | (go_at_call 38; with_reducible refine (SP.out _).mono ?_; rintro e w5 ⟨rfl, hb5⟩))
        obtain ⟨u3', v3', hbx⟩ := (show (∀ i, w5.cell? ⟨w.heap.size, i, none⟩ = (#[.string S, .string H, .int .i64 n, .string P, .string Q, .bool a] : Array Value)[i]?) ∧ (∀ i, w5.cell? ⟨w.heap.size + 1, i, none⟩ = (#[.string S2, .string H2, .int .i64 n2, .string P2, .string Q2, .bool a2] : Array Value)[i]?) ∧ Below w2.heap.size w2 w5 from by assumption)
        have hB5 : Below w.heap.size w w5 := hB2.trans (hbx.mono hB2.size)
        have u1' := Nat.lt_of_lt_of_le u1 hbx.size
        have v1' := Nat.lt_of_lt_of_le v1 hbx.size
        clear hbx u1 u2 u3 v1 v2 v3 HU2 HV2 hB2
        go_wp2_with fail
        go_region_held (fun w' => (∀ i, w'.cell? ⟨w.heap.size, i, none⟩ = (#[.string S, .string H, .int .i64 n, .string P, .string Q, .bool a] : Array Value)[i]?) ∧ (∀ i, w'.cell? ⟨w.heap.size + 1, i, none⟩ = (#[.string S2, .string H2, .int .i64 n2, .string P2, .string Q2, .bool a2] : Array Value)[i]?) ∧ Below w5.heap.size w5 w')
            (first
              | exact ⟨u3', v3', keep_first w5⟩
              | assumption
              | exact keepB u1' v1' (by assumption) (by assumption))
            (first
              | (go_at_call 32; with_reducible refine (toUrl_any S H P Q n a _).mono ?_; rintro e w6 ⟨rfl, hb6⟩)
              | (go_at_call 32; with_reducible refine (toUrl_any S2 H2 P2 Q2 n2 a2 _).mono ?_; rintro e w7 ⟨rfl, hb7⟩)
              | (go_at_call 26; with_reducible refine (IM.out _ (hB5.trans (Below.mono (and3 (by assumption)) hB5.size))).mono ?_; rintro e w8 ⟨rfl, hb8⟩))
        have hbx := and3 (show (∀ i, w8.cell? ⟨w.heap.size, i, none⟩ = (#[.string S, .string H, .int .i64 n, .string P, .string Q, .bool a] : Array Value)[i]?) ∧ (∀ i, w8.cell? ⟨w.heap.size + 1, i, none⟩ = (#[.string S2, .string H2, .int .i64 n2, .string P2, .string Q2, .bool a2] : Array Value)[i]?) ∧ Below w5.heap.size w5 w8 from by assumption)
        have hB8 : Below w.heap.size w w8 := hB5.trans (hbx.mono hB5.size)
        go_wp2_with fail
        go_ret
        exact ⟨ret_bool (by first | rfl | simp), hB8⟩
    · have hs0 : (w.alloc (.cells #[.string S, .string H, .int .i64 n, .string P, .string Q, .bool a] 37)).heap.size = w.heap.size + 1 := by simp
      have hB0 : Below w.heap.size w ((w.alloc (.cells #[.string S, .string H, .int .i64 n, .string P, .string Q, .bool a] 37)).alloc (.cells #[.string S2, .string H2, .int .i64 n2, .string P2, .string Q2, .bool a2] 37)) := ((Below.refl _ _).alloc (Nat.le_refl _) _).alloc (by simp) _
      have HU0 : Hid _ := Blk.alloc (Blk.made w #[.string S, .string H, .int .i64 n, .string P, .string Q, .bool a] 37) (.cells #[.string S2, .string H2, .int .i64 n2, .string P2, .string Q2, .bool a2] 37)
      have V0 : Blk ((w.alloc (.cells #[.string S, .string H, .int .i64 n, .string P, .string Q, .bool a] 37)).alloc (.cells #[.string S2, .string H2, .int .i64 n2, .string P2, .string Q2, .bool a2] 37)) (w.heap.size + 1) #[.string S2, .string H2, .int .i64 n2, .string P2, .string Q2, .bool a2] := by rw [← hs0]; exact Blk.made _ _ _
      have HV0 : Hid _ := V0
      clear V0
      go_enter Tryd.func13, Tryd.ntmps13
      go_wp2_with fail
      refine (sz_yes S H P Q n a 1048576 _ h (by decide)).mono ?_
      rintro e w1 ⟨rfl, hb1⟩
      have hU1 := Blk.below HU0.out hb1
      have hV1 := Blk.below HV0.out hb1
      have HU1 : Hid _ := hU1
      have HV1 : Hid _ := hV1
      have hB1 : Below w.heap.size w w1 := hB0.trans (hb1.mono hB0.size)
      clear hb1 hB0 HU0 HV0 hs0
      obtain ⟨u1, u2, u3⟩ := hU1
      obtain ⟨v1, v2, v3⟩ := hV1
      go_wp2_with fail
      refine (sz_off S2 H2 P2 Q2 n2 a2 (1048576 - S.size - H.size - P.size - Q.size) _ (by omega) _ hS2 hH2 hP2 hQ2 h2 (by omega)).mono ?_
      rintro e w2 ⟨rfl, hb2⟩
      have hB2 : Below w.heap.size w w2 := hB1.trans (hb2.mono hB1.size)
      go_wp2_with fail
      go_ret
      exact ⟨rfl, hB2⟩
  · have hs0 : (w.alloc (.cells #[.string S, .string H, .int .i64 n, .string P, .string Q, .bool a] 37)).heap.size = w.heap.size + 1 := by simp
    have hB0 : Below w.heap.size w ((w.alloc (.cells #[.string S, .string H, .int .i64 n, .string P, .string Q, .bool a] 37)).alloc (.cells #[.string S2, .string H2, .int .i64 n2, .string P2, .string Q2, .bool a2] 37)) := ((Below.refl _ _).alloc (Nat.le_refl _) _).alloc (by simp) _
    have HU0 : Hid _ := Blk.alloc (Blk.made w #[.string S, .string H, .int .i64 n, .string P, .string Q, .bool a] 37) (.cells #[.string S2, .string H2, .int .i64 n2, .string P2, .string Q2, .bool a2] 37)
    have V0 : Blk ((w.alloc (.cells #[.string S, .string H, .int .i64 n, .string P, .string Q, .bool a] 37)).alloc (.cells #[.string S2, .string H2, .int .i64 n2, .string P2, .string Q2, .bool a2] 37)) (w.heap.size + 1) #[.string S2, .string H2, .int .i64 n2, .string P2, .string Q2, .bool a2] := by rw [← hs0]; exact Blk.made _ _ _
    have HV0 : Hid _ := V0
    clear V0
    go_enter Tryd.func13, Tryd.ntmps13
    go_wp2_with fail
    refine (sz_no S H P Q n a 1048576 _ hS hH hP hQ h (by decide)).mono ?_
    rintro e w1 ⟨rfl, hb1⟩
    have hB1 : Below w.heap.size w w1 := hB0.trans (hb1.mono hB0.size)
    go_wp2_with fail
    go_ret
    exact ⟨rfl, hB1⟩

end Go.Proofs.YtlgjgdpalflmfaaDoor.Sul
