/-
  Walks: the law FnExactNormalUrl.
-/
import Derived.Test.YtlgjgdpalflmfaaDoorNrs
import Derived.Test.YtlgjgdpalflmfaaDoorLwu
import Derived.ProofKit
namespace Go.Proofs.YtlgjgdpalflmfaaDoor.Nul
open Go.ChangeShapes Go.WideShapes Go.ChangeAt Go.RowKit
open Go.Proofs.YtlgjgdpalflmfaaDoor.Byt
open Go.Proofs.YtlgjgdpalflmfaaDoor.Hex
open Go.Proofs.YtlgjgdpalflmfaaDoor.Txt
open Go.Proofs.YtlgjgdpalflmfaaDoor.Gud
open Go.Proofs.YtlgjgdpalflmfaaDoor.Lwu
open Go.Proofs.YtlgjgdpalflmfaaDoor.Pln
open Go.Proofs.YtlgjgdpalflmfaaDoor.Low
open Go.Proofs.YtlgjgdpalflmfaaDoor.Nrm

theorem maxLen_cell {W : World} (h : W.ShapedOpen Tryd.prog) : ∃ m, W.cell? ⟨1, 0, none⟩ = some (.int .i64 m) :=
  Go.Proofs.cell_of_shapedOpen_int (zero := #[.int .i64 0]) (t := 3) h (of_decide_eq_true (by kernel_rfl)) (by kernel_rfl) rfl (by kernel_rfl) (by kernel_rfl) Tryd.underlying3
theorem eqUrl_same (S H P Q : ByteArray) (n : Int) (a : Bool) (w : World) :
    Calls Tryd.prog 34 #[.agg #[.string S, .string H, .int .i64 n, .string P, .string Q, .bool a], .agg #[.string S, .string H, .int .i64 n, .string P, .string Q, .bool a]] w fun e w' => e = .returned (.bool true) ∧ Below w.heap.size w w' := by
  go_enter Tryd.func34, Tryd.ntmps34
  go_wp2
  go_ret
  exact ⟨rfl, ((Below.refl _ _).alloc (Nat.le_refl _) _).alloc (by simp) _⟩
set_option maxRecDepth 20000 in
set_option maxHeartbeats 3200000 in
theorem walk (S H P Q : ByteArray) (n : Int) (a : Bool) (w : World) (hT : Tab w) (htab : Lib.TabIs Tryd.prog w "internal/strconv.uint64pow10" .u64 Lib.pow10Tab) (hsh : w.ShapedOpen Tryd.prog) (hS : S.size ≤ maxLen) (hH : H.size ≤ maxLen) (hP : P.size ≤ maxLen) (hQ : Q.size ≤ maxLen) :
    Calls Tryd.prog 8 #[.agg #[.string S, .string H, .int .i64 n, .string P, .string Q, .bool a]] w fun e w' => e = .returned (.bool true) ∧ Below w.heap.size w w' := by
  obtain ⟨m, hm⟩ := maxLen_cell hsh
  clear hsh
  by_cases h : S.size + H.size + P.size + Q.size ≤ 1048576
  · clear hS hH hP hQ
    have hT0 := hT.alloc (.cells #[.string S, .string H, .int .i64 n, .string P, .string Q, .bool a] 37)
    have ht0 := tab_alloc htab (.cells #[.string S, .string H, .int .i64 n, .string P, .string Q, .bool a] 37)
    have hfin : Below w.heap.size w (w.alloc (.cells #[.string S, .string H, .int .i64 n, .string P, .string Q, .bool a] 37)) := (Below.refl _ _).alloc (Nat.le_refl _) _
    have hm0 := (hfin.cell (p := ⟨1, 0, none⟩) (World.block_lt_of_cell? w _ hm)).trans hm
    have hgt := hT0.lt
    have hpt := tab_lt ht0
    have hmt := World.block_lt_of_cell? _ _ hm0
    have hz : w.heap.size ≤ (w.alloc (.cells #[.string S, .string H, .int .i64 n, .string P, .string Q, .bool a] 37)).heap.size := by simp
    have HU0 : Hid _ := Blk.made w #[.string S, .string H, .int .i64 n, .string P, .string Q, .bool a] 37
    cases hg : goodB S H n P Q a
    · go_enter Tryd.func8, Tryd.ntmps8
      go_wp2_with fail
      refine (sz_yes S H P Q n a 1048576 _ h (by decide)).mono ?_
      rintro e w1 ⟨rfl, hb1⟩
      have hU1 := Blk.below HU0.out hb1
      obtain ⟨u1, u2, u3⟩ := hU1
      go_wp2_with fail
      refine (toUrl_any S H P Q n a _).mono ?_
      rintro e w2 ⟨rfl, hb2'⟩
      have hb2 := hb1.trans (hb2'.mono hb1.size)
      have HU2 : Hid _ := Blk.below (⟨u1, u2, u3⟩ : Blk w1 w.heap.size _) hb2'
      clear hb2' hb1 u1 u2 u3
      go_wp2_with fail
      refine (specNorm_no S H P Q n a _ (by omega) (by omega) (by omega) (by omega) hg).mono ?_
      rintro e w3 ⟨rfl, hb3'⟩
      have hb3 := hb2.trans (hb3'.mono hb2.size)
      have HU3 : Hid _ := Blk.alloc (Blk.below HU2.out hb3') (.cells #[.string ⟨#[]⟩, .string ⟨#[]⟩, .int .i64 0, .string ⟨#[]⟩, .string ⟨#[]⟩, .bool false] 24)
      have HW3 : Hid _ := Blk.made w3 #[.string ⟨#[]⟩, .string ⟨#[]⟩, .int .i64 0, .string ⟨#[]⟩, .string ⟨#[]⟩, .bool false] 24
      have HU3' := Blk.below HU2.out hb3'
      have hb3a := hb3.alloc hb3.size (.cells #[.string ⟨#[]⟩, .string ⟨#[]⟩, .int .i64 0, .string ⟨#[]⟩, .string ⟨#[]⟩, .bool false] 24)
      clear hb3' hb2 HU2
      obtain ⟨u1, u2, u3⟩ := HU3'
      go_wp2_with fail
      refine (toUrl_any S H P Q n a _).mono ?_
      rintro e w4 ⟨rfl, hb4'⟩
      have HW4 : Hid (Blk w4 w3.heap.size #[.string ⟨#[]⟩, .string ⟨#[]⟩, .int .i64 0, .string ⟨#[]⟩, .string ⟨#[]⟩, .bool false]) := Blk.below HW3.out hb4'
      have hb4 := hb3a.trans (hb4'.mono hb3a.size)
      clear hb4' hb3a hb3 u1 u2 u3 HW3 HU3
      go_wp2_with fail
      refine (implNorm_no S H P Q n a _ (hT0.below hb4 hgt) (tab_below ht0 hb4 hpt) (by omega) (by omega) (by omega) (by omega) hg).mono ?_
      rintro e w5 ⟨rfl, hb5'⟩
      have hW5 := Blk.below HW4.out hb5'
      have hb5 := hb4.trans (hb5'.mono hb4.size)
      clear hb5' hb4 HW4
      obtain ⟨x1, x2, x3⟩ := hW5
      go_wp2_with fail
      refine (eqUrl_same ⟨#[]⟩ ⟨#[]⟩ ⟨#[]⟩ ⟨#[]⟩ 0 false _).mono ?_
      rintro e w6 ⟨rfl, hb6'⟩
      have hb6 := (hb5.alloc hb5.size _).trans (hb6'.mono (by have := hb5.size; simp; omega))
      go_wp2_with fail
      go_ret
      exact ⟨rfl, hfin.trans (hb6.mono hz)⟩
    · have SP := fun w => specNorm_yes S H P Q n a w (by omega) (by omega) (by omega) (by omega) hg
      have IM := fun w c1 c2 c3 => implNorm_yes S H P Q n a m w c1 c2 c3 (by omega) (by omega) (by omega) (by omega) hg
      obtain ⟨L, hL⟩ : ∃ L, L = lowS H := ⟨_, rfl⟩
      obtain ⟨N, hN⟩ : ∃ N, N = portI S n := ⟨_, rfl⟩
      obtain ⟨D, hD⟩ : ∃ D, D = dotB (plnB P) := ⟨_, rfl⟩
      obtain ⟨F, hF⟩ : ∃ F, F = plnB Q := ⟨_, rfl⟩
      rw [← hL, ← hN, ← hD, ← hF] at SP IM
      clear hL hN hD hF
      have SP : Hid _ := SP
      have IM : Hid _ := IM
      go_enter Tryd.func8, Tryd.ntmps8
      go_wp2_with fail
      refine (sz_yes S H P Q n a 1048576 _ h (by decide)).mono ?_
      rintro e w1 ⟨rfl, hb1⟩
      have hU1 := Blk.below HU0.out hb1
      obtain ⟨u1, u2, u3⟩ := hU1
      go_wp2_with fail
      refine (toUrl_any S H P Q n a _).mono ?_
      rintro e w2 ⟨rfl, hb2'⟩
      have hb2 := hb1.trans (hb2'.mono hb1.size)
      have HU2 : Hid _ := Blk.below (⟨u1, u2, u3⟩ : Blk w1 w.heap.size _) hb2'
      clear hb2' hb1 u1 u2 u3
      go_wp2_with fail
      refine (SP.out _).mono ?_
      rintro e w3 ⟨rfl, hb3'⟩
      have hb3 := hb2.trans (hb3'.mono hb2.size)
      have HU3 : Hid _ := Blk.alloc (Blk.below HU2.out hb3') (.cells #[.string S, .string L, .int .i64 N, .string D, .string F, .bool a] 24)
      have HW3 : Hid _ := Blk.made w3 #[.string S, .string L, .int .i64 N, .string D, .string F, .bool a] 24
      have HU3' := Blk.below HU2.out hb3'
      have hb3a := hb3.alloc hb3.size (.cells #[.string S, .string L, .int .i64 N, .string D, .string F, .bool a] 24)
      clear hb3' hb2 HU2
      obtain ⟨u1, u2, u3⟩ := HU3'
      go_wp2_with fail
      refine (toUrl_any S H P Q n a _).mono ?_
      rintro e w4 ⟨rfl, hb4'⟩
      have HW4 : Hid (Blk w4 w3.heap.size #[.string S, .string L, .int .i64 N, .string D, .string F, .bool a]) := Blk.below HW3.out hb4'
      have hb4 := hb3a.trans (hb4'.mono hb3a.size)
      clear hb4' hb3a hb3 u1 u2 u3 HW3 HU3
      go_wp2_with fail
      refine (IM.out _ (hT0.below hb4 hgt) (tab_below ht0 hb4 hpt) ((hb4.cell (p := ⟨1, 0, none⟩) hmt).trans hm0)).mono ?_
      rintro e w5 ⟨rfl, hb5'⟩
      have hW5 := Blk.below HW4.out hb5'
      have hb5 := hb4.trans (hb5'.mono hb4.size)
      clear hb5' hb4 HW4
      obtain ⟨x1, x2, x3⟩ := hW5
      go_wp2_with fail
      refine (eqUrl_same S L D F N a _).mono ?_
      rintro e w6 ⟨rfl, hb6'⟩
      have hb6 := (hb5.alloc hb5.size _).trans (hb6'.mono (by have := hb5.size; simp; omega))
      go_wp2_with fail
      go_ret
      exact ⟨rfl, hfin.trans (hb6.mono hz)⟩
  · have hfin : Below w.heap.size w (w.alloc (.cells #[.string S, .string H, .int .i64 n, .string P, .string Q, .bool a] 37)) := (Below.refl _ _).alloc (Nat.le_refl _) _
    have hz : w.heap.size ≤ (w.alloc (.cells #[.string S, .string H, .int .i64 n, .string P, .string Q, .bool a] 37)).heap.size := by simp
    go_enter Tryd.func8, Tryd.ntmps8
    go_wp2_with fail
    refine (sz_no S H P Q n a 1048576 _ hS hH hP hQ h (by decide)).mono ?_
    rintro e w1 ⟨rfl, hb1⟩
    go_wp2
    go_ret
    exact ⟨rfl, hfin.trans (hb1.mono hz)⟩

end Go.Proofs.YtlgjgdpalflmfaaDoor.Nul
