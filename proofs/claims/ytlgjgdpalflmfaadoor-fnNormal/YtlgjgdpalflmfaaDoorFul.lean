/-
  Walks: the law FnUrls.
-/
import Derived.Test.YtlgjgdpalflmfaaDoorDrx
import Derived.Test.YtlgjgdpalflmfaaDoorUtl
import Derived.Test.YtlgjgdpalflmfaaDoorRtp
import Derived.Test.YtlgjgdpalflmfaaDoorPeq
import Derived.Test.YtlgjgdpalflmfaaDoorDec
import Derived.Test.YtlgjgdpalflmfaaDoorSam
namespace Go.Proofs.YtlgjgdpalflmfaaDoor.Ful
open Go.RowKit
open Go.Proofs.YtlgjgdpalflmfaaDoor.Byt Go.Proofs.YtlgjgdpalflmfaaDoor.Hex Go.Proofs.YtlgjgdpalflmfaaDoor.Enc Go.Proofs.YtlgjgdpalflmfaaDoor.Peq Go.Proofs.YtlgjgdpalflmfaaDoor.Txt Go.Proofs.YtlgjgdpalflmfaaDoor.Gud Go.Proofs.YtlgjgdpalflmfaaDoor.Rdm Go.Proofs.YtlgjgdpalflmfaaDoor.Rdi Go.Proofs.YtlgjgdpalflmfaaDoor.Rtp
open Go.Proofs.YtlgjgdpalflmfaaDoor.Spl (partsV)
open Go.Proofs.YtlgjgdpalflmfaaDoor.Dec (implDec_any)
open Go.Proofs.YtlgjgdpalflmfaaDoor.Cur (CodeArg drawText_any drawEnc_any)
open Go.Proofs.YtlgjgdpalflmfaaDoor.Nrm (Blk Blk.made Blk.below Blk.alloc)

theorem ret_bool {a b : Bool} (h : a = b) : Ending.returned (.bool a) = .returned (.bool b) := by rw [h]

/-- What is encoded comes back. -/
theorem enc_dec (T : ByteArray) : (encOk T.data.toList = false → encS T.data.toList = ⟨#[]⟩) ∧
    (encOk T.data.toList = true → decS (encS T.data.toList).data.toList = T ∧ decB (encS T.data.toList).data.toList = true ∧ (encS T.data.toList).size ≤ 2000000 ∧ T.size ≤ (encS T.data.toList).size) := by
  unfold encOk encS
  by_cases h : 60 < T.data.toList.length
  · rw [decide_eq_true h, if_pos h]
    exact ⟨fun _ => rfl, fun h => (by cases h)⟩
  · rw [decide_eq_false h, if_neg h]
    refine ⟨fun h => (by cases h), fun _ => ?_⟩
    have hd := decSB_some (dec_back (l := T.data.toList) (by omega))
    have hl := encL_len T.data.toList
    have hg := enc_ge T.data.toList
    have hs : (ByteArray.mk (encL T.data.toList).toArray).size = (encL T.data.toList).length := by simp [ByteArray.size]
    have ht : T.data.toList.length = T.size := by simp
    refine ⟨?_, ?_, by rw [hs]; omega, by rw [hs]; omega⟩
    · show decS (encL T.data.toList).toArray.toList = T
      simpa using hd.1
    · show decB (encL T.data.toList).toArray.toList = true
      simpa using hd.2

/-- A good address has a text from which it comes back. -/
theorem good_text {S H P Q : ByteArray} {n : Int} {a : Bool} (hg : goodB S H n P Q a = true) : readB (utS S H n P Q a) = some (S, H, n.toNat, P, Q, a) ∧ ((n.toNat : Nat) : Int) = n := by
  have hn : 0 ≤ n := by
    have hg' := hg
    unfold goodB at hg'
    simp only [Bool.and_eq_true, decide_eq_true_eq] at hg'
    exact hg'.1.1.1.1.1.2.1
  have e : ((n.toNat : Nat) : Int) = n := Int.toNat_of_nonneg hn
  refine ⟨?_, e⟩
  unfold utS
  rw [if_pos hg]
  exact read_back (by rw [e]; exact hg)

theorem url_ne (S H P Q : ByteArray) (n : Int) (a : Bool) (wx : World) :
    (binOp .neq 24 (.agg #[.string S, .string H, .int .i64 n, .string P, .string Q, .bool a]) (.agg #[.string S, .string H, .int .i64 n, .string P, .string Q, .bool a])).run Tryd.prog wx = .ok (.bool false) wx := by
  simp [go_sem]

set_option maxHeartbeats 3200000 in
theorem walk (u v : Value) (n k : Nat) (w : World) (hU : CodeArg w u n) (hV : CodeArg w v k) (hn : n ≤ 140737488355328) (hk : k ≤ 140737488355328) (hT : Tab w) (htab : Lib.TabIs Tryd.prog w "internal/strconv.uint64pow10" .u64 Lib.pow10Tab) (m : Int) (hm : w.cell? ⟨1, 0, none⟩ = some (.int .i64 m)) :
    Calls Tryd.prog 3 #[u, v] w fun e w' => e = .returned (.bool true) ∧ Below w.heap.size w w' := by
  obtain ⟨o, c, rfl⟩ := hU.form
  obtain ⟨o', c', rfl⟩ := hV.form
  have hgt := hT.lt
  have hpt := tab_lt htab
  have hmt := World.block_lt_of_cell? _ _ hm
  have HM : Hid (w.cell? ⟨1, 0, none⟩ = some (.int .i64 m)) := hm
  clear hm
  by_cases hs : n + k ≤ 1048576
  · have HU : Hid _ := hU
    have HV : Hid _ := hV
    clear hU hV
    go_enter Tryd.func3, Tryd.ntmps3
    go_wp2_with fail
    refine (drawText_any _ n _ HU.out (by omega)).mono ?_
    rintro e w1 ⟨S, H, n2, P, Q, a, rfl, ⟨z1, z2, z3, z4⟩, hb1⟩
    have HB1 : Hid _ := Blk.made w1 #[.string S, .string H, .int .i64 n2, .string P, .string Q, .bool a] 24
    have hb1a := hb1.alloc hb1.size (.cells #[.string S, .string H, .int .i64 n2, .string P, .string Q, .bool a] 24)
    clear hb1
    have I2 := fun w h1 h2 => implUt_any S H P Q n2 a w h1 h2 (by omega) (by omega) (by omega) (by omega)
    have S3 := fun w => specUt_any S H P Q n2 a w (by omega) (by omega) (by omega) (by omega)
    have G4 := fun w h1 h2 => implGood_any S H P Q n2 a w h1 h2 (by omega) (by omega) (by omega) (by omega)
    have hgd := fun h => good_text (S := S) (H := H) (P := P) (Q := Q) (n := n2) (a := a) h
    obtain ⟨U, hUe⟩ : ∃ U, U = utS S H n2 P Q a := ⟨_, rfl⟩
    obtain ⟨g, hge⟩ : ∃ g, g = goodB S H n2 P Q a := ⟨_, rfl⟩
    rw [← hUe, ← hge] at I2 S3 hgd
    rw [← hge] at G4
    have HI2 : Hid _ := I2
    have HS3 : Hid _ := S3
    have HG4 : Hid _ := G4
    have HGD : Hid _ := hgd
    clear I2 S3 G4 hgd hUe hge
    go_wp2_with fail
    refine (HI2.out _ (hT.below hb1a hgt) (tab_below htab hb1a hpt)).mono ?_
    rintro e w2 ⟨rfl, hb2'⟩
    have hW2 := Blk.below HB1.out hb2'
    have hb2 := hb1a.trans (hb2'.mono hb1a.size)
    clear hb2' HB1 HI2
    obtain ⟨x1, x2, x3⟩ := hW2
    go_wp2_with fail
    refine (HS3.out _).mono ?_
    rintro e w3 ⟨rfl, hb3'⟩
    have hW3 := Blk.below (⟨x1, x2, x3⟩ : Blk w2 w1.heap.size #[.string S, .string H, .int .i64 n2, .string P, .string Q, .bool a]) hb3'
    have hb3 := hb2.trans (hb3'.mono hb2.size)
    clear hb3' HS3 x1 x2 x3
    obtain ⟨x1, x2, x3⟩ := hW3
    go_wp2_with fail
    refine (HG4.out _ (hT.below hb3 hgt) (tab_below htab hb3 hpt)).mono ?_
    rintro e w4 ⟨rfl, hb4'⟩
    have hW4 := Blk.below (⟨x1, x2, x3⟩ : Blk w3 w1.heap.size #[.string S, .string H, .int .i64 n2, .string P, .string Q, .bool a]) hb4'
    have hb4 := hb3.trans (hb4'.mono hb3.size)
    clear hb4' HG4 x1 x2 x3
    cases g
    · clear HGD hW4
      go_wp2_with fail
      refine (drawEnc_any _ k _ (CodeArg.below HV.out (Nat.le_refl _) hb4) (by omega)).mono ?_
      rintro e w5 ⟨T, rfl, hT5, hb5'⟩
      have hb5 := hb4.trans (hb5'.mono hb4.size)
      clear hb5'
      have hd := enc_dec T
      obtain ⟨E, f, hE⟩ : ∃ E f, E = encS T.data.toList ∧ f = encOk T.data.toList := ⟨_, _, rfl, rfl⟩
      have I6 := fun w h => implEnc_any T w h (by omega)
      have S6 := fun w => specEnc_any T w (by omega)
      rw [← hE.1, ← hE.2] at I6 S6 hd
      have HI6 : Hid _ := I6
      have HS6 : Hid _ := S6
      have HD : Hid _ := hd
      clear I6 S6 hE hd
      go_wp2_with fail
      refine (HI6.out _ (hT.below hb5 hgt)).mono ?_
      rintro e w6 ⟨rfl, hb6'⟩
      have hb6 := hb5.trans (hb6'.mono hb5.size)
      clear hb6'
      go_wp2_with fail
      refine (HS6.out _).mono ?_
      rintro e w7 ⟨rfl, hb7'⟩
      have hb7 := hb6.trans (hb7'.mono hb6.size)
      clear hb7' HI6 HS6
      cases f
      · have hz : E = ⟨#[]⟩ := HD.out.1 rfl
        subst hz
        clear HD
        go_wp2_with fail
        go_ret
        exact ⟨ret_bool (by first | rfl | simp), hb7⟩
      · obtain ⟨h1, h2, h3, h4⟩ := HD.out.2 rfl
        have I8 := fun w h => implDec_any E w h h3
        rw [h1, h2] at I8
        have HI8 : Hid _ := I8
        have hge : decide ((T.size : Int) ≤ (E.size : Int)) = true := decide_eq_true (by omega)
        clear I8 HD h1 h2
        go_wp2_with fail
        refine (HI8.out _ (hT.below hb7 hgt)).mono ?_
        rintro e w8 ⟨rfl, hb8'⟩
        have hb8 := hb7.trans (hb8'.mono hb7.size)
        go_wp2_with fail
        go_ret
        exact ⟨ret_bool (by first | rfl | simp), hb8⟩
    · obtain ⟨hrb, hn2⟩ := HGD.out rfl
      have R5 := fun w h1 h2 h3 => implRead_any U m w h1 h2 h3
      rw [hrb] at R5
      unfold partsV at R5
      simp only at R5
      rw [hn2] at R5
      have HR5 : Hid _ := R5
      have HE : Hid _ := url_ne S H P Q n2 a
      clear R5 HGD hrb hn2
      have HW4 : Hid _ := hW4
      clear hW4
      go_wp2_with fail
      refine (HR5.out _ (hT.below hb4 hgt) (tab_below htab hb4 hpt) ((hb4.cell (p := ⟨1, 0, none⟩) hmt).trans HM.out)).mono ?_
      rintro e w45 ⟨rfl, hb45'⟩
      have hW45 := Blk.below HW4.out hb45'
      have hb45 := hb4.trans (hb45'.mono hb4.size)
      have hW46 := Blk.alloc hW45 (.cells #[.string S, .string H, .int .i64 n2, .string P, .string Q, .bool a] 24)
      have hb46 := hb45.alloc hb45.size (.cells #[.string S, .string H, .int .i64 n2, .string P, .string Q, .bool a] 24)
      clear hb45' HR5 hW45 HW4
      obtain ⟨x1, x2, x3⟩ := hW46
      have hE := HE.out
      clear HE
      go_wp2_with fail
      refine (drawEnc_any _ k _ (CodeArg.below HV.out (Nat.le_refl _) hb46) (by omega)).mono ?_
      rintro e w5 ⟨T, rfl, hT5, hb5'⟩
      have hb5 := hb46.trans (hb5'.mono hb46.size)
      clear hb5'
      have hd := enc_dec T
      obtain ⟨E, f, hE⟩ : ∃ E f, E = encS T.data.toList ∧ f = encOk T.data.toList := ⟨_, _, rfl, rfl⟩
      have I6 := fun w h => implEnc_any T w h (by omega)
      have S6 := fun w => specEnc_any T w (by omega)
      rw [← hE.1, ← hE.2] at I6 S6 hd
      have HI6 : Hid _ := I6
      have HS6 : Hid _ := S6
      have HD : Hid _ := hd
      clear I6 S6 hE hd
      go_wp2_with fail
      refine (HI6.out _ (hT.below hb5 hgt)).mono ?_
      rintro e w6 ⟨rfl, hb6'⟩
      have hb6 := hb5.trans (hb6'.mono hb5.size)
      clear hb6'
      go_wp2_with fail
      refine (HS6.out _).mono ?_
      rintro e w7 ⟨rfl, hb7'⟩
      have hb7 := hb6.trans (hb7'.mono hb6.size)
      clear hb7' HI6 HS6
      cases f
      · have hz : E = ⟨#[]⟩ := HD.out.1 rfl
        subst hz
        clear HD
        go_wp2_with fail
        go_ret
        exact ⟨ret_bool (by first | rfl | simp), hb7⟩
      · obtain ⟨h1, h2, h3, h4⟩ := HD.out.2 rfl
        have I8 := fun w h => implDec_any E w h h3
        rw [h1, h2] at I8
        have HI8 : Hid _ := I8
        have hge : decide ((T.size : Int) ≤ (E.size : Int)) = true := decide_eq_true (by omega)
        clear I8 HD h1 h2
        go_wp2_with fail
        refine (HI8.out _ (hT.below hb7 hgt)).mono ?_
        rintro e w8 ⟨rfl, hb8'⟩
        have hb8 := hb7.trans (hb8'.mono hb7.size)
        go_wp2_with fail
        go_ret
        exact ⟨ret_bool (by first | rfl | simp), hb8⟩
  · have HU : Hid _ := hU
    have HV : Hid _ := hV
    clear hU hV
    go_enter Tryd.func3, Tryd.ntmps3
    go_wp2_with fail
    go_ret
    exact ⟨rfl, Below.refl _ _⟩

end Go.Proofs.YtlgjgdpalflmfaaDoor.Ful
