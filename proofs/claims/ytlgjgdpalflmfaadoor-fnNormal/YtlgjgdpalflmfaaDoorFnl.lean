/-
  Walks: the law FnNormal.
-/
import Derived.Test.YtlgjgdpalflmfaaDoorDrn
import Derived.Test.YtlgjgdpalflmfaaDoorFul
import Derived.Test.YtlgjgdpalflmfaaDoorNid
import Derived.Test.YtlgjgdpalflmfaaDoorSmi
import Derived.Test.YtlgjgdpalflmfaaDoorDdl
namespace Go.Proofs.YtlgjgdpalflmfaaDoor.Fnl
open Go.RowKit
open Go.Proofs.YtlgjgdpalflmfaaDoor.Byt Go.Proofs.YtlgjgdpalflmfaaDoor.Hex Go.Proofs.YtlgjgdpalflmfaaDoor.Txt Go.Proofs.YtlgjgdpalflmfaaDoor.Gud Go.Proofs.YtlgjgdpalflmfaaDoor.Low Go.Proofs.YtlgjgdpalflmfaaDoor.Pln Go.Proofs.YtlgjgdpalflmfaaDoor.Nrm Go.Proofs.YtlgjgdpalflmfaaDoor.Sam Go.Proofs.YtlgjgdpalflmfaaDoor.Nid
open Go.Proofs.YtlgjgdpalflmfaaDoor.Idd (ddS ddB implDd_any specDd_any pre_cases)
open Go.Proofs.YtlgjgdpalflmfaaDoor.Ful (ret_bool url_ne)
open Go.Proofs.YtlgjgdpalflmfaaDoor.Cur (CodeArg drawNorm_any drawDots_any)

theorem same_true (S H P Q : ByteArray) (n : Int) (a : Bool) : eqU S H P Q S H P Q n n a a = true := by
  unfold eqU; simp

/-- What DropDots answers: of a path that has lost its dots it is that. -/
theorem drop_facts (T : ByteArray) : (ddB T = false → ddS T = ⟨#[]⟩) ∧ (ddB T = true → ddS (ddS T) = ddS T ∧ ddB (ddS T) = true ∧ (ddS T).size ≤ 2000000 ∧ (ddS T).size ≤ T.size ∧ ∃ h : 0 < (ddS T).size, ((ddS T)[0].toNat : Int) = 47) := by
  refine ⟨fun h => by unfold ddS; rw [h]; rfl, fun h => ?_⟩
  have e : ddS T = dotB T := by unfold ddS dotB; rw [h]; rfl
  have hb : T.size ≤ 200 ∧ 1 ≤ T.size := by
    have h' := h
    unfold ddB at h'
    simp only [Bool.and_eq_true, decide_eq_true_eq] at h'
    refine ⟨h'.1, ?_⟩
    rcases pre_cases T with ⟨_, hz, _⟩ | ⟨hp, _⟩
    · omega
    · rw [hp] at h'; cases h'.2
  obtain ⟨d1, d2, r, d3⟩ := dot_again T
  have hz := d2 hb.2
  have hbb : ddB (dotB T) = true := by
    unfold ddB; rw [decide_eq_true (by omega), d3]; simp [Lib.hasPrefix, List.isPrefixOf]
  rw [e]
  refine ⟨?_, hbb, by omega, hz, ?_⟩
  · unfold ddS; rw [hbb]; exact d1
  · rcases pre_cases (dotB T) with ⟨_, h0, h1⟩ | ⟨hp, _⟩
    · exact ⟨h0, h1⟩
    · rw [d3] at hp; simp [Lib.hasPrefix, List.isPrefixOf] at hp

theorem path_short {S H P Q : ByteArray} {n : Int} {a : Bool} (hg : goodB S H n P Q a = true) : H.size ≤ 2000000 ∧ P.size ≤ 200 ∧ Q.size ≤ 2000000 := by
  obtain ⟨q, hq⟩ : ∃ q, q = goodB S H n P Q a := ⟨_, rfl⟩
  unfold goodB at hg
  simp only [Bool.and_eq_true, decide_eq_true_eq, Bool.or_eq_true] at hg
  obtain ⟨⟨⟨⟨⟨⟨⟨hS, hH⟩, hn⟩, hP⟩, hcp⟩, hcq⟩, hQ⟩, hz⟩ := hg
  rw [text_size] at hz
  refine ⟨by omega, by omega, ?_⟩
  rcases hQ with h | h
  · rw [h] at hz; simp at hz; omega
  · have h0 : Q = ⟨#[]⟩ := by
      apply data_inj
      have := h
      rw [ByteArray.toList_eq] at this
      simpa using this
    rw [h0]; exact Nat.zero_le _

set_option maxHeartbeats 6400000 in
theorem walk (u v : Value) (n k : Nat) (w : World) (hU : CodeArg w u n) (hV : CodeArg w v k) (hn : n ≤ 140737488355328) (hk : k ≤ 140737488355328) (hT : Tab w) (htab : Lib.TabIs Tryd.prog w "internal/strconv.uint64pow10" .u64 Lib.pow10Tab) (m : Int) (hm : w.cell? ⟨1, 0, none⟩ = some (.int .i64 m)) :
    Calls Tryd.prog 4 #[u, v] w fun e w' => e = .returned (.bool true) ∧ Below w.heap.size w w' := by
  obtain ⟨o, c, rfl⟩ := hU.form
  obtain ⟨o', c', rfl⟩ := hV.form
  have hgt := hT.lt
  have hpt := tab_lt htab
  have hmt := World.block_lt_of_cell? _ _ hm
  have HM : Hid (w.cell? ⟨1, 0, none⟩ = some (.int .i64 m)) := hm
  clear hm
  by_cases hs : n + k ≤ 1048576
  · have HU : Hid _ := hU
    have HV : Hid _ := hV
    clear hU hV
    go_enter Tryd.func4, Tryd.ntmps4
    go_wp2_with fail
    refine (drawNorm_any _ n _ HU.out (by omega)).mono ?_
    rintro e w1 ⟨S, H, n2, P, Q, a, rfl, ⟨z1, z2, z3, z4⟩, hb1⟩
    have HU1 : Hid _ := Blk.made w1 #[.string S, .string H, .int .i64 n2, .string P, .string Q, .bool a] 24
    have hb1a := hb1.alloc hb1.size (.cells #[.string S, .string H, .int .i64 n2, .string P, .string Q, .bool a] 24)
    clear hb1
    cases hg : goodB S H n2 P Q a
    · have HI : Hid _ := fun (w : World) h1 h2 (_h3 : w.cell? ⟨1, 0, none⟩ = some (.int .i64 m)) => implNorm_no S H P Q n2 a w h1 h2 (by omega) (by omega) (by omega) (by omega) hg
      have HS : Hid _ := fun w => specNorm_no S H P Q n2 a w (by omega) (by omega) (by omega) (by omega) hg
      have HE : Hid _ := url_ne ⟨#[]⟩ ⟨#[]⟩ ⟨#[]⟩ ⟨#[]⟩ 0 false
      clear hg
      go_wp2_with fail
      refine (HI.out _ (hT.below hb1a hgt) (tab_below htab hb1a hpt) ((hb1a.cell (p := ⟨1, 0, none⟩) hmt).trans HM.out)).mono ?_
      rintro e w2 ⟨rfl, hb2'⟩
      have hU2 := Blk.alloc (Blk.below HU1.out hb2') (.cells #[.string ⟨#[]⟩, .string ⟨#[]⟩, .int .i64 0, .string ⟨#[]⟩, .string ⟨#[]⟩, .bool false] 24)
      have hb2 := hb1a.trans (hb2'.mono hb1a.size)
      have HN2 : Hid _ := Blk.made w2 #[.string ⟨#[]⟩, .string ⟨#[]⟩, .int .i64 0, .string ⟨#[]⟩, .string ⟨#[]⟩, .bool false] 24
      have hb2a := hb2.alloc hb2.size (.cells #[.string ⟨#[]⟩, .string ⟨#[]⟩, .int .i64 0, .string ⟨#[]⟩, .string ⟨#[]⟩, .bool false] 24)
      have HU2 : Hid _ := hU2
      clear hb2' hb2 HU1 HI
      obtain ⟨x1, x2, x3⟩ := hU2
      go_wp2_with fail
      refine (HS.out _).mono ?_
      rintro e w3 ⟨rfl, hb3'⟩
      have hU3 := Blk.alloc (Blk.below HU2.out hb3') (.cells #[.string ⟨#[]⟩, .string ⟨#[]⟩, .int .i64 0, .string ⟨#[]⟩, .string ⟨#[]⟩, .bool false] 24)
      have hN3 := Blk.alloc (Blk.below HN2.out hb3') (.cells #[.string ⟨#[]⟩, .string ⟨#[]⟩, .int .i64 0, .string ⟨#[]⟩, .string ⟨#[]⟩, .bool false] 24)
      have hb3 := hb2a.trans (hb3'.mono hb2a.size)
      have hb3a := hb3.alloc hb3.size (.cells #[.string ⟨#[]⟩, .string ⟨#[]⟩, .int .i64 0, .string ⟨#[]⟩, .string ⟨#[]⟩, .bool false] 24)
      have HU3 : Hid _ := hU3
      have HN3 : Hid _ := hN3
      clear hb3' hb3 HU2 HN2 HS x1 x2 x3 hU3
      obtain ⟨y1, y2, y3⟩ := hN3
      have hE := HE.out
      clear HE
      go_wp2_with fail
      refine (drawDots_any _ k _ (CodeArg.below HV.out (Nat.le_refl _) hb3a) (by omega)).mono ?_
      rintro e v1 ⟨T, rfl, hT5, hv1'⟩
      have hv1 := hb3a.trans (hv1'.mono hb3a.size)
      clear hv1'
      have I6 := fun w h => implDd_any T m w (by omega) h
      have S6 := fun w => specDd_any T w (by omega)
      have hd := drop_facts T
      obtain ⟨E, f, hE⟩ : ∃ E f, E = ddS T ∧ f = ddB T := ⟨_, _, rfl, rfl⟩
      rw [← hE.1, ← hE.2] at I6 S6 hd
      have HI6 : Hid _ := I6
      have HS6 : Hid _ := S6
      have HD : Hid _ := hd
      clear I6 S6 hE hd
      go_wp2_with fail
      refine (HI6.out _ ((hv1.cell (p := ⟨1, 0, none⟩) hmt).trans HM.out)).mono ?_
      rintro e v2 ⟨rfl, hv2'⟩
      have hv2 := hv1.trans (hv2'.mono hv1.size)
      clear hv2'
      go_wp2_with fail
      refine (HS6.out _).mono ?_
      rintro e v3 ⟨rfl, hv3'⟩
      have hv3 := hv2.trans (hv3'.mono hv2.size)
      clear hv3' HI6 HS6
      cases f
      · have hz : E = ⟨#[]⟩ := HD.out.1 rfl
        subst hz
        clear HD
        go_wp2_with fail
        go_ret
        exact ⟨ret_bool (by first | rfl | simp), hv3⟩
      · obtain ⟨h1, h2, h3, h4, h0, h5⟩ := HD.out.2 rfl
        have I8 := fun w h => implDd_any E m w h3 h
        rw [h1, h2] at I8
        have HI8 : Hid _ := I8
        have hge : decide ((E.size : Int) ≤ (T.size : Int)) = true := decide_eq_true (by omega)
        have h6 : ((E[0].toNat : Int) == 47) = true := by rw [h5]; rfl
        clear I8 HD h1 h2 h5
        go_wp2_with fail
        refine (HI8.out _ ((hv3.cell (p := ⟨1, 0, none⟩) hmt).trans HM.out)).mono ?_
        rintro e v4 ⟨rfl, hv4'⟩
        have hv4 := hv3.trans (hv4'.mono hv3.size)
        go_wp2_with fail
        go_ret
        exact ⟨ret_bool (by first | rfl | simp), hv4⟩
    · have I1 := fun w h1 h2 h3 => implNorm_yes S H P Q n2 a m w h1 h2 h3 (by omega) (by omega) (by omega) (by omega) hg
      have S1 := fun w => specNorm_yes S H P Q n2 a w (by omega) (by omega) (by omega) (by omega) hg
      obtain ⟨f1, f2, f3, f4, f5, f6⟩ := normal_facts hg
      obtain ⟨r1, r2, r3⟩ := path_short f1
      have A1 := fun w h1 h2 h3 => implNorm_yes S (lowS H) (dotB (plnB P)) (plnB Q) (portI S n2) a m w h1 h2 h3 (by omega) r1 (by omega) r3 f1
      have M1 := fun w h1 h2 h3 => implSame_yy S H P Q S (lowS H) (dotB (plnB P)) (plnB Q) n2 (portI S n2) a a w m h1 h2 h3 (by omega) (by omega) (by omega) (by omega) hg (by omega) r1 (by omega) r3 f1
      have G1 := fun w h1 h2 => implGood_any S (lowS H) (dotB (plnB P)) (plnB Q) (portI S n2) a w h1 h2 (by omega) r1 (by omega) r3
      have D1 := fun w h => implDd_any (dotB (plnB P)) m w (by omega) h
      have hdb : ddB (dotB (plnB P)) = true := by
        obtain ⟨_, _, r, d3⟩ := dot_again (plnB P)
        unfold ddB; rw [decide_eq_true r2, d3]; simp [Lib.hasPrefix, List.isPrefixOf]
      have hds : ddS (dotB (plnB P)) = dotB (plnB P) := by
        unfold ddS; rw [hdb]; exact f5
      rw [f2, f3, f4, f5, f6] at A1
      rw [f2, f3, f4, f5, f6, same_true] at M1
      rw [f1] at G1
      rw [hdb, hds] at D1
      clear f1 f2 f3 f4 f5 f6 hdb hds hg r1 r2 r3
      generalize lowS H = L at I1 S1 A1 M1 G1 D1
      generalize portI S n2 = N at I1 S1 A1 M1 G1 D1
      generalize dotB (plnB P) = D at I1 S1 A1 M1 G1 D1
      generalize plnB Q = F at I1 S1 A1 M1 G1 D1
      have HI : Hid _ := I1
      have HS : Hid _ := S1
      have HA : Hid _ := A1
      have HSm : Hid _ := M1
      have HG : Hid _ := G1
      have HDd : Hid _ := D1
      have HE : Hid _ := url_ne S L D F N a
      clear I1 S1 A1 M1 G1 D1
      go_wp2_with fail
      refine (HI.out _ (hT.below hb1a hgt) (tab_below htab hb1a hpt) ((hb1a.cell (p := ⟨1, 0, none⟩) hmt).trans HM.out)).mono ?_
      rintro e w2 ⟨rfl, hb2'⟩
      have hU2 := Blk.alloc (Blk.below HU1.out hb2') (.cells #[.string S, .string L, .int .i64 N, .string D, .string F, .bool a] 24)
      have hb2 := hb1a.trans (hb2'.mono hb1a.size)
      have HN2 : Hid _ := Blk.made w2 #[.string S, .string L, .int .i64 N, .string D, .string F, .bool a] 24
      have hb2a := hb2.alloc hb2.size (.cells #[.string S, .string L, .int .i64 N, .string D, .string F, .bool a] 24)
      have HU2 : Hid _ := hU2
      clear hb2' hb2 HU1 HI
      obtain ⟨x1, x2, x3⟩ := hU2
      go_wp2_with fail
      refine (HS.out _).mono ?_
      rintro e w3 ⟨rfl, hb3'⟩
      have hU3 := Blk.alloc (Blk.below HU2.out hb3') (.cells #[.string S, .string L, .int .i64 N, .string D, .string F, .bool a] 24)
      have hN3 := Blk.alloc (Blk.below HN2.out hb3') (.cells #[.string S, .string L, .int .i64 N, .string D, .string F, .bool a] 24)
      have hb3 := hb2a.trans (hb3'.mono hb2a.size)
      have hb3a := hb3.alloc hb3.size (.cells #[.string S, .string L, .int .i64 N, .string D, .string F, .bool a] 24)
      have HU3 : Hid _ := hU3
      have HN3 : Hid _ := hN3
      clear hb3' hb3 HU2 HN2 HS x1 x2 x3 hU3
      obtain ⟨y1, y2, y3⟩ := hN3
      have hE := HE.out
      go_wp2_with fail
      refine (HA.out _ (hT.below hb3a hgt) (tab_below htab hb3a hpt) ((hb3a.cell (p := ⟨1, 0, none⟩) hmt).trans HM.out)).mono ?_
      rintro e w4 ⟨rfl, hb4'⟩
      have hU4 := Blk.alloc (Blk.below HU3.out hb4') (.cells #[.string S, .string L, .int .i64 N, .string D, .string F, .bool a] 24)
      have hN4 := Blk.alloc (Blk.below HN3.out hb4') (.cells #[.string S, .string L, .int .i64 N, .string D, .string F, .bool a] 24)
      have HG4 : Hid _ := Blk.made w4 #[.string S, .string L, .int .i64 N, .string D, .string F, .bool a] 24
      have hb4 := hb3a.trans (hb4'.mono hb3a.size)
      have hb4a := hb4.alloc hb4.size (.cells #[.string S, .string L, .int .i64 N, .string D, .string F, .bool a] 24)
      have HN4 : Hid _ := hN4
      clear hb4' hb4 HU3 HN3 HA y1 y2 y3 hE
      obtain ⟨x1, x2, x3⟩ := hU4
      obtain ⟨y1, y2, y3⟩ := hN4
      go_wp2_with fail
      refine (HSm.out _ (hT.below hb4a hgt) (tab_below htab hb4a hpt) ((hb4a.cell (p := ⟨1, 0, none⟩) hmt).trans HM.out)).mono ?_
      rintro e w5 ⟨rfl, hb5'⟩
      have hN5 := Blk.below HN4.out hb5'
      have hG5 := Blk.below HG4.out hb5'
      have hb5 := hb4a.trans (hb5'.mono hb4a.size)
      have HN5 : Hid _ := hN5
      have HG5 : Hid _ := hG5
      clear hb5' HN4 HG4 HSm x1 x2 x3 y1 y2 y3 hG5
      obtain ⟨y1, y2, y3⟩ := hN5
      go_wp2_with fail
      refine (HDd.out _ ((hb5.cell (p := ⟨1, 0, none⟩) hmt).trans HM.out)).mono ?_
      rintro e w6 ⟨rfl, hb6'⟩
      have hN6 := Blk.below HN5.out hb6'
      have hG6 := Blk.below HG5.out hb6'
      have hb6 := hb5.trans (hb6'.mono hb5.size)
      clear hb6' HN5 HG5 HDd y1 y2 y3
      obtain ⟨y1, y2, y3⟩ := hN6
      obtain ⟨z1, z2, z3⟩ := hG6
      have hE := HE.out
      go_wp2_with fail
      refine (HG.out _ (hT.below hb6 hgt) (tab_below htab hb6 hpt)).mono ?_
      rintro e w7 ⟨rfl, hb7'⟩
      have hb7 := hb6.trans (hb7'.mono hb6.size)
      clear hb7' HG y1 y2 y3 z1 z2 z3 hE HE
      go_wp2_with fail
      refine (drawDots_any _ k _ (CodeArg.below HV.out (Nat.le_refl _) hb7) (by omega)).mono ?_
      rintro e v1 ⟨T, rfl, hT5, hv1'⟩
      have hv1 := hb7.trans (hv1'.mono hb7.size)
      clear hv1'
      have I6 := fun w h => implDd_any T m w (by omega) h
      have S6 := fun w => specDd_any T w (by omega)
      have hd := drop_facts T
      obtain ⟨E, f, hE⟩ : ∃ E f, E = ddS T ∧ f = ddB T := ⟨_, _, rfl, rfl⟩
      rw [← hE.1, ← hE.2] at I6 S6 hd
      have HI6 : Hid _ := I6
      have HS6 : Hid _ := S6
      have HD : Hid _ := hd
      clear I6 S6 hE hd
      go_wp2_with fail
      refine (HI6.out _ ((hv1.cell (p := ⟨1, 0, none⟩) hmt).trans HM.out)).mono ?_
      rintro e v2 ⟨rfl, hv2'⟩
      have hv2 := hv1.trans (hv2'.mono hv1.size)
      clear hv2'
      go_wp2_with fail
      refine (HS6.out _).mono ?_
      rintro e v3 ⟨rfl, hv3'⟩
      have hv3 := hv2.trans (hv3'.mono hv2.size)
      clear hv3' HI6 HS6
      cases f
      · have hz : E = ⟨#[]⟩ := HD.out.1 rfl
        subst hz
        clear HD
        go_wp2_with fail
        go_ret
        exact ⟨ret_bool (by first | rfl | simp), hv3⟩
      · obtain ⟨h1, h2, h3, h4, h0, h5⟩ := HD.out.2 rfl
        have I8 := fun w h => implDd_any E m w h3 h
        rw [h1, h2] at I8
        have HI8 : Hid _ := I8
        have hge : decide ((E.size : Int) ≤ (T.size : Int)) = true := decide_eq_true (by omega)
        have h6 : ((E[0].toNat : Int) == 47) = true := by rw [h5]; rfl
        clear I8 HD h1 h2 h5
        go_wp2_with fail
        refine (HI8.out _ ((hv3.cell (p := ⟨1, 0, none⟩) hmt).trans HM.out)).mono ?_
        rintro e v4 ⟨rfl, hv4'⟩
        have hv4 := hv3.trans (hv4'.mono hv3.size)
        go_wp2_with fail
        go_ret
        exact ⟨ret_bool (by first | rfl | simp), hv4⟩
  · have HU : Hid _ := hU
    have HV : Hid _ := hV
    clear hU hV
    go_enter Tryd.func4, Tryd.ntmps4
    go_wp2_with fail
    go_ret
    exact ⟨rfl, Below.refl _ _⟩

end Go.Proofs.YtlgjgdpalflmfaaDoor.Fnl
