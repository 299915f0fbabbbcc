/-
  The walk of the law FnTorn.
-/
import Derived.Test.YtaplkbkpgdpbaaaGreatDoorMg10
import Derived.Test.YtaplkbkpgdpbaaaGreatDoorDge
import Derived.Test.YtaplkbkpgdpbaaaGreatDoorMg11
import Derived.Test.YtaplkbkpgdpbaaaGreatDoorRqr
import Derived.Test.YtaplkbkpgdpbaaaGreatDoorTkm
import Derived.Test.YtaplkbkpgdpbaaaGreatDoorTpm
import Derived.Test.YtaplkbkpgdpbaaaGreatDoorTpu
import Derived.Test.YtaplkbkpgdpbaaaGreatDoorTpj
namespace Go.Proofs.YtaplkbkpgdpbaaaGreatDoor.Ftw
open Go.RowKit
open Go.Proofs.YtaplkbkpgdpbaaaGreatDoor
open Go.Proofs.YtaplkbkpgdpbaaaGreatDoor.Fbs
open Go.Proofs.YtaplkbkpgdpbaaaGreatDoor.Fch
open Go.Proofs.YtaplkbkpgdpbaaaGreatDoor.Fdb (fieldsIn FV RowF fv_of)
open Go.Proofs.YtaplkbkpgdpbaaaGreatDoor.Fvs (SzF)
open Go.Proofs.YtaplkbkpgdpbaaaGreatDoor.Tkr
open Go.Proofs.YtaplkbkpgdpbaaaGreatDoor.Rqb
open Go.Proofs.YtaplkbkpgdpbaaaGreatDoor.Rsb (BoxP)
open Go.Proofs.YtaplkbkpgdpbaaaGreatDoor.Lnp (sent)
open Go.Proofs.YtaplkbkpgdpbaaaGreatDoor.Asf (ErrT)
open Go.Proofs.YtaplkbkpgdpbaaaGreatDoor.Hdl (cutO cdS)
open Go.Proofs.YtaplkbkpgdpbaaaGreatDoor.Rsb (PowT)
open Go.Proofs.YtaplkbkpgdpbaaaGreatDoor.Num (tab_below tab_lt)
open Go.Proofs.YtaplkbkpgdpbaaaGreatDoor.Tpr
open Go.Proofs.YtaplkbkpgdpbaaaGreatDoor.Cur

theorem head_pos (f : ByteArray) (l : List (ByteArray × ByteArray)) : 2 ≤ (headS f l).size := by
  have h := congrArg List.length (Tor.head_data f l)
  rw [List.length_append] at h
  have : (headS f l).data.toList.length = (headS f l).size := by simp
  have h2 : [(13 : UInt8), 10].length = 2 := rfl
  omega

/-- Of a good request's bytes, cut, nothing is taken, and more is asked for. -/
theorem torn_told {M T : ByteArray} {l : List (ByteArray × ByteArray)} {B : ByteArray} (h : rqB M T l B = true) (k : Nat) (hk : k < (headS (firstR M T) l ++ B).size) {w : World} {lo : Nat} {e : Ending} (he : ToldR w lo e (fun c => .int .i64 c) ((headS (firstR M T) l ++ B).extract 0 k)) :
    e = .returned (.tuple #[.agg #[.string ⟨#[]⟩, .string ⟨#[]⟩, .slice none 0 0, .string ⟨#[]⟩], .int .i64 0, .int .i64 1]) := by
  rw [ByteArray.size_append] at hk
  have hs : ((headS (firstR M T) l ++ B).extract 0 k).data.toList = ((headS (firstR M T) l).data.toList ++ B.data.toList).take k := by simp [List.take_append]
  unfold ToldR at he
  rcases Tor.take_torn h _ k hk hs with ⟨h1, h2⟩ | ⟨ls, n, h1, h2⟩
  · rw [h1] at he
    dsimp only at he
    rw [h2] at he
    exact he
  · rw [h1] at he
    dsimp only at he
    rw [h2, if_neg (by decide)] at he
    exact he

set_option maxRecDepth 20000 in
set_option maxHeartbeats 6400000 in
theorem walk (u v : Value) (n k : Nat) (m : Int) (b : Addr) (w : World) (hU : CodeArg w u n) (hV : CodeArg w v k) (hn : n ≤ 140737488355328) (hk : k ≤ 140737488355328) (hT : Tab w) (hE : w.cell? ⟨0, 0, none⟩ = some (sent b)) (hm : w.cell? ⟨3, 0, none⟩ = some (.int .i64 m)) (hR : ErrT w) (hP : PowT w) :
    Calls Tryz.prog 4 #[u, v] w fun e w' => e = .returned (.bool true) ∧ Below w.heap.size w w' := by
  obtain ⟨o, cap, rfl⟩ := hU.form
  obtain ⟨o2, cap2, rfl⟩ := hV.form
  have HU : Hid (CodeArg w (.slice o n cap) n) := hU
  have HV : Hid (CodeArg w (.slice o2 k cap2) k) := hV
  clear hU hV
  by_cases hz : 1048576 < n + k
  · have hd : decide (1048576 < (n : Int) + (k : Int)) = true := decide_eq_true (by omega)
    go_enter Tryz.func4, Tryz.ntmps4
    go_wp2_with fail
    go_ret
    exact ⟨rfl, Below.refl _ _⟩
  have hd : decide (1048576 < (n : Int) + (k : Int)) = false := decide_eq_false (by omega)
  have hgt := hT.lt
  have het := World.block_lt_of_cell? _ _ hE
  have hml := World.block_lt_of_cell? _ _ hm
  have hrl := hR.lt
  have hgp := tab_lt hP
  have HTk : Hid (∀ s : ByteArray, s.size ≤ 1048576 → ∀ w', Below w.heap.size w w' → Calls Tryz.prog 16 #[.string s] w' fun e w'' => ToldR w'' w'.heap.size e (fun c => .int .i64 c) s ∧ Below w'.heap.size w' w'') := fun s hs w' hb =>
    implTake_any s m b w' hs (hT.below hb hgt) ((hb.cell (p := ⟨0, 0, none⟩) het).trans hE) ((hb.cell (p := ⟨3, 0, none⟩) hml).trans hm) (hR.below hb hrl)
  have HPk : Hid (∀ s : ByteArray, s.size ≤ 1048576 → ∀ w', Below w.heap.size w w' → Calls Tryz.prog 22 #[.string s] w' fun e w'' => ToldP w'' w'.heap.size e (fun c => .int .i64 c) s ∧ Below w'.heap.size w' w'') := fun s hs w' hb =>
    implTakeP_any s m b w' hs (hT.below hb hgt) ((hb.cell (p := ⟨0, 0, none⟩) het).trans hE) ((hb.cell (p := ⟨3, 0, none⟩) hml).trans hm) (hR.below hb hrl) (tab_below hP hb hgp)
  have HTE : Hid (∀ w', Below w.heap.size w w' → Tab w' ∧ w'.cell? ⟨0, 0, none⟩ = some (sent b)) := fun w' hb => ⟨hT.below hb hgt, (hb.cell (p := ⟨0, 0, none⟩) het).trans hE⟩
  clear hT hE hm hR hP hgt het hml hrl hgp
  go_enter Tryz.func4, Tryz.ntmps4
  go_wp2_with fail
  refine (drawRB_any _ n _ HU.out (by omega)).mono ?_
  rintro e w1 ⟨M, T, a, ca, Bd, l, rfl, hM, hTs, hBd, hl, hsz, hca, hF, hb1⟩
  have hSz := szf_of hsz
  obtain ⟨w2, hw2⟩ : ∃ w2, w2 = w1.alloc (.cells #[.string M, .string T, .slice a l.length ca, .string Bd] 25) := ⟨_, rfl⟩
  have hb12 : Below w1.heap.size w1 w2 := by rw [hw2]; exact (Below.refl _ _).alloc (Nat.le_refl _) _
  have HX2 : Hid (BoxR w2 w1.heap.size M T a l.length ca Bd) := by rw [hw2]; exact BoxR.made w1 M T a l.length ca Bd _
  have F2 : Hid _ := hF.below hb12
  have HB2 : Hid (Below w.heap.size w w2) := hb1.trans (hb12.mono hb1.size)
  have HRi : Hid (∀ w' lo hi, Below w.heap.size w w' → FV w' a l lo hi → Calls Tryz.prog 13 #[.agg #[.string M, .string T, .slice a l.length ca, .string Bd]] w' fun e w'' => e = .returned (.tuple #[.string (rbO M T l Bd).1, .bool (rbO M T l Bd).2]) ∧ Below w'.heap.size w' w'') := fun w' lo hi hb h => implRB_any M T Bd a ca l b w' lo hi (HTE.out w' hb).1 (HTE.out w' hb).2 (by omega) (by omega) hSz hca h
  have HRs : Hid (∀ w' lo hi, FV w' a l lo hi → Calls Tryz.prog 14 #[.agg #[.string M, .string T, .slice a l.length ca, .string Bd]] w' fun e w'' => e = .returned (.tuple #[.string (rbO M T l Bd).1, .bool (rbO M T l Bd).2]) ∧ Below w'.heap.size w' w'') := fun w' lo hi h => specRB_any M T Bd a ca l w' lo hi (by omega) (by omega) (by omega) hSz h
  have HFs : Hid (rqB M T l Bd = false → rbO M T l Bd = (⟨#[]⟩, false)) := rb_no
  have HFy : Hid (rqB M T l Bd = true → (rbO M T l Bd).2 = true ∧ 2 ≤ (rbO M T l Bd).1.size ∧ (rbO M T l Bd).1.size ≤ 3000 ∧ ∀ j, j < (rbO M T l Bd).1.size → ∀ w lo e, ToldR w lo e (fun c => .int .i64 c) ((rbO M T l Bd).1.extract 0 j) → e = .returned (.tuple #[.agg #[.string ⟨#[]⟩, .string ⟨#[]⟩, .slice none 0 0, .string ⟨#[]⟩], .int .i64 0, .int .i64 1])) := by
    intro h
    rw [rb_yes h]
    obtain ⟨_, g1, g2, _, _⟩ := rq_good h
    have g3 := head_pos (firstR M T) l
    refine ⟨rfl, ?_, ?_, fun j hj w lo e he => torn_told h j hj he⟩
    · show 2 ≤ (_ ++ _ : ByteArray).size; rw [ByteArray.size_append]; omega
    · show (_ ++ _ : ByteArray).size ≤ 3000; rw [ByteArray.size_append]; omega
  generalize rbO M T l Bd = O at HRi HRs HFs HFy
  generalize rqB M T l Bd = q at HFs HFy
  obtain ⟨S, ok⟩ := O
  clear hM hTs hBd hl hsz hca hF hb1 hb12 hSz
  obtain ⟨x0, x1, x2, x3⟩ := HX2.out
  go_wp2_with fail
  rw [← hw2]
  clear hw2
  refine (HRi.out _ _ _ HB2.out F2.out).mono ?_
  rintro e w3 ⟨rfl, hb3'⟩
  have HB3 : Hid (Below w.heap.size w w3) := HB2.out.trans (hb3'.mono HB2.out.size)
  have HX3 : Hid _ := HX2.out.below hb3'
  have F3 : Hid _ := FV.below F2.out hb3'
  clear hb3' HB2 HX2 F2 HRi x0 x1 x2 x3
  obtain ⟨x0, x1, x2, x3⟩ := HX3.out
  go_wp2_with fail
  refine (HRs.out _ _ _ F3.out).mono ?_
  rintro e w4 ⟨rfl, hb4'⟩
  have HB4 : Hid (Below w.heap.size w w4) := HB3.out.trans (hb4'.mono HB3.out.size)
  clear hb4' HB3 HX3 F3 HRs x0 x1 x2 x3
  cases q
  · have hO := HFs.out rfl
    obtain ⟨rfl, rfl⟩ : S = ⟨#[]⟩ ∧ ok = false := by injection hO with h1 h2; exact ⟨h1, h2⟩
    clear HFs HFy hO
    go_wp2_with fail
    refine (drawTakeReq_any _ k _ (CodeArg.below HV.out (Nat.le_refl _) HB4.out) (by omega)).mono ?_
    rintro e v1 ⟨t, rfl, ht, hv1'⟩
    have hv1 : Hid (Below w.heap.size w v1) := HB4.out.trans (hv1'.mono HB4.out.size)
    clear hv1'
    obtain ⟨M1, T1, F1, B1, N1, c1, hF1, hAny1⟩ := toldR_any t
    have HI1 : Hid (∀ w', Below w.heap.size w w' → Calls Tryz.prog 16 #[.string t] w' fun e w'' => (∃ (a : Option Addr) (q : Nat), e = .returned (.tuple #[.agg #[.string M1, .string T1, .slice a F1.length q, .string B1], .int .i64 N1, .int .i64 c1]) ∧ FV w'' a F1 w'.heap.size w''.heap.size) ∧ Below w'.heap.size w' w'') := fun w' hb => (HTk.out t (by omega) w' hb).mono fun e w'' ⟨h, hb2⟩ => ⟨hAny1 _ _ _ h, hb2⟩
    have HS1 : Hid (∀ w', Calls Tryz.prog 26 #[.string t] w' fun e w'' => (∃ (a : Option Addr) (q : Nat), e = .returned (.tuple #[.agg #[.string M1, .string T1, .slice a F1.length q, .string B1], .int .i64 N1, .int .i64 c1]) ∧ FV w'' a F1 w'.heap.size w''.heap.size) ∧ Below w'.heap.size w' w'') := fun w' => (specTake_any t w' (by omega)).mono fun e w'' ⟨h, hb2⟩ => ⟨hAny1 _ _ _ h, hb2⟩
    have HE1 : Hid _ := fun a b ca cb w x y x' y' h1 h2 => Sam2.sameReq_any M1 T1 B1 a b ca cb F1 w x y x' y' (by omega) h1 h2
    obtain ⟨n1, hn1⟩ : ∃ n, n = F1.length := ⟨_, rfl⟩
    rw [← hn1] at HI1 HS1 HE1 hF1
    clear hAny1 hn1 ht
    go_wp2_with fail
    refine (HI1.out _ hv1.out).mono ?_
    rintro e v2 ⟨⟨a2, q2, rfl, V2⟩, hv2'⟩
    obtain ⟨v3, hv3⟩ : ∃ v3, v3 = v2.alloc (.cells #[.string M1, .string T1, .slice a2 n1 q2, .string B1] 25) := ⟨_, rfl⟩
    have hb23 : Below v2.heap.size v2 v3 := by rw [hv3]; exact (Below.refl _ _).alloc (Nat.le_refl _) _
    have HX3 : Hid (BoxR v3 v2.heap.size M1 T1 a2 n1 q2 B1) := by rw [hv3]; exact BoxR.made v2 M1 T1 a2 n1 q2 B1 _
    have V3 : Hid _ := V2.below hb23
    have hv2 := hv1.out.trans (hv2'.mono hv1.out.size)
    have HB3 : Hid (Below w.heap.size w v3) := hv2.trans (hb23.mono hv2.size)
    clear V2 hb23 hv2 hv2' hv1 HI1
    go_wp2_with fail
    rw [← hv3]
    clear hv3
    refine (HS1.out _).mono ?_
    rintro e v4 ⟨⟨a4, q4, rfl, V4⟩, hv4'⟩
    obtain ⟨v5, hv5⟩ : ∃ v5, v5 = v4.alloc (.cells #[.string M1, .string T1, .slice a4 n1 q4, .string B1] 25) := ⟨_, rfl⟩
    have hb45 : Below v4.heap.size v4 v5 := by rw [hv5]; exact (Below.refl _ _).alloc (Nat.le_refl _) _
    obtain ⟨x0, x1, x2, x3⟩ := HX3.out.below hv4'
    have hlt : v2.heap.size < v4.heap.size := World.block_lt_of_cell? _ _ x0
    have hne : v2.heap.size ≠ v4.heap.size := by omega
    have HX5 : Hid (BoxR v5 v2.heap.size M1 T1 a2 n1 q2 B1) := (HX3.out.below hv4').below hb45
    have HY5 : Hid (BoxR v5 v4.heap.size M1 T1 a4 n1 q4 B1) := by rw [hv5]; exact BoxR.made v4 M1 T1 a4 n1 q4 B1 _
    have V5 : Hid _ := FV.below (FV.below V3.out hv4') hb45
    have U5 : Hid _ := V4.below hb45
    have hv4 := HB3.out.trans (hv4'.mono HB3.out.size)
    have HB5 : Hid (Below w.heap.size w v5) := hv4.trans (hb45.mono hv4.size)
    clear V4 hb45 hv4 hv4' HB3 V3 HX3 HS1
    go_wp2_with fail
    rw [← hv5]
    clear hv5
    refine (HE1.out _ _ _ _ _ _ _ _ _ V5.out U5.out).mono ?_
    rintro e v6 ⟨rfl, hv6'⟩
    have HB6 : Hid (Below w.heap.size w v6) := HB5.out.trans (hv6'.mono HB5.out.size)
    clear hv6' HB5 HX5 HY5 V5 U5 HE1 x0 x1 x2 x3 hlt hne
    go_wp2_with fail
    refine (drawTakeResp_any _ n _ (CodeArg.below HU.out (Nat.le_refl _) HB6.out) (by omega)).mono ?_
    rintro e z1 ⟨t2, rfl, ht2, hz1'⟩
    have hz1 : Hid (Below w.heap.size w z1) := HB6.out.trans (hz1'.mono HB6.out.size)
    clear hz1' HB6
    obtain ⟨M2, T2, F2, B2, N2, c2, hF2, hAny2⟩ := toldP_any t2
    have HI2 : Hid (∀ w', Below w.heap.size w w' → Calls Tryz.prog 22 #[.string t2] w' fun e w'' => (∃ (a : Option Addr) (q : Nat), e = .returned (.tuple #[.agg #[.int .i64 M2, .string T2, .slice a F2.length q, .string B2], .int .i64 N2, .int .i64 c2]) ∧ FV w'' a F2 w'.heap.size w''.heap.size) ∧ Below w'.heap.size w' w'') := fun w' hb => (HPk.out t2 (by omega) w' hb).mono fun e w'' ⟨h, hb2⟩ => ⟨hAny2 _ _ _ h, hb2⟩
    have HS2 : Hid (∀ w', Calls Tryz.prog 28 #[.string t2] w' fun e w'' => (∃ (a : Option Addr) (q : Nat), e = .returned (.tuple #[.agg #[.int .i64 M2, .string T2, .slice a F2.length q, .string B2], .int .i64 N2, .int .i64 c2]) ∧ FV w'' a F2 w'.heap.size w''.heap.size) ∧ Below w'.heap.size w' w'') := fun w' => (specTakeP_any t2 w' (by omega)).mono fun e w'' ⟨h, hb2⟩ => ⟨hAny2 _ _ _ h, hb2⟩
    have HE2 : Hid _ := fun a b ca cb w x y x' y' h1 h2 => Sam2.sameAns_any M2 T2 B2 a b ca cb F2 w x y x' y' (by omega) h1 h2
    obtain ⟨n2, hn2⟩ : ∃ n, n = F2.length := ⟨_, rfl⟩
    rw [← hn2] at HI2 HS2 HE2 hF2
    clear hAny2 hn2 ht2
    go_wp2_with fail
    refine (HI2.out _ hz1.out).mono ?_
    rintro e z2 ⟨⟨a6, q6, rfl, W2⟩, hz2'⟩
    obtain ⟨z3, hz3⟩ : ∃ z3, z3 = z2.alloc (.cells #[.int .i64 M2, .string T2, .slice a6 n2 q6, .string B2] 36) := ⟨_, rfl⟩
    have hb23 : Below z2.heap.size z2 z3 := by rw [hz3]; exact (Below.refl _ _).alloc (Nat.le_refl _) _
    have HX3 : Hid (BoxP z3 z2.heap.size M2 T2 a6 n2 q6 B2) := by rw [hz3]; exact BoxP.made z2 M2 T2 a6 n2 q6 B2 _
    have V3 : Hid _ := W2.below hb23
    have hz2 := hz1.out.trans (hz2'.mono hz1.out.size)
    have HB3 : Hid (Below w.heap.size w z3) := hz2.trans (hb23.mono hz2.size)
    clear W2 hb23 hz2 hz2' hz1 HI2
    go_wp2_with fail
    rw [← hz3]
    clear hz3
    refine (HS2.out _).mono ?_
    rintro e z4 ⟨⟨a8, q8, rfl, W4⟩, hz4'⟩
    obtain ⟨z5, hz5⟩ : ∃ z5, z5 = z4.alloc (.cells #[.int .i64 M2, .string T2, .slice a8 n2 q8, .string B2] 36) := ⟨_, rfl⟩
    have hb45 : Below z4.heap.size z4 z5 := by rw [hz5]; exact (Below.refl _ _).alloc (Nat.le_refl _) _
    obtain ⟨x0, x1, x2, x3⟩ := HX3.out.below hz4'
    have hlt : z2.heap.size < z4.heap.size := World.block_lt_of_cell? _ _ x0
    have hne : z2.heap.size ≠ z4.heap.size := by omega
    have HX5 : Hid (BoxP z5 z2.heap.size M2 T2 a6 n2 q6 B2) := (HX3.out.below hz4').below hb45
    have HY5 : Hid (BoxP z5 z4.heap.size M2 T2 a8 n2 q8 B2) := by rw [hz5]; exact BoxP.made z4 M2 T2 a8 n2 q8 B2 _
    have V5 : Hid _ := FV.below (FV.below V3.out hz4') hb45
    have U5 : Hid _ := W4.below hb45
    have hz4 := HB3.out.trans (hz4'.mono HB3.out.size)
    have HB5 : Hid (Below w.heap.size w z5) := hz4.trans (hb45.mono hz4.size)
    clear W4 hb45 hz4 hz4' HB3 V3 HX3 HS2
    go_wp2_with fail
    rw [← hz5]
    clear hz5
    refine (HE2.out _ _ _ _ _ _ _ _ _ V5.out U5.out).mono ?_
    rintro e z6 ⟨rfl, hz6'⟩
    have HB6 : Hid (Below w.heap.size w z6) := HB5.out.trans (hz6'.mono HB5.out.size)
    clear hz6' HB5 HX5 HY5 V5 U5 HE2 x0 x1 x2 x3 hlt hne
    go_wp2_with fail
    go_ret
    exact ⟨rfl, HB6.out⟩
  · obtain ⟨h1, h2, h3, h4⟩ := HFy.out rfl
    obtain rfl : ok = true := h1
    have h2 : 2 ≤ S.size := h2
    have h3 : S.size ≤ 3000 := h3
    have HTo : Hid _ := h4
    clear HFs HFy h4
    go_wp2_with fail
    refine (numberOf_any _ k _ (CodeArg.below HV.out (Nat.le_refl _) HB4.out) (by omega)).mono ?_
    rintro e w5 ⟨x, rfl, hx, hb5'⟩
    have HB5 : Hid (Below w.heap.size w w5) := HB4.out.trans (hb5'.mono HB4.out.size)
    clear hb5' HB4
    have hj : x % S.size < S.size := Nat.mod_lt _ (by omega)
    have hjs : (S.extract 0 (x % S.size)).size ≤ S.size := by rw [ByteArray.size_extract]; omega
    go_wp2_with fail
    refine (HTk.out _ (by omega) _ HB5.out).mono ?_
    rintro e w6 ⟨he, hb6'⟩
    obtain rfl := HTo.out _ hj _ _ _ he
    have hb6 : Below w.heap.size w w6 := HB5.out.trans (hb6'.mono HB5.out.size)
    have HB7 : Hid (Below w.heap.size w (w6.alloc (.cells #[.string ⟨#[]⟩, .string ⟨#[]⟩, .slice none 0 0, .string ⟨#[]⟩] 25))) := hb6.trans (((Below.refl _ _).alloc (Nat.le_refl _) _).mono hb6.size)
    clear he hb6' hb6 HB5 HTo
    go_wp2_with fail
    refine (drawTakeReq_any _ k _ (CodeArg.below HV.out (Nat.le_refl _) HB7.out) (by omega)).mono ?_
    rintro e v1 ⟨t, rfl, ht, hv1'⟩
    have hv1 : Hid (Below w.heap.size w v1) := HB7.out.trans (hv1'.mono HB7.out.size)
    clear hv1'
    obtain ⟨M1, T1, F1, B1, N1, c1, hF1, hAny1⟩ := toldR_any t
    have HI1 : Hid (∀ w', Below w.heap.size w w' → Calls Tryz.prog 16 #[.string t] w' fun e w'' => (∃ (a : Option Addr) (q : Nat), e = .returned (.tuple #[.agg #[.string M1, .string T1, .slice a F1.length q, .string B1], .int .i64 N1, .int .i64 c1]) ∧ FV w'' a F1 w'.heap.size w''.heap.size) ∧ Below w'.heap.size w' w'') := fun w' hb => (HTk.out t (by omega) w' hb).mono fun e w'' ⟨h, hb2⟩ => ⟨hAny1 _ _ _ h, hb2⟩
    have HS1 : Hid (∀ w', Calls Tryz.prog 26 #[.string t] w' fun e w'' => (∃ (a : Option Addr) (q : Nat), e = .returned (.tuple #[.agg #[.string M1, .string T1, .slice a F1.length q, .string B1], .int .i64 N1, .int .i64 c1]) ∧ FV w'' a F1 w'.heap.size w''.heap.size) ∧ Below w'.heap.size w' w'') := fun w' => (specTake_any t w' (by omega)).mono fun e w'' ⟨h, hb2⟩ => ⟨hAny1 _ _ _ h, hb2⟩
    have HE1 : Hid _ := fun a b ca cb w x y x' y' h1 h2 => Sam2.sameReq_any M1 T1 B1 a b ca cb F1 w x y x' y' (by omega) h1 h2
    obtain ⟨n1, hn1⟩ : ∃ n, n = F1.length := ⟨_, rfl⟩
    rw [← hn1] at HI1 HS1 HE1 hF1
    clear hAny1 hn1 ht
    go_wp2_with fail
    refine (HI1.out _ hv1.out).mono ?_
    rintro e v2 ⟨⟨a2, q2, rfl, V2⟩, hv2'⟩
    obtain ⟨v3, hv3⟩ : ∃ v3, v3 = v2.alloc (.cells #[.string M1, .string T1, .slice a2 n1 q2, .string B1] 25) := ⟨_, rfl⟩
    have hb23 : Below v2.heap.size v2 v3 := by rw [hv3]; exact (Below.refl _ _).alloc (Nat.le_refl _) _
    have HX3 : Hid (BoxR v3 v2.heap.size M1 T1 a2 n1 q2 B1) := by rw [hv3]; exact BoxR.made v2 M1 T1 a2 n1 q2 B1 _
    have V3 : Hid _ := V2.below hb23
    have hv2 := hv1.out.trans (hv2'.mono hv1.out.size)
    have HB3 : Hid (Below w.heap.size w v3) := hv2.trans (hb23.mono hv2.size)
    clear V2 hb23 hv2 hv2' hv1 HI1
    go_wp2_with fail
    rw [← hv3]
    clear hv3
    refine (HS1.out _).mono ?_
    rintro e v4 ⟨⟨a4, q4, rfl, V4⟩, hv4'⟩
    obtain ⟨v5, hv5⟩ : ∃ v5, v5 = v4.alloc (.cells #[.string M1, .string T1, .slice a4 n1 q4, .string B1] 25) := ⟨_, rfl⟩
    have hb45 : Below v4.heap.size v4 v5 := by rw [hv5]; exact (Below.refl _ _).alloc (Nat.le_refl _) _
    obtain ⟨x0, x1, x2, x3⟩ := HX3.out.below hv4'
    have hlt : v2.heap.size < v4.heap.size := World.block_lt_of_cell? _ _ x0
    have hne : v2.heap.size ≠ v4.heap.size := by omega
    have HX5 : Hid (BoxR v5 v2.heap.size M1 T1 a2 n1 q2 B1) := (HX3.out.below hv4').below hb45
    have HY5 : Hid (BoxR v5 v4.heap.size M1 T1 a4 n1 q4 B1) := by rw [hv5]; exact BoxR.made v4 M1 T1 a4 n1 q4 B1 _
    have V5 : Hid _ := FV.below (FV.below V3.out hv4') hb45
    have U5 : Hid _ := V4.below hb45
    have hv4 := HB3.out.trans (hv4'.mono HB3.out.size)
    have HB5 : Hid (Below w.heap.size w v5) := hv4.trans (hb45.mono hv4.size)
    clear V4 hb45 hv4 hv4' HB3 V3 HX3 HS1
    go_wp2_with fail
    rw [← hv5]
    clear hv5
    refine (HE1.out _ _ _ _ _ _ _ _ _ V5.out U5.out).mono ?_
    rintro e v6 ⟨rfl, hv6'⟩
    have HB6 : Hid (Below w.heap.size w v6) := HB5.out.trans (hv6'.mono HB5.out.size)
    clear hv6' HB5 HX5 HY5 V5 U5 HE1 x0 x1 x2 x3 hlt hne
    go_wp2_with fail
    refine (drawTakeResp_any _ n _ (CodeArg.below HU.out (Nat.le_refl _) HB6.out) (by omega)).mono ?_
    rintro e z1 ⟨t2, rfl, ht2, hz1'⟩
    have hz1 : Hid (Below w.heap.size w z1) := HB6.out.trans (hz1'.mono HB6.out.size)
    clear hz1' HB6
    obtain ⟨M2, T2, F2, B2, N2, c2, hF2, hAny2⟩ := toldP_any t2
    have HI2 : Hid (∀ w', Below w.heap.size w w' → Calls Tryz.prog 22 #[.string t2] w' fun e w'' => (∃ (a : Option Addr) (q : Nat), e = .returned (.tuple #[.agg #[.int .i64 M2, .string T2, .slice a F2.length q, .string B2], .int .i64 N2, .int .i64 c2]) ∧ FV w'' a F2 w'.heap.size w''.heap.size) ∧ Below w'.heap.size w' w'') := fun w' hb => (HPk.out t2 (by omega) w' hb).mono fun e w'' ⟨h, hb2⟩ => ⟨hAny2 _ _ _ h, hb2⟩
    have HS2 : Hid (∀ w', Calls Tryz.prog 28 #[.string t2] w' fun e w'' => (∃ (a : Option Addr) (q : Nat), e = .returned (.tuple #[.agg #[.int .i64 M2, .string T2, .slice a F2.length q, .string B2], .int .i64 N2, .int .i64 c2]) ∧ FV w'' a F2 w'.heap.size w''.heap.size) ∧ Below w'.heap.size w' w'') := fun w' => (specTakeP_any t2 w' (by omega)).mono fun e w'' ⟨h, hb2⟩ => ⟨hAny2 _ _ _ h, hb2⟩
    have HE2 : Hid _ := fun a b ca cb w x y x' y' h1 h2 => Sam2.sameAns_any M2 T2 B2 a b ca cb F2 w x y x' y' (by omega) h1 h2
    obtain ⟨n2, hn2⟩ : ∃ n, n = F2.length := ⟨_, rfl⟩
    rw [← hn2] at HI2 HS2 HE2 hF2
    clear hAny2 hn2 ht2
    go_wp2_with fail
    refine (HI2.out _ hz1.out).mono ?_
    rintro e z2 ⟨⟨a6, q6, rfl, W2⟩, hz2'⟩
    obtain ⟨z3, hz3⟩ : ∃ z3, z3 = z2.alloc (.cells #[.int .i64 M2, .string T2, .slice a6 n2 q6, .string B2] 36) := ⟨_, rfl⟩
    have hb23 : Below z2.heap.size z2 z3 := by rw [hz3]; exact (Below.refl _ _).alloc (Nat.le_refl _) _
    have HX3 : Hid (BoxP z3 z2.heap.size M2 T2 a6 n2 q6 B2) := by rw [hz3]; exact BoxP.made z2 M2 T2 a6 n2 q6 B2 _
    have V3 : Hid _ := W2.below hb23
    have hz2 := hz1.out.trans (hz2'.mono hz1.out.size)
    have HB3 : Hid (Below w.heap.size w z3) := hz2.trans (hb23.mono hz2.size)
    clear W2 hb23 hz2 hz2' hz1 HI2
    go_wp2_with fail
    rw [← hz3]
    clear hz3
    refine (HS2.out _).mono ?_
    rintro e z4 ⟨⟨a8, q8, rfl, W4⟩, hz4'⟩
    obtain ⟨z5, hz5⟩ : ∃ z5, z5 = z4.alloc (.cells #[.int .i64 M2, .string T2, .slice a8 n2 q8, .string B2] 36) := ⟨_, rfl⟩
    have hb45 : Below z4.heap.size z4 z5 := by rw [hz5]; exact (Below.refl _ _).alloc (Nat.le_refl _) _
    obtain ⟨x0, x1, x2, x3⟩ := HX3.out.below hz4'
    have hlt : z2.heap.size < z4.heap.size := World.block_lt_of_cell? _ _ x0
    have hne : z2.heap.size ≠ z4.heap.size := by omega
    have HX5 : Hid (BoxP z5 z2.heap.size M2 T2 a6 n2 q6 B2) := (HX3.out.below hz4').below hb45
    have HY5 : Hid (BoxP z5 z4.heap.size M2 T2 a8 n2 q8 B2) := by rw [hz5]; exact BoxP.made z4 M2 T2 a8 n2 q8 B2 _
    have V5 : Hid _ := FV.below (FV.below V3.out hz4') hb45
    have U5 : Hid _ := W4.below hb45
    have hz4 := HB3.out.trans (hz4'.mono HB3.out.size)
    have HB5 : Hid (Below w.heap.size w z5) := hz4.trans (hb45.mono hz4.size)
    clear W4 hb45 hz4 hz4' HB3 V3 HX3 HS2
    go_wp2_with fail
    rw [← hz5]
    clear hz5
    refine (HE2.out _ _ _ _ _ _ _ _ _ V5.out U5.out).mono ?_
    rintro e z6 ⟨rfl, hz6'⟩
    have HB6 : Hid (Below w.heap.size w z6) := HB5.out.trans (hz6'.mono HB5.out.size)
    clear hz6' HB5 HX5 HY5 V5 U5 HE2 x0 x1 x2 x3 hlt hne
    go_wp2_with fail
    go_ret
    exact ⟨rfl, HB6.out⟩
end Go.Proofs.YtaplkbkpgdpbaaaGreatDoor.Ftw
