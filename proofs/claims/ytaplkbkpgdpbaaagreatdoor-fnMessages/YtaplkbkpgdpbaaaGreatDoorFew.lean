/-
  The walk of the law FnMessages.
-/
import Derived.Test.YtaplkbkpgdpbaaaGreatDoorTpt
import Derived.Test.YtaplkbkpgdpbaaaGreatDoorDge
import Derived.Test.YtaplkbkpgdpbaaaGreatDoorDgf
import Derived.Test.YtaplkbkpgdpbaaaGreatDoorMg11
import Derived.Test.YtaplkbkpgdpbaaaGreatDoorRqr
import Derived.Test.YtaplkbkpgdpbaaaGreatDoorRpb
import Derived.Test.YtaplkbkpgdpbaaaGreatDoorMg7
import Derived.Test.YtaplkbkpgdpbaaaGreatDoorTkj
import Derived.Test.YtaplkbkpgdpbaaaGreatDoorTpj
namespace Go.Proofs.YtaplkbkpgdpbaaaGreatDoor.Few
open Go.RowKit
open Go.Proofs.YtaplkbkpgdpbaaaGreatDoor
open Go.Proofs.YtaplkbkpgdpbaaaGreatDoor.Fbs
open Go.Proofs.YtaplkbkpgdpbaaaGreatDoor.Fch
open Go.Proofs.YtaplkbkpgdpbaaaGreatDoor.Fdb (fieldsIn FV RowF fv_of)
open Go.Proofs.YtaplkbkpgdpbaaaGreatDoor.Fvs (SzF)
open Go.Proofs.YtaplkbkpgdpbaaaGreatDoor.Tkr
open Go.Proofs.YtaplkbkpgdpbaaaGreatDoor.Tpr
open Go.Proofs.YtaplkbkpgdpbaaaGreatDoor.Rqb
open Go.Proofs.YtaplkbkpgdpbaaaGreatDoor.Rsb (BoxP PowT rsB rpO rp_no rp_yes rs_good implPB_any specPB_any firstP)
open Go.Proofs.YtaplkbkpgdpbaaaGreatDoor.Lnp (sent lnO)
open Go.Proofs.YtaplkbkpgdpbaaaGreatDoor.Asf (ErrT)
open Go.Proofs.YtaplkbkpgdpbaaaGreatDoor.Num (tab_below tab_lt)
open Go.Proofs.YtaplkbkpgdpbaaaGreatDoor.Mrk (same_text)
open Go.Proofs.YtaplkbkpgdpbaaaGreatDoor.Cur

set_option maxRecDepth 20000 in
set_option maxHeartbeats 6400000 in
theorem walk (u v : Value) (n k : Nat) (m : Int) (b : Addr) (w : World) (hU : CodeArg w u n) (hV : CodeArg w v k) (hn : n ≤ 140737488355328) (hk : k ≤ 140737488355328) (hT : Tab w) (hE : w.cell? ⟨0, 0, none⟩ = some (sent b)) (hm : w.cell? ⟨3, 0, none⟩ = some (.int .i64 m)) (hR : ErrT w) (hP : PowT w) :
    Calls Tryz.prog 3 #[u, v] w fun e w' => e = .returned (.bool true) ∧ Below w.heap.size w w' := by
  obtain ⟨o, cap, rfl⟩ := hU.form
  obtain ⟨o2, cap2, rfl⟩ := hV.form
  have HU : Hid (CodeArg w (.slice o n cap) n) := hU
  have HV : Hid (CodeArg w (.slice o2 k cap2) k) := hV
  clear hU hV
  by_cases hz : 1048576 < n + k
  · have hd : decide (1048576 < (n : Int) + (k : Int)) = true := decide_eq_true (by omega)
    go_enter Tryz.func3, Tryz.ntmps3
    go_wp2_with fail
    go_ret
    exact ⟨rfl, Below.refl _ _⟩
  have hd : decide (1048576 < (n : Int) + (k : Int)) = false := decide_eq_false (by omega)
  have hgt := hT.lt
  have het := World.block_lt_of_cell? _ _ hE
  have hml := World.block_lt_of_cell? _ _ hm
  have hrl := hR.lt
  have hgp := tab_lt hP
  have HTk : Hid (∀ s : ByteArray, s.size ≤ 1048576 → ∀ w', Below w.heap.size w w' → Calls Tryz.prog 16 #[.string s] w' fun e w'' => ToldR w'' w'.heap.size e (fun c => .int .i64 c) s ∧ Below w'.heap.size w' w'') := fun s hs w' hb =>
    implTake_any s m b w' hs (hT.below hb hgt) ((hb.cell (p := ⟨0, 0, none⟩) het).trans hE) ((hb.cell (p := ⟨3, 0, none⟩) hml).trans hm) (hR.below hb hrl)
  have HPk : Hid (∀ s : ByteArray, s.size ≤ 1048576 → ∀ w', Below w.heap.size w w' → Calls Tryz.prog 22 #[.string s] w' fun e w'' => ToldP w'' w'.heap.size e (fun c => .int .i64 c) s ∧ Below w'.heap.size w' w'') := fun s hs w' hb =>
    implTakeP_any s m b w' hs (hT.below hb hgt) ((hb.cell (p := ⟨0, 0, none⟩) het).trans hE) ((hb.cell (p := ⟨3, 0, none⟩) hml).trans hm) (hR.below hb hrl) (tab_below hP hb hgp)
  have HTE : Hid (∀ w', Below w.heap.size w w' → Tab w' ∧ w'.cell? ⟨0, 0, none⟩ = some (sent b) ∧ PowT w') := fun w' hb => ⟨hT.below hb hgt, (hb.cell (p := ⟨0, 0, none⟩) het).trans hE, tab_below hP hb hgp⟩
  clear hT hE hm hR hP hgt het hml hrl hgp
  go_enter Tryz.func3, Tryz.ntmps3
  go_wp2_with fail
  refine (drawRB_any _ n _ HU.out (by omega)).mono ?_
  rintro e w1 ⟨M, T, a, ca, Bd, l, rfl, hM, hTs, hBd, hl, hsz, hca, hF, hb1⟩
  have hSz := szf_of hsz
  obtain ⟨w2, hw2⟩ : ∃ w2, w2 = w1.alloc (.cells #[.string M, .string T, .slice a l.length ca, .string Bd] 25) := ⟨_, rfl⟩
  have hb12 : Below w1.heap.size w1 w2 := by rw [hw2]; exact (Below.refl _ _).alloc (Nat.le_refl _) _
  have HX2 : Hid (BoxR w2 w1.heap.size M T a l.length ca Bd) := by rw [hw2]; exact BoxR.made w1 M T a l.length ca Bd _
  have F2 : Hid _ := FV.below hF hb12
  have HB2 : Hid (Below w.heap.size w w2) := hb1.trans (hb12.mono hb1.size)
  have HRi : Hid (∀ w' lo hi, Below w.heap.size w w' → FV w' a l lo hi → Calls Tryz.prog 13 #[.agg #[.string M, .string T, .slice a l.length ca, .string Bd]] w' fun e w'' => e = .returned (.tuple #[.string (rbO M T l Bd).1, .bool (rbO M T l Bd).2]) ∧ Below w'.heap.size w' w'') := fun w' lo hi hb h => implRB_any M T Bd a ca l b w' lo hi (HTE.out w' hb).1 (HTE.out w' hb).2.1 (by omega) (by omega) hSz hca h
  have HRs : Hid (∀ w' lo hi, FV w' a l lo hi → Calls Tryz.prog 14 #[.agg #[.string M, .string T, .slice a l.length ca, .string Bd]] w' fun e w'' => e = .returned (.tuple #[.string (rbO M T l Bd).1, .bool (rbO M T l Bd).2]) ∧ Below w'.heap.size w' w'') := fun w' lo hi h => specRB_any M T Bd a ca l w' lo hi (by omega) (by omega) (by omega) hSz h
  have HRg : Hid (∀ w' lo hi, Below w.heap.size w w' → FV w' a l lo hi → Calls Tryz.prog 15 #[.agg #[.string M, .string T, .slice a l.length ca, .string Bd]] w' fun e w'' => e = .returned (.bool (rbO M T l Bd).2) ∧ Below w'.heap.size w' w'') := fun w' lo hi hb h => by
    have hq : (rbO M T l Bd).2 = rqB M T l Bd := by
      cases h0 : rqB M T l Bd
      · rw [rb_no h0]
      · rw [rb_yes h0]
    rw [hq]
    exact implGoodR_any M T Bd a ca l b w' lo hi (HTE.out w' hb).1 (HTE.out w' hb).2.1 (by omega) (by omega) hSz hca h
  have HRl : Hid (∀ w' lo hi, Below w.heap.size w w' → FV w' a l lo hi → Calls Tryz.prog 17 #[.slice a l.length ca] w' fun e w'' => e = .returned (.tuple #[.int .i64 (lnO l).1, .bool (lnO l).2]) ∧ Below w'.heap.size w' w'') := fun w' lo hi hb h => Lnp.implLen_any a ca l b w' lo hi (HTE.out w' hb).1 (HTE.out w' hb).2.1 hSz hca h
  have HFs : Hid (rqB M T l Bd = false → rbO M T l Bd = (⟨#[]⟩, false)) := rb_no
  have HFy : Hid (rqB M T l Bd = true → (rbO M T l Bd).2 = true ∧ (rbO M T l Bd).1.size ≤ 3000 ∧ lnO l = ((Bd.size : Int), true) ∧ ∀ (X : ByteArray) w lo e, ToldR w lo e (fun c => .int .i64 c) ((rbO M T l Bd).1 ++ X) → ∃ (a : Option Addr) (q : Nat), e = .returned (.tuple #[.agg #[.string M, .string T, .slice a l.length q, .string Bd], .int .i64 ((rbO M T l Bd).1.size : Int), .int .i64 0]) ∧ FV w a l lo w.heap.size) := by
    intro h
    rw [rb_yes h]
    obtain ⟨_, g1, g2, _, _⟩ := rq_good h
    obtain ⟨_, _, p3, p4, _⟩ := Tor.rq_parts h
    refine ⟨rfl, ?_, (Tor.fr_parts p3 p4).2.1, fun X w lo e he => Tor.more_told h X he⟩
    show (_ ++ _ : ByteArray).size ≤ 3000; rw [ByteArray.size_append]; omega
  have HEr : Hid _ := fun a b ca cb w x y x' y' h1 h2 => Sam2.sameReq_any M T Bd a b ca cb l w x y x' y' (by omega) h1 h2
  generalize rbO M T l Bd = O at HRi HRs HFs HFy HRg
  generalize rqB M T l Bd = q at HFs HFy
  generalize lnO l = L at HRl HFy
  obtain ⟨S, ok⟩ := O
  have hss := same_text S
  clear hM hTs hBd hl hsz hca hF hb1 hb12 hSz
  obtain ⟨x0, x1, x2, x3⟩ := HX2.out
  go_wp2_with fail
  rw [← hw2]
  clear hw2
  refine (HRi.out _ _ _ HB2.out F2.out).mono ?_
  rintro e w3 ⟨rfl, hb3'⟩
  have HB3 : Hid (Below w.heap.size w w3) := HB2.out.trans (hb3'.mono HB2.out.size)
  have HX3 : Hid _ := BoxR.below HX2.out hb3'
  have F3 : Hid _ := FV.below F2.out hb3'
  clear hb3' HB2 HX2 F2 HRi x0 x1 x2 x3
  obtain ⟨x0, x1, x2, x3⟩ := HX3.out
  go_wp2_with fail
  refine (HRs.out _ _ _ F3.out).mono ?_
  rintro e w4 ⟨rfl, hb4'⟩
  have HB4 : Hid (Below w.heap.size w w4) := HB3.out.trans (hb4'.mono HB3.out.size)
  have HX4 : Hid (BoxR w4 w1.heap.size M T a l.length ca Bd) := BoxR.below HX3.out hb4'
  have F4 : Hid _ := FV.below F3.out hb4'
  clear hb4' HB3 HX3 F3 HRs x0 x1 x2 x3
  obtain ⟨x0, x1, x2, x3⟩ := HX4.out
  cases q
  · have hO := HFs.out rfl
    obtain ⟨rfl, rfl⟩ : S = ⟨#[]⟩ ∧ ok = false := by injection hO with h1 h2; exact ⟨h1, h2⟩
    clear HFs HFy hO HEr HRl
    go_wp2_with fail
    refine (HRg.out _ _ _ HB4.out F4.out).mono ?_
    rintro e w5 ⟨rfl, hb5'⟩
    have HB5 : Hid (Below w.heap.size w w5) := HB4.out.trans (hb5'.mono HB4.out.size)
    clear hb5' HB4 HX4 F4 HRg x0 x1 x2 x3
    go_wp2_with fail
    refine (drawRP_any _ k _ (CodeArg.below HV.out (Nat.le_refl _) HB5.out) (by omega)).mono ?_
    rintro e v1 ⟨S0, R0, a0, ca0, B0, l0, rfl, hS0, hR0, hB0, hl0, hsz0, hca0, hG, hv1'⟩
    have hSz0 := szf_of hsz0
    obtain ⟨v2, hv2⟩ : ∃ v2, v2 = v1.alloc (.cells #[.int .i64 S0, .string R0, .slice a0 l0.length ca0, .string B0] 36) := ⟨_, rfl⟩
    have hb12 : Below v1.heap.size v1 v2 := by rw [hv2]; exact (Below.refl _ _).alloc (Nat.le_refl _) _
    have HX2 : Hid (BoxP v2 v1.heap.size S0 R0 a0 l0.length ca0 B0) := by rw [hv2]; exact BoxP.made v1 S0 R0 a0 l0.length ca0 B0 _
    have F2 : Hid _ := FV.below hG hb12
    have hv1 := HB5.out.trans (hv1'.mono HB5.out.size)
    have HB2 : Hid (Below w.heap.size w v2) := hv1.trans (hb12.mono hv1.size)
    have HRi : Hid (∀ w' lo hi, Below w.heap.size w w' → FV w' a0 l0 lo hi → Calls Tryz.prog 20 #[.agg #[.int .i64 S0, .string R0, .slice a0 l0.length ca0, .string B0]] w' fun e w'' => e = .returned (.tuple #[.string (rpO S0 R0 l0 B0).1, .bool (rpO S0 R0 l0 B0).2]) ∧ Below w'.heap.size w' w'') := fun w' lo hi hb h => implPB_any S0 R0 B0 a0 ca0 l0 b w' lo hi (HTE.out w' hb).1 (HTE.out w' hb).2.2 (HTE.out w' hb).2.1 (by omega) hSz0 hca0 h
    have HRs : Hid (∀ w' lo hi, FV w' a0 l0 lo hi → Calls Tryz.prog 21 #[.agg #[.int .i64 S0, .string R0, .slice a0 l0.length ca0, .string B0]] w' fun e w'' => e = .returned (.tuple #[.string (rpO S0 R0 l0 B0).1, .bool (rpO S0 R0 l0 B0).2]) ∧ Below w'.heap.size w' w'') := fun w' lo hi h => specPB_any S0 R0 B0 a0 ca0 l0 w' lo hi (by omega) (by omega) hSz0 h
    have HFs : Hid (rsB S0 R0 l0 B0 = false → rpO S0 R0 l0 B0 = (⟨#[]⟩, false)) := rp_no
    have HFy : Hid (rsB S0 R0 l0 B0 = true → (rpO S0 R0 l0 B0).2 = true ∧ (rpO S0 R0 l0 B0).1.size ≤ 3000 ∧ ∀ (X : ByteArray) w lo e, ToldP w lo e (fun c => .int .i64 c) ((rpO S0 R0 l0 B0).1 ++ X) → ∃ (a : Option Addr) (q : Nat), e = .returned (.tuple #[.agg #[.int .i64 S0, .string R0, .slice a l0.length q, .string B0], .int .i64 ((rpO S0 R0 l0 B0).1.size : Int), .int .i64 0]) ∧ FV w a l0 lo w.heap.size) := by
      intro h
      rw [rp_yes h]
      obtain ⟨_, g1, g2, _⟩ := rs_good h
      refine ⟨rfl, ?_, fun X w lo e he => Tor.more_toldP h X he⟩
      show (_ ++ _ : ByteArray).size ≤ 3000; rw [ByteArray.size_append]; omega
    have HE0 : Hid _ := fun a b ca cb w x y x' y' h1 h2 => Sam2.sameAns_any S0 R0 B0 a b ca cb l0 w x y x' y' (by omega) h1 h2
    generalize rpO S0 R0 l0 B0 = O at HRi HRs HFs HFy
    generalize rsB S0 R0 l0 B0 = q at HFs HFy
    obtain ⟨t, is⟩ := O
    have hst := same_text t
    clear hS0 hR0 hB0 hl0 hsz0 hca0 hG hv1' hv1 hb12 hSz0
    obtain ⟨x0, x1, x2, x3⟩ := HX2.out
    go_wp2_with fail
    rw [← hv2]
    clear hv2
    refine (HRi.out _ _ _ HB2.out F2.out).mono ?_
    rintro e v3 ⟨rfl, hb3'⟩
    have HB3 : Hid (Below w.heap.size w v3) := HB2.out.trans (hb3'.mono HB2.out.size)
    have HX3 : Hid _ := HX2.out.below hb3'
    have F3 : Hid _ := FV.below F2.out hb3'
    clear hb3' HB2 HX2 F2 HRi x0 x1 x2 x3
    obtain ⟨x0, x1, x2, x3⟩ := HX3.out
    go_wp2_with fail
    refine (HRs.out _ _ _ F3.out).mono ?_
    rintro e v4 ⟨rfl, hb4'⟩
    have HB4 : Hid (Below w.heap.size w v4) := HB3.out.trans (hb4'.mono HB3.out.size)
    have HX4 : Hid _ := BoxP.below HX3.out hb4'
    have F4 : Hid _ := FV.below F3.out hb4'
    clear hb4' HB3 HX3 F3 HRs x0 x1 x2 x3
    cases q
    · have hO := HFs.out rfl
      obtain ⟨rfl, rfl⟩ : t = ⟨#[]⟩ ∧ is = false := by injection hO with h1 h2; exact ⟨h1, h2⟩
      clear HFs HFy hO
      go_wp2_with fail
      go_ret
      exact ⟨rfl, HB4.out⟩
    · obtain ⟨h1, h2, h3⟩ := HFy.out rfl
      obtain rfl : is = true := h1
      have h2 : t.size ≤ 3000 := h2
      have HTo : Hid _ := h3
      have c4 : (⟨#[72, 84, 84, 80]⟩ : ByteArray).size = 4 := rfl
      have qz : ¬ 9223372036854775807 < t.size + (⟨#[72, 84, 84, 80]⟩ : ByteArray).size := by rw [c4]; omega
      have hts : (t ++ (⟨#[72, 84, 84, 80]⟩ : ByteArray)).size ≤ 1048576 := by rw [ByteArray.size_append, c4]; omega
      clear HFs HFy h3 c4
      go_wp2_with fail
      refine (HPk.out _ hts _ HB4.out).mono ?_
      rintro e z4 ⟨he, hz4'⟩
      obtain ⟨a4, q4, rfl, W4⟩ := HTo.out _ _ _ _ he
      obtain ⟨z5, hz5⟩ : ∃ z5, z5 = z4.alloc (.cells #[.int .i64 S0, .string R0, .slice a4 l0.length q4, .string B0] 36) := ⟨_, rfl⟩
      have hb45 : Below z4.heap.size z4 z5 := by rw [hz5]; exact (Below.refl _ _).alloc (Nat.le_refl _) _
      have HXz : Hid (BoxP z4 v1.heap.size S0 R0 a0 l0.length ca0 B0) := BoxP.below HX4.out hz4'
      obtain ⟨x0, x1, x2, x3⟩ := HXz.out
      have hlt : v1.heap.size < z4.heap.size := World.block_lt_of_cell? _ _ x0
      have hne : v1.heap.size ≠ z4.heap.size := by omega
      have V5 : Hid _ := FV.below (FV.below F4.out hz4') hb45
      have U5 : Hid _ := FV.below W4 hb45
      have hz4 := HB4.out.trans (hz4'.mono HB4.out.size)
      have HB5 : Hid (Below w.heap.size w z5) := hz4.trans (hb45.mono hz4.size)
      clear W4 he hb45 hz4 hz4' HB4 F4 HX4 HTo
      go_wp2_with fail
      rw [← hz5]
      clear hz5
      refine (HE0.out _ _ _ _ _ _ _ _ _ V5.out U5.out).mono ?_
      rintro e z6 ⟨rfl, hz6'⟩
      have HB6 : Hid (Below w.heap.size w z6) := HB5.out.trans (hz6'.mono HB5.out.size)
      clear hz6' HB5 HXz V5 U5 HE0 x0 x1 x2 x3 hlt hne
      go_wp2_with fail
      go_ret
      exact ⟨rfl, HB6.out⟩
  · obtain ⟨h1, h2, h3, h4⟩ := HFy.out rfl
    obtain rfl : ok = true := h1
    have h2 : S.size ≤ 3000 := h2
    have HTo : Hid _ := h4
    have hL : L = ((Bd.size : Int), true) := h3
    subst hL
    have c4 : (⟨#[109, 111, 114, 101]⟩ : ByteArray).size = 4 := rfl
    have qz : ¬ 9223372036854775807 < S.size + (⟨#[109, 111, 114, 101]⟩ : ByteArray).size := by rw [c4]; omega
    have hts : (S ++ (⟨#[109, 111, 114, 101]⟩ : ByteArray)).size ≤ 1048576 := by rw [ByteArray.size_append, c4]; omega
    clear HFs HFy h4 h3 c4
    go_wp2_with fail
    refine (HRg.out _ _ _ HB4.out F4.out).mono ?_
    rintro e w5 ⟨rfl, hb5'⟩
    have HB5 : Hid (Below w.heap.size w w5) := HB4.out.trans (hb5'.mono HB4.out.size)
    have HX5 : Hid (BoxR w5 w1.heap.size M T a l.length ca Bd) := BoxR.below HX4.out hb5'
    have F5 : Hid _ := FV.below F4.out hb5'
    clear hb5' HB4 HX4 F4 HRg x0 x1 x2 x3
    go_wp2_with fail
    refine (HTk.out _ hts _ HB5.out).mono ?_
    rintro e w6 ⟨he, hb6'⟩
    obtain ⟨a6, q6, rfl, W6⟩ := HTo.out _ _ _ _ he
    obtain ⟨w7, hw7⟩ : ∃ w7, w7 = w6.alloc (.cells #[.string M, .string T, .slice a6 l.length q6, .string Bd] 25) := ⟨_, rfl⟩
    have hb67 : Below w6.heap.size w6 w7 := by rw [hw7]; exact (Below.refl _ _).alloc (Nat.le_refl _) _
    have HX6 : Hid (BoxR w6 w1.heap.size M T a l.length ca Bd) := BoxR.below HX5.out hb6'
    obtain ⟨x0, x1, x2, x3⟩ := HX6.out
    have hlt : w1.heap.size < w6.heap.size := World.block_lt_of_cell? _ _ x0
    have hne : w1.heap.size ≠ w6.heap.size := by omega
    have hy : BoxR w7 w6.heap.size M T a6 l.length q6 Bd := by rw [hw7]; exact BoxR.made w6 M T a6 l.length q6 Bd _
    have HY7 : Hid (BoxR w7 w6.heap.size M T a6 l.length q6 Bd) := hy
    have HX7 : Hid (BoxR w7 w1.heap.size M T a l.length ca Bd) := BoxR.below HX6.out hb67
    have F7 : Hid _ := FV.below (FV.below F5.out hb6') hb67
    have U7 : Hid _ := FV.below W6 hb67
    have hb6 := HB5.out.trans (hb6'.mono HB5.out.size)
    have HB7 : Hid (Below w.heap.size w w7) := hb6.trans (hb67.mono hb6.size)
    clear W6 he hb67 hb6 hb6' HB5 F5 HX5 HTo hy HX6
    go_wp2_with fail
    rw [← hw7]
    clear hw7 x0 x1 x2 x3
    refine (HRl.out _ _ _ HB7.out F7.out).mono ?_
    rintro e w8 ⟨rfl, hb8'⟩
    have HB8 : Hid (Below w.heap.size w w8) := HB7.out.trans (hb8'.mono HB7.out.size)
    have HX8 : Hid (BoxR w8 w1.heap.size M T a l.length ca Bd) := BoxR.below HX7.out hb8'
    have HY8 : Hid (BoxR w8 w6.heap.size M T a6 l.length q6 Bd) := BoxR.below HY7.out hb8'
    have F8 : Hid _ := FV.below F7.out hb8'
    have U8 : Hid _ := FV.below U7.out hb8'
    clear hb8' HB7 HX7 HY7 F7 U7 HRl
    obtain ⟨x0, x1, x2, x3⟩ := HX8.out
    obtain ⟨y0, y1, y2, y3⟩ := HY8.out
    go_wp2_with fail
    refine (HEr.out _ _ _ _ _ _ _ _ _ U8.out F8.out).mono ?_
    rintro e w9 ⟨rfl, hb9'⟩
    have HB9 : Hid (Below w.heap.size w w9) := HB8.out.trans (hb9'.mono HB8.out.size)
    have HX9 : Hid (BoxR w9 w1.heap.size M T a l.length ca Bd) := BoxR.below HX8.out hb9'
    clear hb9' HB8 HX8 HY8 F8 U8 HEr x0 x1 x2 x3 y0 y1 y2 y3 hlt hne
    obtain ⟨x0, x1, x2, x3⟩ := HX9.out
    go_wp2_with fail
    clear x0 x1 x2 x3 HX9
    refine (drawRP_any _ k _ (CodeArg.below HV.out (Nat.le_refl _) HB9.out) (by omega)).mono ?_
    rintro e v1 ⟨S0, R0, a0, ca0, B0, l0, rfl, hS0, hR0, hB0, hl0, hsz0, hca0, hG, hv1'⟩
    have hSz0 := szf_of hsz0
    obtain ⟨v2, hv2⟩ : ∃ v2, v2 = v1.alloc (.cells #[.int .i64 S0, .string R0, .slice a0 l0.length ca0, .string B0] 36) := ⟨_, rfl⟩
    have hb12 : Below v1.heap.size v1 v2 := by rw [hv2]; exact (Below.refl _ _).alloc (Nat.le_refl _) _
    have HX2 : Hid (BoxP v2 v1.heap.size S0 R0 a0 l0.length ca0 B0) := by rw [hv2]; exact BoxP.made v1 S0 R0 a0 l0.length ca0 B0 _
    have F2 : Hid _ := FV.below hG hb12
    have hv1 := HB9.out.trans (hv1'.mono HB9.out.size)
    have HB2 : Hid (Below w.heap.size w v2) := hv1.trans (hb12.mono hv1.size)
    have HRi : Hid (∀ w' lo hi, Below w.heap.size w w' → FV w' a0 l0 lo hi → Calls Tryz.prog 20 #[.agg #[.int .i64 S0, .string R0, .slice a0 l0.length ca0, .string B0]] w' fun e w'' => e = .returned (.tuple #[.string (rpO S0 R0 l0 B0).1, .bool (rpO S0 R0 l0 B0).2]) ∧ Below w'.heap.size w' w'') := fun w' lo hi hb h => implPB_any S0 R0 B0 a0 ca0 l0 b w' lo hi (HTE.out w' hb).1 (HTE.out w' hb).2.2 (HTE.out w' hb).2.1 (by omega) hSz0 hca0 h
    have HRs : Hid (∀ w' lo hi, FV w' a0 l0 lo hi → Calls Tryz.prog 21 #[.agg #[.int .i64 S0, .string R0, .slice a0 l0.length ca0, .string B0]] w' fun e w'' => e = .returned (.tuple #[.string (rpO S0 R0 l0 B0).1, .bool (rpO S0 R0 l0 B0).2]) ∧ Below w'.heap.size w' w'') := fun w' lo hi h => specPB_any S0 R0 B0 a0 ca0 l0 w' lo hi (by omega) (by omega) hSz0 h
    have HFs : Hid (rsB S0 R0 l0 B0 = false → rpO S0 R0 l0 B0 = (⟨#[]⟩, false)) := rp_no
    have HFy : Hid (rsB S0 R0 l0 B0 = true → (rpO S0 R0 l0 B0).2 = true ∧ (rpO S0 R0 l0 B0).1.size ≤ 3000 ∧ ∀ (X : ByteArray) w lo e, ToldP w lo e (fun c => .int .i64 c) ((rpO S0 R0 l0 B0).1 ++ X) → ∃ (a : Option Addr) (q : Nat), e = .returned (.tuple #[.agg #[.int .i64 S0, .string R0, .slice a l0.length q, .string B0], .int .i64 ((rpO S0 R0 l0 B0).1.size : Int), .int .i64 0]) ∧ FV w a l0 lo w.heap.size) := by
      intro h
      rw [rp_yes h]
      obtain ⟨_, g1, g2, _⟩ := rs_good h
      refine ⟨rfl, ?_, fun X w lo e he => Tor.more_toldP h X he⟩
      show (_ ++ _ : ByteArray).size ≤ 3000; rw [ByteArray.size_append]; omega
    have HE0 : Hid _ := fun a b ca cb w x y x' y' h1 h2 => Sam2.sameAns_any S0 R0 B0 a b ca cb l0 w x y x' y' (by omega) h1 h2
    generalize rpO S0 R0 l0 B0 = O at HRi HRs HFs HFy
    generalize rsB S0 R0 l0 B0 = q at HFs HFy
    obtain ⟨t, is⟩ := O
    have hst := same_text t
    clear hS0 hR0 hB0 hl0 hsz0 hca0 hG hv1' hv1 hb12 hSz0
    obtain ⟨x0, x1, x2, x3⟩ := HX2.out
    go_wp2_with fail
    rw [← hv2]
    clear hv2
    refine (HRi.out _ _ _ HB2.out F2.out).mono ?_
    rintro e v3 ⟨rfl, hb3'⟩
    have HB3 : Hid (Below w.heap.size w v3) := HB2.out.trans (hb3'.mono HB2.out.size)
    have HX3 : Hid _ := HX2.out.below hb3'
    have F3 : Hid _ := FV.below F2.out hb3'
    clear hb3' HB2 HX2 F2 HRi x0 x1 x2 x3
    obtain ⟨x0, x1, x2, x3⟩ := HX3.out
    go_wp2_with fail
    refine (HRs.out _ _ _ F3.out).mono ?_
    rintro e v4 ⟨rfl, hb4'⟩
    have HB4 : Hid (Below w.heap.size w v4) := HB3.out.trans (hb4'.mono HB3.out.size)
    have HX4 : Hid _ := BoxP.below HX3.out hb4'
    have F4 : Hid _ := FV.below F3.out hb4'
    clear hb4' HB3 HX3 F3 HRs x0 x1 x2 x3
    cases q
    · have hO := HFs.out rfl
      obtain ⟨rfl, rfl⟩ : t = ⟨#[]⟩ ∧ is = false := by injection hO with h1 h2; exact ⟨h1, h2⟩
      clear HFs HFy hO
      go_wp2_with fail
      go_ret
      exact ⟨rfl, HB4.out⟩
    · obtain ⟨h1, h2, h3⟩ := HFy.out rfl
      obtain rfl : is = true := h1
      have h2 : t.size ≤ 3000 := h2
      have HTo : Hid _ := h3
      have c4 : (⟨#[72, 84, 84, 80]⟩ : ByteArray).size = 4 := rfl
      have qz : ¬ 9223372036854775807 < t.size + (⟨#[72, 84, 84, 80]⟩ : ByteArray).size := by rw [c4]; omega
      have hts : (t ++ (⟨#[72, 84, 84, 80]⟩ : ByteArray)).size ≤ 1048576 := by rw [ByteArray.size_append, c4]; omega
      clear HFs HFy h3 c4
      go_wp2_with fail
      refine (HPk.out _ hts _ HB4.out).mono ?_
      rintro e z4 ⟨he, hz4'⟩
      obtain ⟨a4, q4, rfl, W4⟩ := HTo.out _ _ _ _ he
      obtain ⟨z5, hz5⟩ : ∃ z5, z5 = z4.alloc (.cells #[.int .i64 S0, .string R0, .slice a4 l0.length q4, .string B0] 36) := ⟨_, rfl⟩
      have hb45 : Below z4.heap.size z4 z5 := by rw [hz5]; exact (Below.refl _ _).alloc (Nat.le_refl _) _
      have HXz : Hid (BoxP z4 v1.heap.size S0 R0 a0 l0.length ca0 B0) := BoxP.below HX4.out hz4'
      obtain ⟨x0, x1, x2, x3⟩ := HXz.out
      have hlt : v1.heap.size < z4.heap.size := World.block_lt_of_cell? _ _ x0
      have hne : v1.heap.size ≠ z4.heap.size := by omega
      have V5 : Hid _ := FV.below (FV.below F4.out hz4') hb45
      have U5 : Hid _ := FV.below W4 hb45
      have hz4 := HB4.out.trans (hz4'.mono HB4.out.size)
      have HB5 : Hid (Below w.heap.size w z5) := hz4.trans (hb45.mono hz4.size)
      clear W4 he hb45 hz4 hz4' HB4 F4 HX4 HTo
      go_wp2_with fail
      rw [← hz5]
      clear hz5
      refine (HE0.out _ _ _ _ _ _ _ _ _ V5.out U5.out).mono ?_
      rintro e z6 ⟨rfl, hz6'⟩
      have HB6 : Hid (Below w.heap.size w z6) := HB5.out.trans (hz6'.mono HB5.out.size)
      clear hz6' HB5 HXz V5 U5 HE0 x0 x1 x2 x3 hlt hne
      go_wp2_with fail
      go_ret
      exact ⟨rfl, HB6.out⟩
end Go.Proofs.YtaplkbkpgdpbaaaGreatDoor.Few
