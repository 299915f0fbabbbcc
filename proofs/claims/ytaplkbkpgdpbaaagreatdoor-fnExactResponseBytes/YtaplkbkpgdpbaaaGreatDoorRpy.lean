/-
  Walk: the law FnExactResponseBytes.
-/
import Derived.Test.YtaplkbkpgdpbaaaGreatDoorRpt
import Derived.Test.YtaplkbkpgdpbaaaGreatDoorRpb
namespace Go.Proofs.YtaplkbkpgdpbaaaGreatDoor.Rpy
open Go.RowKit
open Go.Proofs.YtaplkbkpgdpbaaaGreatDoor
open Go.Proofs.YtaplkbkpgdpbaaaGreatDoor.Fbs
open Go.Proofs.YtaplkbkpgdpbaaaGreatDoor.Fch
open Go.Proofs.YtaplkbkpgdpbaaaGreatDoor.Fdb
open Go.Proofs.YtaplkbkpgdpbaaaGreatDoor.Fds (AF ShortF)
open Go.Proofs.YtaplkbkpgdpbaaaGreatDoor.Fvs
open Go.Proofs.YtaplkbkpgdpbaaaGreatDoor.Rso
open Go.Proofs.YtaplkbkpgdpbaaaGreatDoor.Rsb
open Go.Proofs.YtaplkbkpgdpbaaaGreatDoor.Num (tab_below tab_lt)
open Go.Proofs.YtaplkbkpgdpbaaaGreatDoor.Lnp (sent)

set_option maxHeartbeats 3200000 in
theorem walk (S : Int) (R B : ByteArray) (a : Option Addr) (ca : Nat) (l : List (ByteArray × ByteArray)) (b : Addr) (w : World) (hT : Tab w) (hP : PowT w) (hE : w.cell? ⟨0, 0, none⟩ = some (sent b)) (hR : R.size ≤ maxLen) (hB : B.size ≤ maxLen) (ha : AF w a l) (hl : l.length ≤ maxLen) (hx : ∀ x ∈ l, x.1.size ≤ maxLen ∧ x.2.size ≤ maxLen) :
    Calls Tryz.prog 8 #[.agg #[.int .i64 S, .string R, .slice a l.length ca, .string B]] w fun e w' => e = .returned (.bool true) ∧ Below w.heap.size w w' := by
  have hgt := hT.lt
  have hgp := tab_lt hP
  have het := World.block_lt_of_cell? _ _ hE
  have HE : Hid (w.cell? ⟨0, 0, none⟩ = some (sent b)) := hE
  have HZ : Hid _ := fun w h => szResponse_any S R B a ca l w hR hB hl hx h
  have hb0 : Below w.heap.size w (w.alloc (.cells #[.int .i64 S, .string R, .slice a l.length ca, .string B] 52)) := (Below.refl _ _).alloc (Nat.le_refl _) _
  have HX0 : Hid (BoxP (w.alloc (.cells #[.int .i64 S, .string R, .slice a l.length ca, .string B] 52)) w.heap.size S R a l.length ca B) := BoxP.made w S R a l.length ca B _
  have HA : Hid (∀ w', Below w.heap.size w w' → AF w' a l) := fun _ h => ha.below h
  have hTT : Hid (Tab w) := hT
  have hPP : Hid (PowT w) := hP
  clear hx hl ha hE hT hP
  go_enter Tryz.func8, Tryz.ntmps8
  go_wp2_with fail
  refine (HZ.out _ (HA.out _ hb0)).mono ?_
  rintro e w1 ⟨v, rfl, hv, hb1'⟩
  have hb1 := hb0.trans (hb1'.mono hb0.size)
  have HX1 : Hid (BoxP w1 w.heap.size S R a l.length ca B) := HX0.out.below hb1'
  obtain ⟨x0, x1, x2, x3⟩ := HX1.out
  clear hb1' HX0 hb0
  by_cases hneg : v < 0
  · have hd : decide (v < 0) = true := decide_eq_true hneg
    go_wp2_with fail
    go_ret
    exact ⟨rfl, hb1⟩
  have hd : decide (v < 0) = false := decide_eq_false hneg
  obtain ⟨hR1, hB1, hl1, hx1⟩ := hv (by omega)
  have hzF : SzF l := by
    intro c hc
    obtain ⟨j, hj, rfl⟩ := List.getElem_of_mem hc
    have := hx1 j hj
    omega
  have HT : Hid (∀ w, AF w a l → _) := fun w h => toResponse_any S R B a ca l w hl1 h
  have HSp : Hid _ := fun a' w lo hi h => specPB_any S R B a' l.length l w lo hi (by omega) (by omega) hzF h
  have HIm : Hid _ := fun a' w lo hi t p c h => implPB_any S R B a' l.length l b w lo hi t p c (by omega) hzF (Nat.le_refl _) h
  have HEF : Hid _ := fun a' b' w x y x' y' p q => eqResponse_any S R B a' b' l w x y x' y' (by omega) p q
  generalize rpO S R l B = r at HSp HIm
  obtain ⟨Bo, ok⟩ := r
  have hsb := Mrk.same_text Bo
  clear hx1 hl1 hv hzF hR1 hB1 hR hB
  go_wp2_with fail
  refine (HT.out _ (HA.out _ hb1)).mono ?_
  rintro e w2 ⟨⟨g2, rfl, T2⟩, hb2'⟩
  have hb2 := hb1.trans (hb2'.mono hb1.size)
  have HX2 : Hid (BoxP w2 w.heap.size S R a l.length ca B) := HX1.out.below hb2'
  clear hb2' x0 x1 x2 x3 HX1
  go_wp2_with fail
  refine (HSp.out _ _ _ _ T2).mono ?_
  rintro e w3 ⟨rfl, hb3'⟩
  have hb3 := hb2.trans (hb3'.mono hb2.size)
  have HX3 : Hid (BoxP w3 w.heap.size S R a l.length ca B) := HX2.out.below hb3'
  obtain ⟨x0, x1, x2, x3⟩ := HX3.out
  clear hb3' T2 hb2 HX2
  go_wp2_with fail
  refine (HT.out _ (HA.out _ hb3)).mono ?_
  rintro e w4 ⟨⟨g4, rfl, X4⟩, hb4'⟩
  have hb4 := hb3.trans (hb4'.mono hb3.size)
  obtain ⟨w5, hw5⟩ : ∃ w5, w5 = w4.alloc (.cells #[.int .i64 S, .string R, .slice (some ⟨g4, 0, none⟩) l.length l.length, .string B] 36) := ⟨_, rfl⟩
  have hb45 : Below w4.heap.size w4 w5 := by rw [hw5]; exact (Below.refl _ _).alloc (Nat.le_refl _) _
  have HX5 : Hid (BoxP w5 w.heap.size S R a l.length ca B) := (HX3.out.below hb4').below hb45
  have HY5 : Hid (BoxP w5 w4.heap.size S R (some ⟨g4, 0, none⟩) l.length l.length B) := by rw [hw5]; exact BoxP.made w4 S R _ l.length l.length B _
  have X5 := X4.below hb45
  have hb5 := hb4.trans (hb45.mono hb4.size)
  clear hb4' hb3 x0 x1 x2 x3 HX3 X4
  have hT5 := hTT.out.below hb5 hgt
  have hP5 : PowT w5 := tab_below hPP.out hb5 hgp
  have hE5 := (hb5.cell (p := ⟨0, 0, none⟩) het).trans HE.out
  go_wp2_with fail
  rw [← hw5]
  clear hw5 hb45 hb4
  refine (HIm.out _ _ _ _ hT5 hP5 hE5 X5).mono ?_
  rintro e w6 ⟨rfl, hb6'⟩
  have hb6 := hb5.trans (hb6'.mono hb5.size)
  have HX6 : Hid (BoxP w6 w.heap.size S R a l.length ca B) := HX5.out.below hb6'
  have HY6 : Hid (BoxP w6 w4.heap.size S R (some ⟨g4, 0, none⟩) l.length l.length B) := HY5.out.below hb6'
  obtain ⟨x0, x1, x2, x3⟩ := HX6.out
  obtain ⟨y0, y1, y2, y3⟩ := HY6.out
  have X6 := X5.below hb6'
  clear hb6' X5 HX5 HY5 hb5 hT5 hP5 hPP hE5 hTT HE HSp HIm HZ
  go_wp2_with fail
  go_region_with (first
    | (go_at_call 35; refine (HT.out _ (HA.out _ (by first | exact hb6.drew | exact hb6))).mono ?_; rintro e w7 ⟨⟨g7, rfl, T7⟩, hb7'⟩; have hb67 : Below w6.heap.size w6 w7 := (by first | exact hb7' | exact (Below.refl _ _).drew.trans hb7'); have hb7 := hb6.trans (hb67.mono hb6.size); have X7 := X6.below hb67; obtain ⟨z0, z1, z2, z3⟩ := HY6.out.below hb67; clear hb7' hb67)
    | (go_at_call 37; refine (HEF.out _ _ _ _ _ _ _ X7 T7).mono ?_; rintro e w8 ⟨rfl, hb8'⟩; have hb8 := hb7.trans (hb8'.mono hb7.size); clear hb8'))
  all_goals
    go_wp2_with fail
    go_ret
    exact ⟨rfl, by first | exact hb8 | exact hb8.drew⟩

end Go.Proofs.YtaplkbkpgdpbaaaGreatDoor.Rpy
