/-
  Walk: the law FnExactGoodKept.
-/
import Derived.Test.YtnindmppnfeanaaGreatDoorKko
namespace Go.Proofs.YtnindmppnfeanaaGreatDoor.Kkx
open Go.RowKit
open Go.Proofs.YtnindmppnfeanaaGreatDoor
open Go.Proofs.YtnindmppnfeanaaGreatDoor.Fbs
open Go.Proofs.YtnindmppnfeanaaGreatDoor.Fch
open Go.Proofs.YtnindmppnfeanaaGreatDoor.Fdb
open Go.Proofs.YtnindmppnfeanaaGreatDoor.Fds (AF ShortF)
open Go.Proofs.YtnindmppnfeanaaGreatDoor.Fvs
open Go.Proofs.YtnindmppnfeanaaGreatDoor.Rso
open Go.Proofs.YtnindmppnfeanaaGreatDoor.Rsb
open Go.Proofs.YtnindmppnfeanaaGreatDoor.Kka
open Go.Proofs.YtnindmppnfeanaaGreatDoor.Num (tab_below tab_lt)
open Go.Proofs.YtnindmppnfeanaaGreatDoor.Lnp (sent)

set_option maxHeartbeats 3200000 in
theorem walk (S : Int) (R B : ByteArray) (a : Option Addr) (ca : Nat) (l : List (ByteArray × ByteArray)) (q m : Int) (b : Addr) (w : World) (hT : Tab w) (hP : PowT w) (hE : w.cell? ⟨0, 0, none⟩ = some (sent b)) (hR : R.size ≤ maxLen) (hB : B.size ≤ maxLen) (ha : AF w a l) (hl : l.length ≤ maxLen) (hx : ∀ x ∈ l, x.1.size ≤ maxLen ∧ x.2.size ≤ maxLen) :
    Calls Tryz.prog 5 #[.agg #[.int .i64 S, .string R, .slice a l.length ca, .string B, .int .i64 q, .int .i64 m]] w fun e w' => e = .returned (.bool true) ∧ Below w.heap.size w w' := by
  have hgt := hT.lt
  have hgp := tab_lt hP
  have het := World.block_lt_of_cell? _ _ hE
  have HE : Hid (w.cell? ⟨0, 0, none⟩ = some (sent b)) := hE
  have HZ : Hid _ := fun w h => szKept_any S R B a ca l q m w hR hB hl hx h
  have hb0 : Below w.heap.size w (w.alloc (.cells #[.int .i64 S, .string R, .slice a l.length ca, .string B, .int .i64 q, .int .i64 m] 53)) := (Below.refl _ _).alloc (Nat.le_refl _) _
  have HX0 : Hid (SixAt (w.alloc (.cells #[.int .i64 S, .string R, .slice a l.length ca, .string B, .int .i64 q, .int .i64 m] 53)) w.heap.size (.int .i64 S) (.string R) (.slice a l.length ca) (.string B) (.int .i64 q) (.int .i64 m)) := SixAt.made w _ _ _ _ _ _ _
  have HA : Hid (∀ w', Below w.heap.size w w' → AF w' a l) := fun _ h => ha.below h
  have hTT : Hid (Tab w) := hT
  have hPP : Hid (PowT w) := hP
  clear hx hl ha hE hT hP
  go_enter Tryz.func5, Tryz.ntmps5
  go_wp2_with fail
  refine (HZ.out _ (HA.out _ hb0)).mono ?_
  rintro e w1 ⟨v, rfl, hv, hb1'⟩
  have hb1 := hb0.trans (hb1'.mono hb0.size)
  have HX1 : Hid (SixAt w1 w.heap.size (.int .i64 S) (.string R) (.slice a l.length ca) (.string B) (.int .i64 q) (.int .i64 m)) := HX0.out.below hb1'
  obtain ⟨x_, x0, x1, x2, x3, x4, x5⟩ := HX1.out
  clear hb1' HX0 hb0
  by_cases hneg : v < 0
  · have hd : decide (v < 0) = true := decide_eq_true hneg
    go_wp2_with fail
    go_ret
    exact ⟨rfl, hb1⟩
  have hd : decide (v < 0) = false := decide_eq_false hneg
  obtain ⟨hR1, hB1, hl1, hx1⟩ := hv (by omega)
  have hzF : SzF l := by
    intro c hc
    obtain ⟨j, hj, rfl⟩ := List.getElem_of_mem hc
    have := hx1 j hj
    omega
  have HT : Hid (∀ w, AF w a l → _) := fun w h => toKept_any S R B a ca l q m w hl1 h
  have HSp : Hid _ := fun a' w lo hi h => specKept_any S R B a' l.length l q m w lo hi (by omega) (by omega) hzF h
  have HIm : Hid _ := fun a' w lo hi t p c h => implKept_any S R B a' l.length l q m b w lo hi t p c (by omega) hzF (Nat.le_refl _) h
  have HEF : Hid _ := fun a' b' w x y x' y' p1 q1 => eqKept_any S R B a' b' l q m w x y x' y' (by omega) p1 q1
  generalize keptB S R l B q m = r at HSp HIm
  clear hx1 hl1 hv hzF hR1 hB1 hR hB
  go_wp2_with fail
  refine (HT.out _ (HA.out _ hb1)).mono ?_
  rintro e w2 ⟨⟨g2, rfl, T2⟩, hb2'⟩
  have hb2 := hb1.trans (hb2'.mono hb1.size)
  have HX2 : Hid (SixAt w2 w.heap.size (.int .i64 S) (.string R) (.slice a l.length ca) (.string B) (.int .i64 q) (.int .i64 m)) := HX1.out.below hb2'
  clear hb2' x_ x0 x1 x2 x3 x4 x5 HX1
  go_wp2_with fail
  refine (HSp.out _ _ _ _ T2).mono ?_
  rintro e w3 ⟨rfl, hb3'⟩
  have hb3 := hb2.trans (hb3'.mono hb2.size)
  have HX3 : Hid (SixAt w3 w.heap.size (.int .i64 S) (.string R) (.slice a l.length ca) (.string B) (.int .i64 q) (.int .i64 m)) := HX2.out.below hb3'
  obtain ⟨x_, x0, x1, x2, x3, x4, x5⟩ := HX3.out
  clear hb3' T2 hb2 HX2
  go_wp2_with fail
  refine (HT.out _ (HA.out _ hb3)).mono ?_
  rintro e w4 ⟨⟨g4, rfl, X4⟩, hb4'⟩
  have hb4 := hb3.trans (hb4'.mono hb3.size)
  obtain ⟨w5, hw5⟩ : ∃ w5, w5 = w4.alloc (.cells #[.int .i64 S, .string R, .slice (some ⟨g4, 0, none⟩) l.length l.length, .string B, .int .i64 q, .int .i64 m] 27) := ⟨_, rfl⟩
  have hb45 : Below w4.heap.size w4 w5 := by rw [hw5]; exact (Below.refl _ _).alloc (Nat.le_refl _) _
  have HX5 : Hid (SixAt w5 w.heap.size (.int .i64 S) (.string R) (.slice a l.length ca) (.string B) (.int .i64 q) (.int .i64 m)) := (HX3.out.below hb4').below hb45
  have HY5 : Hid (SixAt w5 w4.heap.size (.int .i64 S) (.string R) (.slice (some ⟨g4, 0, none⟩) l.length l.length) (.string B) (.int .i64 q) (.int .i64 m)) := by rw [hw5]; exact SixAt.made w4 _ _ _ _ _ _ _
  have X5 := X4.below hb45
  have hb5 := hb4.trans (hb45.mono hb4.size)
  clear hb4' hb3 x_ x0 x1 x2 x3 x4 x5 HX3 X4
  have hT5 := hTT.out.below hb5 hgt
  have hP5 : PowT w5 := tab_below hPP.out hb5 hgp
  have hE5 := (hb5.cell (p := ⟨0, 0, none⟩) het).trans HE.out
  go_wp2_with fail
  rw [← hw5]
  clear hw5 hb45 hb4
  refine (HIm.out _ _ _ _ hT5 hP5 hE5 X5).mono ?_
  rintro e w6 ⟨rfl, hb6'⟩
  have hb6 := hb5.trans (hb6'.mono hb5.size)
  have HX6 : Hid (SixAt w6 w.heap.size (.int .i64 S) (.string R) (.slice a l.length ca) (.string B) (.int .i64 q) (.int .i64 m)) := HX5.out.below hb6'
  have HY6 : Hid (SixAt w6 w4.heap.size (.int .i64 S) (.string R) (.slice (some ⟨g4, 0, none⟩) l.length l.length) (.string B) (.int .i64 q) (.int .i64 m)) := HY5.out.below hb6'
  obtain ⟨x_, x0, x1, x2, x3, x4, x5⟩ := HX6.out
  obtain ⟨y_, y0, y1, y2, y3, y4, y5⟩ := HY6.out
  have X6 := X5.below hb6'
  clear hb6' X5 HX5 HY5 hb5 hT5 hP5 hPP hE5 hTT HE HSp HIm HZ
  go_wp2_with fail
  go_region_with (first
    | (go_at_call 24; refine (HT.out _ (HA.out _ (by first | exact hb6.drew | exact hb6))).mono ?_; rintro e w7 ⟨⟨g7, rfl, T7⟩, hb7'⟩; have hb67 : Below w6.heap.size w6 w7 := (by first | exact hb7' | exact (Below.refl _ _).drew.trans hb7'); have hb7 := hb6.trans (hb67.mono hb6.size); have X7 := X6.below hb67; obtain ⟨z_, z0, z1, z2, z3, z4, z5⟩ := HY6.out.below hb67; clear hb7' hb67)
    | (go_at_call 26; refine (HEF.out _ _ _ _ _ _ _ X7 T7).mono ?_; rintro e w8 ⟨rfl, hb8'⟩; have hb8 := hb7.trans (hb8'.mono hb7.size); clear hb8'))
  all_goals
    go_wp2_with fail
    go_ret
    exact ⟨rfl, by first | exact hb8 | exact hb8.drew⟩

end Go.Proofs.YtnindmppnfeanaaGreatDoor.Kkx
