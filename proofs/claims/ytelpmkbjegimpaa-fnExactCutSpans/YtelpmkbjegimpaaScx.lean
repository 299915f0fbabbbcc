/-
  Walk: the law FnExactCutSpans, over what impl.CutSpans answers.
-/
import Derived.Test.YtelpmkbjegimpaaSpc
import Derived.Test.YtelpmkbjegimpaaMrk
import Derived.Test.YtelpmkbjegimpaaSps
namespace Go.Proofs.Ytelpmkbjegimpaa.Scx
open Go.RowKit
open Go.Proofs.Ytelpmkbjegimpaa.Spb
open Go.Proofs.Ytelpmkbjegimpaa.Spp
open Go.Proofs.Ytelpmkbjegimpaa.Ows
open Go.Proofs.Ytelpmkbjegimpaa.Mrk (TV tv_of eqS_any markS_one heldS_one)
open Go.Proofs.Ytelpmkbjegimpaa.Sps

theorem apartT {w w' : World} {a : Option Addr} {l : List ByteArray} {lo hi : Nat} (h : TV w a l lo hi) {row : Option Nat} (hg : w.grownBy w' row) (hr : ∀ g, row = some g → g < lo ∨ hi ≤ g) : TV w' a l lo hi := by
  rcases h with h | ⟨g, h1, h2, h3, h4, h5, h6⟩
  · exact .inl h
  · have hb : w'.heap[g]? = w.heap[g]? := hg.block g h4 (fun e => by have := hr g e.symm; omega)
    have hc : ∀ i, w'.cell? ⟨g, i, none⟩ = w.cell? ⟨g, i, none⟩ := fun i => by unfold World.cell?; rw [hb]
    refine .inr ⟨g, h1, h2, h3, Nat.lt_of_lt_of_le h4 hg.size, fun i => ?_, fun i c hi => (hc _).trans (h6 i c hi)⟩
    have := h5 i
    unfold World.frozen? at this ⊢
    rwa [hb]
theorem grownB {B : Nat} {w w1 w2 : World} (h : Below B w w1) {row : Option Nat} (hg : w1.grownBy w2 row) (hB : B ≤ w1.heap.size) (hr : ∀ g, row = some g → B ≤ g) : Below B w w2 :=
  ⟨hg.os.trans h.os, hg.tape.trans h.tape, hg.output.trans h.output, Nat.le_trans h.size hg.size, fun k hk => (hg.block k (by omega) (fun e => by have := hr k e.symm; omega)).trans (h.block k hk)⟩
theorem cutL_len (body : ByteArray) (l : List (Int × Int)) : (cutL body l).length ≤ 12 := by
  unfold cutL
  split
  · next h =>
    unfold cutB at h
    have h2 : withinL l (body.size : Int) = true := by simp at h; exact h.2
    have := (goodL_parts (withinL_parts h2).1).1
    rw [List.length_map]; exact this
  · exact Nat.zero_le _

set_option maxHeartbeats 3200000 in
theorem walk (HIm : Hid (∀ (body : ByteArray) (a : Option Addr) (ca : Nat) (l : List (Int × Int)) (w : World) (lo hi : Nat), l.length ≤ 2000000 → body.size ≤ 2000000 → PV w a l lo hi →
      Calls Try.prog 14 #[.string body, .slice a l.length ca] w fun e w' => (∃ r, e = .returned (.tuple #[r, .bool (cutB body l)]) ∧ textsIn w' w.heap.size r (cutL body l)) ∧ Below w.heap.size w w'))
    (body : ByteArray) (a : Option Addr) (ca : Nat) (l : List (Int × Int)) (w : World) (_ : body.size ≤ maxLen) (hl : l.length ≤ maxLen) (ha : AP w a l) :
    Calls Try.prog 5 #[.string body, .slice a l.length ca] w fun e w' => e = .returned (.bool true) ∧ Below w.heap.size w w' := by
  by_cases hz : 1048576 < body.size
  · go_enter Try.func5, Try.ntmps5
    go_wp2_with fail
    go_ret
    exact ⟨rfl, Below.refl _ _⟩
  have HA : Hid (AP w a l) := ha
  have HZ : Hid _ := szSpanS_any a ca l.length w hl
  clear ha hl
  go_enter Try.func5, Try.ntmps5
  go_wp2_with fail
  refine (Calls.mono HZ.out ?_)
  rintro e w1 ⟨⟨v, rfl, hv⟩, hw1⟩
  obtain rfl := hw1.symm
  by_cases hneg : v < 0
  · have hd : decide (v < 0) = true := decide_eq_true hneg
    go_wp2_with fail
    go_ret
    exact ⟨rfl, Below.refl _ _⟩
  have hd : decide (v < 0) = false := decide_eq_false hneg
  have hl1 := hv (by omega)
  have hJ := cutL_len body l
  have HT : Hid _ := fun w h => toSpanS_any a ca l w hl1 h
  have HSp : Hid _ := fun a' ca' w lo' hi' h => specCut_any body a' ca' l w lo' hi' (by omega) (by omega) h
  have HI : Hid _ := fun a' ca' w lo' hi' h => HIm.out body a' ca' l w lo' hi' (by omega) (by omega) h
  have HE : Hid _ := fun a' b' ca' cb' w x y x' y' p q => eqPS_any a' b' ca' cb' l w x y x' y' (by omega) p q
  have HEj : Hid _ := fun a' b' ca' cb' w x y x' y' p q => eqS_any a' b' ca' cb' (cutL body l) w x y x' y' (by omega) p q
  have HMl : Hid _ := fun a' ca' w x y p => markP_one a' ca' l w x y (by omega) p
  have HMj : Hid _ := fun a' ca' w x y p => markS_one a' ca' (cutL body l) w x y (by omega) p
  have HHj : Hid _ := fun a' ca' w x y p => heldS_one a' ca' (cutL body l).length w x y (by omega) p
  generalize cutL body l = J at HSp HI HEj HMj HHj hJ
  generalize cutB body l = ok at HSp HI
  have hdl : decide (1 + 2 * (l.length : Int) < 0) = false := decide_eq_false (by omega)
  have hdj : decide (1 + (J.length : Int) < 0) = false := decide_eq_false (by omega)
  clear HZ HIm hv
  go_wp2_with fail
  refine (HT.out _ HA.out).mono ?_
  rintro e w2 ⟨rfl, X2, hb2'⟩
  have hb2 := hb2'
  clear hb2'
  go_wp2_with fail
  refine (HSp.out _ _ _ _ _ X2).mono ?_
  rintro e w3 ⟨⟨r0, rfl, hr0⟩, hb3'⟩
  obtain ⟨a0, c0, rfl, S3⟩ := tv_of hr0
  clear hr0 X2
  have hb3 := hb2.trans (hb3'.mono hb2.size)
  clear hb3' hb2
  go_wp2_with fail
  refine (HT.out _ (HA.out.below hb3)).mono ?_
  rintro e w4 ⟨rfl, X4, hb4'⟩
  have z3 := hb3.size
  have z34 := hb4'.size
  have hb4 := hb3.trans (hb4'.mono hb3.size)
  have S4 := S3.below hb4'
  clear hb4' S3 hb3
  have z4 := hb4.size
  go_wp2_with fail
  refine (HI.out _ _ _ _ _ X4).mono ?_
  rintro e w5 ⟨⟨r1, rfl, hr1⟩, hb5'⟩
  obtain ⟨a1, c1, rfl, G5⟩ := tv_of hr1
  clear hr1
  have z45 := hb5'.size
  have hb5 := hb4.trans (hb5'.mono hb4.size)
  have S5 := S4.below hb5'
  have X5 := X4.below hb5'
  clear hb5' S4 X4 hb4
  go_wp2_with fail
  refine (HEj.out _ _ _ _ _ _ _ _ _ G5 S5).mono ?_
  rintro e w6 ⟨rfl, hb6'⟩
  have hb6 := hb5.trans (hb6'.mono hb5.size)
  have S6 := S5.below hb6'
  have X6 := X5.below hb6'
  have G6 := G5.below hb6'
  clear hb6' S5 X5 G5 hb5
  go_wp2_with fail
  refine (HT.out _ (HA.out.below hb6)).mono ?_
  rintro e w7 ⟨rfl, Y7, hb7'⟩
  have hb7 := hb6.trans (hb7'.mono hb6.size)
  have S7 := S6.below hb7'
  have X7 := X6.below hb7'
  have G7 := G6.below hb7'
  clear hb7' S6 X6 G6 hb6
  go_wp2_with fail
  refine (HE.out _ _ _ _ _ _ _ _ _ X7 Y7).mono ?_
  rintro e w8 ⟨rfl, hb8'⟩
  clear Y7
  have hb8 := hb7.trans (hb8'.mono hb7.size)
  have S8 := S7.below hb8'
  have X8 := X7.below hb8'
  have G8 := G7.below hb8'
  clear hb8' S7 X7 G7 hb7
  go_wp2_with fail
  refine (HMl.out _ _ _ _ _ X8).mono ?_
  rintro e w9 ⟨rfl, _, row, hg9, hrow⟩
  have S9 := apartT S8 hg9 (fun g e => by have := hrow g e; omega)
  have G9 := apartT G8 hg9 (fun g e => by have := hrow g e; omega)
  have hb9 := grownB hb8 hg9 hb8.size (fun g e => by have := hrow g e; omega)
  clear hg9 hrow S8 G8 X8 hb8
  go_wp2_with fail
  refine (HEj.out _ _ _ _ _ _ _ _ _ G9 S9).mono ?_
  rintro e w10 ⟨rfl, hb10'⟩
  have hb10 := hb9.trans (hb10'.mono hb9.size)
  have S10 := S9.below hb10'
  have G10 := G9.below hb10'
  clear hb10' S9 G9 hb9
  go_wp2_with fail
  refine (HMj.out _ _ _ _ _ G10).mono ?_
  rintro e w11 ⟨rfl, M11, row2, hg11, hrow2⟩
  have S11 := apartT S10 hg11 (fun g e => by have := hrow2 g e; omega)
  have hb11 := grownB hb10 hg11 hb10.size (fun g e => by have := hrow2 g e; omega)
  clear hg11 hrow2 S10 G10 hb10
  go_wp2_with fail
  refine (HHj.out _ _ _ _ _ M11).mono ?_
  rintro e w12 ⟨rfl, hb12'⟩
  have hb12 := hb11.trans (hb12'.mono hb11.size)
  have S12 := S11.below hb12'
  have M12 := M11.below hb12'
  clear hb12' S11 M11 hb11
  go_wp2_with fail
  refine (HT.out _ (HA.out.below hb12)).mono ?_
  rintro e w13 ⟨rfl, X13, hb13'⟩
  have hb13 := hb12.trans (hb13'.mono hb12.size)
  have S13 := S12.below hb13'
  have M13 := M12.below hb13'
  clear hb13' S12 M12 hb12
  go_wp2_with fail
  refine (HI.out _ _ _ _ _ X13).mono ?_
  rintro e w14 ⟨⟨r2, rfl, hr2⟩, hb14'⟩
  obtain ⟨a2, c2, rfl, H14⟩ := tv_of hr2
  clear hr2 X13
  have hb14 := hb13.trans (hb14'.mono hb13.size)
  have S14 := S13.below hb14'
  have M14 := M13.below hb14'
  clear hb14' S13 M13 hb13
  go_wp2_with fail
  refine (HEj.out _ _ _ _ _ _ _ _ _ H14 S14).mono ?_
  rintro e w15 ⟨rfl, hb15'⟩
  clear H14 S14
  have hb15 := hb14.trans (hb15'.mono hb14.size)
  have M15 := M14.below hb15'
  clear hb15' M14 hb14
  go_wp2_with fail
  refine (HHj.out _ _ _ _ _ M15).mono ?_
  rintro e w16 ⟨rfl, hb16'⟩
  have hb16 := hb15.trans (hb16'.mono hb15.size)
  clear hb16' hb15
  go_wp2_with fail
  go_ret
  exact ⟨rfl, hb16⟩

end Go.Proofs.Ytelpmkbjegimpaa.Scx
