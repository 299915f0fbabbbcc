/-
  Walk: the law FnExactHitsOf.
-/
import Derived.Test.YteniompfkfhemaaIip
import Derived.Test.YteniompfkfhemaaIil
namespace Go.Proofs.Yteniompfkfhemaa.Iwh
open Go.RowKit
open Go.Proofs.Yteniompfkfhemaa.Iia

set_option maxHeartbeats 3200000 in
theorem walk (a : Option Addr) (ca : Nat) (l : List Int) (w : World) (hl : l.length ≤ maxLen) (ha : IL w a l 0 w.heap.size) :
    Calls Try.prog 11 #[.slice a l.length ca] w fun e w' => e = .returned (.bool true) ∧ Below w.heap.size w w' := by
  unfold maxLen at hl
  have HA : Hid (IL w a l 0 w.heap.size) := ha
  clear ha
  by_cases hbig : 1048576 < l.length
  · have hd : decide ((1048576 : Int) < (l.length : Int)) = true := decide_eq_true (by omega)
    go_enter Try.func11, Try.ntmps11
    go_wp2_with fail
    go_ret
    exact ⟨rfl, Below.refl _ _⟩
  have hd : decide ((1048576 : Int) < (l.length : Int)) = false := decide_eq_false (by omega)
  have hl1 : l.length ≤ 1048576 := by omega
  have hJ : (hsL l).length ≤ 1500000 := by
    unfold hsL
    split
    · rw [htL_len]; omega
    · simp
  have HT : Hid _ := fun w lo hi h => toI_any a ca l w lo hi hl1 h
  have HSp : Hid (∀ a' (w : World) lo hi, IL w (some a') l lo hi → Calls Try.prog 21 #[.slice (some a') l.length l.length] w fun e w' => (∃ r, e = .returned (.tuple #[r, .bool (refsB l)]) ∧ intsIn w' w.heap.size r (hsL l)) ∧ Below w.heap.size w w') := fun a' w lo hi h => specHits_any _ l w lo hi hl1 h
  have HI : Hid (∀ a' (w : World) lo hi, IL w (some a') l lo hi → Calls Try.prog 20 #[.slice (some a') l.length l.length] w fun e w' => (∃ r, e = .returned (.tuple #[r, .bool (refsB l)]) ∧ intsIn w' w.heap.size r (hsL l)) ∧ Below w.heap.size w w') := fun a' w lo hi h => implHits_any _ l w lo hi hl1 h
  have HE : Hid _ := fun a' b' ca' cb' w x y x' y' p q => eqI_any a' b' ca' cb' l w x y x' y' (by omega) p q
  have HEj : Hid _ := fun a' b' ca' cb' w x y x' y' p q => eqI_any a' b' ca' cb' (hsL l) w x y x' y' (by omega) p q
  have HMl : Hid _ := fun a' ca' w x y p => markI_one a' ca' l w x y (by omega) p
  have HMj : Hid _ := fun a' ca' w x y p => markI_one a' ca' (hsL l) w x y (by omega) p
  have HHj : Hid _ := fun a' ca' w x y p => heldI_one a' ca' (hsL l).length w x y (by omega) p
  generalize hsL l = J at HSp HI HEj HMj HHj hJ
  generalize refsB l = ok at HSp HI
  have hdl : decide (1 + (l.length : Int) < 0) = false := decide_eq_false (by omega)
  have hdj : decide (1 + (J.length : Int) < 0) = false := decide_eq_false (by omega)
  go_enter Try.func11, Try.ntmps11
  go_wp2_with fail
  refine Calls.mono (HT.out _ _ _ HA.out) ?_
  rintro e w2 ⟨rfl, X2, hb2'⟩
  have hb2 := hb2'
  clear hb2'
  go_wp2_with fail
  refine (HSp.out _ _ _ _ X2.il).mono ?_
  rintro e w3 ⟨⟨r0, rfl, hr0⟩, hb3'⟩
  obtain ⟨a0, c0, rfl, S3⟩ := iw_of hr0
  clear hr0 X2
  have hb3 := hb2.trans (hb3'.mono hb2.size)
  clear hb3' hb2
  go_wp2_with fail
  refine (HT.out _ _ _ (HA.out.below hb3)).mono ?_
  rintro e w4 ⟨rfl, X4, hb4'⟩
  have z3 := hb3.size
  have z34 := hb4'.size
  have hb4 := hb3.trans (hb4'.mono hb3.size)
  have S4 := S3.below hb4'
  clear hb4' S3 hb3
  have z4 := hb4.size
  go_wp2_with fail
  refine (HI.out _ _ _ _ X4.il).mono ?_
  rintro e w5 ⟨⟨r1, rfl, hr1⟩, hb5'⟩
  obtain ⟨a1, c1, rfl, G5⟩ := iw_of hr1
  clear hr1
  have z45 := hb5'.size
  have hb5 := hb4.trans (hb5'.mono hb4.size)
  have S5 := S4.below hb5'
  have X5 := X4.below hb5'
  clear hb5' S4 X4 hb4
  go_wp2_with fail
  refine (HEj.out _ _ _ _ _ _ _ _ _ G5.il S5.il).mono ?_
  rintro e w6 ⟨rfl, hb6'⟩
  have hb6 := hb5.trans (hb6'.mono hb5.size)
  have S6 := S5.below hb6'
  have X6 := X5.below hb6'
  have G6 := G5.below hb6'
  clear hb6' S5 X5 G5 hb5
  go_wp2_with fail
  refine (HT.out _ _ _ (HA.out.below hb6)).mono ?_
  rintro e w7 ⟨rfl, Y7, hb7'⟩
  have hb7 := hb6.trans (hb7'.mono hb6.size)
  have S7 := S6.below hb7'
  have X7 := X6.below hb7'
  have G7 := G6.below hb7'
  clear hb7' S6 X6 G6 hb6
  go_wp2_with fail
  refine (HE.out _ _ _ _ _ _ _ _ _ X7.il Y7.il).mono ?_
  rintro e w8 ⟨rfl, hb8'⟩
  clear Y7
  have hb8 := hb7.trans (hb8'.mono hb7.size)
  have S8 := S7.below hb8'
  have X8 := X7.below hb8'
  have G8 := G7.below hb8'
  clear hb8' S7 X7 G7 hb7
  go_wp2_with fail
  refine (HMl.out _ _ _ _ _ X8).mono ?_
  rintro e w9 ⟨rfl, _, row, hg9, hrow⟩
  have S9 := apart S8 hg9 (fun g e => by have := hrow g e; omega)
  have G9 := apart G8 hg9 (fun g e => by have := hrow g e; omega)
  have hb9 := grownB hb8 hg9 hb8.size (fun g e => by have := hrow g e; omega)
  clear hg9 hrow S8 G8 X8 hb8
  go_wp2_with fail
  refine (HEj.out _ _ _ _ _ _ _ _ _ G9.il S9.il).mono ?_
  rintro e w10 ⟨rfl, hb10'⟩
  have hb10 := hb9.trans (hb10'.mono hb9.size)
  have S10 := S9.below hb10'
  have G10 := G9.below hb10'
  clear hb10' S9 G9 hb9
  go_wp2_with fail
  refine (HMj.out _ _ _ _ _ G10).mono ?_
  rintro e w11 ⟨rfl, M11, row2, hg11, hrow2⟩
  have S11 := apart S10 hg11 (fun g e => by have := hrow2 g e; omega)
  have hb11 := grownB hb10 hg11 hb10.size (fun g e => by have := hrow2 g e; omega)
  clear hg11 hrow2 S10 G10 hb10
  go_wp2_with fail
  refine (HHj.out _ _ _ _ _ M11).mono ?_
  rintro e w12 ⟨rfl, hb12'⟩
  have hb12 := hb11.trans (hb12'.mono hb11.size)
  have S12 := S11.below hb12'
  have M12 := M11.below hb12'
  clear hb12' S11 M11 hb11
  go_wp2_with fail
  refine (HT.out _ _ _ (HA.out.below hb12)).mono ?_
  rintro e w13 ⟨rfl, X13, hb13'⟩
  have hb13 := hb12.trans (hb13'.mono hb12.size)
  have S13 := S12.below hb13'
  have M13 := M12.below hb13'
  clear hb13' S12 M12 hb12
  go_wp2_with fail
  refine (HI.out _ _ _ _ X13.il).mono ?_
  rintro e w14 ⟨⟨r2, rfl, hr2⟩, hb14'⟩
  obtain ⟨a2, c2, rfl, H14⟩ := iw_of hr2
  clear hr2 X13
  have hb14 := hb13.trans (hb14'.mono hb13.size)
  have S14 := S13.below hb14'
  have M14 := M13.below hb14'
  clear hb14' S13 M13 hb13
  go_wp2_with fail
  refine (HEj.out _ _ _ _ _ _ _ _ _ H14.il S14.il).mono ?_
  rintro e w15 ⟨rfl, hb15'⟩
  clear H14 S14
  have hb15 := hb14.trans (hb15'.mono hb14.size)
  have M15 := M14.below hb15'
  clear hb15' M14 hb14
  go_wp2_with fail
  refine (HHj.out _ _ _ _ _ M15).mono ?_
  rintro e w16 ⟨rfl, hb16'⟩
  have hb16 := hb15.trans (hb16'.mono hb15.size)
  clear hb16' hb15
  go_wp2_with fail
  go_ret
  exact ⟨rfl, hb16⟩

end Go.Proofs.Yteniompfkfhemaa.Iwh
