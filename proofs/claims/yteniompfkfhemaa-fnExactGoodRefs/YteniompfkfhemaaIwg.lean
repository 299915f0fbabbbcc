/-
  Walk: the law FnExactGoodRefs.
-/
import Derived.Test.YteniompfkfhemaaIid
import Derived.Test.YteniompfkfhemaaIil
namespace Go.Proofs.Yteniompfkfhemaa.Iwg
open Go.RowKit
open Go.Proofs.Yteniompfkfhemaa.Iia

set_option maxHeartbeats 1600000 in
theorem walk (a : Option Addr) (ca : Nat) (l : List Int) (w : World) (hl : l.length ≤ maxLen) (ha : IL w a l 0 w.heap.size) :
    Calls Try.prog 6 #[.slice a l.length ca] w fun e w' => e = .returned (.bool true) ∧ Below w.heap.size w w' := by
  unfold maxLen at hl
  have HA : Hid (IL w a l 0 w.heap.size) := ha
  clear ha
  by_cases hbig : 1048576 < l.length
  · have hd : decide ((1048576 : Int) < (l.length : Int)) = true := decide_eq_true (by omega)
    go_enter Try.func6, Try.ntmps6
    go_wp2_with fail
    go_ret
    exact ⟨rfl, Below.refl _ _⟩
  have hd : decide ((1048576 : Int) < (l.length : Int)) = false := decide_eq_false (by omega)
  have hl1 : l.length ≤ 1048576 := by omega
  have HT : Hid _ := fun w lo hi h => toI_any a ca l w lo hi hl1 h
  have HSp : Hid _ := fun a' ca' w lo hi h => goodS_any a' ca' l w lo hi (by omega) h
  have HI : Hid _ := fun a' ca' w lo hi h => goodI_any a' ca' l w lo hi (by omega) h
  have HE : Hid _ := fun a' b' ca' cb' w x y x' y' p q => eqI_any a' b' ca' cb' l w x y x' y' (by omega) p q
  generalize refsB l = ok at HSp HI
  go_enter Try.func6, Try.ntmps6
  go_wp2_with fail
  refine Calls.mono (HT.out _ _ _ HA.out) ?_
  rintro e w2 ⟨rfl, X2, hb2⟩
  go_wp2_with fail
  refine (HSp.out _ _ _ _ _ X2.il).mono ?_
  rintro e w3 ⟨rfl, hw⟩
  obtain rfl := hw.symm
  clear X2
  go_wp2_with fail
  refine (HT.out _ _ _ (HA.out.below hb2)).mono ?_
  rintro e w4 ⟨rfl, X4, hb4'⟩
  have hb4 := hb2.trans (hb4'.mono hb2.size)
  clear hb4' hb2
  go_wp2_with fail
  refine (HI.out _ _ _ _ _ X4.il).mono ?_
  rintro e w5 ⟨rfl, hw⟩
  obtain rfl := hw.symm
  go_wp2_with fail
  refine (HT.out _ _ _ (HA.out.below hb4)).mono ?_
  rintro e w7 ⟨rfl, Y7, hb7'⟩
  have hb7 := hb4.trans (hb7'.mono hb4.size)
  have X7 := X4.below hb7'
  clear hb7' X4 hb4
  go_wp2_with fail
  refine (HE.out _ _ _ _ _ _ _ _ _ X7.il Y7.il).mono ?_
  rintro e w8 ⟨rfl, hb8'⟩
  have hb8 := hb7.trans (hb8'.mono hb7.size)
  go_wp2_with fail
  go_ret
  exact ⟨rfl, hb8⟩

end Go.Proofs.Yteniompfkfhemaa.Iwg
