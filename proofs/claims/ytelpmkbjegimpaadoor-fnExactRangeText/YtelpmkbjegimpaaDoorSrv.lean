/-
  Walk: the law FnExactRangeText.
-/
import Derived.Test.YtelpmkbjegimpaaDoorSru
import Derived.Test.YtelpmkbjegimpaaDoorSps
namespace Go.Proofs.YtelpmkbjegimpaaDoor.Srv
open Go.RowKit
open Go.Proofs.YtelpmkbjegimpaaDoor.Spb
open Go.Proofs.YtelpmkbjegimpaaDoor.Sps
open Go.Proofs.YtelpmkbjegimpaaDoor.Srt
open Go.Proofs.YtelpmkbjegimpaaDoor.Num (tab_below tab_lt)

set_option maxHeartbeats 1600000 in
theorem walk (a : Option Addr) (ca : Nat) (l : List (Int × Int)) (w : World) (hP : PowT w) (hl : l.length ≤ maxLen) (ha : AP w a l) :
    Calls Tryd.prog 5 #[.slice a l.length ca] w fun e w' => e = .returned (.bool true) ∧ Below w.heap.size w w' := by
  have HA : Hid (AP w a l) := ha
  have HZ : Hid _ := szSpanS_any a ca l.length w hl
  clear ha hl
  go_enter Tryd.func5, Tryd.ntmps5
  go_wp2_with fail
  refine (Calls.mono HZ.out ?_)
  rintro e w1 ⟨⟨v, rfl, hv⟩, hw1⟩
  obtain rfl := hw1.symm
  by_cases hneg : v < 0
  · have hd : decide (v < 0) = true := decide_eq_true hneg
    go_wp2_with fail
    go_ret
    exact ⟨rfl, Below.refl _ _⟩
  have hd : decide (v < 0) = false := decide_eq_false hneg
  have hl1 := hv (by omega)
  have HT : Hid _ := fun w h => toSpanS_any a ca l w hl1 h
  have HSp : Hid _ := fun a' ca' w lo' hi' h => specText_any a' ca' l w lo' hi' (by omega) h
  have HI : Hid _ := fun a' ca' w lo' hi' hp h => implText_any a' ca' l w lo' hi' hp (by omega) h
  have hgp := tab_lt hP
  have HPw : Hid (PowT w) := hP
  have HE : Hid _ := fun a' b' ca' cb' w x y x' y' p q => eqPS_any a' b' ca' cb' l w x y x' y' (by omega) p q
  generalize rangeS l = S at HSp HI
  generalize rangeB l = ok at HSp HI
  have hsS := Mrk.same_text S
  clear HZ hv hP
  go_wp2_with fail
  refine (HT.out _ HA.out).mono ?_
  rintro e w2 ⟨rfl, T2, hb2⟩
  have hA2 := HA.out.below hb2
  clear HA
  go_wp2_with fail
  refine (HSp.out _ _ _ _ _ T2).mono ?_
  rintro e w3 ⟨rfl, hb3'⟩
  have hb3 := hb2.trans (hb3'.mono hb2.size)
  have hA3 := hA2.below hb3'
  clear hA2 hb2 hb3' T2
  go_wp2_with fail
  refine (HT.out _ hA3).mono ?_
  rintro e w4 ⟨rfl, T4, hb4'⟩
  have hb4 := hb3.trans (hb4'.mono hb3.size)
  have hA4 := hA3.below hb4'
  clear hA3 hb3 hb4'
  go_wp2_with fail
  refine (HI.out _ _ _ _ _ (tab_below HPw.out hb4 hgp) T4).mono ?_
  rintro e w5 ⟨rfl, hb5'⟩
  have hb5 := hb4.trans (hb5'.mono hb4.size)
  have hA5 := hA4.below hb5'
  have T5 := T4.below hb5'
  clear hA4 hb4 hb5' T4
  go_wp2_with fail
  refine (HT.out _ hA5).mono ?_
  rintro e w6 ⟨rfl, T6, hb6'⟩
  have hb6 := hb5.trans (hb6'.mono hb5.size)
  have T56 := T5.below hb6'
  clear hb6' hA5 T5 hb5
  go_wp2_with fail
  refine (HE.out _ _ _ _ _ _ _ _ _ T56 T6).mono ?_
  rintro e w7 ⟨rfl, hb7'⟩
  have hb7 := hb6.trans (hb7'.mono hb6.size)
  go_wp2_with fail
  go_ret
  exact ⟨rfl, hb7⟩

end Go.Proofs.YtelpmkbjegimpaaDoor.Srv
