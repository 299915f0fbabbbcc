/-
  Walks: the law FnExactBestChoice.
-/
import Derived.Test.YtlofjmfaanchjaaDoorBsi
import Derived.Test.YtlofjmfaanchjaaDoorStc
namespace Go.Proofs.YtlofjmfaanchjaaDoor.Bcw
open Go.RowKit
open Go.Proofs.YtlofjmfaanchjaaDoor.Fbs
open Go.Proofs.YtlofjmfaanchjaaDoor.Fch
open Go.Proofs.YtlofjmfaanchjaaDoor.Mrk (TV eqS_any same_text)
open Go.Proofs.YtlofjmfaanchjaaDoor.Sts
open Go.Proofs.YtlofjmfaanchjaaDoor.Och (choO)
open Go.Proofs.YtlofjmfaanchjaaDoor.Bst (bestB specBest_any implBest_any)

set_option maxHeartbeats 1600000 in
theorem walk (s : ByteArray) (a : Option Addr) (ca : Nat) (l : List ByteArray) (m : Int) (w : World) (hT : Tab w) (hm : w.cell? ⟨1, 0, none⟩ = some (.int .i64 m)) (hl : l.length ≤ maxLen) (hx : ∀ x ∈ l, x.size ≤ maxLen) (ha : AV w a l) :
    Calls Tryd.prog 11 #[.string s, .slice a l.length ca] w fun e w' => e = .returned (.bool true) ∧ Below w.heap.size w w' := by
  have hgt := hT.lt
  have hmt := World.block_lt_of_cell? _ _ hm
  have HMx : Hid (w.cell? ⟨1, 0, none⟩ = some (.int .i64 m)) := hm
  clear hm
  by_cases hz : 1048576 < s.size
  · go_enter Tryd.func11, Tryd.ntmps11
    go_wp2_with fail
    go_ret
    exact ⟨rfl, Below.refl _ _⟩
  have HZ : Hid _ := szStringS_any a ca l w hl hx ha
  go_enter Tryd.func11, Tryd.ntmps11
  go_wp2_with fail
  refine (Calls.mono HZ.out ?_)
  rintro e w1 ⟨v, rfl, hv, hb1⟩
  by_cases hneg : v < 0
  · have hd : decide (v < 0) = true := decide_eq_true hneg
    go_wp2_with fail
    go_ret
    exact ⟨rfl, hb1⟩
  have hd : decide (v < 0) = false := decide_eq_false hneg
  obtain ⟨hl1, hx1⟩ := hv (by omega)
  have HT : Hid _ := fun w h => toStringS_any a ca l w hl1 h
  have hx2 : ∀ x ∈ l, x.size ≤ 2000000 := by
    intro x h
    obtain ⟨j, hj, rfl⟩ := List.getElem_of_mem h
    have := hx1 j hj
    omega
  have HSp : Hid _ := fun a' w lo' hi' t p c => specBest_any s a' l.length l m w lo' hi' t (by omega) p c hx2
  have HIm : Hid _ := fun a' w lo' hi' t p c => implBest_any s a' l.length l m w lo' hi' t (by omega) p c hx2
  have HE : Hid _ := fun a' b' w x y x' y' p q => eqS_any a' b' l.length l.length l w x y x' y' (by omega) p q
  generalize bestB (choO s) l = bb at HSp HIm
  obtain ⟨B, ok⟩ := bb
  have hsb := same_text B
  have ha1 := ha.below hb1
  clear hx hx1 hx2 hl hv ha
  obtain ⟨n, hn⟩ : ∃ n, n = l.length := ⟨_, rfl⟩
  go_wp2_with fail
  refine (HT.out _ ha1).mono ?_
  rintro e w2 ⟨rfl, T2, hb2'⟩
  have hb2 := hb1.trans (hb2'.mono hb1.size)
  have ha2 := ha1.below hb2'
  clear hb2'
  go_wp2_with fail
  refine (HSp.out _ _ _ _ (hT.below hb2 hgt) ((hb2.cell (p := ⟨1, 0, none⟩) hmt).trans HMx.out) T2).mono ?_
  rintro e w3 ⟨rfl, hb3'⟩
  have hb3 := hb2.trans (hb3'.mono hb2.size)
  have ha3 := ha2.below hb3'
  clear hb3' ha2 ha1 T2 hb2 hb1
  go_wp2_with fail
  refine (HT.out _ ha3).mono ?_
  rintro e w4 ⟨rfl, T4, hb4'⟩
  have hb4 := hb3.trans (hb4'.mono hb3.size)
  have ha4 := ha3.below hb4'
  clear hb4' ha3 hb3
  go_wp2_with fail
  refine (HIm.out _ _ _ _ (hT.below hb4 hgt) ((hb4.cell (p := ⟨1, 0, none⟩) hmt).trans HMx.out) T4).mono ?_
  rintro e w5 ⟨rfl, hb5'⟩
  have hb5 := hb4.trans (hb5'.mono hb4.size)
  have ha5 := ha4.below hb5'
  have T5 := T4.below hb5'
  clear hb5' ha4 T4 hb4
  go_wp2_with fail
  refine (HT.out _ ha5).mono ?_
  rintro e w6 ⟨rfl, T6, hb6'⟩
  have hb6 := hb5.trans (hb6'.mono hb5.size)
  have T56 := T5.below hb6'
  clear hb6' ha5 T5 hb5
  go_wp2_with fail
  refine (HE.out _ _ _ _ _ _ _ T56 T6).mono ?_
  rintro e w7 ⟨rfl, hb7'⟩
  have hb7 := hb6.trans (hb7'.mono hb6.size)
  go_wp2_with fail
  go_ret
  exact ⟨rfl, hb7⟩

end Go.Proofs.YtlofjmfaanchjaaDoor.Bcw
