/-
  Walks: spec.GoodResponse.
-/
import Derived.Test.YtfgcgnhffljiaaaGreatDoorRst
import Derived.Deep.RegionHeld3
import Derived.Deep.QuietTactic
import Derived.BigQuiet
namespace Go.Proofs.YtfgcgnhffljiaaaGreatDoor.Rsb
open Go.RowKit
open Go.Proofs.YtfgcgnhffljiaaaGreatDoor.Fbs
open Go.Proofs.YtfgcgnhffljiaaaGreatDoor.Fch
open Go.Proofs.YtfgcgnhffljiaaaGreatDoor.Fdb
open Go.Proofs.YtfgcgnhffljiaaaGreatDoor.Fvs
open Go.Proofs.YtfgcgnhffljiaaaGreatDoor.Rqb
open Go.Proofs.YtfgcgnhffljiaaaGreatDoor.Num (num num_any itoa_any num_size_le tab_below tab_lt)

theorem below_drewN (w : World) (n : Nat) : Below w.heap.size w (w.drewN n) := ⟨rfl, rfl, rfl, Nat.le_refl _, fun _ _ => rfl⟩

set_option maxRecDepth 20000 in
set_option maxHeartbeats 6400000 in
theorem specGoodP_any (S : Int) (R B : ByteArray) (a : Option Addr) (ca : Nat) (l : List (ByteArray × ByteArray)) (w : World) (lo hi : Nat) (hR : R.size ≤ 2000000) (hl : l.length ≤ 2000000) (hz : SzF l) (ha : FV w a l lo hi) :
    Calls Tryz.prog 38 #[.agg #[.int .i64 S, .string R, .slice a l.length ca, .string B]] w fun e w' => e = .returned (.bool (rsB S R l B)) ∧ Below w.heap.size w w' := by
  obtain ⟨W, hW⟩ : ∃ W, W = (w.alloc (.cells #[.int .i64 S, .string R, .slice a l.length ca, .string B] 31)) := ⟨_, rfl⟩
  have hn : w.heap.size < W.heap.size := by rw [hW]; simp
  have hb1 : Below w.heap.size w W := by rw [hW]; exact (Below.refl _ _).alloc (Nat.le_refl _) _
  have HX : Hid (BoxP W w.heap.size S R a l.length ca B) := by rw [hW]; exact BoxP.made w S R a l.length ca B _
  obtain ⟨x0, x1, x2, x3⟩ := HX.out
  have HA1 : Hid (FV W a l lo hi) := ha.below hb1
  have HMt : Hid (∀ w, Calls Tryz.prog 70 #[.int .i64 S, .int .i64 100, .int .i64 599] w fun e w' => e = .returned (.bool (stB S)) ∧ w' = w) := fun w => l1In_any S 100 599 w
  have HTt : Hid _ := fun w => l4Reason_any R w hR
  have HFs : Hid _ := fun w h => l3Fields_any a ca l w lo hi hl hz h
  have HR : Hid (rsB S R l B = (stB S && (rsnB R && (goodL l && (frB l B && decide (((headS (firstP S R) l).size : Int) ≤ 2000)))))) := rfl
  generalize rsB S R l B = R0 at HR ⊢
  cases hm : stB S
  · rw [hm] at HMt HR
    have HR1 : Hid (R0 = false) := HR.out.trans (by rw [Bool.false_and])
    clear HR hz ha
    go_enter Tryz.func38, Tryz.ntmps38
    go_wp2_with fail
    rw [← hW]
    clear hW
    go_quiet ((first
      | (go_at_call 70; exact Calls.quiet_of_same (HMt.out _))))
    go_wp2
    go_ret
    exact ⟨ret_bool HR1.out.symm, hb1.trans ((below_drewN _ _).mono hb1.size)⟩
  rw [hm] at HMt HR
  cases ht : rsnB R
  · rw [ht] at HTt HR
    have HR1 : Hid (R0 = false) := HR.out.trans (by rw [Bool.false_and, Bool.and_false])
    clear HR hz ha
    go_enter Tryz.func38, Tryz.ntmps38
    go_wp2_with fail
    rw [← hW]
    clear hW
    go_quiet ((first
      | (go_at_call 70; exact Calls.quiet_of_same (HMt.out _))
      | (go_at_call 71; exact Calls.quiet_of_same (HTt.out _))))
    go_wp2
    go_ret
    exact ⟨ret_bool HR1.out.symm, hb1.trans ((below_drewN _ _).mono hb1.size)⟩
  rw [ht] at HTt HR
  cases hg : goodL l
  · rw [hg] at HFs HR
    have HR1 : Hid (R0 = false) := HR.out.trans (by simp)
    clear HR hz ha
    go_enter Tryz.func38, Tryz.ntmps38
    go_wp2_with fail
    rw [← hW]
    clear hW
    first | (go_region_with (first
      | (go_at_call 70; with_reducible refine (HMt.out _).mono ?_; rintro e w2 ⟨rfl, hw⟩; obtain rfl := hw.symm)
      | (go_at_call 71; with_reducible refine (HTt.out _).mono ?_; rintro e w2 ⟨rfl, hw⟩; obtain rfl := hw.symm)
      | (go_at_call 72; refine (HFs.out _ (HA1.out.below (by first | exact keep_first W | exact Below.refl _ _))).mono ?_; rintro e w3 ⟨rfl, hb3'⟩; have hb3 : Below W.heap.size W w3 := (by first | exact hb3' | exact (Below.refl _ _).drew.trans hb3'); have hb13 := hb1.trans (hb3.mono hb1.size); have HX3 : Hid (BoxP w3 w.heap.size S R a l.length ca B) := HX.out.below hb3; obtain ⟨z0, z1, z2, z3⟩ := HX3.out; have ha3 := HA1.out.below hb3; clear hb3 hb3')))
          | fail
    all_goals
      go_wp2_with fail
      go_ret
      exact ⟨ret_bool HR1.out.symm, by first | exact hb13 | exact hb13.drew⟩
  rw [hg] at HFs HR
  have HFr : Hid _ := fun w h => l4Framed_any a ca l B w lo hi hg hz h
  cases hf : frB l B
  · rw [hf] at HFr HR
    have HR1 : Hid (R0 = false) := HR.out.trans (by simp)
    clear HR hz hg ha
    go_enter Tryz.func38, Tryz.ntmps38
    go_wp2_with fail
    rw [← hW]
    clear hW
    first | (go_region_with (first
      | (go_at_call 70; with_reducible refine (HMt.out _).mono ?_; rintro e w2 ⟨rfl, hw⟩; obtain rfl := hw.symm)
      | (go_at_call 71; with_reducible refine (HTt.out _).mono ?_; rintro e w2 ⟨rfl, hw⟩; obtain rfl := hw.symm)
      | (go_at_call 72; refine (HFs.out _ (HA1.out.below (by first | exact keep_first W | exact Below.refl _ _))).mono ?_; rintro e w3 ⟨rfl, hb3'⟩; have hb3 : Below W.heap.size W w3 := (by first | exact hb3' | exact (Below.refl _ _).drew.trans hb3'); have hb13 := hb1.trans (hb3.mono hb1.size); have HX3 : Hid (BoxP w3 w.heap.size S R a l.length ca B) := HX.out.below hb3; obtain ⟨z0, z1, z2, z3⟩ := HX3.out; have ha3 := HA1.out.below hb3; clear hb3 hb3')
      | (go_at_call 73; refine (HFr.out _ ha3).mono ?_; rintro e w4 ⟨rfl, hb4⟩; have hb14 := hb13.trans (hb4.mono hb13.size); obtain ⟨y0, y1, y2, y3⟩ := HX3.out.below hb4; clear hb4)))
          | fail
    all_goals
      go_wp2_with fail
      go_ret
      exact ⟨ret_bool HR1.out.symm, by first | exact hb14 | exact hb14.drew⟩
  rw [hf] at HFr HR
  have HR1 : Hid (R0 = decide (((headS (firstP S R) l).size : Int) ≤ 2000)) := HR.out.trans (by simp)
  have hS2 : 100 ≤ S ∧ S ≤ 599 := by unfold stB at hm; simpa using hm
  have H1 : Hid (∀ w, Calls Tryz.prog 75 #[.agg #[.int .i64 S, .string R, .slice a l.length ca, .string B]] w fun e w' => e = .returned (.string (firstP S R)) ∧ Below w.heap.size w w') := by
    intro w
    obtain ⟨n, rfl⟩ := Int.eq_ofNat_of_zero_le (show 0 ≤ S by omega)
    exact l4Status_any n R B a l.length ca w (by omega) hR
  have hfs : (firstP S R).size ≤ 8000000 := by
    have := @num_le S.toNat (by omega)
    unfold firstP; rw [spc3_size]; show 8 + _ + _ + 2 ≤ _; omega
  have HH : Hid _ := fun w h => l4Head_any (firstP S R) a ca l w lo hi hfs (goodL_all hg).1 hz h
  generalize firstP S R = f at H1 HH HR1
  generalize headS f l = H at HH HR1
  clear HR hz hg hfs ha
  go_enter Tryz.func38, Tryz.ntmps38
  go_wp2_with fail
  rw [← hW]
  clear hW
  go_region_held3 (fun w' => w'.cell? ⟨w.heap.size, 0, none⟩ = some (.int .i64 S) ∧ w'.cell? ⟨w.heap.size, 1, none⟩ = some (.string R) ∧ w'.cell? ⟨w.heap.size, 2, none⟩ = some (.slice a l.length ca) ∧ w'.cell? ⟨w.heap.size, 3, none⟩ = some (.string B) ∧ Below W.heap.size W w')
    (first
      | exact ⟨x0, x1, x2, x3, keep_first W⟩
      | assumption
      | exact keep4 hn (by assumption) (by assumption))
    (first
      | (go_at_call 70; with_reducible refine (HMt.out _).mono ?_; rintro e w2 ⟨rfl, hw⟩; obtain rfl := hw.symm)
      | (go_at_call 71; with_reducible refine (HTt.out _).mono ?_; rintro e w2 ⟨rfl, hw⟩; obtain rfl := hw.symm)
      | (go_at_call 72; with_reducible refine (HFs.out _ (HA1.out.below (and5 (by assumption)))).mono ?_; rintro e w3 ⟨rfl, hb3⟩)
      | (go_at_call 73; with_reducible refine (HFr.out _ (HA1.out.below (and5 (by assumption)))).mono ?_; rintro e w4 ⟨rfl, hb4⟩)
      | (go_at_call 75; with_reducible refine (H1.out _).mono ?_; rintro e w5 ⟨rfl, hb5⟩)
      | (go_at_call 74; with_reducible refine (HH.out _ (HA1.out.below (and5 (by assumption)))).mono ?_; rintro e w6 ⟨rfl, hb6⟩))
  all_goals
    go_wp2
    go_ret
    exact ⟨ret_bool HR1.out.symm, hb1.trans (Below.mono (and5 (by assumption) : Below W.heap.size W _) hb1.size)⟩

end Go.Proofs.YtfgcgnhffljiaaaGreatDoor.Rsb
