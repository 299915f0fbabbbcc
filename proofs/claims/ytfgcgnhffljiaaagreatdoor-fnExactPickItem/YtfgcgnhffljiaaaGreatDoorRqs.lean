/-
  Walks: spec.GoodRequest.
-/
import Derived.Test.YtfgcgnhffljiaaaGreatDoorRqk
import Derived.Deep.RegionHeld3
import Derived.Deep.QuietTactic
import Derived.BigQuiet
namespace Go.Proofs.YtfgcgnhffljiaaaGreatDoor.Rqb
open Go.RowKit
open Go.Proofs.YtfgcgnhffljiaaaGreatDoor.Fbs
open Go.Proofs.YtfgcgnhffljiaaaGreatDoor.Fch
open Go.Proofs.YtfgcgnhffljiaaaGreatDoor.Fdb
open Go.Proofs.YtfgcgnhffljiaaaGreatDoor.Fvs

theorem keep_first (W : World) : Below W.heap.size W W.drew := ⟨rfl, rfl, rfl, Nat.le_refl _, fun _ _ => rfl⟩
theorem and5 {a b c d e : Prop} (h : a ∧ b ∧ c ∧ d ∧ e) : e := h.2.2.2.2
theorem keep4 {W w0 w1 : World} {n : Nat} {u0 u1 u2 u3 : Option Value} (hn : n < W.heap.size) (h : w0.cell? ⟨n, 0, none⟩ = u0 ∧ w0.cell? ⟨n, 1, none⟩ = u1 ∧ w0.cell? ⟨n, 2, none⟩ = u2 ∧ w0.cell? ⟨n, 3, none⟩ = u3 ∧ Below W.heap.size W w0) (hb : Below w0.heap.size w0 w1) :
    w1.cell? ⟨n, 0, none⟩ = u0 ∧ w1.cell? ⟨n, 1, none⟩ = u1 ∧ w1.cell? ⟨n, 2, none⟩ = u2 ∧ w1.cell? ⟨n, 3, none⟩ = u3 ∧ Below W.heap.size W w1 := by
  obtain ⟨h0, h1, h2, h3, h4⟩ := h
  have e : ∀ i, w1.cell? ⟨n, i, none⟩ = w0.cell? ⟨n, i, none⟩ := fun i => hb.cell (p := ⟨n, i, none⟩) (Nat.lt_of_lt_of_le hn h4.size)
  exact ⟨(e 0).trans h0, (e 1).trans h1, (e 2).trans h2, (e 3).trans h3, h4.trans (hb.mono h4.size)⟩

theorem first_is (M T : ByteArray) : M ++ (⟨#[32]⟩ : ByteArray) ++ T ++ (⟨#[32, 72, 84, 84, 80, 47, 49, 46, 49]⟩ : ByteArray) = firstR M T := by
  unfold firstR spc3 vers
  apply ByteArray.ext
  simp [Array.append_assoc]

set_option maxHeartbeats 800000 in
theorem l4First_any (M T B : ByteArray) (a : Option Addr) (n ca : Nat) (w : World) (hM : M.size ≤ 2000000) (hT : T.size ≤ 2000000) :
    Calls Tryz.prog 94 #[.agg #[.string M, .string T, .slice a n ca, .string B]] w fun e w' => e = .returned (.string (firstR M T)) ∧ Below w.heap.size w w' := by
  have c1 : (⟨#[32]⟩ : ByteArray).size = 1 := rfl
  have c2 : (⟨#[32, 72, 84, 84, 80, 47, 49, 46, 49]⟩ : ByteArray).size = 9 := rfl
  have q1 : ¬ 9223372036854775807 < M.size + (⟨#[32]⟩ : ByteArray).size := by rw [c1]; omega
  have e1 : (M ++ (⟨#[32]⟩ : ByteArray)).size = M.size + 1 := by rw [ByteArray.size_append, c1]
  have q2 : ¬ 9223372036854775807 < (M ++ (⟨#[32]⟩ : ByteArray)).size + T.size := by rw [e1]; omega
  have e2 : (M ++ (⟨#[32]⟩ : ByteArray) ++ T).size = M.size + 1 + T.size := by rw [ByteArray.size_append, e1]
  have q3 : ¬ 9223372036854775807 < (M ++ (⟨#[32]⟩ : ByteArray) ++ T).size + (⟨#[32, 72, 84, 84, 80, 47, 49, 46, 49]⟩ : ByteArray).size := by rw [e2, c2]; omega
  have HR : Hid _ := first_is M T
  have hb1 : Below w.heap.size w (w.alloc (.cells #[.string M, .string T, .slice a n ca, .string B] 54)) := (Below.refl _ _).alloc (Nat.le_refl _) _
  clear e1 e2
  go_enter Tryz.func94, Tryz.ntmps94
  go_wp2_with fail
  go_ret
  exact ⟨ret_str HR.out, hb1⟩

theorem below_drewN (w : World) (n : Nat) : Below w.heap.size w (w.drewN n) := ⟨rfl, rfl, rfl, Nat.le_refl _, fun _ _ => rfl⟩

set_option maxRecDepth 20000 in
set_option maxHeartbeats 6400000 in
theorem specGoodR_any (M T B : ByteArray) (a : Option Addr) (ca : Nat) (l : List (ByteArray × ByteArray)) (w : World) (lo hi : Nat) (hM : M.size ≤ 2000000) (hTs : T.size ≤ 2000000) (hl : l.length ≤ 2000000) (hz : SzF l) (ha : FV w a l lo hi) :
    Calls Tryz.prog 53 #[.agg #[.string M, .string T, .slice a l.length ca, .string B]] w fun e w' => e = .returned (.bool (rqB M T l B)) ∧ Below w.heap.size w w' := by
  obtain ⟨W, hW⟩ : ∃ W, W = (w.alloc (.cells #[.string M, .string T, .slice a l.length ca, .string B] 54)) := ⟨_, rfl⟩
  have hn : w.heap.size < W.heap.size := by rw [hW]; simp
  have hb1 : Below w.heap.size w W := by rw [hW]; exact (Below.refl _ _).alloc (Nat.le_refl _) _
  have HX : Hid (BoxR W w.heap.size M T a l.length ca B) := by rw [hW]; exact BoxR.made w M T a l.length ca B _
  obtain ⟨x0, x1, x2, x3⟩ := HX.out
  have HA1 : Hid (FV W a l lo hi) := ha.below hb1
  have HMt : Hid _ := fun w => l4Method_any M w hM
  have HTt : Hid _ := fun w => l4Target_any T w hTs
  have HFs : Hid _ := fun w h => l3Fields_any a ca l w lo hi hl hz h
  have HR : Hid (rqB M T l B = (mthB M && (tgtB T && (goodL l && (frB l B && decide (((headS (firstR M T) l).size : Int) ≤ 2000)))))) := rfl
  generalize rqB M T l B = R at HR ⊢
  cases hm : mthB M
  · rw [hm] at HMt HR
    have HR1 : Hid (R = false) := HR.out.trans (by rw [Bool.false_and])
    clear HR hz ha
    go_enter Tryz.func53, Tryz.ntmps53
    go_wp2_with fail
    rw [← hW]
    clear hW
    go_quiet ((first
      | (go_at_call 92; exact Calls.quiet_of_same (HMt.out _))))
    go_wp2
    go_ret
    exact ⟨ret_bool HR1.out.symm, hb1.trans ((below_drewN _ _).mono hb1.size)⟩
  rw [hm] at HMt HR
  cases ht : tgtB T
  · rw [ht] at HTt HR
    have HR1 : Hid (R = false) := HR.out.trans (by rw [Bool.false_and, Bool.and_false])
    clear HR hz ha
    go_enter Tryz.func53, Tryz.ntmps53
    go_wp2_with fail
    rw [← hW]
    clear hW
    go_quiet ((first
      | (go_at_call 92; exact Calls.quiet_of_same (HMt.out _))
      | (go_at_call 93; exact Calls.quiet_of_same (HTt.out _))))
    go_wp2
    go_ret
    exact ⟨ret_bool HR1.out.symm, hb1.trans ((below_drewN _ _).mono hb1.size)⟩
  rw [ht] at HTt HR
  cases hg : goodL l
  · rw [hg] at HFs HR
    have HR1 : Hid (R = false) := HR.out.trans (by simp)
    clear HR hz ha
    go_enter Tryz.func53, Tryz.ntmps53
    go_wp2_with fail
    rw [← hW]
    clear hW
    first | (go_region_with (first
      | (go_at_call 92; with_reducible refine (HMt.out _).mono ?_; rintro e w2 ⟨rfl, hw⟩; obtain rfl := hw.symm)
      | (go_at_call 93; with_reducible refine (HTt.out _).mono ?_; rintro e w2 ⟨rfl, hw⟩; obtain rfl := hw.symm)
      | (go_at_call 72; refine (HFs.out _ (HA1.out.below (by first | exact keep_first W | exact Below.refl _ _))).mono ?_; rintro e w3 ⟨rfl, hb3'⟩; have hb3 : Below W.heap.size W w3 := (by first | exact hb3' | exact (Below.refl _ _).drew.trans hb3'); have hb13 := hb1.trans (hb3.mono hb1.size); have HX3 : Hid (BoxR w3 w.heap.size M T a l.length ca B) := HX.out.below hb3; obtain ⟨z0, z1, z2, z3⟩ := HX3.out; have ha3 := HA1.out.below hb3; clear hb3 hb3')))
          | fail
    all_goals
      go_wp2_with fail
      go_ret
      exact ⟨ret_bool HR1.out.symm, by first | exact hb13 | exact hb13.drew⟩
  rw [hg] at HFs HR
  have HFr : Hid _ := fun w h => l4Framed_any a ca l B w lo hi hg hz h
  cases hf : frB l B
  · rw [hf] at HFr HR
    have HR1 : Hid (R = false) := HR.out.trans (by simp)
    clear HR hz hg ha
    go_enter Tryz.func53, Tryz.ntmps53
    go_wp2_with fail
    rw [← hW]
    clear hW
    first | (go_region_with (first
      | (go_at_call 92; with_reducible refine (HMt.out _).mono ?_; rintro e w2 ⟨rfl, hw⟩; obtain rfl := hw.symm)
      | (go_at_call 93; with_reducible refine (HTt.out _).mono ?_; rintro e w2 ⟨rfl, hw⟩; obtain rfl := hw.symm)
      | (go_at_call 72; refine (HFs.out _ (HA1.out.below (by first | exact keep_first W | exact Below.refl _ _))).mono ?_; rintro e w3 ⟨rfl, hb3'⟩; have hb3 : Below W.heap.size W w3 := (by first | exact hb3' | exact (Below.refl _ _).drew.trans hb3'); have hb13 := hb1.trans (hb3.mono hb1.size); have HX3 : Hid (BoxR w3 w.heap.size M T a l.length ca B) := HX.out.below hb3; obtain ⟨z0, z1, z2, z3⟩ := HX3.out; have ha3 := HA1.out.below hb3; clear hb3 hb3')
      | (go_at_call 73; refine (HFr.out _ ha3).mono ?_; rintro e w4 ⟨rfl, hb4⟩; have hb14 := hb13.trans (hb4.mono hb13.size); obtain ⟨y0, y1, y2, y3⟩ := HX3.out.below hb4; clear hb4)))
          | fail
    all_goals
      go_wp2_with fail
      go_ret
      exact ⟨ret_bool HR1.out.symm, by first | exact hb14 | exact hb14.drew⟩
  rw [hf] at HFr HR
  have HR1 : Hid (R = decide (((headS (firstR M T) l).size : Int) ≤ 2000)) := HR.out.trans (by simp)
  have H1 : Hid _ := fun w => l4First_any M T B a l.length ca w hM hTs
  have hfs : (firstR M T).size ≤ 8000000 := by unfold firstR; rw [spc3_size]; show _ + _ + 8 + 2 ≤ _; omega
  have HH : Hid _ := fun w h => l4Head_any (firstR M T) a ca l w lo hi hfs (goodL_all hg).1 hz h
  generalize firstR M T = f at H1 HH HR1
  generalize headS f l = H at HH HR1
  clear HR hz hg hfs ha
  go_enter Tryz.func53, Tryz.ntmps53
  go_wp2_with fail
  rw [← hW]
  clear hW
  go_region_held3 (fun w' => w'.cell? ⟨w.heap.size, 0, none⟩ = some (.string M) ∧ w'.cell? ⟨w.heap.size, 1, none⟩ = some (.string T) ∧ w'.cell? ⟨w.heap.size, 2, none⟩ = some (.slice a l.length ca) ∧ w'.cell? ⟨w.heap.size, 3, none⟩ = some (.string B) ∧ Below W.heap.size W w')
    (first
      | exact ⟨x0, x1, x2, x3, keep_first W⟩
      | assumption
      | exact keep4 hn (by assumption) (by assumption))
    (first
      | (go_at_call 92; with_reducible refine (HMt.out _).mono ?_; rintro e w2 ⟨rfl, hw⟩; obtain rfl := hw.symm)
      | (go_at_call 93; with_reducible refine (HTt.out _).mono ?_; rintro e w2 ⟨rfl, hw⟩; obtain rfl := hw.symm)
      | (go_at_call 72; with_reducible refine (HFs.out _ (HA1.out.below (and5 (by assumption)))).mono ?_; rintro e w3 ⟨rfl, hb3⟩)
      | (go_at_call 73; with_reducible refine (HFr.out _ (HA1.out.below (and5 (by assumption)))).mono ?_; rintro e w4 ⟨rfl, hb4⟩)
      | (go_at_call 94; with_reducible refine (H1.out _).mono ?_; rintro e w5 ⟨rfl, hb5⟩)
      | (go_at_call 74; with_reducible refine (HH.out _ (HA1.out.below (and5 (by assumption)))).mono ?_; rintro e w6 ⟨rfl, hb6⟩))
  all_goals
    go_wp2
    go_ret
    exact ⟨ret_bool HR1.out.symm, hb1.trans (Below.mono (and5 (by assumption) : Below W.heap.size W _) hb1.size)⟩

end Go.Proofs.YtfgcgnhffljiaaaGreatDoor.Rqb
