/-
  Walks: ResponseBytes of both programs.
-/
import Derived.Test.YtaplkbkpgdpbaaaGreatDoorRss
import Derived.Deep.RegionHeld3
namespace Go.Proofs.YtaplkbkpgdpbaaaGreatDoor.Rsb
open Go.RowKit
open Go.Proofs.YtaplkbkpgdpbaaaGreatDoor.Fbs
open Go.Proofs.YtaplkbkpgdpbaaaGreatDoor.Fch
open Go.Proofs.YtaplkbkpgdpbaaaGreatDoor.Fdb
open Go.Proofs.YtaplkbkpgdpbaaaGreatDoor.Fvs
open Go.Proofs.YtaplkbkpgdpbaaaGreatDoor.Lnp
open Go.Proofs.YtaplkbkpgdpbaaaGreatDoor.Rqb
open Go.Proofs.YtaplkbkpgdpbaaaGreatDoor.Num (num num_any itoa_any num_size_le tab_below tab_lt)

/-- What ResponseBytes answers. -/
def rpO (S : Int) (R : ByteArray) (l : List (ByteArray × ByteArray)) (B : ByteArray) : ByteArray × Bool := if rsB S R l B = true then (headS (firstP S R) l ++ B, true) else (⟨#[]⟩, false)
theorem rp_no {S : Int} {R B : ByteArray} {l : List (ByteArray × ByteArray)} (h : rsB S R l B = false) : rpO S R l B = (⟨#[]⟩, false) := by unfold rpO; rw [if_neg (by simp [h])]
theorem rp_yes {S : Int} {R B : ByteArray} {l : List (ByteArray × ByteArray)} (h : rsB S R l B = true) : rpO S R l B = (headS (firstP S R) l ++ B, true) := by unfold rpO; rw [if_pos h]
theorem rs_good {S : Int} {R B : ByteArray} {l : List (ByteArray × ByteArray)} (h : rsB S R l B = true) : goodL l = true ∧ (headS (firstP S R) l).size ≤ 2000 ∧ B.size ≤ 300 ∧ R.size ≤ 40 ∧ 100 ≤ S ∧ S ≤ 599 := by
  unfold rsB at h
  simp only [Bool.and_eq_true, decide_eq_true_eq, frB, stB, rsnB] at h
  obtain ⟨⟨h1, h2⟩, ⟨_, h5⟩, hg, ⟨_, h3, _⟩, h4⟩ := h
  exact ⟨hg, by omega, by omega, by omega, h1, h2⟩

set_option maxHeartbeats 1600000 in
theorem implPB_any (S : Int) (R B : ByteArray) (a : Option Addr) (ca : Nat) (l : List (ByteArray × ByteArray)) (b : Addr) (w : World) (lo hi : Nat) (hT : Tab w) (hP : PowT w) (hE : w.cell? ⟨0, 0, none⟩ = some (sent b)) (hR : R.size ≤ 2000000) (hz : SzF l) (hca : l.length ≤ ca) (ha : FV w a l lo hi) :
    Calls Tryz.prog 20 #[.agg #[.int .i64 S, .string R, .slice a l.length ca, .string B]] w fun e w' => e = .returned (.tuple #[.string (rpO S R l B).1, .bool (rpO S R l B).2]) ∧ Below w.heap.size w w' := by
  have hgt := hT.lt
  have hgp := tab_lt hP
  have het := World.block_lt_of_cell? _ _ hE
  have hb1 : Below w.heap.size w (w.alloc (.cells #[.int .i64 S, .string R, .slice a l.length ca, .string B] 36)) := (Below.refl _ _).alloc (Nat.le_refl _) _
  have HX : Hid (BoxP (w.alloc (.cells #[.int .i64 S, .string R, .slice a l.length ca, .string B] 36)) w.heap.size S R a l.length ca B) := BoxP.made w S R a l.length ca B _
  have HA1 : Hid (FV _ a l lo hi) := ha.below hb1
  have HP1 : Hid (PowT _) := tab_below hP hb1 hgp
  have HG := implGoodP_any S R B a ca l b (w.alloc (.cells #[.int .i64 S, .string R, .slice a l.length ca, .string B] 36)) lo hi (hT.below hb1 hgt) (tab_below hP hb1 hgp) ((hb1.cell (p := ⟨0, 0, none⟩) het).trans hE) hR hz hca HA1.out
  cases hq : rsB S R l B
  · rw [hq] at HG
    rw [rp_no hq]
    have HG1 : Hid _ := HG
    clear HG hq hE hz
    go_enter Tryz.func20, Tryz.ntmps20
    go_wp2_with fail
    refine (Calls.mono HG1.out ?_)
    rintro e w2 ⟨rfl, hb2⟩
    have hb12 := hb1.trans (hb2.mono hb1.size)
    go_wp2_with fail
    go_ret2
    exact ⟨rfl, hb12⟩
  · rw [hq] at HG
    rw [rp_yes hq]
    obtain ⟨hg, hh, hB, _, hS1, hS2⟩ := rs_good hq
    have HH : Hid (∀ w, PowT w → FV w a l lo hi → Calls Tryz.prog 55 #[.agg #[.int .i64 S, .string R, .slice a l.length ca, .string B]] w fun e w' => e = .returned (.string (headS (firstP S R) l)) ∧ Below w.heap.size w w') := by
      intro w t h
      obtain ⟨n, rfl⟩ := Int.eq_ofNat_of_zero_le (show 0 ≤ S by omega)
      exact responseHead_any n R B a ca l w lo hi t (by omega) (by omega) (goodL_all hg).1 hz h
    generalize headS (firstP S R) l = H at HH hh ⊢
    have q1 : ¬ 9223372036854775807 < H.size + B.size := by omega
    have HG1 : Hid _ := HG
    clear HG hq hE hz hg
    go_enter Tryz.func20, Tryz.ntmps20
    go_wp2_with fail
    refine (Calls.mono HG1.out ?_)
    rintro e w2 ⟨rfl, hb2⟩
    have hb12 := hb1.trans (hb2.mono hb1.size)
    have HX2 : Hid (BoxP w2 w.heap.size S R a l.length ca B) := HX.out.below hb2
    obtain ⟨x0, x1, x2, x3⟩ := HX2.out
    have ha2 := HA1.out.below hb2
    have hb2k := hb2
    clear hb2
    go_wp2_with fail
    have hn : w.heap.size < w2.heap.size := World.block_lt_of_cell? _ _ x0
    have HP2 : Hid (PowT w2) := tab_below HP1.out hb2k (Nat.lt_of_lt_of_le hgp hb1.size)
    have hgp2 := tab_lt HP2.out
    clear hb2k
    have HA2 : Hid (FV w2 a l lo hi) := ha2
    clear ha2 HX HX2
    go_region_held3 (fun w' => w'.cell? ⟨w.heap.size, 0, none⟩ = some (.int .i64 S) ∧ w'.cell? ⟨w.heap.size, 1, none⟩ = some (.string R) ∧ w'.cell? ⟨w.heap.size, 2, none⟩ = some (.slice a l.length ca) ∧ w'.cell? ⟨w.heap.size, 3, none⟩ = some (.string B) ∧ Below w2.heap.size w2 w')
      (first
        | exact ⟨x0, x1, x2, x3, keep_first w2⟩
        | assumption
        | exact keep4 hn (by assumption) (by assumption))
      (first
        | (go_at_call 55; with_reducible refine (HH.out _ (tab_below HP2.out (and5 (by assumption)) hgp2) (HA2.out.below (and5 (by assumption)))).mono ?_; rintro e w3 ⟨rfl, hb3⟩))
    all_goals
      go_wp2
      go_ret2
      exact ⟨rfl, hb12.trans (Below.mono (and5 (by assumption) : Below w2.heap.size w2 _) hb12.size)⟩

set_option maxHeartbeats 1600000 in
theorem specPB_any (S : Int) (R B : ByteArray) (a : Option Addr) (ca : Nat) (l : List (ByteArray × ByteArray)) (w : World) (lo hi : Nat) (hR : R.size ≤ 2000000) (hl : l.length ≤ 2000000) (hz : SzF l) (ha : FV w a l lo hi) :
    Calls Tryz.prog 21 #[.agg #[.int .i64 S, .string R, .slice a l.length ca, .string B]] w fun e w' => e = .returned (.tuple #[.string (rpO S R l B).1, .bool (rpO S R l B).2]) ∧ Below w.heap.size w w' := by
  have hb1 : Below w.heap.size w (w.alloc (.cells #[.int .i64 S, .string R, .slice a l.length ca, .string B] 36)) := (Below.refl _ _).alloc (Nat.le_refl _) _
  have HX : Hid (BoxP (w.alloc (.cells #[.int .i64 S, .string R, .slice a l.length ca, .string B] 36)) w.heap.size S R a l.length ca B) := BoxP.made w S R a l.length ca B _
  have HA1 : Hid (FV _ a l lo hi) := ha.below hb1
  have HG := specGoodP_any S R B a ca l (w.alloc (.cells #[.int .i64 S, .string R, .slice a l.length ca, .string B] 36)) lo hi hR hl hz HA1.out
  cases hq : rsB S R l B
  · rw [hq] at HG
    rw [rp_no hq]
    have HG1 : Hid _ := HG
    clear HG hq hz
    go_enter Tryz.func21, Tryz.ntmps21
    go_wp2_with fail
    refine (Calls.mono HG1.out ?_)
    rintro e w2 ⟨rfl, hb2⟩
    have hb12 := hb1.trans (hb2.mono hb1.size)
    go_wp2_with fail
    go_ret2
    exact ⟨rfl, hb12⟩
  · rw [hq] at HG
    rw [rp_yes hq]
    obtain ⟨hg, hh, hB, hR1, hS1, hS2⟩ := rs_good hq
    have H1 : Hid (∀ w, Calls Tryz.prog 56 #[.agg #[.int .i64 S, .string R, .slice a l.length ca, .string B]] w fun e w' => e = .returned (.string (firstP S R)) ∧ Below w.heap.size w w') := by
      intro w
      obtain ⟨n, rfl⟩ := Int.eq_ofNat_of_zero_le (show 0 ≤ S by omega)
      exact l4Status_any n R B a l.length ca w (by omega) hR
    have hfs : (firstP S R).size ≤ 8000000 := by
      have := @num_le S.toNat (by omega)
      unfold firstP; rw [spc3_size]; show 8 + _ + _ + 2 ≤ _; omega
    have HH : Hid _ := fun w h => l4Head_any (firstP S R) a ca l w lo hi hfs (goodL_all hg).1 hz h
    generalize firstP S R = f at H1 HH hh ⊢
    generalize headS f l = H at HH hh ⊢
    have q1 : ¬ 9223372036854775807 < H.size + B.size := by omega
    have HG1 : Hid _ := HG
    clear HG hq hz hg hfs
    go_enter Tryz.func21, Tryz.ntmps21
    go_wp2_with fail
    refine (Calls.mono HG1.out ?_)
    rintro e w2 ⟨rfl, hb2⟩
    have hb12 := hb1.trans (hb2.mono hb1.size)
    have HX2 : Hid (BoxP w2 w.heap.size S R a l.length ca B) := HX.out.below hb2
    obtain ⟨x0, x1, x2, x3⟩ := HX2.out
    have ha2 := HA1.out.below hb2
    clear hb2
    go_wp2_with fail
    have hn : w.heap.size < w2.heap.size := World.block_lt_of_cell? _ _ x0
    have HA2 : Hid (FV w2 a l lo hi) := ha2
    clear ha2 HX HX2
    go_region_held3 (fun w' => w'.cell? ⟨w.heap.size, 0, none⟩ = some (.int .i64 S) ∧ w'.cell? ⟨w.heap.size, 1, none⟩ = some (.string R) ∧ w'.cell? ⟨w.heap.size, 2, none⟩ = some (.slice a l.length ca) ∧ w'.cell? ⟨w.heap.size, 3, none⟩ = some (.string B) ∧ Below w2.heap.size w2 w')
      (first
        | exact ⟨x0, x1, x2, x3, keep_first w2⟩
        | assumption
        | exact keep4 hn (by assumption) (by assumption))
      (first
        | (go_at_call 56; with_reducible refine (H1.out _).mono ?_; rintro e w3 ⟨rfl, hb3⟩)
        | (go_at_call 46; with_reducible refine (HH.out _ (HA2.out.below (and5 (by assumption)))).mono ?_; rintro e w4 ⟨rfl, hb4⟩))
    all_goals
      go_wp2
      go_ret2
      exact ⟨rfl, hb12.trans (Below.mono (and5 (by assumption) : Below w2.heap.size w2 _) hb12.size)⟩

end Go.Proofs.YtaplkbkpgdpbaaaGreatDoor.Rsb
