/-
  Walks: RequestBytes of both programs.
-/
import Derived.Test.YtaplkbkpgdpbaaaGreatDoorRqs
import Derived.Deep.RegionHeld3
namespace Go.Proofs.YtaplkbkpgdpbaaaGreatDoor.Rqb
open Go.RowKit
open Go.Proofs.YtaplkbkpgdpbaaaGreatDoor.Fbs
open Go.Proofs.YtaplkbkpgdpbaaaGreatDoor.Fch
open Go.Proofs.YtaplkbkpgdpbaaaGreatDoor.Fdb
open Go.Proofs.YtaplkbkpgdpbaaaGreatDoor.Fvs
open Go.Proofs.YtaplkbkpgdpbaaaGreatDoor.Lnp

/-- What RequestBytes answers. -/
def rbO (M T : ByteArray) (l : List (ByteArray × ByteArray)) (B : ByteArray) : ByteArray × Bool := if rqB M T l B = true then (headS (firstR M T) l ++ B, true) else (⟨#[]⟩, false)
theorem rb_no {M T B : ByteArray} {l : List (ByteArray × ByteArray)} (h : rqB M T l B = false) : rbO M T l B = (⟨#[]⟩, false) := by unfold rbO; rw [if_neg (by simp [h])]
theorem rb_yes {M T B : ByteArray} {l : List (ByteArray × ByteArray)} (h : rqB M T l B = true) : rbO M T l B = (headS (firstR M T) l ++ B, true) := by unfold rbO; rw [if_pos h]
theorem rq_good {M T B : ByteArray} {l : List (ByteArray × ByteArray)} (h : rqB M T l B = true) : goodL l = true ∧ (headS (firstR M T) l).size ≤ 2000 ∧ B.size ≤ 300 ∧ M.size ≤ 10 ∧ T.size ≤ 200 := by
  unfold rqB at h
  simp only [Bool.and_eq_true, decide_eq_true_eq, frB, mthB, tgtB] at h
  obtain ⟨⟨_, h1⟩, ⟨_, _, h2⟩, hg, ⟨_, h3, _⟩, h4⟩ := h
  exact ⟨hg, by omega, by omega, by omega, by omega⟩

set_option maxHeartbeats 1600000 in
theorem implRB_any (M T B : ByteArray) (a : Option Addr) (ca : Nat) (l : List (ByteArray × ByteArray)) (b : Addr) (w : World) (lo hi : Nat) (hT : Tab w) (hE : w.cell? ⟨0, 0, none⟩ = some (sent b)) (hM : M.size ≤ 2000000) (hTs : T.size ≤ 2000000) (hz : SzF l) (hca : l.length ≤ ca) (ha : FV w a l lo hi) :
    Calls Tryz.prog 13 #[.agg #[.string M, .string T, .slice a l.length ca, .string B]] w fun e w' => e = .returned (.tuple #[.string (rbO M T l B).1, .bool (rbO M T l B).2]) ∧ Below w.heap.size w w' := by
  have hgt := hT.lt
  have het := World.block_lt_of_cell? _ _ hE
  have hb1 : Below w.heap.size w (w.alloc (.cells #[.string M, .string T, .slice a l.length ca, .string B] 25)) := (Below.refl _ _).alloc (Nat.le_refl _) _
  have HX : Hid (BoxR (w.alloc (.cells #[.string M, .string T, .slice a l.length ca, .string B] 25)) w.heap.size M T a l.length ca B) := BoxR.made w M T a l.length ca B _
  have HA1 : Hid (FV _ a l lo hi) := ha.below hb1
  have HG := implGoodR_any M T B a ca l b (w.alloc (.cells #[.string M, .string T, .slice a l.length ca, .string B] 25)) lo hi (hT.below hb1 hgt) ((hb1.cell (p := ⟨0, 0, none⟩) het).trans hE) hM hTs hz hca HA1.out
  cases hq : rqB M T l B
  · rw [hq] at HG
    rw [rb_no hq]
    have HG1 : Hid _ := HG
    clear HG hq hE hz
    go_enter Tryz.func13, Tryz.ntmps13
    go_wp2_with fail
    refine (Calls.mono HG1.out ?_)
    rintro e w2 ⟨rfl, hb2⟩
    have hb12 := hb1.trans (hb2.mono hb1.size)
    go_wp2_with fail
    go_ret2
    exact ⟨rfl, hb12⟩
  · rw [hq] at HG
    rw [rb_yes hq]
    obtain ⟨hg, hh, hB, _⟩ := rq_good hq
    have HH : Hid _ := fun w h => requestHead_any M T B a ca l w lo hi (by omega) (goodL_all hg).1 hz h
    generalize headS (firstR M T) l = H at HH hh ⊢
    have q1 : ¬ 9223372036854775807 < H.size + B.size := by omega
    have HG1 : Hid _ := HG
    clear HG hq hE hz hg
    go_enter Tryz.func13, Tryz.ntmps13
    go_wp2_with fail
    refine (Calls.mono HG1.out ?_)
    rintro e w2 ⟨rfl, hb2⟩
    have hb12 := hb1.trans (hb2.mono hb1.size)
    have HX2 : Hid (BoxR w2 w.heap.size M T a l.length ca B) := HX.out.below hb2
    obtain ⟨x0, x1, x2, x3⟩ := HX2.out
    have ha2 := HA1.out.below hb2
    clear hb2
    go_wp2_with fail
    have hn : w.heap.size < w2.heap.size := World.block_lt_of_cell? _ _ x0
    have HA2 : Hid (FV w2 a l lo hi) := ha2
    clear ha2 HX HX2
    go_region_held3 (fun w' => w'.cell? ⟨w.heap.size, 0, none⟩ = some (.string M) ∧ w'.cell? ⟨w.heap.size, 1, none⟩ = some (.string T) ∧ w'.cell? ⟨w.heap.size, 2, none⟩ = some (.slice a l.length ca) ∧ w'.cell? ⟨w.heap.size, 3, none⟩ = some (.string B) ∧ Below w2.heap.size w2 w')
      (first
        | exact ⟨x0, x1, x2, x3, keep_first w2⟩
        | assumption
        | exact keep4 hn (by assumption) (by assumption))
      (first
        | (go_at_call 45; with_reducible refine (HH.out _ (HA2.out.below (and5 (by assumption)))).mono ?_; rintro e w3 ⟨rfl, hb3⟩))
    all_goals
      go_wp2
      go_ret2
      exact ⟨rfl, hb12.trans (Below.mono (and5 (by assumption) : Below w2.heap.size w2 _) hb12.size)⟩

set_option maxHeartbeats 1600000 in
theorem specRB_any (M T B : ByteArray) (a : Option Addr) (ca : Nat) (l : List (ByteArray × ByteArray)) (w : World) (lo hi : Nat) (hM : M.size ≤ 2000000) (hTs : T.size ≤ 2000000) (hl : l.length ≤ 2000000) (hz : SzF l) (ha : FV w a l lo hi) :
    Calls Tryz.prog 14 #[.agg #[.string M, .string T, .slice a l.length ca, .string B]] w fun e w' => e = .returned (.tuple #[.string (rbO M T l B).1, .bool (rbO M T l B).2]) ∧ Below w.heap.size w w' := by
  have hb1 : Below w.heap.size w (w.alloc (.cells #[.string M, .string T, .slice a l.length ca, .string B] 25)) := (Below.refl _ _).alloc (Nat.le_refl _) _
  have HX : Hid (BoxR (w.alloc (.cells #[.string M, .string T, .slice a l.length ca, .string B] 25)) w.heap.size M T a l.length ca B) := BoxR.made w M T a l.length ca B _
  have HA1 : Hid (FV _ a l lo hi) := ha.below hb1
  have HG := specGoodR_any M T B a ca l (w.alloc (.cells #[.string M, .string T, .slice a l.length ca, .string B] 25)) lo hi hM hTs hl hz HA1.out
  cases hq : rqB M T l B
  · rw [hq] at HG
    rw [rb_no hq]
    have HG1 : Hid _ := HG
    clear HG hq hz
    go_enter Tryz.func14, Tryz.ntmps14
    go_wp2_with fail
    refine (Calls.mono HG1.out ?_)
    rintro e w2 ⟨rfl, hb2⟩
    have hb12 := hb1.trans (hb2.mono hb1.size)
    go_wp2_with fail
    go_ret2
    exact ⟨rfl, hb12⟩
  · rw [hq] at HG
    rw [rb_yes hq]
    obtain ⟨hg, hh, hB, hM1, hT1⟩ := rq_good hq
    have H1 : Hid _ := fun w => l4First_any M T B a l.length ca w hM hTs
    have hfs : (firstR M T).size ≤ 8000000 := by unfold firstR; rw [spc3_size]; show _ + _ + 8 + 2 ≤ _; omega
    have HH : Hid _ := fun w h => l4Head_any (firstR M T) a ca l w lo hi hfs (goodL_all hg).1 hz h
    generalize firstR M T = f at H1 HH hh ⊢
    generalize headS f l = H at HH hh ⊢
    have q1 : ¬ 9223372036854775807 < H.size + B.size := by omega
    have HG1 : Hid _ := HG
    clear HG hq hz hg hfs
    go_enter Tryz.func14, Tryz.ntmps14
    go_wp2_with fail
    refine (Calls.mono HG1.out ?_)
    rintro e w2 ⟨rfl, hb2⟩
    have hb12 := hb1.trans (hb2.mono hb1.size)
    have HX2 : Hid (BoxR w2 w.heap.size M T a l.length ca B) := HX.out.below hb2
    obtain ⟨x0, x1, x2, x3⟩ := HX2.out
    have ha2 := HA1.out.below hb2
    clear hb2
    go_wp2_with fail
    have hn : w.heap.size < w2.heap.size := World.block_lt_of_cell? _ _ x0
    have HA2 : Hid (FV w2 a l lo hi) := ha2
    clear ha2 HX HX2
    go_region_held3 (fun w' => w'.cell? ⟨w.heap.size, 0, none⟩ = some (.string M) ∧ w'.cell? ⟨w.heap.size, 1, none⟩ = some (.string T) ∧ w'.cell? ⟨w.heap.size, 2, none⟩ = some (.slice a l.length ca) ∧ w'.cell? ⟨w.heap.size, 3, none⟩ = some (.string B) ∧ Below w2.heap.size w2 w')
      (first
        | exact ⟨x0, x1, x2, x3, keep_first w2⟩
        | assumption
        | exact keep4 hn (by assumption) (by assumption))
      (first
        | (go_at_call 47; with_reducible refine (H1.out _).mono ?_; rintro e w3 ⟨rfl, hb3⟩)
        | (go_at_call 46; with_reducible refine (HH.out _ (HA2.out.below (and5 (by assumption)))).mono ?_; rintro e w4 ⟨rfl, hb4⟩))
    all_goals
      go_wp2
      go_ret2
      exact ⟨rfl, hb12.trans (Below.mono (and5 (by assumption) : Below w2.heap.size w2 _) hb12.size)⟩

end Go.Proofs.YtaplkbkpgdpbaaaGreatDoor.Rqb
