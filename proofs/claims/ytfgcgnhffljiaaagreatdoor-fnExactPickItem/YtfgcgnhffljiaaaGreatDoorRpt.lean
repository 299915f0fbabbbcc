/-
  Walks: laws' toResponse, eqResponse.
-/
import Derived.Test.YtfgcgnhffljiaaaGreatDoorRso
import Derived.Test.YtfgcgnhffljiaaaGreatDoorRss
import Derived.Test.YtfgcgnhffljiaaaGreatDoorRqt
namespace Go.Proofs.YtfgcgnhffljiaaaGreatDoor.Rsb
open Go.RowKit
open Go.Proofs.YtfgcgnhffljiaaaGreatDoor.Fbs
open Go.Proofs.YtfgcgnhffljiaaaGreatDoor.Fdb
open Go.Proofs.YtfgcgnhffljiaaaGreatDoor.Fds
open Go.Proofs.YtfgcgnhffljiaaaGreatDoor.Rqb (Own4 fv_set)
open Go.Proofs.YtfgcgnhffljiaaaGreatDoor.Mrk (same_text)

set_option maxHeartbeats 1600000 in
theorem toResponse_any (S : Int) (R B : ByteArray) (a : Option Addr) (ca : Nat) (l : List (ByteArray × ByteArray)) (w : World) (hl : l.length ≤ 1048576) (ha : AF w a l) :
    Calls Tryz.prog 10 #[.agg #[.int .i64 S, .string R, .slice a l.length ca, .string B]] w fun e w' => (∃ g, e = .returned (.agg #[.int .i64 S, .string R, .slice (some ⟨g, 0, none⟩) l.length l.length, .string B]) ∧ FV w' (some ⟨g, 0, none⟩) l w.heap.size w'.heap.size) ∧ Below w.heap.size w w' := by
  have HTF : Hid _ := fun w h => toFieldS_any a ca l w hl h
  obtain ⟨w1, hw1⟩ : ∃ w1, w1 = w.alloc (.cells #[.int .i64 S, .string R, .slice a l.length ca, .string B] 24) := ⟨_, rfl⟩
  have hs1 : w1.heap.size = w.heap.size + 1 := by rw [hw1]; simp
  have hb1 : Below w.heap.size w w1 := by rw [hw1]; exact (Below.refl _ _).alloc (Nat.le_refl _) _
  have X1 : BoxP w1 w.heap.size S R a l.length ca B := by rw [hw1]; exact BoxP.made w S R a l.length ca B _
  obtain ⟨w2, hw2⟩ : ∃ w2, w2 = w1.alloc (.cells #[.int .i64 0, .string ⟨#[]⟩, .slice none 0 0, .string ⟨#[]⟩] 31) := ⟨_, rfl⟩
  have hs2 : w2.heap.size = w.heap.size + 1 + 1 := by rw [hw2, World.size_alloc, hs1]
  have hb2 : Below w1.heap.size w1 w2 := by rw [hw2]; exact (Below.refl _ _).alloc (Nat.le_refl _) _
  have O2 : Own4 w2 (w.heap.size + 1) (.int .i64 0) (.string ⟨#[]⟩) (.slice none 0 0) (.string ⟨#[]⟩) := by rw [← hs1, hw2]; exact Rqb.Own4.made w1 _ _ _ _ _
  obtain ⟨w3, hw3⟩ : ∃ w3, w3 = w2.alloc (.cells #[.int .i64 S, .string R, .slice none 0 0, .string ⟨#[]⟩] 31) := ⟨_, rfl⟩
  have hs3 : w3.heap.size = w.heap.size + 1 + 1 + 1 := by rw [hw3, World.size_alloc, hs2]
  have hb3 : Below w2.heap.size w2 w3 := by rw [hw3]; exact (Below.refl _ _).alloc (Nat.le_refl _) _
  have O3 : Own4 w3 (w.heap.size + 1 + 1) (.int .i64 S) (.string R) (.slice none 0 0) (.string ⟨#[]⟩) := by rw [← hs2, hw3]; exact Rqb.Own4.made w2 _ _ _ _ _
  have HX3 : Hid (BoxP w3 w.heap.size S R a l.length ca B) := (X1.below hb2).below hb3
  have HO2 : Hid (Own4 w3 (w.heap.size + 1) (.int .i64 0) (.string ⟨#[]⟩) (.slice none 0 0) (.string ⟨#[]⟩)) := O2.below hb3
  have HO3 : Hid (Own4 w3 (w.heap.size + 1 + 1) (.int .i64 S) (.string R) (.slice none 0 0) (.string ⟨#[]⟩)) := O3
  have hB3 : Below w.heap.size w w3 := (hb1.trans (hb2.mono hb1.size)).trans (hb3.mono (by omega))
  have HA : Hid (AF w3 a l) := ha.below hB3
  clear X1 O2 O3 hb1 hb2 hb3 ha
  go_enter Tryz.func10, Tryz.ntmps10
  go_wp2_with fail
  rw [← hw1, ← hw2, ← hw3]
  clear hw1 hw2 hw3 hs1 hs2
  refine (HTF.out _ HA.out).mono ?_
  rintro e w4 ⟨rfl, T4, hb4⟩
  obtain ⟨x0, x1, x2, x3⟩ := HX3.out.below hb4
  obtain ⟨f2, p0, p1, p2, p3⟩ := HO2.out.below hb4
  obtain ⟨f3, q0, q1, q2, q3⟩ := HO3.out.below hb4
  have hs4 : w.heap.size + 1 + 1 + 1 ≤ w4.heap.size := by have := hb4.size; omega
  have hB4 := hB3.trans (hb4.mono hB3.size)
  rw [hs3] at T4
  have HT4 : Hid (FV w4 (some ⟨w3.heap.size, 0, none⟩) l (w.heap.size + 1 + 1 + 1) w4.heap.size) := by rw [hs3]; exact T4
  have HB4 : Hid (Below w.heap.size w w4) := hB4
  clear T4 hb4 HX3 HO2 HO3 HA HTF hB3 hB4
  go_wp2_with fail
  exact bodyPost_ret (v := .agg #[.int .i64 S, .string R, .slice (some ⟨w3.heap.size, 0, none⟩) l.length l.length, .string B]) (by simp [results, Tryz.results10, go_sem, p0, p1, p2, p3]) rfl
    ⟨⟨_, rfl, (by
      exact FV.wide (fv_set (fv_set (fv_set (fv_set (fv_set (fv_set HT4.out (by omega) _) (by omega) _) (by omega) _) (by omega) _) (by omega) _) (by omega) _) (by omega) (by simp [World.setCell]))⟩,
     (((((HB4.out.setCell (by first | omega | (dsimp only; omega) | (simp; omega) | simp) _).setCell (by first | omega | (dsimp only; omega) | (simp; omega) | simp) _).setCell (by first | omega | (dsimp only; omega) | (simp; omega) | simp) _).setCell (by first | omega | (dsimp only; omega) | (simp; omega) | simp) _).setCell (by first | omega | (dsimp only; omega) | (simp; omega) | simp) _).setCell (by first | omega | (dsimp only; omega) | (simp; omega) | simp) _⟩

set_option maxHeartbeats 1600000 in
theorem eqResponse_any (S : Int) (R B : ByteArray) (a b : Option Addr) (l : List (ByteArray × ByteArray)) (w : World) (x y x' y' : Nat) (hl : l.length ≤ 2000000) (ha : FV w a l x y) (hb : FV w b l x' y') :
    Calls Tryz.prog 13 #[.agg #[.int .i64 S, .string R, .slice a l.length l.length, .string B], .agg #[.int .i64 S, .string R, .slice b l.length l.length, .string B]] w fun e w' => e = .returned (.bool true) ∧ Below w.heap.size w w' := by
  have s2 := same_text R
  have s3 := same_text B
  have HE : Hid _ := fun w h1 h2 => eqFS_any a b l.length l.length l w x y x' y' hl h1 h2
  have hb1 : Below w.heap.size w (w.alloc (.cells #[.int .i64 S, .string R, .slice a l.length l.length, .string B] 31)) := (Below.refl _ _).alloc (Nat.le_refl _) _
  have hb2 := hb1.alloc hb1.size (.cells #[.int .i64 S, .string R, .slice b l.length l.length, .string B] 31)
  have ha2 := ha.below hb2
  have hbb2 := hb.below hb2
  have HX : Hid (BoxP ((w.alloc (.cells #[.int .i64 S, .string R, .slice a l.length l.length, .string B] 31)).alloc (.cells #[.int .i64 S, .string R, .slice b l.length l.length, .string B] 31)) w.heap.size S R a l.length l.length B) := (BoxP.made w S R a l.length l.length B _).below ((Below.refl _ _).alloc (Nat.le_refl _) _)
  have HX2 : Hid (BoxP ((w.alloc (.cells #[.int .i64 S, .string R, .slice a l.length l.length, .string B] 31)).alloc (.cells #[.int .i64 S, .string R, .slice b l.length l.length, .string B] 31)) (w.heap.size + 1) S R b l.length l.length B) := by
    have h := BoxP.made (w.alloc (.cells #[.int .i64 S, .string R, .slice a l.length l.length, .string B] 31)) S R b l.length l.length B 31
    rwa [World.size_alloc] at h
  go_enter Tryz.func13, Tryz.ntmps13
  go_wp2_with fail
  refine (HE.out _ ha2 hbb2).mono ?_
  rintro e w3 ⟨rfl, hb3⟩
  have hb13 := hb2.trans (hb3.mono hb2.size)
  obtain ⟨x0, x1, x2, x3⟩ := HX.out.below hb3
  obtain ⟨y0, y1, y2, y3⟩ := HX2.out.below hb3
  go_wp2_with fail
  go_ret
  exact ⟨rfl, hb13⟩

end Go.Proofs.YtfgcgnhffljiaaaGreatDoor.Rsb
