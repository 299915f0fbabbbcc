/-
  Walks: laws' toRequest, eqRequest.
-/
import Derived.Test.YtfgcgnhffljiaaaGreatDoorRqo
import Derived.Test.YtfgcgnhffljiaaaGreatDoorRqs
namespace Go.Proofs.YtfgcgnhffljiaaaGreatDoor.Rqb
open Go.RowKit
open Go.Proofs.YtfgcgnhffljiaaaGreatDoor.Fbs
open Go.Proofs.YtfgcgnhffljiaaaGreatDoor.Fdb
open Go.Proofs.YtfgcgnhffljiaaaGreatDoor.Fds
open Go.Proofs.YtfgcgnhffljiaaaGreatDoor.Mrk (same_text)

/-- A block of four cells of the call's own. -/
def Own4 (w : World) (g : Nat) (v0 v1 v2 v3 : Value) : Prop := (∀ i, w.frozen? ⟨g, i, none⟩ = false) ∧ w.cell? ⟨g, 0, none⟩ = some v0 ∧ w.cell? ⟨g, 1, none⟩ = some v1 ∧ w.cell? ⟨g, 2, none⟩ = some v2 ∧ w.cell? ⟨g, 3, none⟩ = some v3
theorem Own4.made (w : World) (v0 v1 v2 v3 : Value) (t : TypeId) : Own4 (w.alloc (.cells #[v0, v1, v2, v3] t)) w.heap.size v0 v1 v2 v3 :=
  ⟨fun i => World.frozen?_alloc_at _ t _ i rfl, by rw [World.cell?_alloc_mark]; rfl, by rw [World.cell?_alloc_mark]; rfl, by rw [World.cell?_alloc_mark]; rfl, by rw [World.cell?_alloc_mark]; rfl⟩
theorem Own4.below {w w' : World} {g : Nat} {v0 v1 v2 v3 : Value} (h : Own4 w g v0 v1 v2 v3) (hb : Below w.heap.size w w') : Own4 w' g v0 v1 v2 v3 := by
  have hg := World.block_lt_of_cell? _ _ h.2.1
  have e : ∀ i, w'.cell? ⟨g, i, none⟩ = w.cell? ⟨g, i, none⟩ := fun i => hb.cell (p := ⟨g, i, none⟩) hg
  exact ⟨fun i => (hb.frozen (p := ⟨g, i, none⟩) hg).trans (h.1 i), (e 0).trans h.2.1, (e 1).trans h.2.2.1, (e 2).trans h.2.2.2.1, (e 3).trans h.2.2.2.2⟩
theorem fv_set {w : World} {a : Option Addr} {l : List (ByteArray × ByteArray)} {lo hi : Nat} (h : FV w a l lo hi) {b j : Nat} (hb : b < lo) (u : Value) : FV (w.setCell ⟨b, j, none⟩ u) a l lo hi := by
  rcases h with h | ⟨g, h1, h2, h3, h4, h5, h6⟩
  · exact .inl h
  · have e : (w.setCell ⟨b, j, none⟩ u).heap[g]? = w.heap[g]? := Below.heap_setCell _ _ _ _ (by show g ≠ b; omega)
    have hc : ∀ i, (w.setCell ⟨b, j, none⟩ u).cell? ⟨g, i, none⟩ = w.cell? ⟨g, i, none⟩ := fun i => by unfold World.cell?; rw [e]
    refine .inr ⟨g, h1, h2, h3, by simpa [World.setCell] using h4, fun i => ?_, fun i c hi => ⟨(hc _).trans (h6 i c hi).1, (hc _).trans (h6 i c hi).2⟩⟩
    have := h5 i
    unfold World.frozen? at this ⊢
    rwa [e]
theorem size_set (w : World) (p : Addr) (u : Value) : (w.setCell p u).heap.size = w.heap.size := by simp [World.setCell]

set_option maxHeartbeats 1600000 in
theorem toRequest_any (M T B : ByteArray) (a : Option Addr) (ca : Nat) (l : List (ByteArray × ByteArray)) (w : World) (hl : l.length ≤ 1048576) (ha : AF w a l) :
    Calls Tryz.prog 21 #[.agg #[.string M, .string T, .slice a l.length ca, .string B]] w fun e w' => (∃ g, e = .returned (.agg #[.string M, .string T, .slice (some ⟨g, 0, none⟩) l.length l.length, .string B]) ∧ FV w' (some ⟨g, 0, none⟩) l w.heap.size w'.heap.size) ∧ Below w.heap.size w w' := by
  have HTF : Hid _ := fun w h => toFieldS_any a ca l w hl h
  obtain ⟨w1, hw1⟩ : ∃ w1, w1 = w.alloc (.cells #[.string M, .string T, .slice a l.length ca, .string B] 43) := ⟨_, rfl⟩
  have hs1 : w1.heap.size = w.heap.size + 1 := by rw [hw1]; simp
  have hb1 : Below w.heap.size w w1 := by rw [hw1]; exact (Below.refl _ _).alloc (Nat.le_refl _) _
  have X1 : BoxR w1 w.heap.size M T a l.length ca B := by rw [hw1]; exact BoxR.made w M T a l.length ca B _
  obtain ⟨w2, hw2⟩ : ∃ w2, w2 = w1.alloc (.cells #[.string ⟨#[]⟩, .string ⟨#[]⟩, .slice none 0 0, .string ⟨#[]⟩] 54) := ⟨_, rfl⟩
  have hs2 : w2.heap.size = w.heap.size + 1 + 1 := by rw [hw2, World.size_alloc, hs1]
  have hb2 : Below w1.heap.size w1 w2 := by rw [hw2]; exact (Below.refl _ _).alloc (Nat.le_refl _) _
  have O2 : Own4 w2 (w.heap.size + 1) (.string ⟨#[]⟩) (.string ⟨#[]⟩) (.slice none 0 0) (.string ⟨#[]⟩) := by rw [← hs1, hw2]; exact Own4.made w1 _ _ _ _ _
  obtain ⟨w3, hw3⟩ : ∃ w3, w3 = w2.alloc (.cells #[.string M, .string T, .slice none 0 0, .string ⟨#[]⟩] 54) := ⟨_, rfl⟩
  have hs3 : w3.heap.size = w.heap.size + 1 + 1 + 1 := by rw [hw3, World.size_alloc, hs2]
  have hb3 : Below w2.heap.size w2 w3 := by rw [hw3]; exact (Below.refl _ _).alloc (Nat.le_refl _) _
  have O3 : Own4 w3 (w.heap.size + 1 + 1) (.string M) (.string T) (.slice none 0 0) (.string ⟨#[]⟩) := by rw [← hs2, hw3]; exact Own4.made w2 _ _ _ _ _
  have HX3 : Hid (BoxR w3 w.heap.size M T a l.length ca B) := (X1.below hb2).below hb3
  have HO2 : Hid (Own4 w3 (w.heap.size + 1) (.string ⟨#[]⟩) (.string ⟨#[]⟩) (.slice none 0 0) (.string ⟨#[]⟩)) := O2.below hb3
  have HO3 : Hid (Own4 w3 (w.heap.size + 1 + 1) (.string M) (.string T) (.slice none 0 0) (.string ⟨#[]⟩)) := O3
  have hB3 : Below w.heap.size w w3 := (hb1.trans (hb2.mono hb1.size)).trans (hb3.mono (by omega))
  have HA : Hid (AF w3 a l) := ha.below hB3
  clear X1 O2 O3 hb1 hb2 hb3 ha
  go_enter Tryz.func21, Tryz.ntmps21
  go_wp2_with fail
  rw [← hw1, ← hw2, ← hw3]
  clear hw1 hw2 hw3 hs1 hs2
  refine (HTF.out _ HA.out).mono ?_
  rintro e w4 ⟨rfl, T4, hb4⟩
  obtain ⟨x0, x1, x2, x3⟩ := HX3.out.below hb4
  obtain ⟨f2, p0, p1, p2, p3⟩ := HO2.out.below hb4
  obtain ⟨f3, q0, q1, q2, q3⟩ := HO3.out.below hb4
  have hs4 : w.heap.size + 1 + 1 + 1 ≤ w4.heap.size := by have := hb4.size; omega
  have hB4 := hB3.trans (hb4.mono hB3.size)
  rw [hs3] at T4
  have HT4 : Hid (FV w4 (some ⟨w3.heap.size, 0, none⟩) l (w.heap.size + 1 + 1 + 1) w4.heap.size) := by rw [hs3]; exact T4
  have HB4 : Hid (Below w.heap.size w w4) := hB4
  clear T4 hb4 HX3 HO2 HO3 HA HTF hB3 hB4
  go_wp2_with fail
  exact bodyPost_ret (v := .agg #[.string M, .string T, .slice (some ⟨w3.heap.size, 0, none⟩) l.length l.length, .string B]) (by simp [results, Tryz.results21, go_sem, p0, p1, p2, p3]) rfl
    ⟨⟨_, rfl, (by
      exact FV.wide (fv_set (fv_set (fv_set (fv_set (fv_set (fv_set HT4.out (by omega) _) (by omega) _) (by omega) _) (by omega) _) (by omega) _) (by omega) _) (by omega) (by simp [World.setCell]))⟩,
     (((((HB4.out.setCell (by first | omega | (dsimp only; omega) | (simp; omega) | simp) _).setCell (by first | omega | (dsimp only; omega) | (simp; omega) | simp) _).setCell (by first | omega | (dsimp only; omega) | (simp; omega) | simp) _).setCell (by first | omega | (dsimp only; omega) | (simp; omega) | simp) _).setCell (by first | omega | (dsimp only; omega) | (simp; omega) | simp) _).setCell (by first | omega | (dsimp only; omega) | (simp; omega) | simp) _⟩

set_option maxHeartbeats 1600000 in
theorem eqRequest_any (M T B : ByteArray) (a b : Option Addr) (l : List (ByteArray × ByteArray)) (w : World) (x y x' y' : Nat) (hl : l.length ≤ 2000000) (ha : FV w a l x y) (hb : FV w b l x' y') :
    Calls Tryz.prog 24 #[.agg #[.string M, .string T, .slice a l.length l.length, .string B], .agg #[.string M, .string T, .slice b l.length l.length, .string B]] w fun e w' => e = .returned (.bool true) ∧ Below w.heap.size w w' := by
  have s1 := same_text M
  have s2 := same_text T
  have s3 := same_text B
  have HE : Hid _ := fun w h1 h2 => eqFS_any a b l.length l.length l w x y x' y' hl h1 h2
  have hb1 : Below w.heap.size w (w.alloc (.cells #[.string M, .string T, .slice a l.length l.length, .string B] 54)) := (Below.refl _ _).alloc (Nat.le_refl _) _
  have hb2 := hb1.alloc hb1.size (.cells #[.string M, .string T, .slice b l.length l.length, .string B] 54)
  have ha2 := ha.below hb2
  have hbb2 := hb.below hb2
  have HX : Hid (BoxR ((w.alloc (.cells #[.string M, .string T, .slice a l.length l.length, .string B] 54)).alloc (.cells #[.string M, .string T, .slice b l.length l.length, .string B] 54)) w.heap.size M T a l.length l.length B) := (BoxR.made w M T a l.length l.length B _).below ((Below.refl _ _).alloc (Nat.le_refl _) _)
  have HX2 : Hid (BoxR ((w.alloc (.cells #[.string M, .string T, .slice a l.length l.length, .string B] 54)).alloc (.cells #[.string M, .string T, .slice b l.length l.length, .string B] 54)) (w.heap.size + 1) M T b l.length l.length B) := by
    have h := BoxR.made (w.alloc (.cells #[.string M, .string T, .slice a l.length l.length, .string B] 54)) M T b l.length l.length B 54
    rwa [World.size_alloc] at h
  go_enter Tryz.func24, Tryz.ntmps24
  go_wp2_with fail
  refine (HE.out _ ha2 hbb2).mono ?_
  rintro e w3 ⟨rfl, hb3⟩
  have hb13 := hb2.trans (hb3.mono hb2.size)
  obtain ⟨x0, x1, x2, x3⟩ := HX.out.below hb3
  obtain ⟨y0, y1, y2, y3⟩ := HX2.out.below hb3
  go_wp2_with fail
  go_ret
  exact ⟨rfl, hb13⟩

end Go.Proofs.YtfgcgnhffljiaaaGreatDoor.Rqb
