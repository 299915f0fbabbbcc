/-
  Walks: impl.GoodKept, spec.GoodKept.
-/
import Derived.Test.YtfgcgnhffljiaaaGreatDoorRsk
import Derived.Test.YtfgcgnhffljiaaaGreatDoorRss
namespace Go.Proofs.YtfgcgnhffljiaaaGreatDoor.Kka
open Go.RowKit
open Go.Proofs.YtfgcgnhffljiaaaGreatDoor.Fbs
open Go.Proofs.YtfgcgnhffljiaaaGreatDoor.Fch
open Go.Proofs.YtfgcgnhffljiaaaGreatDoor.Fdb
open Go.Proofs.YtfgcgnhffljiaaaGreatDoor.Fvs
open Go.Proofs.YtfgcgnhffljiaaaGreatDoor.Rsb
open Go.Proofs.YtfgcgnhffljiaaaGreatDoor.Num (tab_below tab_lt)
open Go.Proofs.YtfgcgnhffljiaaaGreatDoor.Lnp (sent)

/-- A kept answer is good. -/
def tmB (q m : Int) : Bool := decide (0 ≤ q) && decide (q ≤ m) && decide (m ≤ 253402300799)
def keptB (S : Int) (R : ByteArray) (l : List (ByteArray × ByteArray)) (B : ByteArray) (q m : Int) : Bool := rsB S R l B && tmB q m

def SixAt (w : World) (b : Nat) (v0 v1 v2 v3 v4 v5 : Value) : Prop := b < w.heap.size ∧ w.cell? ⟨b, 0, none⟩ = some v0 ∧ w.cell? ⟨b, 1, none⟩ = some v1 ∧ w.cell? ⟨b, 2, none⟩ = some v2 ∧ w.cell? ⟨b, 3, none⟩ = some v3 ∧ w.cell? ⟨b, 4, none⟩ = some v4 ∧ w.cell? ⟨b, 5, none⟩ = some v5
theorem SixAt.made (w : World) (v0 v1 v2 v3 v4 v5 : Value) (t : TypeId) : SixAt (w.alloc (.cells #[v0, v1, v2, v3, v4, v5] t)) w.heap.size v0 v1 v2 v3 v4 v5 :=
  ⟨by simp, by rw [World.cell?_alloc_mark]; rfl, by rw [World.cell?_alloc_mark]; rfl, by rw [World.cell?_alloc_mark]; rfl, by rw [World.cell?_alloc_mark]; rfl, by rw [World.cell?_alloc_mark]; rfl, by rw [World.cell?_alloc_mark]; rfl⟩
theorem SixAt.below {w w' : World} {b : Nat} {v0 v1 v2 v3 v4 v5 : Value} (h : SixAt w b v0 v1 v2 v3 v4 v5) (hb : Below w.heap.size w w') : SixAt w' b v0 v1 v2 v3 v4 v5 := by
  obtain ⟨h0, c0, c1, c2, c3, c4, c5⟩ := h
  exact ⟨Nat.lt_of_lt_of_le h0 hb.size, (hb.cell (p := ⟨b, 0, none⟩) h0).trans c0, (hb.cell (p := ⟨b, 1, none⟩) h0).trans c1, (hb.cell (p := ⟨b, 2, none⟩) h0).trans c2, (hb.cell (p := ⟨b, 3, none⟩) h0).trans c3, (hb.cell (p := ⟨b, 4, none⟩) h0).trans c4, (hb.cell (p := ⟨b, 5, none⟩) h0).trans c5⟩

theorem ret_b {x y : Bool} (h : x = y) : Ending.returned (.bool x) = .returned (.bool y) := by rw [h]
theorem tm_ways (q m : Int) : (¬ 0 ≤ q ∧ tmB q m = false) ∨ (0 ≤ q ∧ ¬ q ≤ m ∧ tmB q m = false) ∨ (0 ≤ q ∧ q ≤ m ∧ ¬ m ≤ 253402300799 ∧ tmB q m = false) ∨ (0 ≤ q ∧ q ≤ m ∧ m ≤ 253402300799 ∧ tmB q m = true) := by
  unfold tmB
  by_cases h0 : 0 ≤ q
  · by_cases h1 : q ≤ m
    · by_cases h2 : m ≤ 253402300799
      · exact .inr (.inr (.inr ⟨h0, h1, h2, by simp [h0, h1, h2]⟩))
      · exact .inr (.inr (.inl ⟨h0, h1, h2, by simp [h2]⟩))
    · exact .inr (.inl ⟨h0, h1, by simp [h1]⟩)
  · exact .inl ⟨h0, by simp [h0]⟩

set_option maxHeartbeats 1600000 in
theorem implKept_any (S : Int) (R B : ByteArray) (a : Option Addr) (ca : Nat) (l : List (ByteArray × ByteArray)) (q m : Int) (b : Addr) (w : World) (lo hi : Nat) (hT : Tab w) (hP : PowT w) (hE : w.cell? ⟨1, 0, none⟩ = some (sent b)) (hR : R.size ≤ 2000000) (hz : SzF l) (hca : l.length ≤ ca) (ha : FV w a l lo hi) :
    Calls Tryz.prog 97 #[.agg #[.int .i64 S, .string R, .slice a l.length ca, .string B, .int .i64 q, .int .i64 m]] w fun e w' => e = .returned (.bool (keptB S R l B q m)) ∧ Below w.heap.size w w' := by
  obtain ⟨W0, hW0⟩ : ∃ W, W = w.alloc (.cells #[.int .i64 S, .string R, .slice a l.length ca, .string B, .int .i64 q, .int .i64 m] 49) := ⟨_, rfl⟩
  have hb0 : Below w.heap.size w W0 := by rw [hW0]; exact (Below.refl _ _).alloc (Nat.le_refl _) _
  have HX0 : Hid (SixAt W0 w.heap.size (.int .i64 S) (.string R) (.slice a l.length ca) (.string B) (.int .i64 q) (.int .i64 m)) := by show SixAt _ _ _ _ _ _ _ _; rw [hW0]; exact SixAt.made w _ _ _ _ _ _ _
  have HG : Hid (Calls Tryz.prog 41 #[.agg #[.int .i64 S, .string R, .slice a l.length ca, .string B]] W0 fun e w' => e = .returned (.bool (rsB S R l B)) ∧ Below W0.heap.size W0 w') := implGoodP_any S R B a ca l b W0 lo hi (hT.below hb0 hT.lt) (tab_below hP hb0 (tab_lt hP)) ((hb0.cell (p := ⟨1, 0, none⟩) (World.block_lt_of_cell? _ _ hE)).trans hE) hR hz hca (ha.below hb0)
  have HB0 : Hid (Below w.heap.size w W0) := hb0
  unfold keptB
  generalize rsB S R l B = r at *
  clear ha hb0 hT hP hE
  go_enter Tryz.func97, Tryz.ntmps97
  go_wp2_with fail
  rw [← hW0]
  clear hW0
  refine Calls.mono HG.out ?_
  rintro e w1 ⟨rfl, hb1⟩
  have HX1 : Hid (SixAt w1 w.heap.size (.int .i64 S) (.string R) (.slice a l.length ca) (.string B) (.int .i64 q) (.int .i64 m)) := HX0.out.below hb1
  have HB1 : Hid (Below w.heap.size w w1) := HB0.out.trans (hb1.mono HB0.out.size)
  clear hb1 HX0 HB0 HG
  obtain ⟨q_, q0, q1, q2, q3, q4, q5⟩ := HX1.out
  cases r
  · go_wp2_with fail
    go_ret
    exact ⟨rfl, HB1.out⟩
  · rcases tm_ways q m with ⟨h0, hv⟩ | ⟨h0, h1, hv⟩ | ⟨h0, h1, h2, hv⟩ | ⟨h0, h1, h2, hv⟩
    all_goals
      have HV : Hid (tmB q m = _) := hv
      clear hv
      go_wp2_with fail
      go_ret
      exact ⟨ret_b (by rw [HV.out]; try (first | rfl | (simp; omega))), HB1.out⟩

set_option maxHeartbeats 1600000 in
theorem specKept_any (S : Int) (R B : ByteArray) (a : Option Addr) (ca : Nat) (l : List (ByteArray × ByteArray)) (q m : Int) (w : World) (lo hi : Nat) (hR : R.size ≤ 2000000) (hl : l.length ≤ 2000000) (hz : SzF l) (ha : FV w a l lo hi) :
    Calls Tryz.prog 91 #[.agg #[.int .i64 S, .string R, .slice a l.length ca, .string B, .int .i64 q, .int .i64 m]] w fun e w' => e = .returned (.bool (keptB S R l B q m)) ∧ Below w.heap.size w w' := by
  obtain ⟨W0, hW0⟩ : ∃ W, W = w.alloc (.cells #[.int .i64 S, .string R, .slice a l.length ca, .string B, .int .i64 q, .int .i64 m] 49) := ⟨_, rfl⟩
  have hb0 : Below w.heap.size w W0 := by rw [hW0]; exact (Below.refl _ _).alloc (Nat.le_refl _) _
  have HX0 : Hid (SixAt W0 w.heap.size (.int .i64 S) (.string R) (.slice a l.length ca) (.string B) (.int .i64 q) (.int .i64 m)) := by show SixAt _ _ _ _ _ _ _ _; rw [hW0]; exact SixAt.made w _ _ _ _ _ _ _
  have HG : Hid (Calls Tryz.prog 38 #[.agg #[.int .i64 S, .string R, .slice a l.length ca, .string B]] W0 fun e w' => e = .returned (.bool (rsB S R l B)) ∧ Below W0.heap.size W0 w') := specGoodP_any S R B a ca l W0 lo hi hR hl hz (ha.below hb0)
  have HB0 : Hid (Below w.heap.size w W0) := hb0
  unfold keptB
  generalize rsB S R l B = r at *
  clear ha hb0
  go_enter Tryz.func91, Tryz.ntmps91
  go_wp2_with fail
  rw [← hW0]
  clear hW0
  refine Calls.mono HG.out ?_
  rintro e w1 ⟨rfl, hb1⟩
  have HX1 : Hid (SixAt w1 w.heap.size (.int .i64 S) (.string R) (.slice a l.length ca) (.string B) (.int .i64 q) (.int .i64 m)) := HX0.out.below hb1
  have HB1 : Hid (Below w.heap.size w w1) := HB0.out.trans (hb1.mono HB0.out.size)
  clear hb1 HX0 HB0 HG
  obtain ⟨q_, q0, q1, q2, q3, q4, q5⟩ := HX1.out
  cases r
  · go_wp2_with fail
    go_ret
    exact ⟨rfl, HB1.out⟩
  · rcases tm_ways q m with ⟨h0, hv⟩ | ⟨h0, h1, hv⟩ | ⟨h0, h1, h2, hv⟩ | ⟨h0, h1, h2, hv⟩
    all_goals
      have HV : Hid (tmB q m = _) := hv
      clear hv
      go_wp2_with fail
      go_ret
      exact ⟨ret_b (by rw [HV.out]; try (first | rfl | (simp; omega))), HB1.out⟩

end Go.Proofs.YtfgcgnhffljiaaaGreatDoor.Kka
