/-
  A kept answer among a law's arguments, opened. Walks: laws' szKept, toKept, eqKept.
  Walks: what a law's sizes come to: laws.szField, szFieldS, szResponse, szKept, szRequest, szItem: a number less a weight, or -1.
  An item among a law's arguments: measured, opened, copied, compared. Walks: laws' szItem, szRequest, toItem, eqItem.
-/
import Derived.Test.YtfgcgnhffljiaaaGreatDoorKka
import Derived.Test.YtfgcgnhffljiaaaGreatDoorRpt
import Derived.Test.YtfgcgnhffljiaaaGreatDoorRqo
import Derived.Test.YtfgcgnhffljiaaaGreatDoorRqt
namespace Go.Proofs.YtfgcgnhffljiaaaGreatDoor.Kka
open Go.RowKit
open Go.Proofs.YtfgcgnhffljiaaaGreatDoor.Fbs
open Go.Proofs.YtfgcgnhffljiaaaGreatDoor.Fdb
open Go.Proofs.YtfgcgnhffljiaaaGreatDoor.Fds
open Go.Proofs.YtfgcgnhffljiaaaGreatDoor.Rso
open Go.Proofs.YtfgcgnhffljiaaaGreatDoor.Rqo (list4 cellsL)
open Go.Proofs.YtfgcgnhffljiaaaGreatDoor.Rqb (fv_set)

theorem cellsK : Tryz.prog.cellsOf 39 = 6 := by kernel_rfl
theorem array6 {α : Type} {cs : Array α} (h : cs.size = 6) : ∃ c0 c1 c2 c3 c4 c5, cs = #[c0, c1, c2, c3, c4, c5] := by
  obtain ⟨l⟩ := cs
  match l, h with
  | [c0, c1, c2, c3, c4, c5], _ => exact ⟨c0, c1, c2, c3, c4, c5, rfl⟩
theorem list3 {α : Type} {l : List α} (h : l.length = 3) : ∃ c0 c1 c2, l = [c0, c1, c2] := by
  match l, h with
  | [c0, c1, c2], _ => exact ⟨c0, c1, c2, rfl⟩

set_option maxRecDepth 100000 in
open Go.ChangeShapes Go.WideShapes Go.ChangeAt in
theorem open_kept {H : Type} {enc : TypeId × Value → H} {W : World} {r : Reach} {b0 base : Nat} {sp : Nat → Bool} {held : Bool} {v : Value} {d : DataW H} {p : List MemPlace}
    (hv : Value.okWide Tryz.prog W r b0 39 v) (h : DataW.Trod enc Tryz.prog W base sp held 39 v d p) :
    ∃ (S : Int) (R B : ByteArray) (a : Option Addr) (cap : Nat) (l : List (ByteArray × ByteArray)) (q m : Int), v = .agg #[.int .i64 S, .string R, .slice a l.length cap, .string B, .int .i64 q, .int .i64 m] ∧ R.size ≤ maxLen ∧ B.size ≤ maxLen ∧ AF W a l ∧ l.length ≤ maxLen ∧ ∀ x ∈ l, x.1.size ≤ maxLen ∧ x.2.size ≤ maxLen := by
  obtain ⟨cs, rfl, hsz⟩ := okWide_struct Tryz.underlying39 hv
  obtain ⟨c0, c1, c2, c3, c4, c5, rfl⟩ := array6 (hsz.trans cellsK)
  obtain ⟨fuel, hf⟩ := h
  obtain ⟨xs, n, _, _, hl, hlen, hg⟩ := DataW.trod_struct Tryz.underlying39 hf
  obtain ⟨y0, y1, y2, rfl⟩ := list3 (show xs.length = 3 from hlen)
  have f0 := hg 0 _ rfl
  have f1 := hg 1 _ rfl
  have f2 := hg 2 _ rfl
  obtain ⟨xs', n', _, _, hl', hlen', hg'⟩ := DataW.trod_struct Tryz.underlying24 f0
  obtain ⟨z0, z1, z2, z3, rfl⟩ := list4 (show xs'.length = 4 from hlen')
  have g0 := hg' 0 _ rfl
  have g1 := hg' 1 _ rfl
  have g2 := hg' 2 _ rfl
  have g3 := hg' 3 _ rfl
  obtain ⟨S, e0, _, k0⟩ := DataW.trod_int Tryz.underlying3 g0
  obtain ⟨R, e1, _, k1⟩ := DataW.trod_string Tryz.underlying9 g1
  obtain ⟨a, cap, l, e2, k2, k3, k4⟩ := open_fields_cells g2
  obtain ⟨B, e3, _, k5⟩ := DataW.trod_string Tryz.underlying9 g3
  obtain ⟨q, e4, _, k6⟩ := DataW.trod_int Tryz.underlying3 f1
  obtain ⟨m, e5, _, k7⟩ := DataW.trod_int Tryz.underlying3 f2
  simp [cellsS, cellsL, cellsI, Rso.cellsR, Value.cells] at e0 e1 e2 e3 e4 e5
  subst e0 e1 e2 e3 e4 e5
  exact ⟨S, R, B, a, cap, l, q, m, rfl, k1, k5, k2, k3, k4⟩

set_option maxHeartbeats 800000 in
theorem szKept_any (S : Int) (R B : ByteArray) (a : Option Addr) (ca : Nat) (l : List (ByteArray × ByteArray)) (q m : Int) (w : World) (hR : R.size ≤ maxLen) (hB : B.size ≤ maxLen) (hl : l.length ≤ maxLen) (hx : ∀ x ∈ l, x.1.size ≤ maxLen ∧ x.2.size ≤ maxLen) (ha : AF w a l) :
    Calls Tryz.prog 51 #[.agg #[.int .i64 S, .string R, .slice a l.length ca, .string B, .int .i64 q, .int .i64 m], .int .i64 1048576] w fun e w' => ∃ v : Int, e = .returned (.int .i64 v) ∧ (0 ≤ v → ShortP R B l) ∧ Below w.heap.size w w' := by
  obtain ⟨W0, hW0⟩ : ∃ W, W = w.alloc (.cells #[.int .i64 S, .string R, .slice a l.length ca, .string B, .int .i64 q, .int .i64 m] 39) := ⟨_, rfl⟩
  have hb0 : Below w.heap.size w W0 := by rw [hW0]; exact (Below.refl _ _).alloc (Nat.le_refl _) _
  have HZ : Hid (Calls Tryz.prog 8 #[.agg #[.int .i64 S, .string R, .slice a l.length ca, .string B], .int .i64 1048576] W0 fun e w' => ∃ v : Int, e = .returned (.int .i64 v) ∧ (0 ≤ v → ShortP R B l) ∧ Below W0.heap.size W0 w') := szResponse_any S R B a ca l W0 hR hB hl hx (ha.below hb0)
  have HB0 : Hid (Below w.heap.size w W0) := hb0
  clear ha hb0 hx hl hB hR
  go_enter Tryz.func51, Tryz.ntmps51
  go_wp2_with fail
  rw [← hW0]
  clear hW0
  refine Calls.mono HZ.out ?_
  rintro e w1 ⟨v, rfl, hsh, hb1⟩
  have HB1 : Hid (Below w.heap.size w w1) := HB0.out.trans (hb1.mono HB0.out.size)
  have HS : Hid (0 ≤ v → ShortP R B l) := hsh
  clear hb1 HB0 HZ hsh
  by_cases hneg : v < 0
  · have hd : decide (v < 0) = true := decide_eq_true hneg
    go_wp2_with fail
    go_ret
    exact ⟨-1, rfl, fun h => absurd h (by decide), HB1.out⟩
  · have hd : decide (v < 0) = false := decide_eq_false hneg
    go_wp2_with fail
    go_ret
    exact ⟨_, rfl, HS.out, HB1.out⟩

def OwnK (w : World) (b : Nat) (v0 v1 v2 v3 v4 v5 : Value) : Prop := (∀ i, w.frozen? ⟨b, i, none⟩ = false) ∧ SixAt w b v0 v1 v2 v3 v4 v5
theorem OwnK.made (w : World) (v0 v1 v2 v3 v4 v5 : Value) (t : TypeId) : OwnK (w.alloc (.cells #[v0, v1, v2, v3, v4, v5] t)) w.heap.size v0 v1 v2 v3 v4 v5 :=
  ⟨fun i => by simp [go_sem], SixAt.made w v0 v1 v2 v3 v4 v5 t⟩
theorem OwnK.below {w w' : World} {b : Nat} {v0 v1 v2 v3 v4 v5 : Value} (h : OwnK w b v0 v1 v2 v3 v4 v5) (hb : Below w.heap.size w w') : OwnK w' b v0 v1 v2 v3 v4 v5 :=
  ⟨fun i => (hb.frozen (p := ⟨b, i, none⟩) h.2.1).trans (h.1 i), h.2.below hb⟩

set_option maxRecDepth 20000 in
set_option maxHeartbeats 3200000 in
theorem toKept_any (S : Int) (R B : ByteArray) (a : Option Addr) (ca : Nat) (l : List (ByteArray × ByteArray)) (q m : Int) (w : World) (hl : l.length ≤ 1048576) (ha : AF w a l) :
    Calls Tryz.prog 55 #[.agg #[.int .i64 S, .string R, .slice a l.length ca, .string B, .int .i64 q, .int .i64 m]] w fun e w' => (∃ g, e = .returned (.agg #[.int .i64 S, .string R, .slice (some ⟨g, 0, none⟩) l.length l.length, .string B, .int .i64 q, .int .i64 m]) ∧ FV w' (some ⟨g, 0, none⟩) l w.heap.size w'.heap.size) ∧ Below w.heap.size w w' := by
  obtain ⟨w1, hw1⟩ : ∃ w1, w1 = w.alloc (.cells #[.int .i64 S, .string R, .slice a l.length ca, .string B, .int .i64 q, .int .i64 m] 39) := ⟨_, rfl⟩
  have hs1 : w1.heap.size = w.heap.size + 1 := by rw [hw1]; simp
  have hb1 : Below w.heap.size w w1 := by rw [hw1]; exact (Below.refl _ _).alloc (Nat.le_refl _) _
  have X1 : OwnK w1 w.heap.size (.int .i64 S) (.string R) (.slice a l.length ca) (.string B) (.int .i64 q) (.int .i64 m) := by rw [hw1]; exact OwnK.made w _ _ _ _ _ _ _
  obtain ⟨w2, hw2⟩ : ∃ w2, w2 = w1.alloc (.cells #[.int .i64 0, .string ⟨#[]⟩, .slice none 0 0, .string ⟨#[]⟩, .int .i64 0, .int .i64 0] 49) := ⟨_, rfl⟩
  have hs2 : w2.heap.size = w.heap.size + 1 + 1 := by rw [hw2, World.size_alloc, hs1]
  have hb2 : Below w1.heap.size w1 w2 := by rw [hw2]; exact (Below.refl _ _).alloc (Nat.le_refl _) _
  have O2 : OwnK w2 (w.heap.size + 1) (.int .i64 0) (.string ⟨#[]⟩) (.slice none 0 0) (.string ⟨#[]⟩) (.int .i64 0) (.int .i64 0) := by rw [← hs1, hw2]; exact OwnK.made w1 _ _ _ _ _ _ _
  obtain ⟨w3, hw3⟩ : ∃ w3, w3 = w2.alloc (.cells #[.int .i64 0, .string ⟨#[]⟩, .slice none 0 0, .string ⟨#[]⟩, .int .i64 0, .int .i64 0] 49) := ⟨_, rfl⟩
  have hs3 : w3.heap.size = w.heap.size + 1 + 1 + 1 := by rw [hw3, World.size_alloc, hs2]
  have hb3 : Below w2.heap.size w2 w3 := by rw [hw3]; exact (Below.refl _ _).alloc (Nat.le_refl _) _
  have O3 : OwnK w3 (w.heap.size + 1 + 1) (.int .i64 0) (.string ⟨#[]⟩) (.slice none 0 0) (.string ⟨#[]⟩) (.int .i64 0) (.int .i64 0) := by rw [← hs2, hw3]; exact OwnK.made w2 _ _ _ _ _ _ _
  have HX3 : Hid (OwnK w3 w.heap.size (.int .i64 S) (.string R) (.slice a l.length ca) (.string B) (.int .i64 q) (.int .i64 m)) := (X1.below hb2).below hb3
  have HO2 : Hid (OwnK w3 (w.heap.size + 1) (.int .i64 0) (.string ⟨#[]⟩) (.slice none 0 0) (.string ⟨#[]⟩) (.int .i64 0) (.int .i64 0)) := O2.below hb3
  have HO3 : Hid (OwnK w3 (w.heap.size + 1 + 1) (.int .i64 0) (.string ⟨#[]⟩) (.slice none 0 0) (.string ⟨#[]⟩) (.int .i64 0) (.int .i64 0)) := O3
  have hB3 : Below w.heap.size w w3 := (hb1.trans (hb2.mono hb1.size)).trans (hb3.mono (by omega))
  have HTR : Hid (Calls Tryz.prog 10 #[.agg #[.int .i64 S, .string R, .slice a l.length ca, .string B]] w3 fun e w' => (∃ g, e = .returned (.agg #[.int .i64 S, .string R, .slice (some ⟨g, 0, none⟩) l.length l.length, .string B]) ∧ FV w' (some ⟨g, 0, none⟩) l w3.heap.size w'.heap.size) ∧ Below w3.heap.size w3 w') := Rsb.toResponse_any S R B a ca l w3 hl (ha.below hB3)
  clear X1 O2 O3 hb1 hb2 hb3 ha
  go_enter Tryz.func55, Tryz.ntmps55
  go_wp2_with fail
  rw [← hw1, ← hw2, ← hw3]
  clear hw1 hw2 hw3 hs1 hs2
  refine Calls.mono HTR.out ?_
  rintro e w4 ⟨⟨g, rfl, T4⟩, hb4⟩
  obtain ⟨f1, x_, x0, x1, x2, x3, x4, x5⟩ := HX3.out.below hb4
  obtain ⟨f2, p_, p0, p1, p2, p3, p4, p5⟩ := HO2.out.below hb4
  obtain ⟨f3, q_, q0, q1, q2, q3, q4, q5⟩ := HO3.out.below hb4
  have hs4 : w.heap.size + 1 + 1 + 1 ≤ w4.heap.size := by have := hb4.size; omega
  have hB4 := hB3.trans (hb4.mono hB3.size)
  rw [hs3] at T4
  have HT4 : Hid (FV w4 (some ⟨g, 0, none⟩) l (w.heap.size + 1 + 1 + 1) w4.heap.size) := T4
  have HB4 : Hid (Below w.heap.size w w4) := hB4
  clear T4 hb4 HX3 HO2 HO3 HTR hB3 hB4 x_ p_ q_ hs3
  go_wp2_with fail
  exact bodyPost_ret (v := .agg #[.int .i64 S, .string R, .slice (some ⟨g, 0, none⟩) l.length l.length, .string B, .int .i64 q, .int .i64 m]) (by simp [results, Tryz.results55, go_sem, p0, p1, p2, p3, p4, p5]) rfl
    ⟨⟨_, rfl, (by
      exact FV.wide (fv_set (fv_set (fv_set (fv_set (fv_set (fv_set (fv_set (fv_set (fv_set (fv_set (fv_set (fv_set (HT4.out) (by omega) _) (by omega) _) (by omega) _) (by omega) _) (by omega) _) (by omega) _) (by omega) _) (by omega) _) (by omega) _) (by omega) _) (by omega) _) (by omega) _) (by omega) (by simp [World.setCell]))⟩,
     ((((((((((((HB4.out).setCell (by first | omega | (dsimp only; omega) | (simp; omega) | simp) _).setCell (by first | omega | (dsimp only; omega) | (simp; omega) | simp) _).setCell (by first | omega | (dsimp only; omega) | (simp; omega) | simp) _).setCell (by first | omega | (dsimp only; omega) | (simp; omega) | simp) _).setCell (by first | omega | (dsimp only; omega) | (simp; omega) | simp) _).setCell (by first | omega | (dsimp only; omega) | (simp; omega) | simp) _).setCell (by first | omega | (dsimp only; omega) | (simp; omega) | simp) _).setCell (by first | omega | (dsimp only; omega) | (simp; omega) | simp) _).setCell (by first | omega | (dsimp only; omega) | (simp; omega) | simp) _).setCell (by first | omega | (dsimp only; omega) | (simp; omega) | simp) _).setCell (by first | omega | (dsimp only; omega) | (simp; omega) | simp) _).setCell (by first | omega | (dsimp only; omega) | (simp; omega) | simp) _⟩

set_option maxHeartbeats 1600000 in
theorem eqKept_any (S : Int) (R B : ByteArray) (a b : Option Addr) (l : List (ByteArray × ByteArray)) (q m : Int) (w : World) (x y x' y' : Nat) (hl : l.length ≤ 2000000) (ha : FV w a l x y) (hb : FV w b l x' y') :
    Calls Tryz.prog 59 #[.agg #[.int .i64 S, .string R, .slice a l.length l.length, .string B, .int .i64 q, .int .i64 m], .agg #[.int .i64 S, .string R, .slice b l.length l.length, .string B, .int .i64 q, .int .i64 m]] w fun e w' => e = .returned (.bool true) ∧ Below w.heap.size w w' := by
  obtain ⟨w1, hw1⟩ : ∃ w1, w1 = w.alloc (.cells #[.int .i64 S, .string R, .slice a l.length l.length, .string B, .int .i64 q, .int .i64 m] 49) := ⟨_, rfl⟩
  have hs1 : w1.heap.size = w.heap.size + 1 := by rw [hw1]; simp
  have hb1 : Below w.heap.size w w1 := by rw [hw1]; exact (Below.refl _ _).alloc (Nat.le_refl _) _
  have X1 : OwnK w1 w.heap.size (.int .i64 S) (.string R) (.slice a l.length l.length) (.string B) (.int .i64 q) (.int .i64 m) := by rw [hw1]; exact OwnK.made w _ _ _ _ _ _ _
  obtain ⟨w2, hw2⟩ : ∃ w2, w2 = w1.alloc (.cells #[.int .i64 S, .string R, .slice b l.length l.length, .string B, .int .i64 q, .int .i64 m] 49) := ⟨_, rfl⟩
  have hb2 : Below w1.heap.size w1 w2 := by rw [hw2]; exact (Below.refl _ _).alloc (Nat.le_refl _) _
  have O2 : OwnK w2 (w.heap.size + 1) (.int .i64 S) (.string R) (.slice b l.length l.length) (.string B) (.int .i64 q) (.int .i64 m) := by rw [← hs1, hw2]; exact OwnK.made w1 _ _ _ _ _ _ _
  have HX2 : Hid (OwnK w2 w.heap.size (.int .i64 S) (.string R) (.slice a l.length l.length) (.string B) (.int .i64 q) (.int .i64 m)) := X1.below hb2
  have HO2 : Hid (OwnK w2 (w.heap.size + 1) (.int .i64 S) (.string R) (.slice b l.length l.length) (.string B) (.int .i64 q) (.int .i64 m)) := O2
  have hB2 : Below w.heap.size w w2 := hb1.trans (hb2.mono hb1.size)
  have HB2 : Hid (Below w.heap.size w w2) := hB2
  have HE : Hid (Calls Tryz.prog 13 #[.agg #[.int .i64 S, .string R, .slice a l.length l.length, .string B], .agg #[.int .i64 S, .string R, .slice b l.length l.length, .string B]] w2 fun e w' => e = .returned (.bool true) ∧ Below w2.heap.size w2 w') := Rsb.eqResponse_any S R B a b l w2 x y x' y' hl (ha.below hB2) (hb.below hB2)
  clear X1 O2 hb1 hb2 ha hb hB2 hs1
  go_enter Tryz.func59, Tryz.ntmps59
  go_wp2_with fail
  rw [← hw1, ← hw2]
  clear hw1 hw2
  refine Calls.mono HE.out ?_
  rintro e w3 ⟨rfl, hb3⟩
  obtain ⟨f1, x_, x0, x1, x2, x3, x4, x5⟩ := HX2.out.below hb3
  obtain ⟨f2, p_, p0, p1, p2, p3, p4, p5⟩ := HO2.out.below hb3
  have HB3 : Hid (Below w.heap.size w w3) := HB2.out.trans (hb3.mono HB2.out.size)
  clear hb3 HX2 HO2 HE HB2
  go_wp2_with fail
  go_ret
  exact ⟨rfl, HB3.out⟩

end Go.Proofs.YtfgcgnhffljiaaaGreatDoor.Kka

namespace Go.Proofs.YtfgcgnhffljiaaaGreatDoor.Szv
open Go.RowKit
open Go.Proofs.YtfgcgnhffljiaaaGreatDoor.Fbs
open Go.Proofs.YtfgcgnhffljiaaaGreatDoor.Fdb
open Go.Proofs.YtfgcgnhffljiaaaGreatDoor.Fds
open Go.Proofs.YtfgcgnhffljiaaaGreatDoor.Kka (SixAt)

/-- The weight of fields: one each, and their texts. -/
def wC (c : ByteArray × ByteArray) : Nat := c.1.size + c.2.size
def wS (l : List (ByteArray × ByteArray)) : Nat := (l.map wC).sum
def wF (l : List (ByteArray × ByteArray)) : Nat := l.length + wS l
def szV (L n : Nat) : Int := if n ≤ L then (L : Int) - n else -1
theorem szV_yes {L n : Nat} (h : n ≤ L) : szV L n = ((L - n : Nat) : Int) := by unfold szV; rw [if_pos h]; omega
theorem szV_no {L n : Nat} (h : ¬ n ≤ L) : szV L n = -1 := by unfold szV; rw [if_neg h]
theorem ret_sz {v : Int} {L n : Nat} (h : v = szV L n) : Ending.returned (.int .i64 v) = .returned (.int .i64 (szV L n)) := by rw [h]
theorem wS_take {l : List (ByteArray × ByteArray)} {k : Nat} (h : k < l.length) : wS (l.take (k + 1)) = wS (l.take k) + wC l[k] := by
  unfold wS; rw [List.take_succ_eq_append_getElem h, List.map_append, List.sum_append]; simp
theorem wS_le (l : List (ByteArray × ByteArray)) (k : Nat) : wS (l.take k) ≤ wS l := by
  have e : wS l = wS (l.take k) + wS (l.drop k) := by
    unfold wS; rw [← List.sum_append, ← List.map_append, List.take_append_drop]
  omega
theorem wF_parts {l : List (ByteArray × ByteArray)} {L : Nat} (h : wF l ≤ L) : l.length ≤ L ∧ ∀ c ∈ l, c.1.size ≤ L ∧ c.2.size ≤ L := by
  unfold wF at h
  refine ⟨by omega, fun c hc => ?_⟩
  obtain ⟨j, hj, rfl⟩ := List.getElem_of_mem hc
  have h1 := wS_take hj
  have h2 := wS_le l (j + 1)
  unfold wC at h1
  omega

theorem szField_v (S V : ByteArray) (L : Nat) (hS : S.size ≤ maxLen) (hV : V.size ≤ maxLen) (hL : L ≤ 2000000) (w : World) :
    Calls Tryz.prog 69 #[.agg #[.string S, .string V], .int .i64 L] w fun e w' => e = .returned (.int .i64 (szV L (S.size + V.size))) ∧ Below w.heap.size w w' := by
  by_cases h : S.size + V.size ≤ L
  · exact (Lwf.sz_yes S V L w h hL).mono fun e w' ⟨he, hb⟩ => ⟨by rw [he, szV_yes h]; congr 2; omega, hb⟩
  · exact (Lwf.sz_no S V L w hS hV h hL).mono fun e w' ⟨he, hb⟩ => ⟨by rw [he, szV_no h], hb⟩

set_option maxHeartbeats 800000 in
theorem szFieldS_v (a : Option Addr) (ca : Nat) (l : List (ByteArray × ByteArray)) (L : Nat) (w : World) (hL : L ≤ 1048576) (hl : l.length ≤ maxLen) (hx : ∀ x ∈ l, x.1.size ≤ maxLen ∧ x.2.size ≤ maxLen) (ha : AF w a l) :
    Calls Tryz.prog 37 #[.slice a l.length ca, .int .i64 L] w fun e w' => e = .returned (.int .i64 (szV L (wF l))) ∧ Below w.heap.size w w' := by
  unfold maxLen at hl
  have w1 : IntKind.i64.wrap ((L : Int) - (l.length : Int)) = (L : Int) - (l.length : Int) := by rw [IntKind.wrap_i64]; omega
  by_cases hlong : L < l.length
  · have hd : decide ((L : Int) - (l.length : Int) < 0) = true := decide_eq_true (by omega)
    have HR : Hid (szV L (wF l) = -1) := szV_no (by unfold wF; omega)
    go_enter Tryz.func37, Tryz.ntmps37
    go_wp2_with fail
    go_ret
    exact ⟨ret_sz HR.out.symm, Below.refl _ _⟩
  have hd : decide ((L : Int) - (l.length : Int) < 0) = false := decide_eq_false (by omega)
  by_cases h0 : l = []
  · subst h0
    go_enter Tryz.func37, Tryz.ntmps37
    go_wp2_with fail
    go_loop [1, 5] (fun lv i => lv = .int .i64 L ∧ i = .int .i64 0) (fun _ _ => 0)
    case atStart => exact ⟨by first | rfl | simp, rfl⟩
    case round =>
      obtain ⟨rfl, rfl⟩ := hrel
      go_wp2_with fail
      go_ret
      exact ⟨ret_sz (by rw [szV_yes (show wF [] ≤ L from Nat.zero_le L)]; show (L : Int) = ((L - 0 : Nat) : Int); omega), Below.refl _ _⟩
  rcases ha with ha | ⟨ad, rfl, hadb, ga⟩
  · exact absurd ha h0
  have GA : Hid (AF w (some ad) l) := .inr ⟨ad, rfl, hadb, ga⟩
  clear ga
  obtain ⟨n, hn⟩ : ∃ n : Nat, n = L - l.length := ⟨_, rfl⟩
  have hn' : (L : Int) - (l.length : Int) = n := by omega
  have hn2 : n + l.length = L := by omega
  go_enter Tryz.func37, Tryz.ntmps37
  go_wp2_with fail
  go_loopw [1, 5] (fun lv i wr => ∃ (k V : Nat), lv = .int .i64 V ∧ i = .int .i64 k ∧ k ≤ l.length ∧ V ≤ L ∧ Below w.heap.size w wr ∧ Hid (V + wS (l.take k) = n)) (fun _ i _ => l.length - (intOf i).toNat)
  case atStart => exact ⟨0, n, by first | rfl | (rw [hn]) | (rw [hn']), rfl, Nat.zero_le _, by omega, Below.refl _ _, by show _ = _; simp [wS]⟩
  case round =>
    obtain ⟨k, V, rfl, rfl, hk, hv1, hbel, HS⟩ := hrel
    by_cases hlt : k < l.length
    · have hc : wr.cell? (ad.add (k * 2)) = some (.string l[k].1) ∧ wr.cell? (ad.add (k * 2 + 1)) = some (.string l[k].2) := by
        rcases GA.out.below hbel with h | ⟨ad', h1, _, h3⟩
        · exact absurd h h0
        · cases h1; exact h3 k l[k] (List.getElem?_eq_getElem hlt)
      obtain ⟨hc1, hc2⟩ := hc
      rw [← next_add] at hc2
      obtain ⟨hs1, hs2⟩ := hx l[k] (List.getElem_mem hlt)
      have hst := wS_take hlt
      have hle := wS_le l (k + 1)
      have HZ : Hid (∀ w, Calls Tryz.prog 69 #[.agg #[.string l[k].1, .string l[k].2], .int .i64 V] w fun e w' => e = .returned (.int .i64 (szV V (wC l[k]))) ∧ Below w.heap.size w w') := fun w => szField_v l[k].1 l[k].2 V hs1 hs2 (by omega) w
      clear hs1 hs2
      by_cases hf : wC l[k] ≤ V
      · have hz := szV_yes hf
        have HS' : Hid (V - wC l[k] + wS (l.take (k + 1)) = n) := by show _ = _; have := HS.out; omega
        have hd2 : decide (((V - wC l[k] : Nat) : Int) < 0) = false := decide_eq_false (by omega)
        rw [hz] at HZ
        clear HS hz hst hle
        obtain ⟨m, hm⟩ : ∃ m, m = V - wC l[k] := ⟨_, rfl⟩
        rw [← hm] at HZ HS' hd2
        have hmL : m ≤ L := by omega
        clear hm hf
        go_wp2_with fail
        refine (HZ.out _).mono ?_
        rintro e w2 ⟨rfl, hb2⟩
        have hb3 := hbel.trans (hb2.mono hbel.size)
        go_wp2_with fail
        go_roundw
        case rel => exact ⟨k + 1, m, rfl, by go_num, by omega, hmL, hb3, HS'⟩
        case measure => simp [intOf]; omega
      · have hz := szV_no hf
        have HR : Hid (szV L (wF l) = -1) := szV_no (by have := HS.out; unfold wF; omega)
        rw [hz] at HZ
        clear HS hz hst hle hf
        go_wp2_with fail
        refine (HZ.out _).mono ?_
        rintro e w2 ⟨rfl, hb2⟩
        have hb3 := hbel.trans (hb2.mono hbel.size)
        go_wp2_with fail
        go_ret
        exact ⟨ret_sz HR.out.symm, hb3⟩
    · obtain rfl : k = l.length := by omega
      have HR : Hid ((V : Int) = szV L (wF l)) := by
        have h := HS.out
        rw [List.take_length] at h
        show _ = _
        rw [szV_yes (by unfold wF; omega)]
        unfold wF; omega
      clear HS
      go_wp2_with fail
      go_ret
      exact ⟨ret_sz HR.out, hbel⟩

/-- A weight less another. -/
theorem szV_step {L a b : Nat} (h : a ≤ L) : szV (L - a) b = szV L (a + b) := by
  unfold szV
  by_cases h2 : b ≤ L - a
  · rw [if_pos h2, if_pos (by omega)]; omega
  · rw [if_neg h2, if_neg (by omega)]
theorem szV_over {L a b : Nat} (h : ¬ a ≤ L) : szV L (a + b) = -1 := szV_no (by omega)

def wP (R : ByteArray) (l : List (ByteArray × ByteArray)) (B : ByteArray) : Nat := R.size + wF l + B.size

set_option maxHeartbeats 1600000 in
theorem szResponse_v (S : Int) (R B : ByteArray) (a : Option Addr) (ca : Nat) (l : List (ByteArray × ByteArray)) (L : Nat) (w : World) (hL : L ≤ 1048576) (hR : R.size ≤ maxLen) (hB : B.size ≤ maxLen) (hl : l.length ≤ maxLen) (hx : ∀ x ∈ l, x.1.size ≤ maxLen ∧ x.2.size ≤ maxLen) (ha : AF w a l) :
    Calls Tryz.prog 8 #[.agg #[.int .i64 S, .string R, .slice a l.length ca, .string B], .int .i64 L] w fun e w' => e = .returned (.int .i64 (szV L (wP R l B))) ∧ Below w.heap.size w w' := by
  unfold maxLen at hR hB
  have hbox : Below w.heap.size w (w.alloc (.cells #[.int .i64 S, .string R, .slice a l.length ca, .string B] 24)) := (Below.refl _ _).alloc (Nat.le_refl _) _
  have hab := ha.below hbox
  have wr1 : IntKind.i64.wrap ((L : Int) - (R.size : Int)) = (L : Int) - (R.size : Int) := by rw [IntKind.wrap_i64]; omega
  by_cases h2 : L < R.size
  · have hd : decide ((L : Int) - (R.size : Int) < 0) = true := decide_eq_true (by omega)
    have HR : Hid (szV L (wP R l B) = -1) := szV_no (by unfold wP; omega)
    go_enter Tryz.func8, Tryz.ntmps8
    go_wp2_with fail
    go_ret
    exact ⟨ret_sz HR.out.symm, hbox⟩
  have hd2 : decide ((L : Int) - (R.size : Int) < 0) = false := decide_eq_false (by omega)
  have HZ : Hid (∀ w, AF w a l → Calls Tryz.prog 37 #[.slice a l.length ca, .int .i64 ((L : Int) - (R.size : Int))] w fun e w' => e = .returned (.int .i64 (szV L (R.size + wF l))) ∧ Below w.heap.size w w') := by
    intro w h
    have := szFieldS_v a ca l (L - R.size) w (by omega) hl hx h
    rw [show ((L - R.size : Nat) : Int) = (L : Int) - (R.size : Int) from by omega, szV_step (by omega)] at this
    exact this
  by_cases h3 : R.size + wF l ≤ L
  rotate_left
  · have HR : Hid (szV L (wP R l B) = -1) := szV_over h3
    rw [szV_no h3] at HZ
    go_enter Tryz.func8, Tryz.ntmps8
    go_wp2_with fail
    refine (HZ.out _ hab).mono ?_
    rintro e w1 ⟨rfl, hb1⟩
    have hb2 := hbox.trans (hb1.mono hbox.size)
    go_wp2_with fail
    go_ret
    exact ⟨ret_sz HR.out.symm, hb2⟩
  rw [szV_yes h3] at HZ
  have hst : szV (L - (R.size + wF l)) B.size = szV L (wP R l B) := szV_step h3
  obtain ⟨v, hv⟩ : ∃ v, v = L - (R.size + wF l) := ⟨_, rfl⟩
  rw [← hv] at HZ hst
  have hvL : v ≤ 1048576 := by omega
  have HST : Hid _ := hst
  clear hv h3 hst
  have hd3 : decide ((v : Int) < 0) = false := decide_eq_false (by omega)
  have hwr : IntKind.i64.wrap ((v : Int) - (B.size : Int)) = (v : Int) - (B.size : Int) := by rw [IntKind.wrap_i64]; omega
  go_enter Tryz.func8, Tryz.ntmps8
  go_wp2_with fail
  refine (HZ.out _ hab).mono ?_
  rintro e w1 ⟨rfl, hb1⟩
  have hb2 := hbox.trans (hb1.mono hbox.size)
  obtain ⟨hc, hf⟩ : w1.cell? ⟨w.heap.size, 3, none⟩ = some (.string B) ∧ True := ⟨(hb1.cell (p := ⟨w.heap.size, 3, none⟩) (by simp)).trans (by simp [go_sem]), trivial⟩
  by_cases h4 : B.size ≤ v
  · have hd : decide ((v : Int) - (B.size : Int) < 0) = false := decide_eq_false (by omega)
    have HR : Hid ((v : Int) - (B.size : Int) = szV L (wP R l B)) := by show _ = _; rw [← HST.out, szV_yes h4]; omega
    go_wp2_with fail
    go_ret
    exact ⟨ret_sz HR.out, hb2⟩
  · have hd : decide ((v : Int) - (B.size : Int) < 0) = true := decide_eq_true (by omega)
    have HR : Hid (szV L (wP R l B) = -1) := by show _ = _; rw [← HST.out, szV_no h4]
    go_wp2_with fail
    go_ret
    exact ⟨ret_sz HR.out.symm, hb2⟩

set_option maxHeartbeats 800000 in
theorem szKept_v (S : Int) (R B : ByteArray) (a : Option Addr) (ca : Nat) (l : List (ByteArray × ByteArray)) (q m : Int) (L : Nat) (w : World) (hL : L ≤ 1048576) (hR : R.size ≤ maxLen) (hB : B.size ≤ maxLen) (hl : l.length ≤ maxLen) (hx : ∀ x ∈ l, x.1.size ≤ maxLen ∧ x.2.size ≤ maxLen) (ha : AF w a l) :
    Calls Tryz.prog 51 #[.agg #[.int .i64 S, .string R, .slice a l.length ca, .string B, .int .i64 q, .int .i64 m], .int .i64 L] w fun e w' => e = .returned (.int .i64 (szV L (wP R l B))) ∧ Below w.heap.size w w' := by
  obtain ⟨W0, hW0⟩ : ∃ W, W = w.alloc (.cells #[.int .i64 S, .string R, .slice a l.length ca, .string B, .int .i64 q, .int .i64 m] 39) := ⟨_, rfl⟩
  have hb0 : Below w.heap.size w W0 := by rw [hW0]; exact (Below.refl _ _).alloc (Nat.le_refl _) _
  have HZ : Hid (Calls Tryz.prog 8 #[.agg #[.int .i64 S, .string R, .slice a l.length ca, .string B], .int .i64 L] W0 fun e w' => e = .returned (.int .i64 (szV L (wP R l B))) ∧ Below W0.heap.size W0 w') := szResponse_v S R B a ca l L W0 hL hR hB hl hx (ha.below hb0)
  have HB0 : Hid (Below w.heap.size w W0) := hb0
  have hcase : szV L (wP R l B) = -1 ∨ ∃ v : Nat, szV L (wP R l B) = v := by
    by_cases h : wP R l B ≤ L
    · exact .inr ⟨_, szV_yes h⟩
    · exact .inl (szV_no h)
  generalize szV L (wP R l B) = z at *
  clear ha hb0 hx hl hB hR
  go_enter Tryz.func51, Tryz.ntmps51
  go_wp2_with fail
  rw [← hW0]
  clear hW0
  refine Calls.mono HZ.out ?_
  rintro e w1 ⟨rfl, hb1⟩
  have HB1 : Hid (Below w.heap.size w w1) := HB0.out.trans (hb1.mono HB0.out.size)
  clear hb1 HB0 HZ
  rcases hcase with rfl | ⟨v, rfl⟩
  · go_wp2_with fail
    go_ret
    exact ⟨rfl, HB1.out⟩
  · have hd : decide ((v : Int) < 0) = false := decide_eq_false (by omega)
    go_wp2_with fail
    go_ret
    exact ⟨rfl, HB1.out⟩

end Go.Proofs.YtfgcgnhffljiaaaGreatDoor.Szv

namespace Go.Proofs.YtfgcgnhffljiaaaGreatDoor.Itm
open Go.RowKit
open Go.Proofs.YtfgcgnhffljiaaaGreatDoor.Fbs
open Go.Proofs.YtfgcgnhffljiaaaGreatDoor.Fdb
open Go.Proofs.YtfgcgnhffljiaaaGreatDoor.Fds
open Go.Proofs.YtfgcgnhffljiaaaGreatDoor.Szv
open Go.Proofs.YtfgcgnhffljiaaaGreatDoor.Rqb (fv_set)
open Go.Proofs.YtfgcgnhffljiaaaGreatDoor.Rqo (cellsL)
open Go.Proofs.YtfgcgnhffljiaaaGreatDoor.Rso (cellsI)
open Go.Proofs.YtfgcgnhffljiaaaGreatDoor.Mrk (same_text)
open Go.Proofs.YtfgcgnhffljiaaaGreatDoor.Kka (szKept_any toKept_any eqKept_any)

def EightAt (w : World) (b : Nat) (v0 v1 v2 v3 v4 v5 v6 v7 : Value) : Prop := b < w.heap.size ∧ w.cell? ⟨b, 0, none⟩ = some v0 ∧ w.cell? ⟨b, 1, none⟩ = some v1 ∧ w.cell? ⟨b, 2, none⟩ = some v2 ∧ w.cell? ⟨b, 3, none⟩ = some v3 ∧ w.cell? ⟨b, 4, none⟩ = some v4 ∧ w.cell? ⟨b, 5, none⟩ = some v5 ∧ w.cell? ⟨b, 6, none⟩ = some v6 ∧ w.cell? ⟨b, 7, none⟩ = some v7
theorem EightAt.made (w : World) (v0 v1 v2 v3 v4 v5 v6 v7 : Value) (t : TypeId) : EightAt (w.alloc (.cells #[v0, v1, v2, v3, v4, v5, v6, v7] t)) w.heap.size v0 v1 v2 v3 v4 v5 v6 v7 :=
  ⟨by simp, by rw [World.cell?_alloc_mark]; rfl, by rw [World.cell?_alloc_mark]; rfl, by rw [World.cell?_alloc_mark]; rfl, by rw [World.cell?_alloc_mark]; rfl, by rw [World.cell?_alloc_mark]; rfl, by rw [World.cell?_alloc_mark]; rfl, by rw [World.cell?_alloc_mark]; rfl, by rw [World.cell?_alloc_mark]; rfl⟩
theorem EightAt.below {w w' : World} {b : Nat} {v0 v1 v2 v3 v4 v5 v6 v7 : Value} (h : EightAt w b v0 v1 v2 v3 v4 v5 v6 v7) (hb : Below w.heap.size w w') : EightAt w' b v0 v1 v2 v3 v4 v5 v6 v7 := by
  obtain ⟨h0, c0, c1, c2, c3, c4, c5, c6, c7⟩ := h
  have e : ∀ i, w'.cell? ⟨b, i, none⟩ = w.cell? ⟨b, i, none⟩ := fun i => hb.cell (p := ⟨b, i, none⟩) h0
  exact ⟨Nat.lt_of_lt_of_le h0 hb.size, (e 0).trans c0, (e 1).trans c1, (e 2).trans c2, (e 3).trans c3, (e 4).trans c4, (e 5).trans c5, (e 6).trans c6, (e 7).trans c7⟩

/-- An item as one value. -/
abbrev itV (K : ByteArray) (A : Value) (S : Int) (R : ByteArray) (F : Value) (B : ByteArray) (q m : Int) : Value := .agg #[.string K, A, .int .i64 S, .string R, F, .string B, .int .i64 q, .int .i64 m]
def wI (K : ByteArray) (A : List (ByteArray × ByteArray)) (R : ByteArray) (l : List (ByteArray × ByteArray)) (B : ByteArray) : Nat := K.size + wF A + wP R l B

theorem cellsIt : Tryz.prog.cellsOf 41 = 8 := by kernel_rfl
theorem array8 {α : Type} {cs : Array α} (h : cs.size = 8) : ∃ c0 c1 c2 c3 c4 c5 c6 c7, cs = #[c0, c1, c2, c3, c4, c5, c6, c7] := by
  obtain ⟨l⟩ := cs
  match l, h with
  | [c0, c1, c2, c3, c4, c5, c6, c7], _ => exact ⟨c0, c1, c2, c3, c4, c5, c6, c7, rfl⟩

set_option maxRecDepth 100000 in
set_option maxHeartbeats 1600000 in
open Go.ChangeShapes Go.WideShapes Go.ChangeAt in
theorem open_item {H : Type} {enc : TypeId × Value → H} {W : World} {r : Reach} {b0 base : Nat} {sp : Nat → Bool} {held : Bool} {v : Value} {d : DataW H} {p : List MemPlace}
    (hv : Value.okWide Tryz.prog W r b0 41 v) (h : DataW.Trod enc Tryz.prog W base sp held 41 v d p) :
    ∃ (K : ByteArray) (x : Option Addr) (cx : Nat) (A : List (ByteArray × ByteArray)) (S : Int) (R B : ByteArray) (a : Option Addr) (cap : Nat) (l : List (ByteArray × ByteArray)) (q m : Int), v = itV K (.slice x A.length cx) S R (.slice a l.length cap) B q m ∧ K.size ≤ maxLen ∧ (AF W x A ∧ A.length ≤ maxLen ∧ ∀ c ∈ A, c.1.size ≤ maxLen ∧ c.2.size ≤ maxLen) ∧ R.size ≤ maxLen ∧ B.size ≤ maxLen ∧ AF W a l ∧ l.length ≤ maxLen ∧ ∀ x ∈ l, x.1.size ≤ maxLen ∧ x.2.size ≤ maxLen := by
  obtain ⟨cs, rfl, hsz⟩ := okWide_struct Tryz.underlying41 hv
  obtain ⟨c0, c1, c2, c3, c4, c5, c6, c7, rfl⟩ := array8 (hsz.trans cellsIt)
  obtain ⟨fuel, hf⟩ := h
  obtain ⟨xs, n, _, _, hl, hlen, hg⟩ := DataW.trod_struct Tryz.underlying41 hf
  obtain ⟨y0, y1, y2, rfl⟩ := Kka.list3 (show xs.length = 3 from hlen)
  have f0 := hg 0 _ rfl
  have f1 := hg 1 _ rfl
  have f2 := hg 2 _ rfl
  obtain ⟨ys, ny, _, _, hly, hleny, hgy⟩ := DataW.trod_struct Tryz.underlying39 f2
  obtain ⟨u0, u1, u2, rfl⟩ := Kka.list3 (show ys.length = 3 from hleny)
  have e0 := hgy 0 _ rfl
  have e1 := hgy 1 _ rfl
  have e2 := hgy 2 _ rfl
  obtain ⟨xs', n', _, _, hl', hlen', hg'⟩ := DataW.trod_struct Tryz.underlying24 e0
  obtain ⟨z0, z1, z2, z3, rfl⟩ := Rqo.list4 (show xs'.length = 4 from hlen')
  have g0 := hg' 0 _ rfl
  have g1 := hg' 1 _ rfl
  have g2 := hg' 2 _ rfl
  have g3 := hg' 3 _ rfl
  obtain ⟨K, d0, _, k0⟩ := DataW.trod_string Tryz.underlying9 f0
  obtain ⟨x, cx, A, d1, k1, k2, k3⟩ := open_fields_cells f1
  obtain ⟨S, d2, _, k4⟩ := DataW.trod_int Tryz.underlying3 g0
  obtain ⟨R, d3, _, k5⟩ := DataW.trod_string Tryz.underlying9 g1
  obtain ⟨a, cap, l, d4, k6, k7, k8⟩ := open_fields_cells g2
  obtain ⟨B, d5, _, k9⟩ := DataW.trod_string Tryz.underlying9 g3
  obtain ⟨q, d6, _, k10⟩ := DataW.trod_int Tryz.underlying3 e1
  obtain ⟨m, d7, _, k11⟩ := DataW.trod_int Tryz.underlying3 e2
  simp [cellsS, cellsL, cellsI, Rso.cellsR, Kka.cellsK, Value.cells] at d0 d1 d2 d3 d4 d5 d6 d7
  subst d0 d1 d2 d3 d4 d5 d6 d7
  exact ⟨K, x, cx, A, S, R, B, a, cap, l, q, m, rfl, k0, ⟨k1, k2, k3⟩, k5, k9, k6, k7, k8⟩

theorem z_case (L n : Nat) : szV L n = -1 ∨ ∃ v : Nat, szV L n = v ∧ v ≤ L := by
  by_cases h : n ≤ L
  · exact .inr ⟨_, szV_yes h, by omega⟩
  · exact .inl (szV_no h)

set_option maxHeartbeats 1600000 in
theorem szItem_v (K : ByteArray) (x : Option Addr) (cx : Nat) (A : List (ByteArray × ByteArray)) (S : Int) (R B : ByteArray) (a : Option Addr) (ca : Nat) (l : List (ByteArray × ByteArray)) (q m : Int) (L : Nat) (w : World) (hL : L ≤ 1048576)
    (hK : K.size ≤ maxLen) (hA : AF w x A) (hAl : A.length ≤ maxLen) (hAx : ∀ c ∈ A, c.1.size ≤ maxLen ∧ c.2.size ≤ maxLen) (hR : R.size ≤ maxLen) (hB : B.size ≤ maxLen) (hl : l.length ≤ maxLen) (hx : ∀ x ∈ l, x.1.size ≤ maxLen ∧ x.2.size ≤ maxLen) (ha : AF w a l) :
    Calls Tryz.prog 17 #[itV K (.slice x A.length cx) S R (.slice a l.length ca) B q m, .int .i64 L] w fun e w' => e = .returned (.int .i64 (szV L (wI K A R l B))) ∧ Below w.heap.size w w' := by
  obtain ⟨W0, hW0⟩ : ∃ W, W = w.alloc (.cells #[.string K, .slice x A.length cx, .int .i64 S, .string R, .slice a l.length ca, .string B, .int .i64 q, .int .i64 m] 41) := ⟨_, rfl⟩
  have hb0 : Below w.heap.size w W0 := by rw [hW0]; exact (Below.refl _ _).alloc (Nat.le_refl _) _
  have HX0 : Hid (EightAt W0 w.heap.size (.string K) (.slice x A.length cx) (.int .i64 S) (.string R) (.slice a l.length ca) (.string B) (.int .i64 q) (.int .i64 m)) := by show EightAt _ _ _ _ _ _ _ _ _ _; rw [hW0]; exact EightAt.made w _ _ _ _ _ _ _ _ _
  have HB0 : Hid (Below w.heap.size w W0) := hb0
  unfold maxLen at hK
  have wr1 : IntKind.i64.wrap ((L : Int) - (K.size : Int)) = (L : Int) - (K.size : Int) := by rw [IntKind.wrap_i64]; omega
  obtain ⟨x_, x0, x1, x2, x3, x4, x5, x6, x7⟩ := HX0.out
  by_cases h1 : L < K.size
  · have hd : decide ((L : Int) - (K.size : Int) < 0) = true := decide_eq_true (by omega)
    have HR : Hid (szV L (wI K A R l B) = -1) := szV_no (by unfold wI; omega)
    clear hA ha hx hAx HX0 hb0
    go_enter Tryz.func17, Tryz.ntmps17
    go_wp2_with fail
    rw [← hW0]
    clear hW0
    go_wp2_with fail
    go_ret
    exact ⟨ret_sz HR.out.symm, HB0.out⟩
  have hd1 : decide ((L : Int) - (K.size : Int) < 0) = false := decide_eq_false (by omega)
  have HZ : Hid (Calls Tryz.prog 37 #[.slice x A.length cx, .int .i64 ((L : Int) - (K.size : Int))] W0 fun e w' => e = .returned (.int .i64 (szV L (K.size + wF A))) ∧ Below W0.heap.size W0 w') := by
    have := szFieldS_v x cx A (L - K.size) W0 (by omega) hAl hAx (hA.below hb0)
    rw [show ((L - K.size : Nat) : Int) = (L : Int) - (K.size : Int) from by omega, szV_step (by omega)] at this
    exact this
  by_cases h2 : K.size + wF A ≤ L
  rotate_left
  · have HR : Hid (szV L (wI K A R l B) = -1) := szV_over h2
    rw [szV_no h2] at HZ
    clear hA ha hx hAx hb0
    go_enter Tryz.func17, Tryz.ntmps17
    go_wp2_with fail
    rw [← hW0]
    clear hW0
    go_wp2_with fail
    refine Calls.mono HZ.out ?_
    rintro e w1 ⟨rfl, hb1⟩
    have HB1 : Hid (Below w.heap.size w w1) := HB0.out.trans (hb1.mono HB0.out.size)
    clear hb1 HZ
    go_wp2_with fail
    go_ret
    exact ⟨ret_sz HR.out.symm, HB1.out⟩
  rw [szV_yes h2] at HZ
  have hst : szV (L - (K.size + wF A)) (wP R l B) = szV L (wI K A R l B) := szV_step h2
  obtain ⟨v, hv⟩ : ∃ v, v = L - (K.size + wF A) := ⟨_, rfl⟩
  rw [← hv] at HZ hst
  have hvL : v ≤ 1048576 := by omega
  have HT : Hid (∀ wx, Below w.heap.size w wx → Calls Tryz.prog 51 #[.agg #[.int .i64 S, .string R, .slice a l.length ca, .string B, .int .i64 q, .int .i64 m], .int .i64 v] wx fun e w' => e = .returned (.int .i64 (szV L (wI K A R l B))) ∧ Below wx.heap.size wx w') := fun wx hb => by
    rw [← hst]; exact szKept_v S R B a ca l q m v wx hvL hR hB hl hx (ha.below hb)
  have hcase := z_case L (wI K A R l B)
  have hd3 : decide ((v : Int) < 0) = false := decide_eq_false (by omega)
  generalize szV L (wI K A R l B) = z at *
  clear hst hA ha hx hAx hb0 hv x_ x0 x1 x2 x3 x4 x5 x6 x7
  obtain ⟨x_, x0, x1, x2, x3, x4, x5, x6, x7⟩ := HX0.out
  go_enter Tryz.func17, Tryz.ntmps17
  go_wp2_with fail
  rw [← hW0]
  clear hW0
  go_wp2_with fail
  refine Calls.mono HZ.out ?_
  rintro e w1 ⟨rfl, hb1⟩
  have HB1 : Hid (Below w.heap.size w w1) := HB0.out.trans (hb1.mono HB0.out.size)
  have HX1 := HX0.out.below hb1
  clear x_ x0 x1 x2 x3 x4 x5 x6 x7 hb1 HZ
  obtain ⟨x_, x0, x1, x2, x3, x4, x5, x6, x7⟩ := HX1
  go_wp2_with fail
  refine Calls.mono (HT.out w1 HB1.out) ?_
  rintro e w2 ⟨rfl, hb2⟩
  have HB2 : Hid (Below w.heap.size w w2) := HB1.out.trans (hb2.mono HB1.out.size)
  clear x_ x0 x1 x2 x3 x4 x5 x6 x7 hb2 HT
  rcases hcase with rfl | ⟨u, rfl, _⟩
  · go_wp2_with fail
    go_ret
    exact ⟨rfl, HB2.out⟩
  · have hd : decide ((u : Int) < 0) = false := decide_eq_false (by omega)
    go_wp2_with fail
    go_ret
    exact ⟨rfl, HB2.out⟩

def wR (M T : ByteArray) (l : List (ByteArray × ByteArray)) (B : ByteArray) : Nat := M.size + T.size + wF l + B.size
set_option maxHeartbeats 1600000 in
theorem szRequest_v (M T B : ByteArray) (a : Option Addr) (ca : Nat) (l : List (ByteArray × ByteArray)) (L : Nat) (w : World) (hL : L ≤ 1048576) (hM : M.size ≤ maxLen) (hT : T.size ≤ maxLen) (hB : B.size ≤ maxLen) (hl : l.length ≤ maxLen) (hx : ∀ x ∈ l, x.1.size ≤ maxLen ∧ x.2.size ≤ maxLen) (ha : AF w a l) :
    Calls Tryz.prog 18 #[.agg #[.string M, .string T, .slice a l.length ca, .string B], .int .i64 L] w fun e w' => e = .returned (.int .i64 (szV L (wR M T l B))) ∧ Below w.heap.size w w' := by
  unfold maxLen at hM hT hB
  have hbox : Below w.heap.size w (w.alloc (.cells #[.string M, .string T, .slice a l.length ca, .string B] 43)) := (Below.refl _ _).alloc (Nat.le_refl _) _
  have hab := ha.below hbox
  have wr1 : IntKind.i64.wrap ((L : Int) - (M.size : Int)) = (L : Int) - (M.size : Int) := by rw [IntKind.wrap_i64]; omega
  by_cases h1 : L < M.size
  · have hd : decide ((L : Int) - (M.size : Int) < 0) = true := decide_eq_true (by omega)
    have HR : Hid (szV L (wR M T l B) = -1) := szV_no (by unfold wR; omega)
    go_enter Tryz.func18, Tryz.ntmps18
    go_wp2_with fail
    go_ret
    exact ⟨ret_sz HR.out.symm, hbox⟩
  have hd1 : decide ((L : Int) - (M.size : Int) < 0) = false := decide_eq_false (by omega)
  have wr2 : IntKind.i64.wrap ((L : Int) - (M.size : Int) - (T.size : Int)) = (L : Int) - (M.size : Int) - (T.size : Int) := by rw [IntKind.wrap_i64]; omega
  by_cases h2 : L < M.size + T.size
  · have hd : decide ((L : Int) - (M.size : Int) - (T.size : Int) < 0) = true := decide_eq_true (by omega)
    have HR : Hid (szV L (wR M T l B) = -1) := szV_no (by unfold wR; omega)
    go_enter Tryz.func18, Tryz.ntmps18
    go_wp2_with fail
    go_ret
    exact ⟨ret_sz HR.out.symm, hbox⟩
  have hd2 : decide ((L : Int) - (M.size : Int) - (T.size : Int) < 0) = false := decide_eq_false (by omega)
  have HZ : Hid (∀ w, AF w a l → Calls Tryz.prog 37 #[.slice a l.length ca, .int .i64 ((L : Int) - (M.size : Int) - (T.size : Int))] w fun e w' => e = .returned (.int .i64 (szV L (M.size + T.size + wF l))) ∧ Below w.heap.size w w') := by
    intro w h
    have := szFieldS_v a ca l (L - (M.size + T.size)) w (by omega) hl hx h
    rw [show ((L - (M.size + T.size) : Nat) : Int) = (L : Int) - (M.size : Int) - (T.size : Int) from by omega, szV_step (by omega)] at this
    exact this
  by_cases h3 : M.size + T.size + wF l ≤ L
  rotate_left
  · have HR : Hid (szV L (wR M T l B) = -1) := szV_over h3
    rw [szV_no h3] at HZ
    go_enter Tryz.func18, Tryz.ntmps18
    go_wp2_with fail
    refine (HZ.out _ hab).mono ?_
    rintro e w1 ⟨rfl, hb1⟩
    have hb2 := hbox.trans (hb1.mono hbox.size)
    go_wp2_with fail
    go_ret
    exact ⟨ret_sz HR.out.symm, hb2⟩
  rw [szV_yes h3] at HZ
  have hst : szV (L - (M.size + T.size + wF l)) B.size = szV L (wR M T l B) := szV_step h3
  obtain ⟨v, hv⟩ : ∃ v, v = L - (M.size + T.size + wF l) := ⟨_, rfl⟩
  rw [← hv] at HZ hst
  have hvL : v ≤ 1048576 := by omega
  have HST : Hid _ := hst
  clear hv h3 hst
  have hd3 : decide ((v : Int) < 0) = false := decide_eq_false (by omega)
  have hwr : IntKind.i64.wrap ((v : Int) - (B.size : Int)) = (v : Int) - (B.size : Int) := by rw [IntKind.wrap_i64]; omega
  go_enter Tryz.func18, Tryz.ntmps18
  go_wp2_with fail
  refine (HZ.out _ hab).mono ?_
  rintro e w1 ⟨rfl, hb1⟩
  have hb2 := hbox.trans (hb1.mono hbox.size)
  obtain ⟨hc, hf⟩ : w1.cell? ⟨w.heap.size, 3, none⟩ = some (.string B) ∧ True := ⟨(hb1.cell (p := ⟨w.heap.size, 3, none⟩) (by simp)).trans (by simp [go_sem]), trivial⟩
  by_cases h4 : B.size ≤ v
  · have hd : decide ((v : Int) - (B.size : Int) < 0) = false := decide_eq_false (by omega)
    have HR : Hid ((v : Int) - (B.size : Int) = szV L (wR M T l B)) := by show _ = _; rw [← HST.out, szV_yes h4]; omega
    go_wp2_with fail
    go_ret
    exact ⟨ret_sz HR.out, hb2⟩
  · have hd : decide ((v : Int) - (B.size : Int) < 0) = true := decide_eq_true (by omega)
    have HR : Hid (szV L (wR M T l B) = -1) := by show _ = _; rw [← HST.out, szV_no h4]
    go_wp2_with fail
    go_ret
    exact ⟨ret_sz HR.out.symm, hb2⟩

end Go.Proofs.YtfgcgnhffljiaaaGreatDoor.Itm

