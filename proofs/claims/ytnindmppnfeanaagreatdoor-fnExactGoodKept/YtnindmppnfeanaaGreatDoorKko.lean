/-
  A kept answer among a law's arguments, opened. Walks: laws' szKept, toKept, eqKept.
-/
import Derived.Test.YtnindmppnfeanaaGreatDoorKka
import Derived.Test.YtnindmppnfeanaaGreatDoorRpt
namespace Go.Proofs.YtnindmppnfeanaaGreatDoor.Kka
open Go.RowKit
open Go.Proofs.YtnindmppnfeanaaGreatDoor.Fbs
open Go.Proofs.YtnindmppnfeanaaGreatDoor.Fdb
open Go.Proofs.YtnindmppnfeanaaGreatDoor.Fds
open Go.Proofs.YtnindmppnfeanaaGreatDoor.Rso
open Go.Proofs.YtnindmppnfeanaaGreatDoor.Rqo (list4 cellsL)
open Go.Proofs.YtnindmppnfeanaaGreatDoor.Rqb (fv_set)

theorem cellsK : Tryz.prog.cellsOf 53 = 6 := by kernel_rfl
theorem array6 {α : Type} {cs : Array α} (h : cs.size = 6) : ∃ c0 c1 c2 c3 c4 c5, cs = #[c0, c1, c2, c3, c4, c5] := by
  obtain ⟨l⟩ := cs
  match l, h with
  | [c0, c1, c2, c3, c4, c5], _ => exact ⟨c0, c1, c2, c3, c4, c5, rfl⟩
theorem list3 {α : Type} {l : List α} (h : l.length = 3) : ∃ c0 c1 c2, l = [c0, c1, c2] := by
  match l, h with
  | [c0, c1, c2], _ => exact ⟨c0, c1, c2, rfl⟩

set_option maxRecDepth 100000 in
open Go.ChangeShapes Go.WideShapes Go.ChangeAt in
theorem open_kept {H : Type} {enc : TypeId × Value → H} {W : World} {r : Reach} {b0 base : Nat} {sp : Nat → Bool} {held : Bool} {v : Value} {d : DataW H} {p : List MemPlace}
    (hv : Value.okWide Tryz.prog W r b0 53 v) (h : DataW.Trod enc Tryz.prog W base sp held 53 v d p) :
    ∃ (S : Int) (R B : ByteArray) (a : Option Addr) (cap : Nat) (l : List (ByteArray × ByteArray)) (q m : Int), v = .agg #[.int .i64 S, .string R, .slice a l.length cap, .string B, .int .i64 q, .int .i64 m] ∧ R.size ≤ maxLen ∧ B.size ≤ maxLen ∧ AF W a l ∧ l.length ≤ maxLen ∧ ∀ x ∈ l, x.1.size ≤ maxLen ∧ x.2.size ≤ maxLen := by
  obtain ⟨cs, rfl, hsz⟩ := okWide_struct Tryz.underlying53 hv
  obtain ⟨c0, c1, c2, c3, c4, c5, rfl⟩ := array6 (hsz.trans cellsK)
  obtain ⟨fuel, hf⟩ := h
  obtain ⟨xs, n, _, _, hl, hlen, hg⟩ := DataW.trod_struct Tryz.underlying53 hf
  obtain ⟨y0, y1, y2, rfl⟩ := list3 (show xs.length = 3 from hlen)
  have f0 := hg 0 _ rfl
  have f1 := hg 1 _ rfl
  have f2 := hg 2 _ rfl
  obtain ⟨xs', n', _, _, hl', hlen', hg'⟩ := DataW.trod_struct Tryz.underlying51 f0
  obtain ⟨z0, z1, z2, z3, rfl⟩ := list4 (show xs'.length = 4 from hlen')
  have g0 := hg' 0 _ rfl
  have g1 := hg' 1 _ rfl
  have g2 := hg' 2 _ rfl
  have g3 := hg' 3 _ rfl
  obtain ⟨S, e0, _, k0⟩ := DataW.trod_int Tryz.underlying3 g0
  obtain ⟨R, e1, _, k1⟩ := DataW.trod_string Tryz.underlying9 g1
  obtain ⟨a, cap, l, e2, k2, k3, k4⟩ := open_fields_cells g2
  obtain ⟨B, e3, _, k5⟩ := DataW.trod_string Tryz.underlying9 g3
  obtain ⟨q, e4, _, k6⟩ := DataW.trod_int Tryz.underlying3 f1
  obtain ⟨m, e5, _, k7⟩ := DataW.trod_int Tryz.underlying3 f2
  simp [cellsS, cellsL, cellsI, Rso.cellsR, Value.cells] at e0 e1 e2 e3 e4 e5
  subst e0 e1 e2 e3 e4 e5
  exact ⟨S, R, B, a, cap, l, q, m, rfl, k1, k5, k2, k3, k4⟩

set_option maxHeartbeats 800000 in
theorem szKept_any (S : Int) (R B : ByteArray) (a : Option Addr) (ca : Nat) (l : List (ByteArray × ByteArray)) (q m : Int) (w : World) (hR : R.size ≤ maxLen) (hB : B.size ≤ maxLen) (hl : l.length ≤ maxLen) (hx : ∀ x ∈ l, x.1.size ≤ maxLen ∧ x.2.size ≤ maxLen) (ha : AF w a l) :
    Calls Tryz.prog 22 #[.agg #[.int .i64 S, .string R, .slice a l.length ca, .string B, .int .i64 q, .int .i64 m], .int .i64 1048576] w fun e w' => ∃ v : Int, e = .returned (.int .i64 v) ∧ (0 ≤ v → ShortP R B l) ∧ Below w.heap.size w w' := by
  obtain ⟨W0, hW0⟩ : ∃ W, W = w.alloc (.cells #[.int .i64 S, .string R, .slice a l.length ca, .string B, .int .i64 q, .int .i64 m] 53) := ⟨_, rfl⟩
  have hb0 : Below w.heap.size w W0 := by rw [hW0]; exact (Below.refl _ _).alloc (Nat.le_refl _) _
  have HZ : Hid (Calls Tryz.prog 47 #[.agg #[.int .i64 S, .string R, .slice a l.length ca, .string B], .int .i64 1048576] W0 fun e w' => ∃ v : Int, e = .returned (.int .i64 v) ∧ (0 ≤ v → ShortP R B l) ∧ Below W0.heap.size W0 w') := szResponse_any S R B a ca l W0 hR hB hl hx (ha.below hb0)
  have HB0 : Hid (Below w.heap.size w W0) := hb0
  clear ha hb0 hx hl hB hR
  go_enter Tryz.func22, Tryz.ntmps22
  go_wp2_with fail
  rw [← hW0]
  clear hW0
  refine Calls.mono HZ.out ?_
  rintro e w1 ⟨v, rfl, hsh, hb1⟩
  have HB1 : Hid (Below w.heap.size w w1) := HB0.out.trans (hb1.mono HB0.out.size)
  have HS : Hid (0 ≤ v → ShortP R B l) := hsh
  clear hb1 HB0 HZ hsh
  by_cases hneg : v < 0
  · have hd : decide (v < 0) = true := decide_eq_true hneg
    go_wp2_with fail
    go_ret
    exact ⟨-1, rfl, fun h => absurd h (by decide), HB1.out⟩
  · have hd : decide (v < 0) = false := decide_eq_false hneg
    go_wp2_with fail
    go_ret
    exact ⟨_, rfl, HS.out, HB1.out⟩

def OwnK (w : World) (b : Nat) (v0 v1 v2 v3 v4 v5 : Value) : Prop := (∀ i, w.frozen? ⟨b, i, none⟩ = false) ∧ SixAt w b v0 v1 v2 v3 v4 v5
theorem OwnK.made (w : World) (v0 v1 v2 v3 v4 v5 : Value) (t : TypeId) : OwnK (w.alloc (.cells #[v0, v1, v2, v3, v4, v5] t)) w.heap.size v0 v1 v2 v3 v4 v5 :=
  ⟨fun i => by simp [go_sem], SixAt.made w v0 v1 v2 v3 v4 v5 t⟩
theorem OwnK.below {w w' : World} {b : Nat} {v0 v1 v2 v3 v4 v5 : Value} (h : OwnK w b v0 v1 v2 v3 v4 v5) (hb : Below w.heap.size w w') : OwnK w' b v0 v1 v2 v3 v4 v5 :=
  ⟨fun i => (hb.frozen (p := ⟨b, i, none⟩) h.2.1).trans (h.1 i), h.2.below hb⟩

set_option maxRecDepth 20000 in
set_option maxHeartbeats 3200000 in
theorem toKept_any (S : Int) (R B : ByteArray) (a : Option Addr) (ca : Nat) (l : List (ByteArray × ByteArray)) (q m : Int) (w : World) (hl : l.length ≤ 1048576) (ha : AF w a l) :
    Calls Tryz.prog 24 #[.agg #[.int .i64 S, .string R, .slice a l.length ca, .string B, .int .i64 q, .int .i64 m]] w fun e w' => (∃ g, e = .returned (.agg #[.int .i64 S, .string R, .slice (some ⟨g, 0, none⟩) l.length l.length, .string B, .int .i64 q, .int .i64 m]) ∧ FV w' (some ⟨g, 0, none⟩) l w.heap.size w'.heap.size) ∧ Below w.heap.size w w' := by
  obtain ⟨w1, hw1⟩ : ∃ w1, w1 = w.alloc (.cells #[.int .i64 S, .string R, .slice a l.length ca, .string B, .int .i64 q, .int .i64 m] 53) := ⟨_, rfl⟩
  have hs1 : w1.heap.size = w.heap.size + 1 := by rw [hw1]; simp
  have hb1 : Below w.heap.size w w1 := by rw [hw1]; exact (Below.refl _ _).alloc (Nat.le_refl _) _
  have X1 : OwnK w1 w.heap.size (.int .i64 S) (.string R) (.slice a l.length ca) (.string B) (.int .i64 q) (.int .i64 m) := by rw [hw1]; exact OwnK.made w _ _ _ _ _ _ _
  obtain ⟨w2, hw2⟩ : ∃ w2, w2 = w1.alloc (.cells #[.int .i64 0, .string ⟨#[]⟩, .slice none 0 0, .string ⟨#[]⟩, .int .i64 0, .int .i64 0] 27) := ⟨_, rfl⟩
  have hs2 : w2.heap.size = w.heap.size + 1 + 1 := by rw [hw2, World.size_alloc, hs1]
  have hb2 : Below w1.heap.size w1 w2 := by rw [hw2]; exact (Below.refl _ _).alloc (Nat.le_refl _) _
  have O2 : OwnK w2 (w.heap.size + 1) (.int .i64 0) (.string ⟨#[]⟩) (.slice none 0 0) (.string ⟨#[]⟩) (.int .i64 0) (.int .i64 0) := by rw [← hs1, hw2]; exact OwnK.made w1 _ _ _ _ _ _ _
  obtain ⟨w3, hw3⟩ : ∃ w3, w3 = w2.alloc (.cells #[.int .i64 0, .string ⟨#[]⟩, .slice none 0 0, .string ⟨#[]⟩, .int .i64 0, .int .i64 0] 27) := ⟨_, rfl⟩
  have hs3 : w3.heap.size = w.heap.size + 1 + 1 + 1 := by rw [hw3, World.size_alloc, hs2]
  have hb3 : Below w2.heap.size w2 w3 := by rw [hw3]; exact (Below.refl _ _).alloc (Nat.le_refl _) _
  have O3 : OwnK w3 (w.heap.size + 1 + 1) (.int .i64 0) (.string ⟨#[]⟩) (.slice none 0 0) (.string ⟨#[]⟩) (.int .i64 0) (.int .i64 0) := by rw [← hs2, hw3]; exact OwnK.made w2 _ _ _ _ _ _ _
  have HX3 : Hid (OwnK w3 w.heap.size (.int .i64 S) (.string R) (.slice a l.length ca) (.string B) (.int .i64 q) (.int .i64 m)) := (X1.below hb2).below hb3
  have HO2 : Hid (OwnK w3 (w.heap.size + 1) (.int .i64 0) (.string ⟨#[]⟩) (.slice none 0 0) (.string ⟨#[]⟩) (.int .i64 0) (.int .i64 0)) := O2.below hb3
  have HO3 : Hid (OwnK w3 (w.heap.size + 1 + 1) (.int .i64 0) (.string ⟨#[]⟩) (.slice none 0 0) (.string ⟨#[]⟩) (.int .i64 0) (.int .i64 0)) := O3
  have hB3 : Below w.heap.size w w3 := (hb1.trans (hb2.mono hb1.size)).trans (hb3.mono (by omega))
  have HTR : Hid (Calls Tryz.prog 49 #[.agg #[.int .i64 S, .string R, .slice a l.length ca, .string B]] w3 fun e w' => (∃ g, e = .returned (.agg #[.int .i64 S, .string R, .slice (some ⟨g, 0, none⟩) l.length l.length, .string B]) ∧ FV w' (some ⟨g, 0, none⟩) l w3.heap.size w'.heap.size) ∧ Below w3.heap.size w3 w') := Rsb.toResponse_any S R B a ca l w3 hl (ha.below hB3)
  clear X1 O2 O3 hb1 hb2 hb3 ha
  go_enter Tryz.func24, Tryz.ntmps24
  go_wp2_with fail
  rw [← hw1, ← hw2, ← hw3]
  clear hw1 hw2 hw3 hs1 hs2
  refine Calls.mono HTR.out ?_
  rintro e w4 ⟨⟨g, rfl, T4⟩, hb4⟩
  obtain ⟨f1, x_, x0, x1, x2, x3, x4, x5⟩ := HX3.out.below hb4
  obtain ⟨f2, p_, p0, p1, p2, p3, p4, p5⟩ := HO2.out.below hb4
  obtain ⟨f3, q_, q0, q1, q2, q3, q4, q5⟩ := HO3.out.below hb4
  have hs4 : w.heap.size + 1 + 1 + 1 ≤ w4.heap.size := by have := hb4.size; omega
  have hB4 := hB3.trans (hb4.mono hB3.size)
  rw [hs3] at T4
  have HT4 : Hid (FV w4 (some ⟨g, 0, none⟩) l (w.heap.size + 1 + 1 + 1) w4.heap.size) := T4
  have HB4 : Hid (Below w.heap.size w w4) := hB4
  clear T4 hb4 HX3 HO2 HO3 HTR hB3 hB4 x_ p_ q_ hs3
  go_wp2_with fail
  exact bodyPost_ret (v := .agg #[.int .i64 S, .string R, .slice (some ⟨g, 0, none⟩) l.length l.length, .string B, .int .i64 q, .int .i64 m]) (by simp [results, Tryz.results24, go_sem, p0, p1, p2, p3, p4, p5]) rfl
    ⟨⟨_, rfl, (by
      exact FV.wide (fv_set (fv_set (fv_set (fv_set (fv_set (fv_set (fv_set (fv_set (fv_set (fv_set (fv_set (fv_set (HT4.out) (by omega) _) (by omega) _) (by omega) _) (by omega) _) (by omega) _) (by omega) _) (by omega) _) (by omega) _) (by omega) _) (by omega) _) (by omega) _) (by omega) _) (by omega) (by simp [World.setCell]))⟩,
     ((((((((((((HB4.out).setCell (by first | omega | (dsimp only; omega) | (simp; omega) | simp) _).setCell (by first | omega | (dsimp only; omega) | (simp; omega) | simp) _).setCell (by first | omega | (dsimp only; omega) | (simp; omega) | simp) _).setCell (by first | omega | (dsimp only; omega) | (simp; omega) | simp) _).setCell (by first | omega | (dsimp only; omega) | (simp; omega) | simp) _).setCell (by first | omega | (dsimp only; omega) | (simp; omega) | simp) _).setCell (by first | omega | (dsimp only; omega) | (simp; omega) | simp) _).setCell (by first | omega | (dsimp only; omega) | (simp; omega) | simp) _).setCell (by first | omega | (dsimp only; omega) | (simp; omega) | simp) _).setCell (by first | omega | (dsimp only; omega) | (simp; omega) | simp) _).setCell (by first | omega | (dsimp only; omega) | (simp; omega) | simp) _).setCell (by first | omega | (dsimp only; omega) | (simp; omega) | simp) _⟩

set_option maxHeartbeats 1600000 in
theorem eqKept_any (S : Int) (R B : ByteArray) (a b : Option Addr) (l : List (ByteArray × ByteArray)) (q m : Int) (w : World) (x y x' y' : Nat) (hl : l.length ≤ 2000000) (ha : FV w a l x y) (hb : FV w b l x' y') :
    Calls Tryz.prog 26 #[.agg #[.int .i64 S, .string R, .slice a l.length l.length, .string B, .int .i64 q, .int .i64 m], .agg #[.int .i64 S, .string R, .slice b l.length l.length, .string B, .int .i64 q, .int .i64 m]] w fun e w' => e = .returned (.bool true) ∧ Below w.heap.size w w' := by
  obtain ⟨w1, hw1⟩ : ∃ w1, w1 = w.alloc (.cells #[.int .i64 S, .string R, .slice a l.length l.length, .string B, .int .i64 q, .int .i64 m] 27) := ⟨_, rfl⟩
  have hs1 : w1.heap.size = w.heap.size + 1 := by rw [hw1]; simp
  have hb1 : Below w.heap.size w w1 := by rw [hw1]; exact (Below.refl _ _).alloc (Nat.le_refl _) _
  have X1 : OwnK w1 w.heap.size (.int .i64 S) (.string R) (.slice a l.length l.length) (.string B) (.int .i64 q) (.int .i64 m) := by rw [hw1]; exact OwnK.made w _ _ _ _ _ _ _
  obtain ⟨w2, hw2⟩ : ∃ w2, w2 = w1.alloc (.cells #[.int .i64 S, .string R, .slice b l.length l.length, .string B, .int .i64 q, .int .i64 m] 27) := ⟨_, rfl⟩
  have hb2 : Below w1.heap.size w1 w2 := by rw [hw2]; exact (Below.refl _ _).alloc (Nat.le_refl _) _
  have O2 : OwnK w2 (w.heap.size + 1) (.int .i64 S) (.string R) (.slice b l.length l.length) (.string B) (.int .i64 q) (.int .i64 m) := by rw [← hs1, hw2]; exact OwnK.made w1 _ _ _ _ _ _ _
  have HX2 : Hid (OwnK w2 w.heap.size (.int .i64 S) (.string R) (.slice a l.length l.length) (.string B) (.int .i64 q) (.int .i64 m)) := X1.below hb2
  have HO2 : Hid (OwnK w2 (w.heap.size + 1) (.int .i64 S) (.string R) (.slice b l.length l.length) (.string B) (.int .i64 q) (.int .i64 m)) := O2
  have hB2 : Below w.heap.size w w2 := hb1.trans (hb2.mono hb1.size)
  have HB2 : Hid (Below w.heap.size w w2) := hB2
  have HE : Hid (Calls Tryz.prog 51 #[.agg #[.int .i64 S, .string R, .slice a l.length l.length, .string B], .agg #[.int .i64 S, .string R, .slice b l.length l.length, .string B]] w2 fun e w' => e = .returned (.bool true) ∧ Below w2.heap.size w2 w') := Rsb.eqResponse_any S R B a b l w2 x y x' y' hl (ha.below hB2) (hb.below hB2)
  clear X1 O2 hb1 hb2 ha hb hB2 hs1
  go_enter Tryz.func26, Tryz.ntmps26
  go_wp2_with fail
  rw [← hw1, ← hw2]
  clear hw1 hw2
  refine Calls.mono HE.out ?_
  rintro e w3 ⟨rfl, hb3⟩
  obtain ⟨f1, x_, x0, x1, x2, x3, x4, x5⟩ := HX2.out.below hb3
  obtain ⟨f2, p_, p0, p1, p2, p3, p4, p5⟩ := HO2.out.below hb3
  have HB3 : Hid (Below w.heap.size w w3) := HB2.out.trans (hb3.mono HB2.out.size)
  clear hb3 HX2 HO2 HE HB2
  go_wp2_with fail
  go_ret
  exact ⟨rfl, HB3.out⟩

end Go.Proofs.YtnindmppnfeanaaGreatDoor.Kka
