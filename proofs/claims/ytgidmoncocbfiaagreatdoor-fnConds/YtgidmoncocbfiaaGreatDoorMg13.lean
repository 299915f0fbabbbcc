/-
  Walks: spec.l2Time; spec.ReadDate, of a date as it is usually told, and of a short text.
  Walk: spec.ReadDate, of a date as it is usually told.
  Walk: spec.ReadDate, of a short text.
  Walk: impl.ReadDate, of a date as it is usually told.
  Dates of fields: a value is a date as it is usually told, or a short text. Walks: impl.readSeconds.
-/
import Derived.Test.YtgidmoncocbfiaaGreatDoorMg11
import Derived.Test.YtgidmoncocbfiaaGreatDoorMg12
import Derived.Test.YtgidmoncocbfiaaGreatDoorMg6
import Derived.Test.YtgidmoncocbfiaaGreatDoorMg2
namespace Go.Proofs.YtgidmoncocbfiaaGreatDoor.Dua
open Go.RowKit
open Go.Proofs.YtgidmoncocbfiaaGreatDoor.Fbs
open Go.Proofs.YtgidmoncocbfiaaGreatDoor.Wgt (rdL ret_i)
open Go.Proofs.YtgidmoncocbfiaaGreatDoor.Num
open Go.Proofs.YtgidmoncocbfiaaGreatDoor.Nam
open Go.Proofs.YtgidmoncocbfiaaGreatDoor.Dmt
open Go.Proofs.YtgidmoncocbfiaaGreatDoor.Dwa

theorem num_lit (s : ByteArray) (a : Nat) (w : World) (ha : a ≤ 1000) (hs : s.size ≤ 2000000) (z : Int) (hz : z = (a : Int)) :
    Calls Tryz.prog 96 #[.string s, .int .i64 z, .int .i64 2] w fun e w' => e = .returned (.int .i64 (numAt s a 2)) ∧ w' = w := by
  subst hz
  exact l2Num_at s a 2 w (by omega) ha hs

set_option maxRecDepth 20000 in
set_option maxHeartbeats 3200000 in
theorem l2Time_any (y m d h i s : Int) (U : ByteArray) (a : Nat) (w : World) (ha : a ≤ 900) (hs : U.size ≤ 2000000) :
    Calls Tryz.prog 95 #[.agg #[.int .i64 y, .int .i64 m, .int .i64 d, .int .i64 h, .int .i64 i, .int .i64 s], .string U, .int .i64 a] w fun e w' => e = .returned (.agg #[.int .i64 y, .int .i64 m, .int .i64 d, .int .i64 (numAt U a 2), .int .i64 (numAt U (a + 3) 2), .int .i64 (numAt U (a + 6) 2)]) ∧ Below w.heap.size w w' := by
  have HA : Hid _ := fun w => num_lit U a w (by omega) hs (a : Int) rfl
  have HB : Hid _ := fun w => num_lit U (a + 3) w (by omega) hs ((a : Int) + 3) (by omega)
  have HC : Hid _ := fun w => num_lit U (a + 6) w (by omega) hs ((a : Int) + 6) (by omega)
  have w1 : IntKind.i64.wrap ((a : Int) + 3) = (a : Int) + 3 := by rw [IntKind.wrap_i64]; omega
  have w2 : IntKind.i64.wrap ((a : Int) + 6) = (a : Int) + 6 := by rw [IntKind.wrap_i64]; omega
  generalize numAt U a 2 = A at HA ⊢
  generalize numAt U (a + 3) 2 = B at HB ⊢
  generalize numAt U (a + 6) 2 = C at HC ⊢
  go_enter Tryz.func95, Tryz.ntmps95
  go_wp2_with (first
    | (go_at_call 96; with_reducible refine Calls.mono (HA.out _) ?_; rintro e w' ⟨rfl, hw⟩; obtain rfl := hw.symm)
    | (go_at_call 96; with_reducible refine Calls.mono (HB.out _) ?_; rintro e w' ⟨rfl, hw⟩; obtain rfl := hw.symm)
    | (go_at_call 96; with_reducible refine Calls.mono (HC.out _) ?_; rintro e w' ⟨rfl, hw⟩; obtain rfl := hw.symm))
  exact bodyPost_ret (v := .agg #[.int .i64 y, .int .i64 m, .int .i64 d, .int .i64 A, .int .i64 B, .int .i64 C]) (by simp [results, Tryz.results95, go_sem]) rfl ⟨rfl, ((Below.refl _ _).alloc (Nat.le_refl _) _).alloc (by simp) _⟩

theorem num_any2 (s : ByteArray) (z v : Int) (a n : Nat) (k : Int) (w : World) (hn : n ≤ 9) (ha : a ≤ 1000) (hs : s.size ≤ 2000000) (hz : z = (a : Int)) (hk : k = (n : Int)) (hv : numAt s a n = v) :
    Calls Tryz.prog 96 #[.string s, .int .i64 z, .int .i64 k] w fun e w' => e = .returned (.int .i64 v) ∧ Below w.heap.size w w' := by
  subst hz hk hv
  refine (l2Num_at s a n w hn ha hs).mono ?_
  rintro e w' ⟨h, rfl⟩
  exact ⟨h, Below.refl _ _⟩
theorem numAt_is {U P : ByteArray} {a n : Nat} (hz : a + n ≤ U.size) (hP : U.extract a (a + n) = P) : numAt U a n = rdL P.data.toList 0 := by
  unfold numAt
  rw [if_pos hz, hP]

end Go.Proofs.YtgidmoncocbfiaaGreatDoor.Dua

namespace Go.Proofs.YtgidmoncocbfiaaGreatDoor.Dua
open Go.RowKit
open Go.Proofs.YtgidmoncocbfiaaGreatDoor.Fbs
open Go.Proofs.YtgidmoncocbfiaaGreatDoor.Wgt (rdL ret_i)
open Go.Proofs.YtgidmoncocbfiaaGreatDoor.Num
open Go.Proofs.YtgidmoncocbfiaaGreatDoor.Nam
open Go.Proofs.YtgidmoncocbfiaaGreatDoor.Dmt
open Go.Proofs.YtgidmoncocbfiaaGreatDoor.Dwa

set_option maxRecDepth 20000 in
set_option maxHeartbeats 1000000 in
theorem specRead_usual (k y d h i s m : Nat) (now : Int) (w : World) (hg : goodB y m d h i s = true) (hk : wdI y m d = k) (hn : 0 ≤ now ∧ now ≤ 253402300799) :
    Calls Tryz.prog 70 #[.string (usualB k y m d h i s), .int .i64 now] w fun e w' => e = .returned (.tuple #[.agg #[.int .i64 y, .int .i64 m, .int .i64 d, .int .i64 h, .int .i64 i, .int .i64 s], .bool true]) ∧ Below w.heap.size w w' := by
  obtain ⟨⟨g1, g2⟩, ⟨g3, g4⟩, g5, g6, g7, g8⟩ := good_nats hg
  have hk7 : k < 7 := by unfold wdI at hk; omega
  obtain ⟨p0, p1, p2, p3, _⟩ := usual_pieces k y d h i s m hk7 (by omega) (by omega) g3 g4 (by omega) (by omega) (by omega) (by omega)
  obtain ⟨c1, c2, c3⟩ := usual_clock k y d h i s m hk7 (by omega) (by omega) g3 g4 (by omega) (by omega) (by omega) (by omega)
  have HG : Hid _ := fun wx => specGood_any (y : Int) m d h i s wx
  have HU : Hid _ := fun wx => specText_any y d h i s k m wx hg hk
  rw [hg] at HG
  clear hg hk
  generalize usualB k y m d h i s = U at p0 p1 p2 p3 c1 c2 c3 HU ⊢
  have e1 : numAt U 12 4 = y := by rw [numAt_is (a := 12) (n := 4) (by omega) p1, rd_num4 (by omega) (by omega)]
  have e2 : numAt U 5 2 = d := by rw [numAt_is (a := 5) (n := 2) (by omega) p3, rd_two (by omega)]
  have e3 : numAt U 17 2 = h := by rw [numAt_is (a := 17) (n := 2) (by omega) c1, rd_two (by omega)]
  have e4 : numAt U 20 2 = i := by rw [numAt_is (a := 20) (n := 2) (by omega) c2, rd_two (by omega)]
  have e5 : numAt U 23 2 = s := by rw [numAt_is (a := 23) (n := 2) (by omega) c3, rd_two (by omega)]
  have HY : Hid _ := fun wx => num_any2 U 12 y 12 4 4 wx (by omega) (by omega) (by omega) rfl rfl e1
  have HDy : Hid _ := fun wx => num_any2 U 5 d 5 2 2 wx (by omega) (by omega) (by omega) rfl rfl e2
  have HM : Hid _ := fun wx => l2Month_is U 8 m wx (by omega) (by omega) (by omega) (by omega) p2
  have HT : Hid _ := fun wx => l2Time_any y m d 0 0 0 U 17 wx (by omega) (by omega)
  rw [e3, show 17 + 3 = 20 from rfl, show 17 + 6 = 23 from rfl, e4, e5] at HT
  have HI : Hid _ := fun wx => Tgx.in_yes now 0 253402300799 wx hn.1 hn.2
  have hUU : (U.toList == U.toList) = true := by simp
  have HB0 : Hid (Below w.heap.size w (w.alloc (.cells #[.int .i64 0, .int .i64 0, .int .i64 0, .int .i64 0, .int .i64 0, .int .i64 0] 93))) := (Below.refl _ _).alloc (Nat.le_refl _) _
  have HR0 : Hid (DB w.heap.size (w.alloc (.cells #[.int .i64 0, .int .i64 0, .int .i64 0, .int .i64 0, .int .i64 0, .int .i64 0] 93)) 0 0 0 0 0 0) := DB.made w _ _ _ _ _ _ _
  clear p0 p1 p2 p3 c1 c2 c3 e1 e2 e3 e4 e5
  go_enter Tryz.func70, Tryz.ntmps70
  go_wp2_with (go_at_call 29; with_reducible refine Calls.mono (HI.out _) ?_; rintro e w' ⟨rfl, hw⟩; obtain rfl := hw.symm)
  refine Calls.mono (HY.out _) ?_
  rintro e w1 ⟨rfl, hb1⟩
  have HB1 : Hid (Below w.heap.size w w1) := HB0.out.trans (hb1.mono HB0.out.size)
  have HR1 : Hid (DB w.heap.size w1 0 0 0 0 0 0) := HR0.out.below hb1
  clear hb1 HB0 HR0
  go_wp2_with fail
  refine Calls.mono (HM.out _) ?_
  rintro e w2 ⟨rfl, hb2⟩
  have HB2 : Hid (Below w.heap.size w w2) := HB1.out.trans (hb2.mono HB1.out.size)
  have HR2 : Hid (DB w.heap.size w2 0 0 0 0 0 0) := HR1.out.below hb2
  clear hb2 HB1 HR1
  go_wp2_with fail
  refine Calls.mono (HDy.out _) ?_
  rintro e w3 ⟨rfl, hb3⟩
  have HB3 : Hid (Below w.heap.size w w3) := HB2.out.trans (hb3.mono HB2.out.size)
  have HR3 : Hid (DB w.heap.size w3 0 0 0 0 0 0) := HR2.out.below hb3
  clear hb3 HB2 HR2
  go_wp2_with fail
  refine Calls.mono (HT.out _) ?_
  rintro e w4 ⟨rfl, hb4⟩
  obtain ⟨X, hX⟩ : ∃ X, X = w4.heap.size := ⟨_, rfl⟩
  obtain ⟨W, hW⟩ : ∃ W, W = w4.alloc (.cells #[.int .i64 y, .int .i64 m, .int .i64 d, .int .i64 h, .int .i64 i, .int .i64 s] 93) := ⟨_, rfl⟩
  have hB4 : Below w.heap.size w w4 := HB3.out.trans (hb4.mono HB3.out.size)
  have hRR := HR3.out.below hb4
  have HB4 : Hid (Below w.heap.size w W) := by show Below _ _ _; rw [hW]; exact hB4.alloc hB4.size _
  have HR4 : Hid (DB w.heap.size W 0 0 0 0 0 0) := by show DB _ _ _ _ _ _ _ _; rw [hW]; exact hRR.alloc _
  have HX4 : Hid (DB X W y m d h i s) := by show DB _ _ _ _ _ _ _ _; rw [hW, hX]; exact DB.made w4 _ _ _ _ _ _ _
  have hXw : w.heap.size < X := by have := hRR.1; omega
  clear hb4 hB4 hRR HB3 HR3
  go_wp2_with fail
  rw [← hW, ← hX]
  clear hW hX
  refine Calls.mono (HG.out _) ?_
  rintro e w5 ⟨rfl, hb5⟩
  have HB5 : Hid (Below w.heap.size w w5) := HB4.out.trans (hb5.mono HB4.out.size)
  have HR5 : Hid (DB w.heap.size w5 0 0 0 0 0 0) := HR4.out.below hb5
  have HX5 : Hid (DB X w5 y m d h i s) := HX4.out.below hb5
  obtain ⟨x1, xf, x2, x3, x4, x5, x6, x7⟩ := HX5.out
  clear hb5 HB4 HR4 HX4
  go_wp2_with fail
  refine Calls.mono (HU.out _) ?_
  rintro e w6 ⟨rfl, hb6⟩
  have HB6 : Hid (Below w.heap.size w w6) := HB5.out.trans (hb6.mono HB5.out.size)
  clear x1 xf x2 x3 x4 x5 x6 x7
  obtain ⟨x1, xf, x2, x3, x4, x5, x6, x7⟩ := HX5.out.below hb6
  obtain ⟨q1, qf, q2, q3, q4, q5, q6, q7⟩ := HR5.out.below hb6
  clear hb6 HB5 HR5 HX5
  go_wp2_with fail
  exact bodyPost_ret (v := .tuple #[.agg #[.int .i64 y, .int .i64 m, .int .i64 d, .int .i64 h, .int .i64 i, .int .i64 s], .bool true]) (by simp [results, Tryz.results70, go_sem, q2, q3, q4, q5, q6, q7]) rfl ⟨rfl, below_six HB6.out _ _ _ _ _ _⟩

end Go.Proofs.YtgidmoncocbfiaaGreatDoor.Dua

namespace Go.Proofs.YtgidmoncocbfiaaGreatDoor.Dua
open Go.RowKit
open Go.Proofs.YtgidmoncocbfiaaGreatDoor.Fbs
open Go.Proofs.YtgidmoncocbfiaaGreatDoor.Wgt (rdL ret_i)
open Go.Proofs.YtgidmoncocbfiaaGreatDoor.Num
open Go.Proofs.YtgidmoncocbfiaaGreatDoor.Nam
open Go.Proofs.YtgidmoncocbfiaaGreatDoor.Dmt
open Go.Proofs.YtgidmoncocbfiaaGreatDoor.Dwa
open Go.Proofs.YtgidmoncocbfiaaGreatDoor.Ctf (cutA cutZ cutB l1Cut_any)

theorem text_big (v1 mm v2 n1 n2 n3 : Int) (hg : goodB v1 mm v2 n1 n2 n3 = true) : ∃ T : ByteArray, T.size = 29 ∧ ∀ w, Calls Tryz.prog 46 #[.agg #[.int .i64 v1, .int .i64 mm, .int .i64 v2, .int .i64 n1, .int .i64 n2, .int .i64 n3]] w fun e w' => e = .returned (.string T) ∧ Below w.heap.size w w' := by
  obtain ⟨hd, ⟨q1, q2⟩, ⟨q3, q4⟩, q5, q6⟩ := good_parts hg
  obtain ⟨⟨h1, h2⟩, ⟨h3, h4⟩, h5, h6⟩ := day_parts hd
  have hl := long_hi v1 mm
  obtain ⟨y, rfl⟩ := Int.eq_ofNat_of_zero_le (show 0 ≤ v1 by omega)
  obtain ⟨d, rfl⟩ := Int.eq_ofNat_of_zero_le (show 0 ≤ v2 by omega)
  obtain ⟨h, rfl⟩ := Int.eq_ofNat_of_zero_le q1
  obtain ⟨i, rfl⟩ := Int.eq_ofNat_of_zero_le q3
  obtain ⟨s, rfl⟩ := Int.eq_ofNat_of_zero_le q5
  have hw : 0 ≤ wdI y mm d ∧ wdI y mm d < 7 := by unfold wdI; omega
  obtain ⟨k, hk⟩ := Int.eq_ofNat_of_zero_le hw.1
  refine ⟨usualB k y mm d h i s, ?_, fun w => specText_any y d h i s k mm w hg hk⟩
  exact (usual_pieces k y d h i s mm (by omega) (by omega) (by omega) h3 h4 (by omega) (by omega) (by omega) (by omega)).1
theorem big_not {U T : ByteArray} (h1 : U.size ≤ 23) (h2 : T.size = 29) : (T.toList == U.toList) = false := by
  rw [ByteArray.toList_eq, ByteArray.toList_eq, beq_eq_false_iff_ne]
  intro e
  have a : T.data.toList.length = T.size := by simp
  have b : U.data.toList.length = U.size := by simp
  rw [e] at a
  omega

theorem six_at {w x : World} {X : Nat} (hX : w.heap.size ≤ X) (h : Below w.heap.size w x) (a b c d e f : Value) : Below w.heap.size w ((((((x.setCell ⟨X, 0, none⟩ a).setCell ⟨X, 1, none⟩ b).setCell ⟨X, 2, none⟩ c).setCell ⟨X, 3, none⟩ d).setCell ⟨X, 4, none⟩ e).setCell ⟨X, 5, none⟩ f) :=
  (((((h.setCell (p := ⟨X, 0, none⟩) hX _).setCell (p := ⟨X, 1, none⟩) hX _).setCell (p := ⟨X, 2, none⟩) hX _).setCell (p := ⟨X, 3, none⟩) hX _).setCell (p := ⟨X, 4, none⟩) hX _).setCell (p := ⟨X, 5, none⟩) hX _
theorem db_apart {x : World} {B X : Nat} {y m d h i s : Int} (hX : B < X) (H : DB B x y m d h i s) (a b c k e f : Value) : DB B ((((((x.setCell ⟨X, 0, none⟩ a).setCell ⟨X, 1, none⟩ b).setCell ⟨X, 2, none⟩ c).setCell ⟨X, 3, none⟩ k).setCell ⟨X, 4, none⟩ e).setCell ⟨X, 5, none⟩ f) y m d h i s := by
  have hb : Below X x ((((((x.setCell ⟨X, 0, none⟩ a).setCell ⟨X, 1, none⟩ b).setCell ⟨X, 2, none⟩ c).setCell ⟨X, 3, none⟩ k).setCell ⟨X, 4, none⟩ e).setCell ⟨X, 5, none⟩ f) :=
    ((((((Below.refl X x).setCell (p := ⟨X, 0, none⟩) (Nat.le_refl _) _).setCell (p := ⟨X, 1, none⟩) (Nat.le_refl _) _).setCell (p := ⟨X, 2, none⟩) (Nat.le_refl _) _).setCell (p := ⟨X, 3, none⟩) (Nat.le_refl _) _).setCell (p := ⟨X, 4, none⟩) (Nat.le_refl _) _).setCell (p := ⟨X, 5, none⟩) (Nat.le_refl _) _
  obtain ⟨h1, h2, c0, c1, c2, c3, c4, c5⟩ := H
  have e : ∀ i, _ := fun i => hb.cell (p := ⟨B, i, none⟩) hX
  exact ⟨Nat.lt_of_lt_of_le h1 hb.size, fun i => (hb.frozen (p := ⟨B, i, none⟩) hX).trans (h2 i), (e 0).trans c0, (e 1).trans c1, (e 2).trans c2, (e 3).trans c3, (e 4).trans c4, (e 5).trans c5⟩

set_option maxRecDepth 20000 in
set_option maxHeartbeats 1600000 in
theorem specRead_short (U : ByteArray) (now : Int) (w : World) (hU : U.size ≤ 23) (hZ : (cutZ U 44).size ≤ 9) :
    Calls Tryz.prog 70 #[.string U, .int .i64 now] w fun e w' => e = .returned (.tuple #[.agg #[.int .i64 0, .int .i64 0, .int .i64 0, .int .i64 0, .int .i64 0, .int .i64 0], .bool false]) ∧ Below w.heap.size w w' := by
  have HB0 : Hid (Below w.heap.size w (w.alloc (.cells #[.int .i64 0, .int .i64 0, .int .i64 0, .int .i64 0, .int .i64 0, .int .i64 0] 93))) := (Below.refl _ _).alloc (Nat.le_refl _) _
  have HR0 : Hid (DB w.heap.size (w.alloc (.cells #[.int .i64 0, .int .i64 0, .int .i64 0, .int .i64 0, .int .i64 0, .int .i64 0] 93)) 0 0 0 0 0 0) := DB.made w _ _ _ _ _ _ _
  by_cases hn : 0 ≤ now ∧ now ≤ 253402300799
  rotate_left
  · have HI : Hid _ := fun wx => Tgx.in_no now 0 253402300799 wx (by omega)
    go_enter Tryz.func70, Tryz.ntmps70
    go_wp2_with (go_at_call 29; with_reducible refine Calls.mono (HI.out _) ?_; rintro e w' ⟨rfl, hw⟩; obtain rfl := hw.symm)
    exact bodyPost_ret (v := .tuple #[.agg #[.int .i64 0, .int .i64 0, .int .i64 0, .int .i64 0, .int .i64 0, .int .i64 0], .bool false]) (by simp [results, Tryz.results70, go_sem]) rfl ⟨rfl, HB0.out⟩
  have HI : Hid _ := fun wx => Tgx.in_yes now 0 253402300799 wx hn.1 hn.2
  obtain ⟨v1, hv1⟩ : ∃ v, v = numAt U 12 4 := ⟨_, rfl⟩
  obtain ⟨v2, hv2⟩ : ∃ v, v = numAt U 5 2 := ⟨_, rfl⟩
  obtain ⟨n1, hn1⟩ : ∃ v, v = numAt U 17 2 := ⟨_, rfl⟩
  obtain ⟨n2, hn2⟩ : ∃ v, v = numAt U 20 2 := ⟨_, rfl⟩
  obtain ⟨n3, hn3⟩ : ∃ v, v = numAt U 23 2 := ⟨_, rfl⟩
  have HY : Hid _ := fun wx => num_any2 U 12 v1 12 4 4 wx (by omega) (by omega) (by omega) rfl rfl hv1.symm
  have HDy : Hid _ := fun wx => num_any2 U 5 v2 5 2 2 wx (by omega) (by omega) (by omega) rfl rfl hv2.symm
  have HM : Hid _ := fun wx => l2Month_any U 8 wx (by omega)
  have HT : Hid (∀ (m : Int) wx, Calls Tryz.prog 95 #[.agg #[.int .i64 v1, .int .i64 m, .int .i64 v2, .int .i64 0, .int .i64 0, .int .i64 0], .string U, .int .i64 17] wx fun e w' => e = .returned (.agg #[.int .i64 v1, .int .i64 m, .int .i64 v2, .int .i64 n1, .int .i64 n2, .int .i64 n3]) ∧ Below wx.heap.size wx w') := fun m wx => by
    have := l2Time_any v1 m v2 0 0 0 U 17 wx (by omega) (by omega)
    rw [← hn1, show 17 + 3 = 20 from rfl, show 17 + 6 = 23 from rfl, ← hn2, ← hn3] at this
    exact this
  clear hv1 hv2 hn1 hn2 hn3
  have HG : Hid (∀ (m : Int) wx, _) := fun m wx => specGood_any v1 m v2 n1 n2 n3 wx
  have HTx : Hid _ := fun (m : Int) => text_big v1 m v2 n1 n2 n3
  have HCt : Hid _ := fun wx => l1Cut_any U 44 wx (by omega)
  have hzz : (cutZ U 44).size ≤ 9 := hZ
  generalize cutA U 44 = A at HCt
  generalize cutZ U 44 = R at HCt hzz
  generalize cutB U 44 = ok at HCt
  have d24 : ((U.size : Int) == 24) = false := by rw [beq_eq_false_iff_ne]; omega
  have HS : Hid _ := fun wx => num_any2 R 8 (-1) 8 2 2 wx (by omega) (by omega) (by omega) rfl rfl (by unfold numAt; rw [if_neg (by omega)])
  have HM2 : Hid _ := fun wx => l2Month_any R 4 wx (by omega)
  have HD2 : Hid _ := fun wx => num_any2 R 1 (numAt R 1 2) 1 2 2 wx (by omega) (by omega) (by omega) rfl rfl rfl
  have HT2 : Hid (∀ (m d : Int) wx, _) := fun m d wx => l2Time_any 0 m d 0 0 0 R 11 wx (by omega) (by omega)
  generalize numAt R 1 2 = dd at HD2
  generalize numAt R 11 2 = t1 at HT2
  generalize numAt R (11 + 3) 2 = t2 at HT2
  generalize numAt R (11 + 6) 2 = t3 at HT2
  clear hZ hzz
  go_enter Tryz.func70, Tryz.ntmps70
  go_wp2_with (go_at_call 29; with_reducible refine Calls.mono (HI.out _) ?_; rintro e w' ⟨rfl, hw⟩; obtain rfl := hw.symm)
  refine Calls.mono (HY.out _) ?_
  rintro e w1 ⟨rfl, hb1⟩
  have HB1 : Hid (Below w.heap.size w w1) := HB0.out.trans (hb1.mono HB0.out.size)
  have HR1 : Hid (DB w.heap.size w1 0 0 0 0 0 0) := HR0.out.below hb1
  clear hb1 HB0 HR0
  go_wp2_with fail
  refine Calls.mono (HM.out _) ?_
  rintro e w2 ⟨⟨mm, rfl⟩, hb2⟩
  have HB2 : Hid (Below w.heap.size w w2) := HB1.out.trans (hb2.mono HB1.out.size)
  have HR2 : Hid (DB w.heap.size w2 0 0 0 0 0 0) := HR1.out.below hb2
  clear hb2 HB1 HR1
  go_wp2_with fail
  refine Calls.mono (HDy.out _) ?_
  rintro e w3 ⟨rfl, hb3⟩
  have HB3 : Hid (Below w.heap.size w w3) := HB2.out.trans (hb3.mono HB2.out.size)
  have HR3 : Hid (DB w.heap.size w3 0 0 0 0 0 0) := HR2.out.below hb3
  clear hb3 HB2 HR2
  go_wp2_with fail
  refine Calls.mono (HT.out _ _) ?_
  rintro e w4 ⟨rfl, hb4⟩
  obtain ⟨X, hX⟩ : ∃ X, X = w4.heap.size := ⟨_, rfl⟩
  obtain ⟨W, hW⟩ : ∃ W, W = w4.alloc (.cells #[.int .i64 v1, .int .i64 mm, .int .i64 v2, .int .i64 n1, .int .i64 n2, .int .i64 n3] 93) := ⟨_, rfl⟩
  have hB4 : Below w.heap.size w w4 := HB3.out.trans (hb4.mono HB3.out.size)
  have hRR := HR3.out.below hb4
  have HB4 : Hid (Below w.heap.size w W) := by show Below _ _ _; rw [hW]; exact hB4.alloc hB4.size _
  have HR4 : Hid (DB w.heap.size W 0 0 0 0 0 0) := by show DB _ _ _ _ _ _ _ _; rw [hW]; exact hRR.alloc _
  have HX4 : Hid (DB X W v1 mm v2 n1 n2 n3) := by show DB _ _ _ _ _ _ _ _; rw [hW, hX]; exact DB.made w4 _ _ _ _ _ _ _
  have hXw : w.heap.size < X := by have := hRR.1; omega
  clear hb4 hB4 hRR HB3 HR3
  go_wp2_with fail
  rw [← hW, ← hX]
  clear hW hX
  refine Calls.mono (HG.out _ _) ?_
  rintro e w5 ⟨rfl, hb5⟩
  have HB5 : Hid (Below w.heap.size w w5) := HB4.out.trans (hb5.mono HB4.out.size)
  have HR5 : Hid (DB w.heap.size w5 0 0 0 0 0 0) := HR4.out.below hb5
  have HX5 : Hid (DB X w5 v1 mm v2 n1 n2 n3) := HX4.out.below hb5
  obtain ⟨x1, xf, x2, x3, x4, x5, x6, x7⟩ := HX5.out
  clear hb5 HB4 HR4 HX4
  have HTy := HTx.out (mm : Int)
  clear HTx HG
  cases hgg : goodB v1 mm v2 n1 n2 n3
  · clear HTy hgg
    go_wp2_with fail
    have HBa : Hid (Below w.heap.size w w5) := HB5
    have HRa : Hid (DB w.heap.size w5 0 0 0 0 0 0) := HR5
    have HXa : Hid (DB X w5 v1 mm v2 n1 n2 n3) := HX5
    clear HB5 HR5 HX5
    refine Calls.mono (HCt.out _) ?_
    rintro e wa ⟨rfl, hb⟩
    have HBb : Hid (Below w.heap.size w wa) := HBa.out.trans (hb.mono HBa.out.size)
    have HRb : Hid (DB w.heap.size wa 0 0 0 0 0 0) := HRa.out.below hb
    have HXb : Hid (DB X wa v1 mm v2 n1 n2 n3) := HXa.out.below hb
    clear hb HBa HRa HXa
    cases ok
    · obtain ⟨q1, qf, q2, q3, q4, q5, q6, q7⟩ := HRb.out
      go_wp2_with fail
      exact bodyPost_ret (v := .tuple #[.agg #[.int .i64 0, .int .i64 0, .int .i64 0, .int .i64 0, .int .i64 0, .int .i64 0], .bool false]) (by simp [results, Tryz.results70, go_sem, q2, q3, q4, q5, q6, q7]) rfl ⟨rfl, by first | exact below_six HBb.out _ _ _ _ _ _ | exact HBb.out⟩
    · go_wp2_with fail
      refine Calls.mono (HM2.out _) ?_
      rintro e wb ⟨⟨m2, rfl⟩, hb⟩
      have HBc : Hid (Below w.heap.size w wb) := HBb.out.trans (hb.mono HBb.out.size)
      have HRc : Hid (DB w.heap.size wb 0 0 0 0 0 0) := HRb.out.below hb
      have HXc : Hid (DB X wb v1 mm v2 n1 n2 n3) := HXb.out.below hb
      clear hb HBb HRb HXb
      go_wp2_with fail
      refine Calls.mono (HD2.out _) ?_
      rintro e wc ⟨rfl, hb⟩
      have HBd : Hid (Below w.heap.size w wc) := HBc.out.trans (hb.mono HBc.out.size)
      have HRd : Hid (DB w.heap.size wc 0 0 0 0 0 0) := HRc.out.below hb
      have HXd : Hid (DB X wc v1 mm v2 n1 n2 n3) := HXc.out.below hb
      clear hb HBc HRc HXc
      go_wp2_with fail
      refine Calls.mono (HT2.out _ _ _) ?_
      rintro e wd ⟨rfl, hb⟩
      have HBe : Hid (Below w.heap.size w wd) := HBd.out.trans (hb.mono HBd.out.size)
      have HRe : Hid (DB w.heap.size wd 0 0 0 0 0 0) := HRd.out.below hb
      obtain ⟨x1, xf, x2, x3, x4, x5, x6, x7⟩ := HXd.out.below hb
      have HBf : Hid (∀ a b c d e f, Below w.heap.size w ((((((wd.setCell ⟨X, 0, none⟩ a).setCell ⟨X, 1, none⟩ b).setCell ⟨X, 2, none⟩ c).setCell ⟨X, 3, none⟩ d).setCell ⟨X, 4, none⟩ e).setCell ⟨X, 5, none⟩ f)) := fun a b c d e f => six_at (by omega) HBe.out a b c d e f
      have HRf : Hid (∀ a b c d e f, DB w.heap.size ((((((wd.setCell ⟨X, 0, none⟩ a).setCell ⟨X, 1, none⟩ b).setCell ⟨X, 2, none⟩ c).setCell ⟨X, 3, none⟩ d).setCell ⟨X, 4, none⟩ e).setCell ⟨X, 5, none⟩ f) 0 0 0 0 0 0) := fun a b c d e f => db_apart (by omega) HRe.out a b c d e f
      clear hb HBd HRd HXd HRe HBe
      go_wp2_with fail
      refine Calls.mono (HS.out _) ?_
      rintro e we ⟨rfl, hb⟩
      have HBg := (HBf.out _ _ _ _ _ _).trans (hb.mono (HBf.out _ _ _ _ _ _).size)
      obtain ⟨q1, qf, q2, q3, q4, q5, q6, q7⟩ := (HRf.out _ _ _ _ _ _).below hb
      clear hb x1 xf x2 x3 x4 x5 x6 x7
      have HBh : Hid (Below w.heap.size w we) := HBg
      clear HBg
      go_wp2_with fail
      exact bodyPost_ret (v := .tuple #[.agg #[.int .i64 0, .int .i64 0, .int .i64 0, .int .i64 0, .int .i64 0, .int .i64 0], .bool false]) (by simp [results, Tryz.results70, go_sem, q2, q3, q4, q5, q6, q7]) rfl ⟨rfl, by first | exact below_six HBh.out _ _ _ _ _ _ | exact HBh.out⟩
  · obtain ⟨T, hT29, hTx⟩ := HTy hgg
    have HU : Hid _ := hTx
    have hne := big_not hU hT29
    clear hTx HTy hgg hT29
    go_wp2_with fail
    refine Calls.mono (HU.out _) ?_
    rintro e w6 ⟨rfl, hb6⟩
    have HB6 : Hid (Below w.heap.size w w6) := HB5.out.trans (hb6.mono HB5.out.size)
    have HR6 : Hid (DB w.heap.size w6 0 0 0 0 0 0) := HR5.out.below hb6
    have HX6 : Hid (DB X w6 v1 mm v2 n1 n2 n3) := HX5.out.below hb6
    clear hb6 HB5 HR5 HX5 x1 xf x2 x3 x4 x5 x6 x7
    go_wp2_with fail
    have HBa : Hid (Below w.heap.size w w6) := HB6
    have HRa : Hid (DB w.heap.size w6 0 0 0 0 0 0) := HR6
    have HXa : Hid (DB X w6 v1 mm v2 n1 n2 n3) := HX6
    clear HB6 HR6 HX6
    refine Calls.mono (HCt.out _) ?_
    rintro e wa ⟨rfl, hb⟩
    have HBb : Hid (Below w.heap.size w wa) := HBa.out.trans (hb.mono HBa.out.size)
    have HRb : Hid (DB w.heap.size wa 0 0 0 0 0 0) := HRa.out.below hb
    have HXb : Hid (DB X wa v1 mm v2 n1 n2 n3) := HXa.out.below hb
    clear hb HBa HRa HXa
    cases ok
    · obtain ⟨q1, qf, q2, q3, q4, q5, q6, q7⟩ := HRb.out
      go_wp2_with fail
      exact bodyPost_ret (v := .tuple #[.agg #[.int .i64 0, .int .i64 0, .int .i64 0, .int .i64 0, .int .i64 0, .int .i64 0], .bool false]) (by simp [results, Tryz.results70, go_sem, q2, q3, q4, q5, q6, q7]) rfl ⟨rfl, by first | exact below_six HBb.out _ _ _ _ _ _ | exact HBb.out⟩
    · go_wp2_with fail
      refine Calls.mono (HM2.out _) ?_
      rintro e wb ⟨⟨m2, rfl⟩, hb⟩
      have HBc : Hid (Below w.heap.size w wb) := HBb.out.trans (hb.mono HBb.out.size)
      have HRc : Hid (DB w.heap.size wb 0 0 0 0 0 0) := HRb.out.below hb
      have HXc : Hid (DB X wb v1 mm v2 n1 n2 n3) := HXb.out.below hb
      clear hb HBb HRb HXb
      go_wp2_with fail
      refine Calls.mono (HD2.out _) ?_
      rintro e wc ⟨rfl, hb⟩
      have HBd : Hid (Below w.heap.size w wc) := HBc.out.trans (hb.mono HBc.out.size)
      have HRd : Hid (DB w.heap.size wc 0 0 0 0 0 0) := HRc.out.below hb
      have HXd : Hid (DB X wc v1 mm v2 n1 n2 n3) := HXc.out.below hb
      clear hb HBc HRc HXc
      go_wp2_with fail
      refine Calls.mono (HT2.out _ _ _) ?_
      rintro e wd ⟨rfl, hb⟩
      have HBe : Hid (Below w.heap.size w wd) := HBd.out.trans (hb.mono HBd.out.size)
      have HRe : Hid (DB w.heap.size wd 0 0 0 0 0 0) := HRd.out.below hb
      obtain ⟨x1, xf, x2, x3, x4, x5, x6, x7⟩ := HXd.out.below hb
      have HBf : Hid (∀ a b c d e f, Below w.heap.size w ((((((wd.setCell ⟨X, 0, none⟩ a).setCell ⟨X, 1, none⟩ b).setCell ⟨X, 2, none⟩ c).setCell ⟨X, 3, none⟩ d).setCell ⟨X, 4, none⟩ e).setCell ⟨X, 5, none⟩ f)) := fun a b c d e f => six_at (by omega) HBe.out a b c d e f
      have HRf : Hid (∀ a b c d e f, DB w.heap.size ((((((wd.setCell ⟨X, 0, none⟩ a).setCell ⟨X, 1, none⟩ b).setCell ⟨X, 2, none⟩ c).setCell ⟨X, 3, none⟩ d).setCell ⟨X, 4, none⟩ e).setCell ⟨X, 5, none⟩ f) 0 0 0 0 0 0) := fun a b c d e f => db_apart (by omega) HRe.out a b c d e f
      clear hb HBd HRd HXd HRe HBe
      go_wp2_with fail
      refine Calls.mono (HS.out _) ?_
      rintro e we ⟨rfl, hb⟩
      have HBg := (HBf.out _ _ _ _ _ _).trans (hb.mono (HBf.out _ _ _ _ _ _).size)
      obtain ⟨q1, qf, q2, q3, q4, q5, q6, q7⟩ := (HRf.out _ _ _ _ _ _).below hb
      clear hb x1 xf x2 x3 x4 x5 x6 x7
      have HBh : Hid (Below w.heap.size w we) := HBg
      clear HBg
      go_wp2_with fail
      exact bodyPost_ret (v := .tuple #[.agg #[.int .i64 0, .int .i64 0, .int .i64 0, .int .i64 0, .int .i64 0, .int .i64 0], .bool false]) (by simp [results, Tryz.results70, go_sem, q2, q3, q4, q5, q6, q7]) rfl ⟨rfl, by first | exact below_six HBh.out _ _ _ _ _ _ | exact HBh.out⟩

end Go.Proofs.YtgidmoncocbfiaaGreatDoor.Dua

namespace Go.Proofs.YtgidmoncocbfiaaGreatDoor.Dua
open Go.RowKit
open Go.Proofs.YtgidmoncocbfiaaGreatDoor.Num
open Go.Proofs.YtgidmoncocbfiaaGreatDoor.Nam
open Go.Proofs.YtgidmoncocbfiaaGreatDoor.Dmt
open Go.Proofs.YtgidmoncocbfiaaGreatDoor.Dwa

set_option maxRecDepth 20000 in
set_option maxHeartbeats 3200000 in
theorem implRead_usual (k y d h i s : Nat) (m now mx : Int) (w : World) (hW : DW mx w) (hg : goodB y m d h i s = true) (hk : wdI y m d = k) (hn : 0 ≤ now ∧ now ≤ 253402300799) :
    Calls Tryz.prog 92 #[.string (usualB k y m d h i s), .int .i64 now] w fun e w' => e = .returned (.tuple #[.agg #[.int .i64 y, .int .i64 m, .int .i64 d, .int .i64 h, .int .i64 i, .int .i64 s], .bool true]) ∧ Below w.heap.size w w' := by
  obtain ⟨⟨g1, g2⟩, ⟨g3, g4⟩, g5, g6, g7, g8⟩ := good_nats hg
  have hk7 : k < 7 := by unfold wdI at hk; omega
  obtain ⟨W, hWW⟩ : ∃ W, W = w.alloc (.cells #[.int .i64 0, .int .i64 0, .int .i64 0, .int .i64 0, .int .i64 0, .int .i64 0] 93) := ⟨_, rfl⟩
  have HB0 : Hid (Below w.heap.size w W) := by show Below _ _ _; rw [hWW]; exact (Below.refl _ _).alloc (Nat.le_refl _) _
  have HR0 : Hid (DB w.heap.size W 0 0 0 0 0 0) := by show DB _ _ _ _ _ _ _ _; rw [hWW]; exact DB.made w _ _ _ _ _ _ _
  have HD : Hid (∀ wx, Below w.heap.size w wx → DW mx wx) := fun wx hb => hW.below hb
  have hD0 := hW.below HB0.out
  obtain ⟨Y, M, D, H, I, S, b, hb, hA⟩ := implAt_all now W hD0.2.1
  obtain rfl : b = true := hb.trans (decide_eq_true hn)
  have HA : Hid _ := hA
  have HG : Hid (∀ wx, Below w.heap.size w wx → Calls Tryz.prog 120 #[.agg #[.int .i64 y, .int .i64 m, .int .i64 d, .int .i64 h, .int .i64 i, .int .i64 s]] wx fun e w' => e = .returned (.bool true) ∧ Below wx.heap.size wx w') := fun wx hb => by
    have := implGood_any y m d h i s wx (HD.out wx hb).2.1
    rwa [hg] at this
  have HT : Hid (∀ wx, Below w.heap.size w wx → Calls Tryz.prog 119 #[.string (usualB k y m d h i s), .int .i64 Y] wx fun e w' => e = .returned (.agg #[.int .i64 y, .int .i64 m, .int .i64 d, .int .i64 h, .int .i64 i, .int .i64 s]) ∧ Below wx.heap.size wx w') := fun wx hb => dateTold_usual _ k y d h i s m Y wx rfl (HD.out wx hb).1 (HD.out wx hb).2.2.2.1 hk7 (by omega) (by omega) g3 g4 (by omega) (by omega) (by omega) (by omega)
  have HU : Hid (∀ wx, Below w.heap.size w wx → Calls Tryz.prog 121 #[.agg #[.int .i64 y, .int .i64 m, .int .i64 d, .int .i64 h, .int .i64 i, .int .i64 s]] wx fun e w' => e = .returned (.string (usualB k y m d h i s)) ∧ Below wx.heap.size wx w') := fun wx hb => implUsual_any y d h i s k m wx (HD.out wx hb).2.1 (HD.out wx hb).2.2.1 (HD.out wx hb).2.2.2.1 (HD.out wx hb).2.2.2.2.1 hg hk
  generalize usualB k y m d h i s = U at HT HU ⊢
  clear hA hb hD0 hW HD hg hk
  have hUU : (U.toList != U.toList) = false := by simp
  go_enter Tryz.func92, Tryz.ntmps92
  go_wp2_with fail
  rw [← hWW]
  clear hWW
  refine Calls.mono HA.out ?_
  rintro e w1 ⟨rfl, hb1⟩
  have hR := (HR0.out.below hb1).alloc (.cells #[.int .i64 Y, .int .i64 M, .int .i64 D, .int .i64 H, .int .i64 I, .int .i64 S] 93)
  have hB1 : Below w.heap.size w w1 := HB0.out.trans (hb1.mono HB0.out.size)
  have HB1 : Hid (Below w.heap.size w (w1.alloc (.cells #[.int .i64 Y, .int .i64 M, .int .i64 D, .int .i64 H, .int .i64 I, .int .i64 S] 93))) := hB1.alloc hB1.size _
  have HR1 : Hid (DB w.heap.size (w1.alloc (.cells #[.int .i64 Y, .int .i64 M, .int .i64 D, .int .i64 H, .int .i64 I, .int .i64 S] 93)) 0 0 0 0 0 0) := hR
  clear hb1 hB1 HR0 HB0 HA hR
  go_wp2_with fail
  refine (HT.out _ HB1.out).mono ?_
  rintro e w2 ⟨rfl, hb2⟩
  obtain ⟨X, hX⟩ : ∃ X, X = w2.heap.size := ⟨_, rfl⟩
  obtain ⟨W2, hW2⟩ : ∃ W, W = w2.alloc (.cells #[.int .i64 y, .int .i64 m, .int .i64 d, .int .i64 h, .int .i64 i, .int .i64 s] 93) := ⟨_, rfl⟩
  have hB2 : Below w.heap.size w w2 := HB1.out.trans (hb2.mono HB1.out.size)
  have HR2 : Hid (DB w.heap.size W2 0 0 0 0 0 0) := by show DB _ _ _ _ _ _ _ _; rw [hW2]; exact (HR1.out.below hb2).alloc _
  have HX2 : Hid (DB X W2 y m d h i s) := by show DB _ _ _ _ _ _ _ _; rw [hW2, hX]; exact DB.made w2 _ _ _ _ _ _ _
  have HB2 : Hid (Below w.heap.size w W2) := by show Below _ _ _; rw [hW2]; exact hB2.alloc hB2.size _
  have hXw : w.heap.size < X := by have := (HR1.out.below hb2).1; omega
  clear hb2 hB2 HR1 HB1 HT
  go_wp2_with fail
  rw [← hW2, ← hX]
  clear hW2 hX
  refine (HG.out _ HB2.out).mono ?_
  rintro e w3 ⟨rfl, hb3⟩
  have HB3 : Hid (Below w.heap.size w w3) := HB2.out.trans (hb3.mono HB2.out.size)
  have HR3 : Hid (DB w.heap.size w3 0 0 0 0 0 0) := HR2.out.below hb3
  have HX3 : Hid (DB X w3 y m d h i s) := HX2.out.below hb3
  obtain ⟨x1, xf, x2, x3, x4, x5, x6, x7⟩ := HX3.out
  clear hb3 HR2 HX2 HB2 HG
  go_wp2_with fail
  refine (HU.out _ HB3.out).mono ?_
  rintro e w4 ⟨rfl, hb4⟩
  have HB4 : Hid (Below w.heap.size w w4) := HB3.out.trans (hb4.mono HB3.out.size)
  clear x1 xf x2 x3 x4 x5 x6 x7
  obtain ⟨x1, xf, x2, x3, x4, x5, x6, x7⟩ := HX3.out.below hb4
  obtain ⟨q1, qf, q2, q3, q4, q5, q6, q7⟩ := HR3.out.below hb4
  clear hb4 HR3 HX3 HB3 HU
  go_wp2_with fail
  exact bodyPost_ret (v := .tuple #[.agg #[.int .i64 y, .int .i64 m, .int .i64 d, .int .i64 h, .int .i64 i, .int .i64 s], .bool true]) (by simp [results, Tryz.results92, go_sem, q2, q3, q4, q5, q6, q7]) rfl ⟨rfl, below_six HB4.out _ _ _ _ _ _⟩

end Go.Proofs.YtgidmoncocbfiaaGreatDoor.Dua

namespace Go.Proofs.YtgidmoncocbfiaaGreatDoor.Cda
open Go.RowKit
open Go.Proofs.YtgidmoncocbfiaaGreatDoor.Dua
open Go.Proofs.YtgidmoncocbfiaaGreatDoor.Num
open Go.Proofs.YtgidmoncocbfiaaGreatDoor.Nam
open Go.Proofs.YtgidmoncocbfiaaGreatDoor.Dmt
open Go.Proofs.YtgidmoncocbfiaaGreatDoor.Dwa
open Go.Proofs.YtgidmoncocbfiaaGreatDoor.Ctf (cutZ)

/-- A text that is no date for sure. -/
def SH (v : ByteArray) : Prop := v.size ≤ 23 ∧ (cutZ v 44).size ≤ 9
/-- What a text tells as a date: nothing, or seconds. -/
def DV (v : ByteArray) (o : Option Int) : Prop := (SH v ∧ o = none) ∨ ∃ k y d h i s m : Nat, goodB y m d h i s = true ∧ wdI y m d = k ∧ v = usualB k y m d h i s ∧ o = some (secI y m d h i s)
open Classical in
noncomputable def dvO (v : ByteArray) : Option Int := if h : ∃ o, DV v o then Classical.choose h else none
theorem dv_is {v : ByteArray} (h : ∃ o, DV v o) : DV v (dvO v) := by
  unfold dvO
  rw [dif_pos h]
  exact Classical.choose_spec h
theorem dv_size {v : ByteArray} (h : ∃ o, DV v o) : v.size ≤ 29 := by
  obtain ⟨o, h | ⟨k, y, d, h, i, s, m, hg, hk, rfl, _⟩⟩ := h
  · have := h.1.1; omega
  · obtain ⟨⟨g1, g2⟩, ⟨g3, g4⟩, g5, g6, g7, g8⟩ := good_nats hg
    have hk7 : k < 7 := by unfold wdI at hk; omega
    have := (usual_pieces k y d h i s m hk7 (by omega) (by omega) g3 g4 (by omega) (by omega) (by omega) (by omega)).1
    omega

set_option maxRecDepth 20000 in
set_option maxHeartbeats 800000 in
theorem readSeconds_any (v : ByteArray) (now mx : Int) (w : World) (hW : DW mx w) (hv : ∃ o, DV v o) (hn : 0 ≤ now ∧ now ≤ 253402300799) :
    Calls Tryz.prog 68 #[.string v, .int .i64 now] w fun e w' => e = .returned (.tuple #[.int .i64 ((dvO v).getD 0), .bool (dvO v).isSome]) ∧ Below w.heap.size w w' := by
  rcases dv_is hv with ⟨⟨h1, h2⟩, ho⟩ | ⟨k, y, d, h, i, s, m, hg, hk, hvv, ho⟩
  · rw [ho]
    have HR : Hid _ := fun (_ : Unit) => implRead_short v now mx w hW h1
    go_enter Tryz.func68, Tryz.ntmps68
    go_wp2_with fail
    refine Calls.mono (HR.out ()) ?_
    rintro e w2 ⟨rfl, hb2⟩
    have HB2 : Hid (Below w.heap.size w (w2.alloc (.cells #[.int .i64 0, .int .i64 0, .int .i64 0, .int .i64 0, .int .i64 0, .int .i64 0] 93))) := hb2.alloc hb2.size _
    go_wp2_with fail
    go_ret2
    exact ⟨rfl, HB2.out⟩
  · rw [ho]
    have hr := implRead_usual k y d h i s m now mx w hW hg hk hn
    rw [← hvv] at hr
    have HR : Hid (Calls Tryz.prog 92 #[.string v, .int .i64 now] w fun e w' => e = .returned (.tuple #[.agg #[.int .i64 y, .int .i64 m, .int .i64 d, .int .i64 h, .int .i64 i, .int .i64 s], .bool true]) ∧ Below w.heap.size w w') := hr
    clear hr
    have HS : Hid (∀ wx, Below w.heap.size w wx → Calls Tryz.prog 93 #[.agg #[.int .i64 y, .int .i64 m, .int .i64 d, .int .i64 h, .int .i64 i, .int .i64 s]] wx fun e w' => e = .returned (.tuple #[.int .i64 (secI y m d h i s), .bool true]) ∧ Below wx.heap.size wx w') := fun wx hb => implSecondsOf_yes y m d h i s wx (hW.below hb).2.1 hg
    generalize secI y m d h i s = S at HS ⊢
    clear hvv hg hk ho hW hv
    go_enter Tryz.func68, Tryz.ntmps68
    go_wp2_with fail
    with_reducible refine Calls.mono HR.out ?_
    rintro e w2 ⟨rfl, hb2⟩
    have HB2 : Hid (Below w.heap.size w (w2.alloc (.cells #[.int .i64 y, .int .i64 m, .int .i64 d, .int .i64 h, .int .i64 i, .int .i64 s] 93))) := hb2.alloc hb2.size _
    go_wp2_with fail
    refine Calls.mono (HS.out _ HB2.out) ?_
    rintro e w3 ⟨rfl, hb3⟩
    have HB3 : Hid (Below w.heap.size w w3) := HB2.out.trans (hb3.mono HB2.out.size)
    go_wp2_with fail
    go_ret2
    exact ⟨rfl, HB3.out⟩

end Go.Proofs.YtgidmoncocbfiaaGreatDoor.Cda

