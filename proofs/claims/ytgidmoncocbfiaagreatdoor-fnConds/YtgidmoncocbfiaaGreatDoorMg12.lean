/-
  Walk: impl.dateTold, of a date as it is usually told, and of a short text.
  Walk: impl.dateTold, of a short text.
  Walk: impl.ReadDate, of a date as it is usually told, and of a short text.
-/
import Derived.Test.YtgidmoncocbfiaaGreatDoorMg11
import Derived.Test.YtgidmoncocbfiaaGreatDoorMg7
import Derived.Deep.RegionHeld3
import Derived.Test.YtgidmoncocbfiaaGreatDoorMg6
import Derived.Test.YtgidmoncocbfiaaGreatDoorDtt
namespace Go.Proofs.YtgidmoncocbfiaaGreatDoor.Dua
open Go.RowKit
open Go.Proofs.YtgidmoncocbfiaaGreatDoor.Num (num two clockB)
open Go.Proofs.YtgidmoncocbfiaaGreatDoor.Nam
open Go.Proofs.YtgidmoncocbfiaaGreatDoor.Wgt (rdL readDigits_any)

theorem keepB {w w0 w1 : World} (h : Below w.heap.size w w0) (hb : Below w0.heap.size w0 w1) : Below w.heap.size w w1 := h.trans (hb.mono h.size)

/-- A block of six noughts of the call's own. -/
def RZ (b : Nat) (w : World) : Prop := b < w.heap.size ∧ (∀ i, w.frozen? ⟨b, i, none⟩ = false) ∧ w.cell? ⟨b, 0, none⟩ = some (.int .i64 0) ∧ w.cell? ⟨b, 1, none⟩ = some (.int .i64 0) ∧ w.cell? ⟨b, 2, none⟩ = some (.int .i64 0) ∧ w.cell? ⟨b, 3, none⟩ = some (.int .i64 0) ∧ w.cell? ⟨b, 4, none⟩ = some (.int .i64 0) ∧ w.cell? ⟨b, 5, none⟩ = some (.int .i64 0)
theorem RZ.below {b : Nat} {w w' : World} (h : RZ b w) (hb : Below w.heap.size w w') : RZ b w' := by
  obtain ⟨h1, h2, c0, c1, c2, c3, c4, c5⟩ := h
  have e : ∀ i, w'.cell? ⟨b, i, none⟩ = w.cell? ⟨b, i, none⟩ := fun i => hb.cell (p := ⟨b, i, none⟩) h1
  exact ⟨Nat.lt_of_lt_of_le h1 hb.size, fun i => (hb.frozen (p := ⟨b, i, none⟩) h1).trans (h2 i), (e 0).trans c0, (e 1).trans c1, (e 2).trans c2, (e 3).trans c3, (e 4).trans c4, (e 5).trans c5⟩
theorem RZ.made (w : World) (t : TypeId) : RZ w.heap.size (w.alloc (.cells #[.int .i64 0, .int .i64 0, .int .i64 0, .int .i64 0, .int .i64 0, .int .i64 0] t)) :=
  ⟨by simp, fun i => World.frozen?_alloc_at _ t _ i rfl, by rw [World.cell?_alloc_mark]; rfl, by rw [World.cell?_alloc_mark]; rfl, by rw [World.cell?_alloc_mark]; rfl, by rw [World.cell?_alloc_mark]; rfl, by rw [World.cell?_alloc_mark]; rfl, by rw [World.cell?_alloc_mark]; rfl⟩
theorem RZ.parts {b : Nat} {w : World} (h : RZ b w) : b < w.heap.size ∧ (∀ i, w.frozen? ⟨b, i, none⟩ = false) ∧ w.cell? ⟨b, 0, none⟩ = some (.int .i64 0) ∧ w.cell? ⟨b, 1, none⟩ = some (.int .i64 0) ∧ w.cell? ⟨b, 2, none⟩ = some (.int .i64 0) ∧ w.cell? ⟨b, 3, none⟩ = some (.int .i64 0) ∧ w.cell? ⟨b, 4, none⟩ = some (.int .i64 0) ∧ w.cell? ⟨b, 5, none⟩ = some (.int .i64 0) := h
theorem below_six {w x : World} (h : Below w.heap.size w x) (a b c d e f : Value) : Below w.heap.size w ((((((x.setCell ⟨w.heap.size, 0, none⟩ a).setCell ⟨w.heap.size, 1, none⟩ b).setCell ⟨w.heap.size, 2, none⟩ c).setCell ⟨w.heap.size, 3, none⟩ d).setCell ⟨w.heap.size, 4, none⟩ e).setCell ⟨w.heap.size, 5, none⟩ f) :=
  (((((h.setCell (p := ⟨w.heap.size, 0, none⟩) (Nat.le_refl _) _).setCell (p := ⟨w.heap.size, 1, none⟩) (Nat.le_refl _) _).setCell (p := ⟨w.heap.size, 2, none⟩) (Nat.le_refl _) _).setCell (p := ⟨w.heap.size, 3, none⟩) (Nat.le_refl _) _).setCell (p := ⟨w.heap.size, 4, none⟩) (Nat.le_refl _) _).setCell (p := ⟨w.heap.size, 5, none⟩) (Nat.le_refl _) _
theorem RZ.drew {b : Nat} {w : World} (h : RZ b w) : RZ b w.drew := h

set_option maxRecDepth 20000 in
set_option maxHeartbeats 3200000 in
theorem dateTold_usual (U : ByteArray) (k y d h i s : Nat) (m Y : Int) (w : World) (hU : U = usualB k y m d h i s) (hT : Fch.Tab w) (hN : TabN w) (hk : k < 7) (hy1 : 1000 ≤ y) (hy2 : y < 10000) (hm1 : 1 ≤ m) (hm2 : m ≤ 12) (hd : d < 100) (hh : h < 100) (hi : i < 100) (hs : s < 100) :
    Calls Tryz.prog 119 #[.string U, .int .i64 Y] w fun e w' => e = .returned (.agg #[.int .i64 y, .int .i64 m, .int .i64 d, .int .i64 h, .int .i64 i, .int .i64 s]) ∧ Below w.heap.size w w' := by
  obtain ⟨p0, p1, p2, p3, p4⟩ := usual_pieces k y d h i s m hk hy1 hy2 hm1 hm2 hd hh hi hs
  rw [← hU] at p0 p1 p2 p3 p4
  clear hU
  have HTw : Hid (∀ wx, Below w.heap.size w wx → Fch.Tab wx) := fun wx hb => hT.below hb hT.lt
  have HNw : Hid (∀ wx, Below w.heap.size w wx → TabN wx) := fun wx hb => hN.below hb hN.lt
  have HA : Hid (∀ wx, Below w.heap.size w wx → Calls Tryz.prog 144 #[.string (num y)] wx fun e w' => e = .returned (.int .i64 y) ∧ Below wx.heap.size wx w') := fun wx hb => (readDigits_any (num y) wx (HTw.out wx hb) (by rw [num_size4 hy1 hy2]; decide)).mono fun e w' ⟨h, hw⟩ => ⟨by rw [h, rd_num4 hy1 hy2], by subst hw; exact Below.refl _ _⟩
  have HD : Hid (∀ wx, Below w.heap.size w wx → Calls Tryz.prog 144 #[.string (two d)] wx fun e w' => e = .returned (.int .i64 d) ∧ Below wx.heap.size wx w') := fun wx hb => (readDigits_any (two d) wx (HTw.out wx hb) (by rw [two_size2 hd]; decide)).mono fun e w' ⟨h, hw⟩ => ⟨by rw [h, rd_two hd], by subst hw; exact Below.refl _ _⟩
  have HM : Hid (∀ wx, Below w.heap.size w wx → Calls Tryz.prog 145 #[.string (mname m)] wx fun e w' => e = .returned (.int .i64 m) ∧ Below wx.heap.size wx w') := fun wx hb => readMonth_any m wx (HNw.out wx hb) hm1 hm2
  have HC : Hid (∀ wx, Below w.heap.size w wx → Calls Tryz.prog 143 #[.agg #[.int .i64 y, .int .i64 m, .int .i64 d, .int .i64 0, .int .i64 0, .int .i64 0], .string (clockB h i s)] wx fun e w' => e = .returned (.agg #[.int .i64 y, .int .i64 m, .int .i64 d, .int .i64 h, .int .i64 i, .int .i64 s]) ∧ Below wx.heap.size wx w') := fun wx hb => withClock_any y m d 0 0 0 h i s wx (HTw.out wx hb) hh hi hs
  generalize num y = P1 at *
  generalize mname m = P2 at *
  generalize two d = P3 at *
  generalize clockB h i s = P4 at *
  clear HTw HNw hT hN
  have HB0 : Hid (Below w.heap.size w (w.alloc (.cells #[.int .i64 0, .int .i64 0, .int .i64 0, .int .i64 0, .int .i64 0, .int .i64 0] 93)).drew) := ((Below.refl _ _).alloc (Nat.le_refl _) _).drew
  have HR0 : Hid (RZ w.heap.size (w.alloc (.cells #[.int .i64 0, .int .i64 0, .int .i64 0, .int .i64 0, .int .i64 0, .int .i64 0] 93)).drew) := RZ.drew (RZ.made w _)
  go_enter Tryz.func119, Tryz.ntmps119
  go_wp2_with fail
  go_region_with (first
    | (go_at_call 144; with_reducible refine Calls.mono (HA.out _ (HB0.out)) ?_; rintro e w1 ⟨rfl, hb1⟩; have HB1 : Below w.heap.size w w1 := Below.trans (HB0.out) (Below.mono hb1 (Below.size (HB0.out))); have HR1 : RZ w.heap.size w1 := RZ.below (HR0.out) hb1; clear hb1)
    | (go_at_call 145; with_reducible refine Calls.mono (HM.out _ (HB1)) ?_; rintro e w2 ⟨rfl, hb2⟩; have HB2 : Below w.heap.size w w2 := Below.trans (HB1) (Below.mono hb2 (Below.size (HB1))); have HR2 : RZ w.heap.size w2 := RZ.below (HR1) hb2; clear hb2)
    | (go_at_call 144; with_reducible refine Calls.mono (HD.out _ (HB2)) ?_; rintro e w3 ⟨rfl, hb3⟩; have HB3 : Below w.heap.size w w3 := Below.trans (HB2) (Below.mono hb3 (Below.size (HB2))); have HR3 : RZ w.heap.size w3 := RZ.below (HR2) hb3; clear hb3)
    | (go_at_call 143; with_reducible refine Calls.mono (HC.out _ (HB3)) ?_; rintro e w4 ⟨rfl, hb4⟩; have HB4 : Below w.heap.size w w4 := Below.trans (HB3) (Below.mono hb4 (Below.size (HB3))); have HR4 : RZ w.heap.size w4 := RZ.below (HR3) hb4; clear hb4; obtain ⟨q1, qf, q2, q3, q4, q5, q6, q7⟩ := RZ.parts HR4))
  all_goals
    go_wp2_with fail
    exact bodyPost_ret (v := .agg #[.int .i64 y, .int .i64 m, .int .i64 d, .int .i64 h, .int .i64 i, .int .i64 s]) (by simp [results, Tryz.results119, go_sem, q2, q3, q4, q5, q6, q7]) rfl ⟨rfl, below_six HB4 _ _ _ _ _ _⟩

end Go.Proofs.YtgidmoncocbfiaaGreatDoor.Dua

namespace Go.Proofs.YtgidmoncocbfiaaGreatDoor.Dua
open Go.RowKit

theorem cut_short (U : ByteArray) (mx : Int) (W : World) (hU : U.size ≤ 23) (hm : W.cell? ⟨1, 0, none⟩ = some (.int .i64 mx)) :
    Calls Tryz.prog 147 #[.string U, .string ⟨#[44, 32]⟩] W fun e w' => (∃ (A R : ByteArray) (b : Bool), e = .returned (.tuple #[.string A, .string R, .bool b]) ∧ R.size < 22) ∧ Below W.heap.size W w' := by
  refine (Tryz.strings_Cut U ⟨#[44, 32]⟩ mx W (by omega) hm).mono ?_
  rintro e w' ⟨rfl, n, rfl⟩
  refine ⟨⟨_, _, _, rfl, ?_⟩, Ctf.below_drewN _ _⟩
  show (Lib.cut U.data.toList [44, 32]).2.1.toArray.size < 22
  rw [List.size_toArray]
  have hl : U.data.toList.length = U.size := by simp
  unfold Lib.cut
  split
  · show (List.drop (_ + 2) U.data.toList).length < 22
    rw [List.length_drop]
    omega
  · show ([] : List UInt8).length < 22
    decide

set_option maxRecDepth 20000 in
set_option maxHeartbeats 1600000 in
theorem dateTold_short (U : ByteArray) (Y mx : Int) (w : World) (hU : U.size ≤ 23) (hm : w.cell? ⟨1, 0, none⟩ = some (.int .i64 mx)) :
    Calls Tryz.prog 119 #[.string U, .int .i64 Y] w fun e w' => e = .returned (.agg #[.int .i64 0, .int .i64 0, .int .i64 0, .int .i64 0, .int .i64 0, .int .i64 0]) ∧ Below w.heap.size w w' := by
  have d1 : ((U.size : Int) == 29) = false := by rw [beq_eq_false_iff_ne]; omega
  have d2 : ((U.size : Int) == 24) = false := by rw [beq_eq_false_iff_ne]; omega
  obtain ⟨W, hW⟩ : ∃ W, W = w.alloc (.cells #[.int .i64 0, .int .i64 0, .int .i64 0, .int .i64 0, .int .i64 0, .int .i64 0] 93) := ⟨_, rfl⟩
  have HB0 : Hid (Below w.heap.size w W) := by show Below _ _ _; rw [hW]; exact (Below.refl _ _).alloc (Nat.le_refl _) _
  have HR0 : Hid (RZ w.heap.size W) := by show RZ _ _; rw [hW]; exact RZ.made w _
  have hm2 : W.cell? ⟨1, 0, none⟩ = some (.int .i64 mx) := (HB0.out.cell (p := ⟨1, 0, none⟩) (World.block_lt_of_cell? _ _ hm)).trans hm
  have HC : Hid (Calls Tryz.prog 147 #[.string U, .string ⟨#[44, 32]⟩] W fun e w' => (∃ (A R : ByteArray) (b : Bool), e = .returned (.tuple #[.string A, .string R, .bool b]) ∧ R.size < 22) ∧ Below W.heap.size W w') := cut_short U mx W hU hm2
  clear hm hm2
  go_enter Tryz.func119, Tryz.ntmps119
  go_wp2_with fail
  rw [← hW]
  clear hW
  with_reducible refine (HC.out).mono ?_
  rintro e w2 ⟨⟨A, R, b, rfl, hR⟩, hb2⟩
  have HB2 : Hid (Below w.heap.size w w2) := HB0.out.trans (hb2.mono HB0.out.size)
  obtain ⟨q1, qf, q2, q3, q4, q5, q6, q7⟩ := RZ.below HR0.out hb2
  have d3 : ((R.size : Int) != 22) = true := by simp; omega
  clear hb2 HC HR0 HB0
  go_wp2_with fail
  exact bodyPost_ret (v := .agg #[.int .i64 0, .int .i64 0, .int .i64 0, .int .i64 0, .int .i64 0, .int .i64 0]) (by simp [results, Tryz.results119, go_sem, q2, q3, q4, q5, q6, q7]) rfl ⟨rfl, below_six HB2.out _ _ _ _ _ _⟩

end Go.Proofs.YtgidmoncocbfiaaGreatDoor.Dua

namespace Go.Proofs.YtgidmoncocbfiaaGreatDoor.Dua
open Go.RowKit
open Go.Proofs.YtgidmoncocbfiaaGreatDoor.Num
open Go.Proofs.YtgidmoncocbfiaaGreatDoor.Nam
open Go.Proofs.YtgidmoncocbfiaaGreatDoor.Dmt
open Go.Proofs.YtgidmoncocbfiaaGreatDoor.Dwa

/-- What dates are read and told by lies in its tables. -/
def DW (mx : Int) (w : World) : Prop := Fch.Tab w ∧ Dwa.Tab w ∧ TabD w ∧ TabN w ∧ Lib.TabIs Tryz.prog w "internal/strconv.uint64pow10" .u64 Lib.pow10Tab ∧ w.cell? ⟨1, 0, none⟩ = some (.int .i64 mx)
theorem DW.below {mx : Int} {w w' : World} (h : DW mx w) (hb : Below w.heap.size w w') : DW mx w' := by
  obtain ⟨h1, h2, h3, h4, h5, h6⟩ := h
  exact ⟨h1.below hb h1.lt, h2.below hb h2.lt, h3.below hb h3.lt, h4.below hb h4.lt, tab_below h5 hb (tab_lt h5), (hb.cell (p := ⟨1, 0, none⟩) (World.block_lt_of_cell? _ _ h6)).trans h6⟩

theorem good_nats {y d h i s : Nat} {m : Int} (hg : goodB y m d h i s = true) : (1970 ≤ y ∧ y ≤ 9999) ∧ (1 ≤ m ∧ m ≤ 12) ∧ d ≤ 31 ∧ h ≤ 23 ∧ i ≤ 59 ∧ s ≤ 59 := by
  obtain ⟨hd, ⟨_, q2⟩, ⟨_, q4⟩, _, q6⟩ := good_parts hg
  obtain ⟨⟨h1, h2⟩, ⟨h3, h4⟩, h5, h6⟩ := day_parts hd
  have := long_hi y m
  omega

theorem implAt_all (now : Int) (w : World) (hT : Dwa.Tab w) : ∃ (Y M D H I S : Int) (b : Bool), b = decide (0 ≤ now ∧ now ≤ 253402300799) ∧ Calls Tryz.prog 118 #[.int .i64 now] w fun e w' => e = .returned (.tuple #[.agg #[.int .i64 Y, .int .i64 M, .int .i64 D, .int .i64 H, .int .i64 I, .int .i64 S], .bool b]) ∧ Below w.heap.size w w' := by
  by_cases h : 0 ≤ now ∧ now ≤ 253402300799
  · exact ⟨_, _, _, _, _, _, true, (decide_eq_true h).symm, implAt_yes now w hT h.1 h.2⟩
  · exact ⟨_, _, _, _, _, _, false, (decide_eq_false h).symm, implAt_no now w (by omega)⟩

/-- A block of the call's own that holds a date. -/
def DB (b : Nat) (w : World) (y m d h i s : Int) : Prop := b < w.heap.size ∧ (∀ i, w.frozen? ⟨b, i, none⟩ = false) ∧ w.cell? ⟨b, 0, none⟩ = some (.int .i64 y) ∧ w.cell? ⟨b, 1, none⟩ = some (.int .i64 m) ∧ w.cell? ⟨b, 2, none⟩ = some (.int .i64 d) ∧ w.cell? ⟨b, 3, none⟩ = some (.int .i64 h) ∧ w.cell? ⟨b, 4, none⟩ = some (.int .i64 i) ∧ w.cell? ⟨b, 5, none⟩ = some (.int .i64 s)
theorem DB.parts {b : Nat} {w : World} {y m d h i s : Int} (H : DB b w y m d h i s) : b < w.heap.size ∧ (∀ i, w.frozen? ⟨b, i, none⟩ = false) ∧ w.cell? ⟨b, 0, none⟩ = some (.int .i64 y) ∧ w.cell? ⟨b, 1, none⟩ = some (.int .i64 m) ∧ w.cell? ⟨b, 2, none⟩ = some (.int .i64 d) ∧ w.cell? ⟨b, 3, none⟩ = some (.int .i64 h) ∧ w.cell? ⟨b, 4, none⟩ = some (.int .i64 i) ∧ w.cell? ⟨b, 5, none⟩ = some (.int .i64 s) := H
theorem DB.below {b : Nat} {w w' : World} {y m d h i s : Int} (H : DB b w y m d h i s) (hb : Below w.heap.size w w') : DB b w' y m d h i s := by
  obtain ⟨h1, h2, c0, c1, c2, c3, c4, c5⟩ := H
  have e : ∀ i, w'.cell? ⟨b, i, none⟩ = w.cell? ⟨b, i, none⟩ := fun i => hb.cell (p := ⟨b, i, none⟩) h1
  exact ⟨Nat.lt_of_lt_of_le h1 hb.size, fun i => (hb.frozen (p := ⟨b, i, none⟩) h1).trans (h2 i), (e 0).trans c0, (e 1).trans c1, (e 2).trans c2, (e 3).trans c3, (e 4).trans c4, (e 5).trans c5⟩
theorem DB.alloc {b : Nat} {w : World} {y m d h i s : Int} (H : DB b w y m d h i s) (o : Obj) : DB b (w.alloc o) y m d h i s := H.below ((Below.refl _ _).alloc (Nat.le_refl _) o)
theorem DB.made (w : World) (t : TypeId) (y m d h i s : Int) : DB w.heap.size (w.alloc (.cells #[.int .i64 y, .int .i64 m, .int .i64 d, .int .i64 h, .int .i64 i, .int .i64 s] t)) y m d h i s :=
  ⟨by simp, fun i => World.frozen?_alloc_at _ t _ i rfl, by rw [World.cell?_alloc_mark]; rfl, by rw [World.cell?_alloc_mark]; rfl, by rw [World.cell?_alloc_mark]; rfl, by rw [World.cell?_alloc_mark]; rfl, by rw [World.cell?_alloc_mark]; rfl, by rw [World.cell?_alloc_mark]; rfl⟩

set_option maxRecDepth 20000 in
set_option maxHeartbeats 3200000 in
theorem implRead_short (U : ByteArray) (now mx : Int) (w : World) (hW : DW mx w) (hU : U.size ≤ 23) :
    Calls Tryz.prog 92 #[.string U, .int .i64 now] w fun e w' => e = .returned (.tuple #[.agg #[.int .i64 0, .int .i64 0, .int .i64 0, .int .i64 0, .int .i64 0, .int .i64 0], .bool false]) ∧ Below w.heap.size w w' := by
  obtain ⟨W, hWW⟩ : ∃ W, W = w.alloc (.cells #[.int .i64 0, .int .i64 0, .int .i64 0, .int .i64 0, .int .i64 0, .int .i64 0] 93) := ⟨_, rfl⟩
  have HB0 : Hid (Below w.heap.size w W) := by show Below _ _ _; rw [hWW]; exact (Below.refl _ _).alloc (Nat.le_refl _) _
  have HR0 : Hid (DB w.heap.size W 0 0 0 0 0 0) := by show DB _ _ _ _ _ _ _ _; rw [hWW]; exact DB.made w _ _ _ _ _ _ _
  have HD : Hid (∀ wx, Below w.heap.size w wx → DW mx wx) := fun wx hb => hW.below hb
  have hD0 := hW.below HB0.out
  obtain ⟨Y, M, D, H, I, S, b, hb, hA⟩ := implAt_all now W hD0.2.1
  have HA : Hid _ := hA
  clear hA hb hD0 hW
  cases b
  · go_enter Tryz.func92, Tryz.ntmps92
    go_wp2_with fail
    rw [← hWW]
    clear hWW
    refine Calls.mono HA.out ?_
    rintro e w1 ⟨rfl, hb1⟩
    have hR := (HR0.out.below hb1).alloc (.cells #[.int .i64 Y, .int .i64 M, .int .i64 D, .int .i64 H, .int .i64 I, .int .i64 S] 93)
    have hB1 : Below w.heap.size w w1 := HB0.out.trans (hb1.mono HB0.out.size)
    have HB1 : Hid (Below w.heap.size w (w1.alloc (.cells #[.int .i64 Y, .int .i64 M, .int .i64 D, .int .i64 H, .int .i64 I, .int .i64 S] 93))) := hB1.alloc hB1.size _
    obtain ⟨q1, qf, q2, q3, q4, q5, q6, q7⟩ := hR
    obtain ⟨W1, hW1⟩ : ∃ W, W = w1.alloc (.cells #[.int .i64 Y, .int .i64 M, .int .i64 D, .int .i64 H, .int .i64 I, .int .i64 S] 93) := ⟨_, rfl⟩
    clear hb1 hB1 HR0 HB0 HA
    go_wp2_with fail
    exact bodyPost_ret (v := .tuple #[.agg #[.int .i64 0, .int .i64 0, .int .i64 0, .int .i64 0, .int .i64 0, .int .i64 0], .bool false]) (by simp [results, Tryz.results92, go_sem, q2, q3, q4, q5, q6, q7]) rfl ⟨rfl, below_six HB1.out _ _ _ _ _ _⟩
  · have HG : Hid (∀ wx, Below w.heap.size w wx → Calls Tryz.prog 120 #[.agg #[.int .i64 0, .int .i64 0, .int .i64 0, .int .i64 0, .int .i64 0, .int .i64 0]] wx fun e w' => e = .returned (.bool false) ∧ Below wx.heap.size wx w') := fun wx hb => implGood_any 0 0 0 0 0 0 wx (HD.out wx hb).2.1
    have HT : Hid (∀ wx, Below w.heap.size w wx → Calls Tryz.prog 119 #[.string U, .int .i64 Y] wx fun e w' => e = .returned (.agg #[.int .i64 0, .int .i64 0, .int .i64 0, .int .i64 0, .int .i64 0, .int .i64 0]) ∧ Below wx.heap.size wx w') := fun wx hb => dateTold_short U Y mx wx hU (HD.out wx hb).2.2.2.2.2
    go_enter Tryz.func92, Tryz.ntmps92
    go_wp2_with fail
    rw [← hWW]
    clear hWW
    refine Calls.mono HA.out ?_
    rintro e w1 ⟨rfl, hb1⟩
    have hR := (HR0.out.below hb1).alloc (.cells #[.int .i64 Y, .int .i64 M, .int .i64 D, .int .i64 H, .int .i64 I, .int .i64 S] 93)
    have hB1 : Below w.heap.size w w1 := HB0.out.trans (hb1.mono HB0.out.size)
    have HB1 : Hid (Below w.heap.size w (w1.alloc (.cells #[.int .i64 Y, .int .i64 M, .int .i64 D, .int .i64 H, .int .i64 I, .int .i64 S] 93))) := hB1.alloc hB1.size _
    have HR1 : Hid (DB w.heap.size (w1.alloc (.cells #[.int .i64 Y, .int .i64 M, .int .i64 D, .int .i64 H, .int .i64 I, .int .i64 S] 93)) 0 0 0 0 0 0) := hR
    clear hb1 hB1 HR0 HB0 HA hR
    go_wp2_with fail
    refine (HT.out _ HB1.out).mono ?_
    rintro e w2 ⟨rfl, hb2⟩
    have hB2 : Below w.heap.size w w2 := HB1.out.trans (hb2.mono HB1.out.size)
    have HR2 : Hid (DB w.heap.size (w2.alloc (.cells #[.int .i64 0, .int .i64 0, .int .i64 0, .int .i64 0, .int .i64 0, .int .i64 0] 93)) 0 0 0 0 0 0) := (HR1.out.below hb2).alloc _
    have HB2 : Hid (Below w.heap.size w (w2.alloc (.cells #[.int .i64 0, .int .i64 0, .int .i64 0, .int .i64 0, .int .i64 0, .int .i64 0] 93))) := hB2.alloc hB2.size _
    clear hb2 hB2 HR1 HB1 HT
    go_wp2_with fail
    refine (HG.out _ HB2.out).mono ?_
    rintro e w3 ⟨rfl, hb3⟩
    have HB3 : Hid (Below w.heap.size w w3) := HB2.out.trans (hb3.mono HB2.out.size)
    obtain ⟨q1, qf, q2, q3, q4, q5, q6, q7⟩ := HR2.out.below hb3
    clear hb3 HR2 HB2 HG
    go_wp2_with fail
    exact bodyPost_ret (v := .tuple #[.agg #[.int .i64 0, .int .i64 0, .int .i64 0, .int .i64 0, .int .i64 0, .int .i64 0], .bool false]) (by simp [results, Tryz.results92, go_sem, q2, q3, q4, q5, q6, q7]) rfl ⟨rfl, below_six HB3.out _ _ _ _ _ _⟩

end Go.Proofs.YtgidmoncocbfiaaGreatDoor.Dua

