/-
  Walk: the law FnExactTakeResponse.
-/
import Derived.Test.YtaplkbkpgdpbaaaGreatDoorTpm
import Derived.Test.YtaplkbkpgdpbaaaGreatDoorTpu
namespace Go.Proofs.YtaplkbkpgdpbaaaGreatDoor.Tpx
open Go.RowKit
open Go.Proofs.YtaplkbkpgdpbaaaGreatDoor
open Go.Proofs.YtaplkbkpgdpbaaaGreatDoor.Fbs
open Go.Proofs.YtaplkbkpgdpbaaaGreatDoor.Fch
open Go.Proofs.YtaplkbkpgdpbaaaGreatDoor.Fdb
open Go.Proofs.YtaplkbkpgdpbaaaGreatDoor.Tpr
open Go.Proofs.YtaplkbkpgdpbaaaGreatDoor.Rsb (BoxP PowT)
open Go.Proofs.YtaplkbkpgdpbaaaGreatDoor.Num (tab_below tab_lt)
open Go.Proofs.YtaplkbkpgdpbaaaGreatDoor.Lnp (sent)
open Go.Proofs.YtaplkbkpgdpbaaaGreatDoor.Asf (ErrT)
open Go.Proofs.YtaplkbkpgdpbaaaGreatDoor.Mrk (below_grown)

set_option maxRecDepth 20000 in
set_option maxHeartbeats 3200000 in
theorem walk (s : ByteArray) (m : Int) (b : Addr) (w : World) (hT : Tab w) (hE : w.cell? ⟨0, 0, none⟩ = some (sent b)) (hm : w.cell? ⟨3, 0, none⟩ = some (.int .i64 m)) (hR : ErrT w) (hP : PowT w) (hs : s.size ≤ maxLen) :
    Calls Tryz.prog 10 #[.string s] w fun e w' => e = .returned (.bool true) ∧ Below w.heap.size w w' := by
  unfold maxLen at hs
  by_cases hz : 1048576 < (s.size : Int)
  · have hd : decide (1048576 < (s.size : Int)) = true := decide_eq_true hz
    go_enter Tryz.func10, Tryz.ntmps10
    go_wp2_with fail
    go_ret
    exact ⟨rfl, Below.refl _ _⟩
  have hd : decide (1048576 < (s.size : Int)) = false := decide_eq_false hz
  have hgt := hT.lt
  have het := World.block_lt_of_cell? _ _ hE
  have hml := World.block_lt_of_cell? _ _ hm
  have hrl := hR.lt
  have hgp := tab_lt hP
  obtain ⟨M, T, F, Bd, N, c, hF, hAny⟩ := toldP_any s
  have HIm : Hid (∀ w', Below w.heap.size w w' → Calls Tryz.prog 22 #[.string s] w' fun e w'' => (∃ (a : Option Addr) (q : Nat), e = .returned (.tuple #[.agg #[.int .i64 M, .string T, .slice a F.length q, .string Bd], .int .i64 N, .int .i64 c]) ∧ FV w'' a F w'.heap.size w''.heap.size) ∧ Below w'.heap.size w' w'') := fun w' hb =>
    (implTakeP_any s m b w' (by omega) (hT.below hb hgt) ((hb.cell (p := ⟨0, 0, none⟩) het).trans hE) ((hb.cell (p := ⟨3, 0, none⟩) hml).trans hm) (hR.below hb hrl) (tab_below hP hb hgp)).mono fun e w'' ⟨h, hb2⟩ => ⟨hAny _ _ _ h, hb2⟩
  have HSp : Hid (∀ w', Calls Tryz.prog 28 #[.string s] w' fun e w'' => (∃ (a : Option Addr) (q : Nat), e = .returned (.tuple #[.agg #[.int .i64 M, .string T, .slice a F.length q, .string Bd], .int .i64 N, .int .i64 c]) ∧ FV w'' a F w'.heap.size w''.heap.size) ∧ Below w'.heap.size w' w'') := fun w' =>
    (specTakeP_any s w' (by omega)).mono fun e w'' ⟨h, hb2⟩ => ⟨hAny _ _ _ h, hb2⟩
  have HE : Hid _ := fun a b ca cb w x y x' y' h1 h2 => eqResp_any M T Bd a b ca cb F w x y x' y' (by omega) h1 h2
  have HM : Hid _ := fun a ca w lo hi h => markResp_any M T Bd a ca F w lo hi (by omega) h
  have HH : Hid (∀ a ca w lo hi, FV w a (marksF 1 F.length) lo hi → Calls Tryz.prog 41 #[.agg #[.int .i64 M, .string T, .slice a F.length ca, .string Bd], .int .i64 1] w fun e w' => e = .returned (.int .i64 (1 + 2 * (F.length : Int))) ∧ Below w.heap.size w w') := fun a ca w lo hi h => heldResp_any M T Bd a ca F.length w lo hi (by omega) h
  have hq0 : decide ((1 : Int) + 2 * (F.length : Int) < 0) = false := decide_eq_false (by omega)
  obtain ⟨nF, hnF⟩ : ∃ n, n = F.length := ⟨_, rfl⟩
  rw [← hnF] at HIm HSp HE HM HH hq0 hF
  clear hAny hT hE hm hR hP hnF
  go_enter Tryz.func10, Tryz.ntmps10
  go_wp2_with fail
  refine (HSp.out _).mono ?_
  rintro e w3 ⟨⟨a0, c0, rfl, V3⟩, hb3⟩
  obtain ⟨w4, hw4⟩ : ∃ w4, w4 = w3.alloc (.cells #[.int .i64 M, .string T, .slice a0 nF c0, .string Bd] 36) := ⟨_, rfl⟩
  have hb34 : Below w3.heap.size w3 w4 := by rw [hw4]; exact (Below.refl _ _).alloc (Nat.le_refl _) _
  have HX4 : Hid (BoxP w4 w3.heap.size M T a0 nF c0 Bd) := by rw [hw4]; exact BoxP.made w3 M T a0 nF c0 Bd _
  have V4 := V3.below hb34
  have hb4 := hb3.trans (hb34.mono hb3.size)
  have s4 : w4.heap.size = w3.heap.size + 1 := by rw [hw4]; simp
  clear V3 hb34
  go_wp2_with fail
  rw [← hw4]
  clear hw4
  refine (HIm.out _ hb4).mono ?_
  rintro e w5 ⟨⟨a1, c1, rfl, G5⟩, hb5'⟩
  have s5 := hb5'.size
  obtain ⟨w6, hw6⟩ : ∃ w6, w6 = w5.alloc (.cells #[.int .i64 M, .string T, .slice a1 nF c1, .string Bd] 36) := ⟨_, rfl⟩
  have hb56 : Below w5.heap.size w5 w6 := by rw [hw6]; exact (Below.refl _ _).alloc (Nat.le_refl _) _
  have HY6 : Hid (BoxP w6 w5.heap.size M T a1 nF c1 Bd) := by rw [hw6]; exact BoxP.made w5 M T a1 nF c1 Bd _
  have HX6 : Hid (BoxP w6 w3.heap.size M T a0 nF c0 Bd) := (HX4.out.below hb5').below hb56
  have V6 := (V4.below hb5').below hb56
  have G6 := G5.below hb56
  have hb6 := (hb4.trans (hb5'.mono hb4.size)).trans (hb56.mono (by have := hb4.size; omega))
  have HX5 : Hid (BoxP w5 w3.heap.size M T a0 nF c0 Bd) := HX4.out.below hb5'
  obtain ⟨x0, x1, x2, x3⟩ := HX5.out
  have hlt35 : w3.heap.size < w5.heap.size := World.block_lt_of_cell? _ _ x0
  have hne35 : w3.heap.size ≠ w5.heap.size := by omega
  have s6 : w6.heap.size = w5.heap.size + 1 := by rw [hw6]; simp
  clear hb5' hb56 V4 G5 HX4
  go_wp2_with fail
  refine (HE.out _ _ _ _ _ _ _ _ _ (by rw [← hw6]; exact G6) (by rw [← hw6]; exact V6)).mono ?_
  rw [← hw6]
  clear hw6 x0 x1 x2 x3
  rintro e w7 ⟨rfl, hb7'⟩
  have hb7 := hb6.trans (hb7'.mono hb6.size)
  have HX7 : Hid (BoxP w7 w3.heap.size M T a0 nF c0 Bd) := HX6.out.below hb7'
  have HY7 : Hid (BoxP w7 w5.heap.size M T a1 nF c1 Bd) := HY6.out.below hb7'
  have V7 := V6.below hb7'
  have G7 := G6.below hb7'
  have s7 := hb7'.size
  obtain ⟨x0, x1, x2, x3⟩ := HX7.out
  obtain ⟨y0, y1, y2, y3⟩ := HY7.out
  clear hb7' V6 G6 HX6 HY6 HX5
  go_wp2_with fail
  refine (HM.out _ _ _ _ _ G7).mono ?_
  rintro e w8 ⟨rfl, M8, wb, row, hbb, hg, hrow⟩
  have hb7b := hb7.trans (hbb.mono hb7.size)
  have s4w := hb4.size
  have hb8 := below_grown hb7b hg hb7b.size (fun g e => by have := (hrow g e).1; omega)
  have HX8 : Hid (BoxP w8 w3.heap.size M T a0 nF c0 Bd) := BoxP_kept (HX7.out.below hbb) hg (fun r e => by have := (hrow r e).1; omega)
  have HY8 : Hid (BoxP w8 w5.heap.size M T a1 nF c1 Bd) := BoxP_kept (HY7.out.below hbb) hg (fun r e => by have := (hrow r e).2; omega)
  have V8 := (V7.below hbb).kept hg (fun g e => by have := (hrow g e).1; omega)
  have s8 := hg.size
  have sbb := hbb.size
  obtain ⟨y0, y1, y2, y3⟩ := HY8.out
  clear V7 G7 HX7 HY7 hbb hg hrow x0 x1 x2 x3 hb7b
  go_wp2_with fail
  refine (HH.out _ _ _ _ _ M8).mono ?_
  rintro e w9 ⟨rfl, hb9'⟩
  have hb9 := hb8.trans (hb9'.mono hb8.size)
  have HX9 : Hid (BoxP w9 w3.heap.size M T a0 nF c0 Bd) := HX8.out.below hb9'
  have HY9 : Hid (BoxP w9 w5.heap.size M T a1 nF c1 Bd) := HY8.out.below hb9'
  have V9 := V8.below hb9'
  have M9 := M8.below hb9'
  have s9 := hb9'.size
  clear V8 M8 HX8 HY8 hb9' y0 y1 y2 y3
  go_wp2_with fail
  refine (HIm.out _ hb9).mono ?_
  rintro e w10 ⟨⟨a2, c2, rfl, G10⟩, hb10'⟩
  have hb10 := hb9.trans (hb10'.mono hb9.size)
  have HX10 : Hid (BoxP w10 w3.heap.size M T a0 nF c0 Bd) := HX9.out.below hb10'
  have HY10 : Hid (BoxP w10 w5.heap.size M T a1 nF c1 Bd) := HY9.out.below hb10'
  have V10 := V9.below hb10'
  have M10 := M9.below hb10'
  have s10 := hb10'.size
  obtain ⟨w11, hw11⟩ : ∃ w11, w11 = w10.alloc (.cells #[.int .i64 M, .string T, .slice a2 nF c2, .string Bd] 36) := ⟨_, rfl⟩
  have hb1011 : Below w10.heap.size w10 w11 := by rw [hw11]; exact (Below.refl _ _).alloc (Nat.le_refl _) _
  have HX11 : Hid (BoxP w11 w3.heap.size M T a0 nF c0 Bd) := HX10.out.below hb1011
  have HY11 : Hid (BoxP w11 w5.heap.size M T a1 nF c1 Bd) := HY10.out.below hb1011
  have V11 := V10.below hb1011
  have M11 := M10.below hb1011
  have G11 := G10.below hb1011
  have hb11 := hb10.trans (hb1011.mono hb10.size)
  obtain ⟨x0, x1, x2, x3⟩ := HX10.out
  obtain ⟨y0, y1, y2, y3⟩ := HY10.out
  have hne3 : w3.heap.size ≠ w10.heap.size := by have := World.block_lt_of_cell? _ _ x0; omega
  have hne5 : w5.heap.size ≠ w10.heap.size := by have := World.block_lt_of_cell? _ _ y0; omega
  obtain ⟨x0', x1', x2', x3'⟩ := (show BoxP (w10.alloc (.cells #[.int .i64 M, .string T, .slice a2 nF c2, .string Bd] 36)) w3.heap.size M T a0 nF c0 Bd by rw [← hw11]; exact HX11.out)
  have hlt3 : w3.heap.size < w10.heap.size := World.block_lt_of_cell? _ _ x0
  clear V9 M9 HX9 HY9 hb10' V10 M10 G10 HX10 HY10 hb1011
  go_wp2_with fail
  refine (HE.out _ _ _ _ _ _ _ _ _ (by rw [← hw11]; exact G11) (by rw [← hw11]; exact V11)).mono ?_
  rw [← hw11]
  clear hw11 x0 x1 x2 x3 y0 y1 y2 y3 x0' x1' x2' x3'
  rintro e w12 ⟨rfl, hb12'⟩
  have hb12 := hb11.trans (hb12'.mono hb11.size)
  have M12 := M11.below hb12'
  obtain ⟨y0, y1, y2, y3⟩ := HY11.out.below hb12'
  clear hb12' M11 V11 G11 HX11
  go_wp2_with fail
  refine (HH.out _ _ _ _ _ M12).mono ?_
  rintro e w13 ⟨rfl, hb13'⟩
  have hb13 := hb12.trans (hb13'.mono hb12.size)
  go_wp2_with fail
  go_ret
  exact ⟨rfl, hb13⟩

end Go.Proofs.YtaplkbkpgdpbaaaGreatDoor.Tpx
