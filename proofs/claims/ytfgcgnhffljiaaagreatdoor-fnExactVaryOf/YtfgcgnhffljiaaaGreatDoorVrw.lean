/-
  Walk: the law FnExactVaryOf.
-/
import Derived.Test.YtfgcgnhffljiaaaGreatDoorVri
import Derived.Test.YtfgcgnhffljiaaaGreatDoorVrs
import Derived.Test.YtfgcgnhffljiaaaGreatDoorRpt
import Derived.Test.YtfgcgnhffljiaaaGreatDoorFdm
namespace Go.Proofs.YtfgcgnhffljiaaaGreatDoor.Vrw
open Go.RowKit
open Go.Proofs.YtfgcgnhffljiaaaGreatDoor
open Go.Proofs.YtfgcgnhffljiaaaGreatDoor.Fbs
open Go.Proofs.YtfgcgnhffljiaaaGreatDoor.Fch
open Go.Proofs.YtfgcgnhffljiaaaGreatDoor.Fdb
open Go.Proofs.YtfgcgnhffljiaaaGreatDoor.Fds (AF ShortF)
open Go.Proofs.YtfgcgnhffljiaaaGreatDoor.Fvs
open Go.Proofs.YtfgcgnhffljiaaaGreatDoor.Rso
open Go.Proofs.YtfgcgnhffljiaaaGreatDoor.Rsb
open Go.Proofs.YtfgcgnhffljiaaaGreatDoor.Vrp
open Go.Proofs.YtfgcgnhffljiaaaGreatDoor.Mrk (TV tv_of marks markS_one heldS_one eqS_any below_grown)
open Go.Proofs.YtfgcgnhffljiaaaGreatDoor.Num (tab_below tab_lt)
open Go.Proofs.YtfgcgnhffljiaaaGreatDoor.Lnp (sent)

theorem BoxP.grown {w w' : World} {g : Nat} {S : Int} {R : ByteArray} {a : Option Addr} {n ca : Nat} {B : ByteArray} (h : BoxP w g S R a n ca B) {row : Option Nat} (hg : w.grownBy w' row) (hr : row ≠ some g) : BoxP w' g S R a n ca B := by
  have hl := World.block_lt_of_cell? _ _ h.1
  have e : ∀ i, w'.cell? ⟨g, i, none⟩ = w.cell? ⟨g, i, none⟩ := fun i => World.cell?_of_block (hg.block g hl (fun e => hr e.symm))
  exact ⟨(e 0).trans h.1, (e 1).trans h.2.1, (e 2).trans h.2.2.1, (e 3).trans h.2.2.2⟩
theorem TV.above {w w' : World} {a : Option Addr} {l : List ByteArray} {lo hi : Nat} (h : TV w a l lo hi) {row : Option Nat} (hg : w.grownBy w' row) (hr : ∀ g, row = some g → g < lo) : TV w' a l lo hi := by
  rcases h with h | ⟨g, h1, h2, h3, h4, h5, h6⟩
  · exact .inl h
  · have hb : w'.heap[g]? = w.heap[g]? := hg.block g h4 (fun e => by have := hr g e.symm; omega)
    refine .inr ⟨g, h1, h2, h3, Nat.lt_of_lt_of_le h4 hg.size, fun i => (World.frozen?_of_block (a := ⟨g, i, none⟩) hb).trans (h5 i), fun i x hx => (World.cell?_of_block (a := ⟨g, i, none⟩) hb).trans (h6 i x hx)⟩
theorem markR_any (M : Int) (T B : ByteArray) (a : Option Addr) (ca : Nat) (l : List (ByteArray × ByteArray)) (w : World) (lo hi : Nat) (hl : l.length ≤ 1400000) (ha : FV w a l lo hi) :
    Calls Tryz.prog 14 #[.agg #[.int .i64 M, .string T, .slice a l.length ca, .string B], .int .i64 1] w fun e w' => e = .returned (.int .i64 (1 + 2 * (l.length : Int))) ∧ ∃ wb row, Below w.heap.size w wb ∧ wb.grownBy w' row ∧ ∀ g, row = some g → lo ≤ g ∧ g < hi := by
  have hb1 : Below w.heap.size w (w.alloc (.cells #[.int .i64 M, .string T, .slice a l.length ca, .string B] 31)) := (Below.refl _ _).alloc (Nat.le_refl _) _
  have HM : Hid _ := markF_one a ca l (w.alloc (.cells #[.int .i64 M, .string T, .slice a l.length ca, .string B] 31)) lo hi hl (ha.below hb1)
  go_enter Tryz.func14, Tryz.ntmps14
  go_wp2_with fail
  refine (Calls.mono HM.out ?_)
  rintro e w2 ⟨rfl, hF, row, hg, hr⟩
  have HX : Hid _ := hr
  clear hr
  go_wp2_with fail
  go_ret
  exact ⟨rfl, _, row, hb1, hg, HX.out⟩

def lstO (o : Option (List ByteArray × Bool)) : List ByteArray := match o with | none => [] | some x => x.1
def stO (o : Option (List ByteArray × Bool)) : Bool := match o with | none => false | some x => x.2
theorem told_of {w : World} {B : Nat} {e : Ending} {o : Option (List ByteArray × Bool)} (h : VaryT w B e o) : ∃ a cap, e = .returned (.tuple #[.slice a (lstO o).length cap, .bool (stO o), .bool o.isSome]) ∧ TV w a (lstO o) B w.heap.size := by
  cases o with
  | none => exact ⟨none, 0, h, .inl rfl⟩
  | some x =>
    obtain ⟨v, h1, h2⟩ := h
    obtain ⟨a, c, rfl, ht⟩ := tv_of h2
    exact ⟨a, c, h1, ht⟩
theorem lst_len (l : List (ByteArray × ByteArray)) (S : Int) (R B : ByteArray) : (lstO (varyO S R l B)).length ≤ 20001 := by
  unfold varyO
  split
  · next h =>
    have hg : goodL l = true := good_resp h
    unfold varyL
    cases hl : Lsp.listL (Jnd.joinS (valsOf cVary l)) with
    | none => exact Nat.zero_le _
    | some ps =>
      show (lstO (if okV ps then _ else _)).length ≤ _
      split
      · have h1 := risV_len ps
        have h2 := (list_sz hl).1
        have h3 := join_low hg cVary
        show (risV ps).length ≤ _
        omega
      · exact Nat.zero_le _
  · exact Nat.zero_le _

set_option maxRecDepth 20000 in
set_option maxHeartbeats 3200000 in
theorem walk (S : Int) (R B : ByteArray) (a : Option Addr) (ca : Nat) (l : List (ByteArray × ByteArray)) (b : Addr) (w : World) (hT : Tab w) (hP : PowT w) (hE : w.cell? ⟨1, 0, none⟩ = some (sent b)) (hR : R.size ≤ maxLen) (hB : B.size ≤ maxLen) (ha : AF w a l) (hl : l.length ≤ maxLen) (hx : ∀ x ∈ l, x.1.size ≤ maxLen ∧ x.2.size ≤ maxLen) :
    Calls Tryz.prog 3 #[.agg #[.int .i64 S, .string R, .slice a l.length ca, .string B]] w fun e w' => e = .returned (.bool true) ∧ Below w.heap.size w w' := by
  have hgt := hT.lt
  have hgp := tab_lt hP
  have het := World.block_lt_of_cell? _ _ hE
  have HE : Hid (w.cell? ⟨1, 0, none⟩ = some (sent b)) := hE
  have HZ : Hid _ := fun w h => szResponse_any S R B a ca l w hR hB hl hx h
  have hb0 : Below w.heap.size w (w.alloc (.cells #[.int .i64 S, .string R, .slice a l.length ca, .string B] 24)) := (Below.refl _ _).alloc (Nat.le_refl _) _
  have HX0 : Hid (BoxP (w.alloc (.cells #[.int .i64 S, .string R, .slice a l.length ca, .string B] 24)) w.heap.size S R a l.length ca B) := BoxP.made w S R a l.length ca B _
  have HA : Hid (∀ w', Below w.heap.size w w' → AF w' a l) := fun _ h => ha.below h
  have hTT : Hid (Tab w) := hT
  have hPP : Hid (PowT w) := hP
  clear hx hl ha hE hT hP
  go_enter Tryz.func3, Tryz.ntmps3
  go_wp2_with fail
  refine (HZ.out _ (HA.out _ hb0)).mono ?_
  rintro e w1 ⟨v, rfl, hv, hb1'⟩
  have hb1 := hb0.trans (hb1'.mono hb0.size)
  have HX1 : Hid (BoxP w1 w.heap.size S R a l.length ca B) := HX0.out.below hb1'
  obtain ⟨x0, x1, x2, x3⟩ := HX1.out
  clear hb1' HX0 hb0
  by_cases hneg : v < 0
  · have hd : decide (v < 0) = true := decide_eq_true hneg
    go_wp2_with fail
    go_ret
    exact ⟨rfl, hb1⟩
  have hd : decide (v < 0) = false := decide_eq_false hneg
  obtain ⟨hR1, hB1, hl1, hx1⟩ := hv (by omega)
  have hzF : SzF l := by
    intro c hc
    obtain ⟨j, hj, rfl⟩ := List.getElem_of_mem hc
    have := hx1 j hj
    omega
  have HT : Hid (∀ w, AF w a l → _) := fun w h => toResponse_any S R B a ca l w hl1 h
  have HSp : Hid (∀ a' w lo hi, FV w a' l lo hi → Calls Tryz.prog 9 #[.agg #[.int .i64 S, .string R, .slice a' l.length l.length, .string B]] w fun e w' => (∃ a cap, e = .returned (.tuple #[.slice a (lstO (varyO S R l B)).length cap, .bool (stO (varyO S R l B)), .bool (varyO S R l B).isSome]) ∧ TV w' a (lstO (varyO S R l B)) w.heap.size w'.heap.size) ∧ Below w.heap.size w w') :=
    fun a' w lo hi h => (specVary_any S R B a' l.length l w lo hi (by omega) (by omega) hzF h).mono fun e w' ⟨h, hb⟩ => ⟨told_of h, hb⟩
  have HIm : Hid (∀ a' w lo hi, Tab w → PowT w → w.cell? ⟨1, 0, none⟩ = some (sent b) → FV w a' l lo hi → Calls Tryz.prog 11 #[.agg #[.int .i64 S, .string R, .slice a' l.length l.length, .string B]] w fun e w' => (∃ a cap, e = .returned (.tuple #[.slice a (lstO (varyO S R l B)).length cap, .bool (stO (varyO S R l B)), .bool (varyO S R l B).isSome]) ∧ TV w' a (lstO (varyO S R l B)) w.heap.size w'.heap.size) ∧ Below w.heap.size w w') :=
    fun a' w lo hi t p c h => (implVary_any S R B a' l.length l b w lo hi t p c (by omega) hzF (Nat.le_refl _) h).mono fun e w' ⟨h, hb⟩ => ⟨told_of h, hb⟩
  have HEF : Hid _ := fun a' b' w x y x' y' p q => eqResponse_any S R B a' b' l w x y x' y' (by omega) p q
  have HMR : Hid _ := fun a' w lo hi h => markR_any S R B a' l.length l w lo hi (by omega) h
  have hL := lst_len l S R B
  generalize lstO (varyO S R l B) = L at HSp HIm hL
  generalize stO (varyO S R l B) = st at HSp HIm
  generalize (varyO S R l B).isSome = ok at HSp HIm
  have HEq : Hid (∀ a b ca cb w lo hi lo' hi', TV w a L lo hi → TV w b L lo' hi' → Calls Tryz.prog 12 #[.slice a L.length ca, .slice b L.length cb] w fun e w' => e = .returned (.bool true) ∧ Below w.heap.size w w') :=
    fun a b ca cb w lo hi lo' hi' h1 h2 => eqS_any a b ca cb L w lo hi lo' hi' (by omega) h1 h2
  have HM : Hid (∀ a ca w lo hi, TV w a L lo hi → Calls Tryz.prog 15 #[.slice a L.length ca, .int .i64 1] w fun e w' => e = .returned (.int .i64 (1 + (L.length : Int))) ∧ TV w' a (marks 1 L.length) lo hi ∧ ∃ row, w.grownBy w' row ∧ ∀ g, row = some g → lo ≤ g ∧ g < hi) :=
    fun a ca w lo hi h => markS_one a ca L w lo hi (by omega) h
  have HH : Hid (∀ a ca w lo hi, TV w a (marks 1 L.length) lo hi → Calls Tryz.prog 16 #[.slice a L.length ca, .int .i64 1] w fun e w' => e = .returned (.int .i64 (1 + (L.length : Int))) ∧ Below w.heap.size w w') :=
    fun a ca w lo hi h => heldS_one a ca L.length w lo hi (by omega) h
  obtain ⟨nL, hnL⟩ : ∃ n, n = L.length := ⟨_, rfl⟩
  rw [← hnL] at HSp HIm HEq HM HH hL
  have hk0 : decide ((1 : Int) + 2 * (l.length : Int) < 0) = false := decide_eq_false (by omega)
  have hq0 : decide ((1 : Int) + (nL : Int) < 0) = false := decide_eq_false (by omega)
  clear hnL hx1 hl1 hv hzF hR1 hB1 hR hB
  go_wp2_with fail
  refine (HT.out _ (HA.out _ hb1)).mono ?_
  rintro e w2 ⟨⟨g2, rfl, T2⟩, hb2'⟩
  have hb2 := hb1.trans (hb2'.mono hb1.size)
  have HX2 : Hid (BoxP w2 w.heap.size S R a l.length ca B) := HX1.out.below hb2'
  clear hb2' x0 x1 x2 x3 HX1
  go_wp2_with fail
  refine (HSp.out _ _ _ _ T2).mono ?_
  rintro e w3 ⟨⟨a0, c0, rfl, V3⟩, hb3'⟩
  have hb3 := hb2.trans (hb3'.mono hb2.size)
  have s23 := hb2.size
  have HX3 : Hid (BoxP w3 w.heap.size S R a l.length ca B) := HX2.out.below hb3'
  obtain ⟨x0, x1, x2, x3⟩ := HX3.out
  have s03 : w.heap.size < w3.heap.size := World.block_lt_of_cell? _ _ x0
  clear hb3' T2 hb2 HX2
  go_wp2_with fail
  refine (HT.out _ (HA.out _ hb3)).mono ?_
  rintro e w4 ⟨⟨g4, rfl, X4⟩, hb4'⟩
  have hb4 := hb3.trans (hb4'.mono hb3.size)
  have V4 := V3.below hb4'
  have s34 := hb4'.size
  obtain ⟨w5, hw5⟩ : ∃ w5, w5 = w4.alloc (.cells #[.int .i64 S, .string R, .slice (some ⟨g4, 0, none⟩) l.length l.length, .string B] 31) := ⟨_, rfl⟩
  have hb45 : Below w4.heap.size w4 w5 := by rw [hw5]; exact (Below.refl _ _).alloc (Nat.le_refl _) _
  have s45 : w5.heap.size = w4.heap.size + 1 := by rw [hw5]; simp
  have HX5 : Hid (BoxP w5 w.heap.size S R a l.length ca B) := (HX3.out.below hb4').below hb45
  have HY5 : Hid (BoxP w5 w4.heap.size S R (some ⟨g4, 0, none⟩) l.length l.length B) := by rw [hw5]; exact BoxP.made w4 S R _ l.length l.length B _
  have X5 := X4.below hb45
  have V5 := V4.below hb45
  have hb5 := hb4.trans (hb45.mono hb4.size)
  have s3 := hb3.size
  clear hb4' hb3 x0 x1 x2 x3 HX3 X4 V3 V4
  have hT5 := hTT.out.below hb5 hgt
  have hP5 : PowT w5 := tab_below hPP.out hb5 hgp
  have hE5 := (hb5.cell (p := ⟨1, 0, none⟩) het).trans HE.out
  go_wp2_with fail
  rw [← hw5]
  clear hw5 hb45 hb4
  refine (HIm.out _ _ _ _ hT5 hP5 hE5 X5).mono ?_
  rintro e w6 ⟨⟨a1, c1, rfl, G6⟩, hb6'⟩
  have hb6 := hb5.trans (hb6'.mono hb5.size)
  have HX6 : Hid (BoxP w6 w.heap.size S R a l.length ca B) := HX5.out.below hb6'
  have HY6 : Hid (BoxP w6 w4.heap.size S R (some ⟨g4, 0, none⟩) l.length l.length B) := HY5.out.below hb6'
  have X6 := X5.below hb6'
  have V6 := V5.below hb6'
  clear hb6' X5 V5 HX5 HY5 hb5 hT5 hP5 hE5 HSp HZ
  go_wp2_with fail
  refine (HEq.out _ _ _ _ _ _ _ _ _ G6 V6).mono ?_
  rintro e w7 ⟨rfl, hb7'⟩
  have hb7 := hb6.trans (hb7'.mono hb6.size)
  have HX7 : Hid (BoxP w7 w.heap.size S R a l.length ca B) := HX6.out.below hb7'
  have HY7 : Hid (BoxP w7 w4.heap.size S R (some ⟨g4, 0, none⟩) l.length l.length B) := HY6.out.below hb7'
  obtain ⟨x0, x1, x2, x3⟩ := HX7.out
  obtain ⟨y0, y1, y2, y3⟩ := HY7.out
  have X7 := X6.below hb7'
  have V7 := V6.below hb7'
  have G7 := G6.below hb7'
  clear hb7' X6 V6 G6 HX6 HY6 hb6
  go_wp2_with fail
  go_region_with (first
    | (go_at_call 10; refine (HT.out _ (HA.out _ (by first | exact hb7.drew | exact hb7))).mono ?_; rintro e w8 ⟨⟨g8, rfl, T8⟩, hb8'⟩; have hb78 : Below w7.heap.size w7 w8 := (by first | exact hb8' | exact (Below.refl _ _).drew.trans hb8'); have hb8 := hb7.trans (hb78.mono hb7.size); have X8 := X7.below hb78; have V8 := V7.below hb78; have G8 := G7.below hb78; have HX8 : Hid (BoxP w8 w.heap.size S R a l.length ca B) := HX7.out.below hb78; have HY8 : Hid (BoxP w8 w4.heap.size S R (some ⟨g4, 0, none⟩) l.length l.length B) := HY7.out.below hb78; obtain ⟨z0, z1, z2, z3⟩ := HY7.out.below hb78; clear hb8' hb78)
    | (go_at_call 13; refine (HEF.out _ _ _ _ _ _ _ X8 T8).mono ?_; rintro e w9 ⟨rfl, hb9'⟩; have hb89 : Below w8.heap.size w8 w9 := (by first | exact hb9' | exact (Below.refl _ _).drew.trans hb9'); have hb9 := hb8.trans (hb89.mono hb8.size); have X9 := X8.below hb89; have V9 := V8.below hb89; have G9 := G8.below hb89; have HX9 : Hid (BoxP w9 w.heap.size S R a l.length ca B) := HX8.out.below hb89; have HY9 : Hid (BoxP w9 w4.heap.size S R (some ⟨g4, 0, none⟩) l.length l.length B) := HY8.out.below hb89; clear hb9' hb89))
  all_goals
    clear z0 z1 z2 z3 x0 x1 x2 x3 y0 y1 y2 y3 X7 V7 G7 HX7 HY7 X8 V8 G8 HX8 HY8 T8 hb7 hb8
    try obtain ⟨d0, d1, d2, d3⟩ := HY9.out.below (Below.refl w9.heap.size w9).drew
    obtain ⟨y0, y1, y2, y3⟩ := HY9.out
    go_wp2_with fail
    refine (HMR.out _ _ _ _ (by first | exact X9 | exact X9.below (Below.refl _ _).drew)).mono ?_
    rintro e w10 ⟨rfl, wb, row, hbb, hg, hrow⟩
    have hbw : Below w9.heap.size w9 wb := by first | exact hbb | exact (Below.refl _ _).drew.trans hbb
    have hb10 : Below w.heap.size w w10 := below_grown (hb9.trans (hbw.mono hb9.size)) hg (Nat.le_trans hb9.size hbw.size) (fun g e => Nat.le_trans s3 (hrow g e).1)
    have V10 := (V9.below hbw).kept hg (fun g e => (hrow g e).1)
    have G10 := TV.above (G9.below hbw) hg (fun g e => by have := (hrow g e).2; omega)
    have HX10 : Hid (BoxP w10 w.heap.size S R a l.length ca B) := BoxP.grown (HX9.out.below hbw) hg (fun e => by have := (hrow _ e).1; omega)
    clear hg hrow hbb hbw X9 V9 G9 HX9 HY9 hb9 y0 y1 y2 y3
    try clear d0 d1 d2 d3
    go_wp2_with fail
    refine (HEq.out _ _ _ _ _ _ _ _ _ G10 V10).mono ?_
    rintro e w11 ⟨rfl, hb11'⟩
    have hb11 := hb10.trans (hb11'.mono hb10.size)
    have V11 := V10.below hb11'
    have G11 := G10.below hb11'
    have HX11 : Hid (BoxP w11 w.heap.size S R a l.length ca B) := HX10.out.below hb11'
    clear hb11' V10 G10 HX10 hb10
    go_wp2_with fail
    refine (HM.out _ _ _ _ _ G11).mono ?_
    rintro e w12 ⟨rfl, M12, row, hg, hrow⟩
    have hb12 : Below w.heap.size w w12 := below_grown hb11 hg hb11.size (fun g e => by have := (hrow g e).1; omega)
    have V12 := V11.kept hg (fun g e => by have := (hrow g e).1; omega)
    have HX12 : Hid (BoxP w12 w.heap.size S R a l.length ca B) := BoxP.grown HX11.out hg (fun e => by have := (hrow _ e).1; omega)
    clear hg hrow V11 G11 HX11 hb11
    go_wp2_with fail
    refine (HH.out _ _ _ _ _ M12).mono ?_
    rintro e w13 ⟨rfl, hb13'⟩
    have hb13 := hb12.trans (hb13'.mono hb12.size)
    have V13 := V12.below hb13'
    have M13 := M12.below hb13'
    have HX13 : Hid (BoxP w13 w.heap.size S R a l.length ca B) := HX12.out.below hb13'
    obtain ⟨x0, x1, x2, x3⟩ := HX13.out
    clear hb13' V12 M12 HX12 hb12
    go_wp2_with fail
    refine (HT.out _ (HA.out _ hb13)).mono ?_
    rintro e w14 ⟨⟨g14, rfl, T14⟩, hb14'⟩
    have hb14 := hb13.trans (hb14'.mono hb13.size)
    have V14 := V13.below hb14'
    have M14 := M13.below hb14'
    clear hb14' V13 M13 x0 x1 x2 x3 HX13 hb13
    go_wp2_with fail
    refine (HIm.out _ _ _ _ (hTT.out.below hb14 hgt) (tab_below hPP.out hb14 hgp) ((hb14.cell (p := ⟨1, 0, none⟩) het).trans HE.out) T14).mono ?_
    rintro e w15 ⟨⟨a2, c2, rfl, G15⟩, hb15'⟩
    have hb15 := hb14.trans (hb15'.mono hb14.size)
    have V15 := V14.below hb15'
    have M15 := M14.below hb15'
    clear hb15' V14 M14 hb14 T14
    go_wp2_with fail
    refine (HEq.out _ _ _ _ _ _ _ _ _ G15 V15).mono ?_
    rintro e w16 ⟨rfl, hb16'⟩
    have hb16 := hb15.trans (hb16'.mono hb15.size)
    have M16 := M15.below hb16'
    clear hb16' V15 M15 hb15 G15
    go_wp2_with fail
    refine (HH.out _ _ _ _ _ M16).mono ?_
    rintro e w17 ⟨rfl, hb17'⟩
    have hb17 := hb16.trans (hb17'.mono hb16.size)
    go_wp2_with fail
    go_ret
    exact ⟨rfl, hb17⟩

end Go.Proofs.YtfgcgnhffljiaaaGreatDoor.Vrw
