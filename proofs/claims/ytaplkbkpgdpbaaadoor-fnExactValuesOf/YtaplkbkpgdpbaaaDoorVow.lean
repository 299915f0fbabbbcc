/-
  Walks: the law FnExactValuesOf.
-/
import Derived.Test.YtaplkbkpgdpbaaaDoorVof
import Derived.Test.YtaplkbkpgdpbaaaDoorVsp
import Derived.Test.YtaplkbkpgdpbaaaDoorFds
namespace Go.Proofs.YtaplkbkpgdpbaaaDoor.Vow
open Go.RowKit
open Go.Proofs.YtaplkbkpgdpbaaaDoor.Fbs
open Go.Proofs.YtaplkbkpgdpbaaaDoor.Fch
open Go.Proofs.YtaplkbkpgdpbaaaDoor.Ows
open Go.Proofs.YtaplkbkpgdpbaaaDoor.Fdb
open Go.Proofs.YtaplkbkpgdpbaaaDoor.Fds (AF ShortF szFieldS_any toFieldS_any)
open Go.Proofs.YtaplkbkpgdpbaaaDoor.Fvs
open Go.Proofs.YtaplkbkpgdpbaaaDoor.Vof (implVals_any)
open Go.Proofs.YtaplkbkpgdpbaaaDoor.Lsp (Told)
open Go.Proofs.YtaplkbkpgdpbaaaDoor.Mrk (TV RowT lst told_tv marks eqS_any markS_one heldS_one below_grown)

/-- A list above what has turned is as it was. -/
theorem TV.above {w w' : World} {a : Option Addr} {l : List ByteArray} {lo hi : Nat} (h : TV w a l lo hi) {row : Option Nat} (hg : w.grownBy w' row) (hr : ∀ g, row = some g → g < lo) : TV w' a l lo hi := by
  rcases h with h | ⟨g, h1, h2, h3, h4, h5, h6⟩
  · exact .inl h
  · have hb : w'.heap[g]? = w.heap[g]? := hg.block g h4 (fun e => by have := hr g e.symm; omega)
    refine .inr ⟨g, h1, h2, h3, Nat.lt_of_lt_of_le h4 hg.size, fun i => ?_, fun i x hx => ?_⟩
    · rw [← h5 i]; unfold World.frozen?; rw [hb]
    · rw [← h6 i x hx]; unfold World.cell?; rw [hb]
theorem AF.grown {w w1 w' : World} {a : Option Addr} {l : List (ByteArray × ByteArray)} (h : AF w a l) (hb : Below w.heap.size w w1) {row : Option Nat} (hg : w1.grownBy w' row) (hr : ∀ g, row = some g → w.heap.size ≤ g) : AF w' a l :=
  h.below (below_grown hb hg hb.size hr)

set_option maxHeartbeats 3200000 in
theorem walk (a : Option Addr) (ca : Nat) (l : List (ByteArray × ByteArray)) (n : ByteArray) (w : World) (hT : Tab w) (hl : l.length ≤ maxLen) (hx : ∀ x ∈ l, x.1.size ≤ maxLen ∧ x.2.size ≤ maxLen) (ha : AF w a l) :
    Calls Tryd.prog 5 #[.slice a l.length ca, .string n] w fun e w' => e = .returned (.bool true) ∧ Below w.heap.size w w' := by
  have hgt := hT.lt
  by_cases hz : 1048576 < n.size
  · go_enter Tryd.func5, Tryd.ntmps5
    go_wp2_with fail
    go_ret
    exact ⟨rfl, Below.refl _ _⟩
  have HZ : Hid (Calls Tryd.prog 29 #[.slice a l.length ca, .int .i64 1048576] w fun e w' => ∃ v : Int, e = .returned (.int .i64 v) ∧ v ≤ 1048576 ∧ ShortF l v ∧ Below w.heap.size w w') := szFieldS_any a ca l 1048576 w (Nat.le_refl _) hl hx ha
  go_enter Tryd.func5, Tryd.ntmps5
  go_wp2_with fail
  refine (Calls.mono HZ.out ?_)
  rintro e w1 ⟨v, rfl, _, hv, hb1⟩
  by_cases hneg : v < 0
  · have hd : decide (v < 0) = true := decide_eq_true hneg
    go_wp2_with fail
    go_ret
    exact ⟨rfl, hb1⟩
  have hd : decide (v < 0) = false := decide_eq_false hneg
  obtain ⟨hl1, hx1⟩ := hv (by omega)
  have hzF : SzF l := by
    intro c hc
    obtain ⟨j, hj, rfl⟩ := List.getElem_of_mem hc
    have := hx1 j hj
    omega
  have HT : Hid _ := fun w h => toFieldS_any a ca l w hl1 h
  have HSp : Hid (∀ a' w lo hi, FV w a' l lo hi → Calls Tryd.prog 20 #[.slice a' l.length l.length, .string n] w fun e w' => (∃ a cap, e = .returned (.tuple #[.slice a (lst (valO l n)).length cap, .bool (valO l n).isSome]) ∧ TV w' a (lst (valO l n)) w.heap.size w'.heap.size) ∧ Below w.heap.size w w') :=
    fun a' w lo hi h => (specVals_any a' l.length l n w lo hi (by omega) (by omega) hzF h).mono fun e w' ⟨h, hb⟩ => ⟨told_tv h, hb⟩
  have HIm : Hid (∀ a' w lo hi, Tab w → FV w a' l lo hi → Calls Tryd.prog 18 #[.slice a' l.length l.length, .string n] w fun e w' => (∃ a cap, e = .returned (.tuple #[.slice a (lst (valO l n)).length cap, .bool (valO l n).isSome]) ∧ TV w' a (lst (valO l n)) w.heap.size w'.heap.size) ∧ Below w.heap.size w w') :=
    fun a' w lo hi t h => (implVals_any a' l.length l n w lo hi t (by omega) hzF (Nat.le_refl _) h).mono fun e w' ⟨h, hb⟩ => ⟨told_tv h, hb⟩
  have HEF : Hid _ := fun a' b' w x y x' y' p q => eqFS_any a' b' l.length l.length l w x y x' y' (by omega) p q
  have HMF : Hid _ := fun a' w x y p => markF_one a' l.length l w x y (by omega) p
  have hL : (lst (valO l n)).length ≤ 400000 := by
    unfold valO
    split
    · show (valsOf n l).length ≤ _
      rename_i h
      have := valsOf_len n l
      have := (goodL_all h.1).1
      omega
    · exact Nat.zero_le _
  generalize lst (valO l n) = L at HSp HIm hL
  generalize (valO l n).isSome = ok at HSp HIm
  have HE : Hid (∀ a b ca cb w lo hi lo' hi', TV w a L lo hi → TV w b L lo' hi' → Calls Tryd.prog 31 #[.slice a L.length ca, .slice b L.length cb] w fun e w' => e = .returned (.bool true) ∧ Below w.heap.size w w') :=
    fun a b ca cb w lo hi lo' hi' h1 h2 => eqS_any a b ca cb L w lo hi lo' hi' (by omega) h1 h2
  have HM : Hid (∀ a ca w lo hi, TV w a L lo hi → Calls Tryd.prog 34 #[.slice a L.length ca, .int .i64 1] w fun e w' => e = .returned (.int .i64 (1 + (L.length : Int))) ∧ TV w' a (marks 1 L.length) lo hi ∧ ∃ row, w.grownBy w' row ∧ ∀ g, row = some g → lo ≤ g ∧ g < hi) :=
    fun a ca w lo hi h => markS_one a ca L w lo hi (by omega) h
  have HH : Hid (∀ a ca w lo hi, TV w a (marks 1 L.length) lo hi → Calls Tryd.prog 35 #[.slice a L.length ca, .int .i64 1] w fun e w' => e = .returned (.int .i64 (1 + (L.length : Int))) ∧ Below w.heap.size w w') :=
    fun a ca w lo hi h => heldS_one a ca L.length w lo hi (by omega) h
  obtain ⟨nL, hnL⟩ : ∃ n, n = L.length := ⟨_, rfl⟩
  obtain ⟨nl, hnl⟩ : ∃ n, n = l.length := ⟨_, rfl⟩
  rw [← hnL] at HSp HIm HE HM HH hL
  have HA : Hid (AF w a l) := ha
  have hk0 : decide ((1 : Int) + 2 * (l.length : Int) < 0) = false := decide_eq_false (by omega)
  have hq0 : decide ((1 : Int) + (nL : Int) < 0) = false := decide_eq_false (by omega)
  clear hnL hnl hx hx1 hl hv ha hzF
  go_wp2_with fail
  refine (HT.out _ (HA.out.below hb1)).mono ?_
  rintro e w2 ⟨rfl, T2, hb2'⟩
  have hb2 := hb1.trans (hb2'.mono hb1.size)
  clear hb2'
  go_wp2_with fail
  refine (HSp.out _ _ _ _ T2).mono ?_
  rintro e w3 ⟨⟨a0, c0, rfl, V3⟩, hb3'⟩
  have hb3 := hb2.trans (hb3'.mono hb2.size)
  clear hb3' T2 hb2
  go_wp2_with fail
  refine (HT.out _ (HA.out.below hb3)).mono ?_
  rintro e w4 ⟨rfl, X4, hb4'⟩
  have hb4 := hb3.trans (hb4'.mono hb3.size)
  have V4 := V3.below hb4'
  have s34 := hb4'.size
  have s3 := hb3.size
  clear hb4' hb3 V3
  go_wp2_with fail
  refine (HIm.out _ _ _ _ (hT.below hb4 hgt) X4).mono ?_
  rintro e w5 ⟨⟨a1, c1, rfl, G5⟩, hb5'⟩
  have hb5 := hb4.trans (hb5'.mono hb4.size)
  have X5 := X4.below hb5'
  have V5 := V4.below hb5'
  have s4 := hb4.size
  clear hb5' X4 V4 hb4
  go_wp2_with fail
  refine (HE.out _ _ _ _ _ _ _ _ _ G5 V5).mono ?_
  rintro e w6 ⟨rfl, hb6'⟩
  have hb6 := hb5.trans (hb6'.mono hb5.size)
  have X6 := X5.below hb6'
  have V6 := V5.below hb6'
  have G6 := G5.below hb6'
  clear hb6' X5 V5 G5 hb5
  go_wp2_with fail
  refine (HT.out _ (HA.out.below hb6)).mono ?_
  rintro e w7 ⟨rfl, T7, hb7'⟩
  have hb7 := hb6.trans (hb7'.mono hb6.size)
  have X7 := X6.below hb7'
  have V7 := V6.below hb7'
  have G7 := G6.below hb7'
  clear hb7' X6 V6 G6 hb6
  go_wp2_with fail
  refine (HEF.out _ _ _ _ _ _ _ X7 T7).mono ?_
  rintro e w8 ⟨rfl, hb8'⟩
  have hb8 := hb7.trans (hb8'.mono hb7.size)
  have X8 := X7.below hb8'
  have V8 := V7.below hb8'
  have G8 := G7.below hb8'
  clear hb8' X7 V7 G7 hb7 T7
  go_wp2_with fail
  refine (HMF.out _ _ _ _ X8).mono ?_
  rintro e w9 ⟨rfl, _, row, hg, hrow⟩
  have hb9 := below_grown hb8 hg hb8.size (fun g e => Nat.le_trans s3 (hrow g e).1)
  have V9 := V8.kept hg (fun g e => (hrow g e).1)
  have G9 := TV.above G8 hg (fun g e => (hrow g e).2)
  clear hg hrow X8 V8 G8 hb8
  go_wp2_with fail
  refine (HE.out _ _ _ _ _ _ _ _ _ G9 V9).mono ?_
  rintro e w10 ⟨rfl, hb10'⟩
  have hb10 := hb9.trans (hb10'.mono hb9.size)
  have V10 := V9.below hb10'
  have G10 := G9.below hb10'
  clear hb10' V9 G9 hb9
  go_wp2_with fail
  refine (HM.out _ _ _ _ _ G10).mono ?_
  rintro e w11 ⟨rfl, M11, row, hg, hrow⟩
  have hb11 := below_grown hb10 hg hb10.size (fun g e => Nat.le_trans s4 (hrow g e).1)
  have V11 := V10.kept hg (fun g e => by have := (hrow g e).1; omega)
  clear hg hrow V10 G10 hb10
  go_wp2_with fail
  refine (HH.out _ _ _ _ _ M11).mono ?_
  rintro e w12 ⟨rfl, hb12'⟩
  have hb12 := hb11.trans (hb12'.mono hb11.size)
  have V12 := V11.below hb12'
  have M12 := M11.below hb12'
  clear hb12' V11 M11 hb11
  go_wp2_with fail
  refine (HT.out _ (HA.out.below hb12)).mono ?_
  rintro e w13 ⟨rfl, T13, hb13'⟩
  have hb13 := hb12.trans (hb13'.mono hb12.size)
  have V13 := V12.below hb13'
  have M13 := M12.below hb13'
  clear hb13' V12 M12 hb12
  go_wp2_with fail
  refine (HIm.out _ _ _ _ (hT.below hb13 hgt) T13).mono ?_
  rintro e w14 ⟨⟨a2, c2, rfl, G14⟩, hb14'⟩
  have hb14 := hb13.trans (hb14'.mono hb13.size)
  have V14 := V13.below hb14'
  have M14 := M13.below hb14'
  clear hb14' V13 M13 hb13 T13
  go_wp2_with fail
  refine (HE.out _ _ _ _ _ _ _ _ _ G14 V14).mono ?_
  rintro e w15 ⟨rfl, hb15'⟩
  have hb15 := hb14.trans (hb15'.mono hb14.size)
  have M15 := M14.below hb15'
  clear hb15' V14 M14 hb14 G14
  go_wp2_with fail
  refine (HH.out _ _ _ _ _ M15).mono ?_
  rintro e w16 ⟨rfl, hb16'⟩
  have hb16 := hb15.trans (hb16'.mono hb15.size)
  go_wp2_with fail
  go_ret
  exact ⟨rfl, hb16⟩

end Go.Proofs.YtaplkbkpgdpbaaaDoor.Vow
