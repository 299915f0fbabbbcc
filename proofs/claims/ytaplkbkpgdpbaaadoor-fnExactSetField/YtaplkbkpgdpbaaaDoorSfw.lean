/-
  Walks: the law FnExactSetField.
-/
import Derived.Test.YtaplkbkpgdpbaaaDoorSfi
import Derived.Test.YtaplkbkpgdpbaaaDoorFds
namespace Go.Proofs.YtaplkbkpgdpbaaaDoor.Sfw
open Go.RowKit
open Go.Proofs.YtaplkbkpgdpbaaaDoor.Fbs
open Go.Proofs.YtaplkbkpgdpbaaaDoor.Fch
open Go.Proofs.YtaplkbkpgdpbaaaDoor.Fdb
open Go.Proofs.YtaplkbkpgdpbaaaDoor.Fds (AF ShortF szFieldS_any toFieldS_any size_any)
open Go.Proofs.YtaplkbkpgdpbaaaDoor.Fvs
open Go.Proofs.YtaplkbkpgdpbaaaDoor.Stf
open Go.Proofs.YtaplkbkpgdpbaaaDoor.Mrk (below_grown)

/-- A list above what has turned is as it was. -/
theorem FV.above {w w' : World} {a : Option Addr} {l : List (ByteArray × ByteArray)} {lo hi : Nat} (h : FV w a l lo hi) {row : Option Nat} (hg : w.grownBy w' row) (hr : ∀ g, row = some g → g < lo) : FV w' a l lo hi := by
  rcases h with h | ⟨g, h1, h2, h3, h4, h5, h6⟩
  · exact .inl h
  · have hb : w'.heap[g]? = w.heap[g]? := hg.block g h4 (fun e => by have := hr g e.symm; omega)
    have hc : ∀ i, w'.cell? ⟨g, i, none⟩ = w.cell? ⟨g, i, none⟩ := fun i => by unfold World.cell?; rw [hb]
    refine .inr ⟨g, h1, h2, h3, Nat.lt_of_lt_of_le h4 hg.size, fun i => ?_, fun i c hi => ⟨(hc _).trans (h6 i c hi).1, (hc _).trans (h6 i c hi).2⟩⟩
    have := h5 i
    unfold World.frozen? at this ⊢
    rwa [hb]

set_option maxHeartbeats 3200000 in
theorem walk (a : Option Addr) (ca : Nat) (l : List (ByteArray × ByteArray)) (S V : ByteArray) (w : World) (hT : Tab w) (hl : l.length ≤ maxLen) (hx : ∀ x ∈ l, x.1.size ≤ maxLen ∧ x.2.size ≤ maxLen) (ha : AF w a l) (hS : S.size ≤ maxLen) (hV : V.size ≤ maxLen) :
    Calls Tryd.prog 7 #[.slice a l.length ca, .agg #[.string S, .string V]] w fun e w' => e = .returned (.bool true) ∧ Below w.heap.size w w' := by
  have hgt := hT.lt
  have HZ : Hid (∀ w, AF w a l → Calls Tryd.prog 29 #[.slice a l.length ca, .int .i64 1048576] w fun e w' => ∃ v : Int, e = .returned (.int .i64 v) ∧ v ≤ 1048576 ∧ ShortF l v ∧ Below w.heap.size w w') := fun w h => szFieldS_any a ca l 1048576 w (Nat.le_refl _) hl hx h
  have HZ1 : Hid _ := fun L w h => size_any S V L hS hV h w
  have HA : Hid (AF w a l) := ha
  have hb0 : Below w.heap.size w (w.alloc (.cells #[.string S, .string V] 55)) := (Below.refl _ _).alloc (Nat.le_refl _) _
  have hS0 : (w.alloc (.cells #[.string S, .string V] 55)).cell? ⟨w.heap.size, 0, none⟩ = some (.string S) := by simp [go_sem]
  have hV0 : (w.alloc (.cells #[.string S, .string V] 55)).cell? ⟨w.heap.size, 1, none⟩ = some (.string V) := by simp [go_sem]
  have hp0 : w.heap.size < (w.alloc (.cells #[.string S, .string V] 55)).heap.size := by simp
  clear hl hx ha hS hV
  go_enter Tryd.func7, Tryd.ntmps7
  go_wp2_with fail
  generalize w.alloc (.cells #[.string S, .string V] 55) = w0 at *
  have HC : Hid (∀ wn, Below w0.heap.size w0 wn → wn.cell? ⟨w.heap.size, 0, none⟩ = some (.string S) ∧ wn.cell? ⟨w.heap.size, 1, none⟩ = some (.string V)) :=
    fun wn h => ⟨(h.cell (p := ⟨w.heap.size, 0, none⟩) hp0).trans hS0, (h.cell (p := ⟨w.heap.size, 1, none⟩) hp0).trans hV0⟩
  have HT0 := hT.below hb0 hgt
  have hgt0 := HT0.lt
  have HA0 : Hid (AF w0 a l) := HA.out.below hb0
  clear hS0 hV0 HA hT
  refine (HZ.out _ HA0.out).mono ?_
  rintro e w1 ⟨v, rfl, hvle, hv, hb1⟩
  by_cases hneg : v < 0
  · have hd : decide (v < 0) = true := decide_eq_true hneg
    have hbe := hb0.trans (hb1.mono hb0.size)
    go_wp2_with fail
    go_ret
    exact ⟨rfl, hbe⟩
  have hd : decide (v < 0) = false := decide_eq_false hneg
  obtain ⟨hl1, hx1⟩ := hv (by omega)
  obtain ⟨vn, rfl⟩ : ∃ n : Nat, v = n := ⟨v.toNat, by omega⟩
  have HZ2 : Hid _ := HZ1.out vn
  obtain ⟨hcS1, hcV1⟩ := HC.out _ hb1
  have hvn : vn ≤ 1048576 := by omega
  clear HZ HZ1 hneg hvle hv
  go_wp2_with fail
  refine (HZ2.out _ (by omega)).mono ?_
  rintro e w1b ⟨⟨v2, rfl, _, hv2⟩, hb1b'⟩
  have hb1b := hb1.trans (hb1b'.mono hb1.size)
  clear hcS1 hcV1 hb1b' hb1 HZ2 hd
  rcases hv2 with hneg | ⟨m2, rfl, hS, hV⟩
  · have hd : decide (v2 < 0) = true := decide_eq_true hneg
    have hbe := hb0.trans (hb1b.mono hb0.size)
    go_wp2_with fail
    go_ret
    exact ⟨rfl, hbe⟩
  have hzF : SzF l := by
    intro c hc
    obtain ⟨j, hj, rfl⟩ := List.getElem_of_mem hc
    have := hx1 j hj
    omega
  have HT : Hid _ := fun w h => toFieldS_any a ca l w hl1 h
  have HTf : Hid _ := fun w => Lwf.toField_any S V w
  have HSp : Hid (∀ a' w lo hi, FV w a' l lo hi → Calls Tryd.prog 16 #[.slice a' l.length l.length, .agg #[.string S, .string V]] w fun e w' => (∃ a cap, e = .returned (.tuple #[.slice a (lstF (setO S V l)).length cap, .bool (setO S V l).isSome]) ∧ FV w' a (lstF (setO S V l)) w.heap.size w'.heap.size) ∧ Below w.heap.size w w') :=
    fun a' w lo hi h => (specSet_any a' l.length l S V w lo hi (by omega) (by omega) (by omega) hzF h).mono fun e w' ⟨h, hb⟩ => ⟨told_fv h, hb⟩
  have HIm : Hid (∀ a' w lo hi, Tab w → FV w a' l lo hi → Calls Tryd.prog 15 #[.slice a' l.length l.length, .agg #[.string S, .string V]] w fun e w' => (∃ a cap, e = .returned (.tuple #[.slice a (lstF (setO S V l)).length cap, .bool (setO S V l).isSome]) ∧ FV w' a (lstF (setO S V l)) w.heap.size w'.heap.size) ∧ Below w.heap.size w w') :=
    fun a' w lo hi t h => (implSet_any a' l.length l S V w lo hi t (by omega) (by omega) hzF h).mono fun e w' ⟨h, hb⟩ => ⟨told_fv h, hb⟩
  have HEF : Hid _ := fun a' b' w x y x' y' p q => eqFS_any a' b' l.length l.length l w x y x' y' (by omega) p q
  have HMF : Hid _ := fun a' w x y p => markF_one a' l.length l w x y (by omega) p
  have hL : (lstF (setO S V l)).length ≤ 400000 := by
    unfold setO
    split
    · split
      · exact Nat.zero_le _
      · show (setL S V l).length ≤ _
        omega
    · exact Nat.zero_le _
  generalize lstF (setO S V l) = L at HSp HIm hL
  generalize (setO S V l).isSome = ok at HSp HIm
  have HE : Hid (∀ a b ca cb w lo hi lo' hi', FV w a L lo hi → FV w b L lo' hi' → Calls Tryd.prog 32 #[.slice a L.length ca, .slice b L.length cb] w fun e w' => e = .returned (.bool true) ∧ Below w.heap.size w w') :=
    fun a b ca cb w lo hi lo' hi' h1 h2 => eqFS_any a b ca cb L w lo hi lo' hi' (by omega) h1 h2
  have HM : Hid (∀ a ca w lo hi, FV w a L lo hi → Calls Tryd.prog 33 #[.slice a L.length ca, .int .i64 1] w fun e w' => e = .returned (.int .i64 (1 + 2 * (L.length : Int))) ∧ FV w' a (marksF 1 L.length) lo hi ∧ ∃ row, w.grownBy w' row ∧ ∀ g, row = some g → lo ≤ g ∧ g < hi) :=
    fun a ca w lo hi h => markF_one a ca L w lo hi (by omega) h
  have HH : Hid (∀ a ca w lo hi, FV w a (marksF 1 L.length) lo hi → Calls Tryd.prog 39 #[.slice a L.length ca, .int .i64 1] w fun e w' => e = .returned (.int .i64 (1 + 2 * (L.length : Int))) ∧ Below w.heap.size w w') :=
    fun a ca w lo hi h => heldF_one a ca L.length w lo hi (by omega) h
  obtain ⟨nL, hnL⟩ : ∃ n, n = L.length := ⟨_, rfl⟩
  rw [← hnL] at HSp HIm HE HM HH hL
  have hd : decide ((m2 : Int) < 0) = false := decide_eq_false (by omega)
  have hk0 : decide ((1 : Int) + 2 * (l.length : Int) < 0) = false := decide_eq_false (by omega)
  have hq0 : decide ((1 : Int) + 2 * (nL : Int) < 0) = false := decide_eq_false (by omega)
  clear hnL hx1 hzF hS hV hvn
  obtain ⟨hcS1, hcV1⟩ := HC.out _ hb1b
  go_wp2_with fail
  go_region_with (first
    | (go_at_call 30; refine (HT.out _ (HA0.out.below hb1b.drew)).mono ?_; rintro e w2 ⟨rfl, T2, hb2'⟩; have hb2 := hb1b.drew.trans (hb2'.mono hb1b.size); obtain ⟨hcS2, hcV2⟩ := HC.out _ hb2)
    | (go_at_call 38; refine (HTf.out _).mono ?_; rintro e w2b ⟨rfl, hb2b'⟩; have hb2b := hb2.trans (hb2b'.mono hb2.size); have T2b := T2.below hb2b')
    | (go_at_call 16; refine (HSp.out _ _ _ _ T2b).mono ?_; rintro e w3 ⟨⟨a0, c0, rfl, V3⟩, hb3'⟩; have hb3 := hb2b.trans (hb3'.mono hb2b.size)))
  all_goals
    clear hb3' T2b hb2b T2 hb2 hcS1 hcV1 hcS2 hcV2
    go_wp2_with fail
    refine (HT.out _ (HA0.out.below hb3)).mono ?_
    rintro e w4 ⟨rfl, X4, hb4'⟩
    have hb4 := hb3.trans (hb4'.mono hb3.size)
    have V4 := V3.below hb4'
    have s3 := hb3.size
    have s34 := hb4'.size
    clear hb4' hb3 V3
    obtain ⟨hcS, hcV⟩ := HC.out _ hb4
    go_wp2_with fail
    refine (HTf.out _).mono ?_
    rintro e w4b ⟨rfl, hb4b'⟩
    have hb4b := hb4.trans (hb4b'.mono hb4.size)
    have X4b := X4.below hb4b'
    have V4b := V4.below hb4b'
    have s4b := hb4b'.size
    clear hb4b' hcS hcV X4 V4 hb4
    go_wp2_with fail
    refine (HIm.out _ _ _ _ (HT0.below hb4b hgt0) X4b).mono ?_
    rintro e w5 ⟨⟨a1, c1, rfl, G5⟩, hb5'⟩
    have hb5 := hb4b.trans (hb5'.mono hb4b.size)
    have X5 := X4b.below hb5'
    have V5 := V4b.below hb5'
    have s4 := hb4b.size
    clear hb5' X4b V4b hb4b
    go_wp2_with fail
    refine (HE.out _ _ _ _ _ _ _ _ _ G5 V5).mono ?_
    rintro e w6 ⟨rfl, hb6'⟩
    have hb6 := hb5.trans (hb6'.mono hb5.size)
    have X6 := X5.below hb6'
    have V6 := V5.below hb6'
    have G6 := G5.below hb6'
    clear hb6' X5 V5 G5 hb5
    go_wp2_with fail
    refine (HT.out _ (HA0.out.below hb6)).mono ?_
    rintro e w7 ⟨rfl, T7, hb7'⟩
    have hb7 := hb6.trans (hb7'.mono hb6.size)
    have X7 := X6.below hb7'
    have V7 := V6.below hb7'
    have G7 := G6.below hb7'
    clear hb7' X6 V6 G6 hb6
    go_wp2_with fail
    refine (HEF.out _ _ _ _ _ _ _ X7 T7).mono ?_
    rintro e w8 ⟨rfl, hb8'⟩
    have hb8 := hb7.trans (hb8'.mono hb7.size)
    have X8 := X7.below hb8'
    have V8 := V7.below hb8'
    have G8 := G7.below hb8'
    clear hb8' X7 V7 G7 hb7 T7
    go_wp2_with fail
    refine (HMF.out _ _ _ _ X8).mono ?_
    rintro e w9 ⟨rfl, _, row, hg, hrow⟩
    have hb9 := below_grown hb8 hg hb8.size (fun g e => Nat.le_trans s3 (hrow g e).1)
    have V9 := V8.kept hg (fun g e => (hrow g e).1)
    have G9 := FV.above G8 hg (fun g e => by have := (hrow g e).2; omega)
    clear hg hrow X8 V8 G8 hb8
    go_wp2_with fail
    refine (HE.out _ _ _ _ _ _ _ _ _ G9 V9).mono ?_
    rintro e w10 ⟨rfl, hb10'⟩
    have hb10 := hb9.trans (hb10'.mono hb9.size)
    have V10 := V9.below hb10'
    have G10 := G9.below hb10'
    clear hb10' V9 G9 hb9
    go_wp2_with fail
    refine (HM.out _ _ _ _ _ G10).mono ?_
    rintro e w11 ⟨rfl, M11, row, hg, hrow⟩
    have hb11 := below_grown hb10 hg hb10.size (fun g e => Nat.le_trans s4 (hrow g e).1)
    have V11 := V10.kept hg (fun g e => by have := (hrow g e).1; omega)
    clear hg hrow V10 G10 hb10
    go_wp2_with fail
    refine (HH.out _ _ _ _ _ M11).mono ?_
    rintro e w12 ⟨rfl, hb12'⟩
    have hb12 := hb11.trans (hb12'.mono hb11.size)
    have V12 := V11.below hb12'
    have M12 := M11.below hb12'
    have V12d := V12.below (Mrk.below_drewN w12 1)
    have M12d := M12.below (Mrk.below_drewN w12 1)
    clear hb12' V11 M11 hb11
    obtain ⟨hcS12, hcV12⟩ := HC.out _ hb12
    go_wp2_with fail
    go_region_with (first
      | (go_at_call 30; refine (HT.out _ (HA0.out.below hb12.drew)).mono ?_; rintro e w13 ⟨rfl, T13, hb13'⟩; have hb13 := hb12.drew.trans (hb13'.mono hb12.size); obtain ⟨hcS13, hcV13⟩ := HC.out _ hb13; have V13 := V12d.below hb13'; have M13 := M12d.below hb13')
      | (go_at_call 38; refine (HTf.out _).mono ?_; rintro e w13b ⟨rfl, hb13b'⟩; have hb13b := hb13.trans (hb13b'.mono hb13.size); have T13b := T13.below hb13b'; have V13b := V13.below hb13b'; have M13b := M13.below hb13b')
      | (go_at_call 15; refine (HIm.out _ _ _ _ (HT0.below hb13b hgt0) T13b).mono ?_; rintro e w14 ⟨⟨a2, c2, rfl, G14⟩, hb14'⟩; have hb14 := hb13b.trans (hb14'.mono hb13b.size)))
    all_goals
      have V14 := V13b.below hb14'
      have M14 := M13b.below hb14'
      clear hb14'
      go_wp2_with fail
      refine (HE.out _ _ _ _ _ _ _ _ _ G14 V14).mono ?_
      rintro e w15 ⟨rfl, hb15'⟩
      have hb15 := hb14.trans (hb15'.mono hb14.size)
      have M15 := M14.below hb15'
      clear hb15' V14 M14 hb14 G14
      go_wp2_with fail
      refine (HH.out _ _ _ _ _ M15).mono ?_
      rintro e w16 ⟨rfl, hb16'⟩
      have hb16 := hb15.trans (hb16'.mono hb15.size)
      have hbe := hb0.trans (hb16.mono hb0.size)
      go_wp2_with fail
      go_ret
      exact ⟨rfl, hbe⟩

end Go.Proofs.YtaplkbkpgdpbaaaDoor.Sfw
