/-
  Walk: the law FnExactPasteSpans, over what impl.PasteSpans answers.
-/
import Derived.Test.YtelpmkbjegimpaaSpx
import Derived.Test.YtelpmkbjegimpaaSps
import Derived.Test.YtelpmkbjegimpaaStc
namespace Go.Proofs.Ytelpmkbjegimpaa.Spw
open Go.RowKit
open Go.Proofs.Ytelpmkbjegimpaa.Fbs
open Go.Proofs.Ytelpmkbjegimpaa.Ows
open Go.Proofs.Ytelpmkbjegimpaa.Mrk (TV RowT eqS_any)
open Go.Proofs.Ytelpmkbjegimpaa.Sts
open Go.Proofs.Ytelpmkbjegimpaa.Sps (AP toSpanS_any)
open Go.Proofs.Ytelpmkbjegimpaa.Spb

set_option maxHeartbeats 800000 in
theorem szStringS_from (L : Int) (hL0 : 0 ≤ L) (hL1 : L ≤ 1048576) (a : Option Addr) (ca : Nat) (l : List ByteArray) (w : World) (hl : l.length ≤ maxLen) (hx : ∀ x ∈ l, x.size ≤ maxLen) (ha : AV w a l) :
    Calls Try.prog 26 #[.slice a l.length ca, .int .i64 L] w fun e w' => ∃ v : Int, e = .returned (.int .i64 v) ∧ Short l v ∧ Below w.heap.size w w' := by
  unfold maxLen at hl hx
  have w1 : IntKind.i64.wrap (L - (l.length : Int)) = L - (l.length : Int) := by rw [IntKind.wrap_i64]; omega
  by_cases hlong : L < l.length
  · have hd : decide (L - (l.length : Int) < 0) = true := decide_eq_true (by omega)
    go_enter Try.func26, Try.ntmps26
    go_wp2_with fail
    go_ret
    exact ⟨-1, rfl, fun h => absurd h (by decide), Below.refl _ _⟩
  have hd : decide (L - (l.length : Int) < 0) = false := decide_eq_false (by omega)
  by_cases h0 : l = []
  · subst h0
    have hd0 : decide (L < 0) = false := decide_eq_false (by omega)
    go_enter Try.func26, Try.ntmps26
    go_wp2_with fail
    go_loop [1, 5] (fun lv i => lv = .int .i64 L ∧ i = .int .i64 0) (fun _ _ => 0)
    case atStart => exact ⟨by first | rfl | simp, rfl⟩
    case round =>
      obtain ⟨rfl, rfl⟩ := hrel
      go_wp2_with fail
      go_ret
      exact ⟨_, rfl, fun _ => ⟨Nat.zero_le _, fun j hj => absurd hj (by simp)⟩, Below.refl _ _⟩
  rcases ha with ha | ⟨ad, rfl, hadb, ga⟩
  · exact absurd ha h0
  have GA : Hid (AV w (some ad) l) := .inr ⟨ad, rfl, hadb, ga⟩
  clear ga
  go_enter Try.func26, Try.ntmps26
  go_wp2_with fail
  go_loopw [1, 5] (fun lv i wr => ∃ (k : Nat) (V : Int), lv = .int .i64 V ∧ i = .int .i64 k ∧ k ≤ l.length ∧ 0 ≤ V ∧ V ≤ 1048576 ∧ Below w.heap.size w wr ∧ Hid (∀ j, (hj : j < l.length) → j < k → l[j].size ≤ 1048576)) (fun _ i _ => l.length - (intOf i).toNat)
  case atStart => exact ⟨0, _, rfl, rfl, Nat.zero_le _, by omega, by omega, Below.refl _ _, fun j _ h => absurd h (by omega)⟩
  case round =>
    obtain ⟨k, V, rfl, rfl, hk, hv0, hv1, hbel, HS⟩ := hrel
    by_cases hlt : k < l.length
    · have hc : wr.cell? (ad.add k) = some (.string l[k]) := by
        rcases GA.out.below hbel with h | ⟨ad', h1, _, h3⟩
        · exact absurd h h0
        · cases h1; exact h3 k l[k] (List.getElem?_eq_getElem hlt)
      have hsz := hx l[k] (List.getElem_mem hlt)
      have w2 : IntKind.i64.wrap (V - (l[k].size : Int)) = V - (l[k].size : Int) := by rw [IntKind.wrap_i64]; omega
      by_cases hneg : V - (l[k].size : Int) < 0
      · have hd2 : decide (V - (l[k].size : Int) < 0) = true := decide_eq_true hneg
        go_wp2_with fail
        go_ret
        exact ⟨-1, rfl, fun h => absurd h (by decide), hbel⟩
      · have hd2 : decide (V - (l[k].size : Int) < 0) = false := decide_eq_false hneg
        have HS' : Hid (∀ j, (hj : j < l.length) → j < k + 1 → l[j].size ≤ 1048576) := by
          intro j hj h
          by_cases e : j = k
          · subst e; omega
          · exact HS.out j hj (by omega)
        clear HS
        go_wp2_with fail
        go_roundw
        case rel => exact ⟨k + 1, _, rfl, by go_num, by omega, by omega, by omega, hbel, HS'⟩
        case measure => simp [intOf]; omega
    · have HR : Short l V := fun _ => ⟨by omega, fun j hj => HS.out j hj (by omega)⟩
      go_wp2_with fail
      go_ret
      exact ⟨V, rfl, HR, hbel⟩

theorem szSpanS_v (a : Option Addr) (ca n : Nat) (w : World) (hn : n ≤ maxLen) :
    Calls Try.prog 18 #[.slice a n ca, .int .i64 1048576] w fun e w' => (∃ v : Int, e = .returned (.int .i64 v) ∧ v ≤ 1048576 ∧ (0 ≤ v → n ≤ 1048576)) ∧ w' = w := by
  unfold maxLen at hn
  by_cases h : 1048576 < n
  · have hd : decide (1048576 - (n : Int) < 0) = true := decide_eq_true (by omega)
    go_enter Try.func18, Try.ntmps18
    go_wp2_with fail
    go_ret
    exact ⟨⟨-1, rfl, by decide, fun h => absurd h (by decide)⟩, rfl⟩
  · have hd : decide (1048576 - (n : Int) < 0) = false := decide_eq_false (by omega)
    go_enter Try.func18, Try.ntmps18
    go_wp2_with fail
    go_ret
    exact ⟨⟨_, rfl, by omega, fun _ => by omega⟩, rfl⟩

set_option maxHeartbeats 3200000 in
theorem walk (HIm : Hid (∀ (size : Int) (a : Option Addr) (ca : Nat) (l : List (Int × Int)) (b : Option Addr) (cb : Nat) (ps : List ByteArray) (w : World) (lo hi lo' hi' : Nat), l.length ≤ 2000000 → ps.length ≤ 2000000 → (∀ p ∈ ps, p.size ≤ 2000000) → PV w a l lo hi → TV w b ps lo' hi' →
      Calls Try.prog 17 #[.int .i64 size, .slice a l.length ca, .slice b ps.length cb] w fun e w' => e = .returned (.tuple #[.string (pasteS size l ps), .bool (pasteB size l ps)]) ∧ Below w.heap.size w w'))
    (size : Int) (a : Option Addr) (ca : Nat) (l : List (Int × Int)) (b : Option Addr) (cb : Nat) (ps : List ByteArray) (w : World) (hl : l.length ≤ maxLen) (hp : ps.length ≤ maxLen) (hps : ∀ x ∈ ps, x.size ≤ maxLen) (ha : AP w a l) (hb : AV w b ps) :
    Calls Try.prog 6 #[.int .i64 size, .slice a l.length ca, .slice b ps.length cb] w fun e w' => e = .returned (.bool true) ∧ Below w.heap.size w w' := by
  have HA : Hid (AP w a l) := ha
  have HB : Hid (AV w b ps) := hb
  have HZ : Hid _ := szSpanS_v a ca l.length w hl
  have HZs : Hid (∀ L : Int, 0 ≤ L → L ≤ 1048576 → _) := fun L h0 h1 => szStringS_from L h0 h1 b cb ps w hp hps hb
  clear ha hb hl hp hps
  go_enter Try.func6, Try.ntmps6
  go_wp2_with fail
  refine (Calls.mono HZ.out ?_)
  rintro e w1 ⟨⟨v, rfl, hv1, hv⟩, hw1⟩
  obtain rfl := hw1.symm
  by_cases hneg : v < 0
  · have hd : decide (v < 0) = true := decide_eq_true hneg
    go_wp2_with fail
    go_ret
    exact ⟨rfl, Below.refl _ _⟩
  have hd : decide (v < 0) = false := decide_eq_false hneg
  have hl1 := hv (by omega)
  have HZ2 : Hid _ := HZs.out v (by omega) hv1
  clear HZ HZs hv
  go_wp2_with fail
  refine (Calls.mono HZ2.out ?_)
  rintro e w2 ⟨u, rfl, hu, hb2⟩
  by_cases hneg2 : u < 0
  · have hd2 : decide (u < 0) = true := decide_eq_true hneg2
    go_wp2_with fail
    go_ret
    exact ⟨rfl, hb2⟩
  have hd2 : decide (u < 0) = false := decide_eq_false hneg2
  obtain ⟨hp1, hx1⟩ := hu (by omega)
  have hps2 : ∀ x ∈ ps, x.size ≤ 2000000 := by
    intro x h
    obtain ⟨j, hj, rfl⟩ := List.getElem_of_mem h
    have := hx1 j hj
    omega
  have HTl : Hid _ := fun w h => toSpanS_any a ca l w hl1 h
  have HTp : Hid _ := fun w h => toStringS_any b cb ps w hp1 h
  have HSp : Hid _ := fun a' ca' b' cb' w x y x' y' p q => specPaste_any size a' ca' l b' cb' ps w x y x' y' (by omega) (by omega) hps2 p q
  have HI : Hid _ := fun a' ca' b' cb' w x y x' y' p q => HIm.out size a' ca' l b' cb' ps w x y x' y' (by omega) (by omega) hps2 p q
  have HEl : Hid _ := fun a' b' ca' cb' w x y x' y' p q => eqPS_any a' b' ca' cb' l w x y x' y' (by omega) p q
  have HEp : Hid _ := fun a' b' ca' cb' w x y x' y' p q => eqS_any a' b' ca' cb' ps w x y x' y' (by omega) p q
  generalize pasteB size l ps = ok at HSp HI
  generalize pasteS size l ps = S at HSp HI
  have hss : (S.toList == S.toList) = true := by simp
  clear HZ2 hu hx1 hps2 HIm
  go_wp2_with fail
  refine (HTl.out _ (HA.out.below hb2)).mono ?_
  rintro e w3 ⟨rfl, X3, hb3'⟩
  have hb3 := hb2.trans (hb3'.mono hb2.size)
  clear hb3' hb2
  go_wp2_with fail
  refine (HTp.out _ (HB.out.below hb3)).mono ?_
  rintro e w4 ⟨rfl, Y4, hb4'⟩
  have hb4 := hb3.trans (hb4'.mono hb3.size)
  have X4 := X3.below hb4'
  clear hb4' hb3 X3
  go_wp2_with fail
  refine (HSp.out _ _ _ _ _ _ _ _ _ X4 Y4).mono ?_
  rintro e w5 ⟨rfl, hb5'⟩
  clear X4 Y4
  have hb5 := hb4.trans (hb5'.mono hb4.size)
  clear hb5' hb4
  go_wp2_with fail
  refine (HTl.out _ (HA.out.below hb5)).mono ?_
  rintro e w6 ⟨rfl, X6, hb6'⟩
  have hb6 := hb5.trans (hb6'.mono hb5.size)
  clear hb6' hb5
  go_wp2_with fail
  refine (HTp.out _ (HB.out.below hb6)).mono ?_
  rintro e w7 ⟨rfl, Y7, hb7'⟩
  have hb7 := hb6.trans (hb7'.mono hb6.size)
  have X7 := X6.below hb7'
  clear hb7' hb6 X6
  go_wp2_with fail
  refine (HI.out _ _ _ _ _ _ _ _ _ X7 Y7).mono ?_
  rintro e w8 ⟨rfl, hb8'⟩
  have hb8 := hb7.trans (hb8'.mono hb7.size)
  have X8 := X7.below hb8'
  have Y8 := Y7.below hb8'
  clear hb8' hb7 X7 Y7
  go_wp2_with fail
  refine (HTl.out _ (HA.out.below hb8)).mono ?_
  rintro e w9 ⟨rfl, Z9, hb9'⟩
  have hb9 := hb8.trans (hb9'.mono hb8.size)
  have X9 := X8.below hb9'
  have Y9 := Y8.below hb9'
  clear hb9' hb8 X8 Y8
  go_wp2_with fail
  refine (HEl.out _ _ _ _ _ _ _ _ _ X9 Z9).mono ?_
  rintro e w10 ⟨rfl, hb10'⟩
  clear X9 Z9
  have hb10 := hb9.trans (hb10'.mono hb9.size)
  have Y10 := Y9.below hb10'
  clear hb10' hb9 Y9
  go_wp2_with fail
  refine (HTp.out _ (HB.out.below hb10)).mono ?_
  rintro e w11 ⟨rfl, Z11, hb11'⟩
  have hb11 := hb10.trans (hb11'.mono hb10.size)
  have Y11 := Y10.below hb11'
  clear hb11' hb10 Y10
  go_wp2_with fail
  refine (HEp.out _ _ _ _ _ _ _ _ _ Y11 Z11).mono ?_
  rintro e w12 ⟨rfl, hb12'⟩
  clear Y11 Z11
  have hb12 := hb11.trans (hb12'.mono hb11.size)
  clear hb12' hb11
  go_wp2_with fail
  go_ret
  exact ⟨rfl, hb12⟩

end Go.Proofs.Ytelpmkbjegimpaa.Spw
