/-
  Walks: spec.BestChoice.
-/
import Derived.Test.YtaplkbkpgdpbaaaDoorBst
namespace Go.Proofs.YtaplkbkpgdpbaaaDoor.Bst
open Go.RowKit
open Go.Proofs.YtaplkbkpgdpbaaaDoor.Fbs
open Go.Proofs.YtaplkbkpgdpbaaaDoor.Fch
open Go.Proofs.YtaplkbkpgdpbaaaDoor.Och
open Go.Proofs.YtaplkbkpgdpbaaaDoor.Mrc
open Go.Proofs.YtaplkbkpgdpbaaaDoor.Mrk (TV RowT)
open Go.Proofs.YtaplkbkpgdpbaaaDoor.Lof (lowB lowS specLow_any lowS_size)

/-- What is answered: the best that is offered, and whether it weighs anything. -/
def bestB (o : Option (List (ByteArray × Int))) (l : List ByteArray) : ByteArray × Bool :=
  match o with
  | none => (⟨#[]⟩, false)
  | some cs => if areB l = true then ((bestF cs l ⟨#[]⟩ 0).1, decide (0 < (bestF cs l ⟨#[]⟩ 0).2)) else (⟨#[]⟩, false)
theorem ret_best {x : ByteArray × Bool} {b : ByteArray} {y : Bool} (h : x = (b, y)) : Ending.returned (.tuple #[.string b, .bool y]) = .returned (.tuple #[.string x.1, .bool x.2]) := by rw [h]

/-- The inner loop's place: the next one to look at, or none. -/
def InI (cs : List (ByteArray × Int)) (N : ByteArray) (i : Value) (W A : Int) : Prop :=
  (∃ j : Nat, j < cs.length ∧ i = .int .i64 j ∧ W = wAt N (-1) (cs.drop (j + 1)) ∧ A = wAt star 0 (cs.drop (j + 1))) ∨ (i = .int .i64 (-1) ∧ W = wAt N (-1) cs ∧ A = wAt star 0 cs)
theorem InI.step {cs : List (ByteArray × Int)} {N : ByteArray} {j : Nat} {W A : Int} (hj : j < cs.length) (hW : W = wAt N (-1) (cs.drop j)) (hA : A = wAt star 0 (cs.drop j)) : InI cs N (.int .i64 ((j : Int) - 1)) W A := by
  cases j with
  | zero => exact .inr ⟨rfl, by simpa using hW, by simpa using hA⟩
  | succ j => exact .inl ⟨j, by omega, by congr 1; omega, hW, hA⟩
theorem InI.start (cs : List (ByteArray × Int)) (N : ByteArray) : InI cs N (.int .i64 ((cs.length : Int) - 1)) (-1) 0 := by
  by_cases h : cs = []
  · subst h; exact .inr ⟨rfl, rfl, rfl⟩
  · have hp := List.length_pos_iff.2 h
    exact .inl ⟨cs.length - 1, by omega, by congr 1; omega, by rw [List.drop_eq_nil_of_le (by omega)]; rfl, by rw [List.drop_eq_nil_of_le (by omega)]; rfl⟩
theorem wAt_drop {cs : List (ByteArray × Int)} {j : Nat} (h : j < cs.length) (n : ByteArray) (d : Int) : wAt n d (cs.drop j) = if cs[j].1 = n then cs[j].2 else wAt n d (cs.drop (j + 1)) := by
  rw [List.drop_eq_getElem_cons h]; rfl
theorem star_cmp (x : ByteArray) : (x.toList == [42]) = decide (x = star) := by
  rw [← text_cmp, show star.toList = [42] from by decide +kernel]

set_option maxRecDepth 20000 in
set_option maxHeartbeats 1600000 in
theorem specBest_any (s : ByteArray) (a : Option Addr) (ca : Nat) (l : List ByteArray) (m : Int) (w : World) (lo hi : Nat) (hT : Tab w) (hs : s.size ≤ 2000000) (hm : w.cell? ⟨2, 0, none⟩ = some (.int .i64 m)) (ha : TV w a l lo hi) (hl : ∀ x ∈ l, x.size ≤ 2000000) :
    Calls Tryd.prog 24 #[.string s, .slice a l.length ca] w fun e w' => e = .returned (.tuple #[.string (bestB (choO s) l).1, .bool (bestB (choO s) l).2]) ∧ Below w.heap.size w w' := by
  have HS : Hid _ := (specChoices_any s m w hT hs hm).mono fun e w' ⟨h, hb⟩ => And.intro (told_cv h) hb
  have hlen := choO_len s
  generalize choO s = o at HS hlen ⊢
  cases o with
  | none =>
    go_enter Tryd.func24, Tryd.ntmps24
    go_wp2_with fail
    refine (Calls.mono HS.out ?_)
    rintro e w1 ⟨⟨a0, c0, rfl, C0⟩, hb1⟩
    go_wp2_with fail
    go_ret2
    exact ⟨rfl, hb1⟩
  | some cs =>
    by_cases h20 : 20 < l.length
    · have HR : Hid (bestB (some cs) l = (⟨#[]⟩, false)) := by
        show _ = _; unfold bestB areB; rw [decide_eq_false (show ¬ l.length ≤ 20 from by omega)]; rfl
      have hd : decide (20 < (l.length : Int)) = true := decide_eq_true (by omega)
      go_enter Tryd.func24, Tryd.ntmps24
      go_wp2_with fail
      refine (Calls.mono HS.out ?_)
      rintro e w1 ⟨⟨a0, c0, rfl, C0⟩, hb1⟩
      go_wp2_with fail
      go_ret2
      exact ⟨ret_best HR.out, hb1⟩
    have hd : decide (20 < (l.length : Int)) = false := decide_eq_false (by omega)
    go_enter Tryd.func24, Tryd.ntmps24
    go_wp2_with fail
    refine (Calls.mono HS.out ?_)
    rintro e w1 ⟨⟨a0, c0, rfl, C0⟩, hb1⟩
    go_wp2_with fail
    have CC : CV w1 a0 cs w.heap.size w1.heap.size := C0
    have hn : cs.length ≤ 20 := hlen
    have hq : (lstC (some cs)).length = cs.length := rfl
    simp only [hq]
    by_cases h0 : l = []
    · subst h0
      go_loop [8, 9, 29] (fun b m i => b = .string ⟨#[]⟩ ∧ m = .int .i64 0 ∧ i = .int .i64 0) (fun _ _ _ => 0)
      case atStart => exact ⟨rfl, rfl, rfl⟩
      case round =>
        obtain ⟨rfl, rfl, rfl⟩ := hrel
        go_wp2_with fail
        go_ret2
        exact ⟨rfl, hb1⟩
    rcases ha with ha | ⟨g, rfl, _, _, ga⟩
    · exact absurd ha h0
    have GA : Hid (RowT w g l) := ga
    clear ga C0
    have HB1 : Hid (Below w.heap.size w w1) := hb1
    have hs1 := hb1.size
    clear hb1
    go_loopw [8, 9, 29] (fun b mv i wr => ∃ (k : Nat) (B : ByteArray) (M : Int), i = .int .i64 k ∧ k ≤ l.length ∧ b = .string B ∧ mv = .int .i64 M ∧ Below w1.heap.size w1 wr ∧ Hid (bestF cs l ⟨#[]⟩ 0 = bestF cs (l.drop k) B M) ∧ Hid (∀ j, (hj : j < l.length) → j < k → tokenB l[j].data.toList = true)) (fun _ _ i _ => l.length - (intOf i).toNat)
    case atStart => exact ⟨0, ⟨#[]⟩, 0, rfl, by omega, rfl, rfl, Below.refl _ _, rfl, fun j _ h => absurd h (by omega)⟩
    case round =>
      obtain ⟨k, B, M, rfl, hk, rfl, rfl, hbel, HB, HT⟩ := hrel
      have hbw := HB1.out.trans (hbel.mono HB1.out.size)
      by_cases hlt : k < l.length
      · have hc := (GA.out.below hbw).2.2 k l[k] (List.getElem?_eq_getElem hlt)
        have T1 := fun w => l3Token_any l[k] w (hl _ (List.getElem_mem hlt))
        cases ht : tokenB l[k].data.toList
        · rw [ht] at T1
          have HT1 : Hid _ := T1
          have HR : Hid (bestB (some cs) l = (⟨#[]⟩, false)) := by show _ = _; unfold bestB; rw [areB_no hlt ht]; rfl
          clear T1 ht HB HT
          go_wp2_with fail
          refine (HT1.out _).mono ?_
          rintro e w2 ⟨rfl, hw⟩
          obtain rfl := hw.symm
          go_wp2_with fail
          go_ret2
          exact ⟨ret_best HR.out, hbw⟩
        · rw [ht] at T1
          have HT1 : Hid _ := T1
          have HT' : Hid (∀ j, (hj : j < l.length) → j < k + 1 → tokenB l[j].data.toList = true) := by
            intro j hj h
            by_cases e : j = k
            · subst e; exact ht
            · exact HT.out j hj (by omega)
          have HL : Hid _ := fun w => specLow_any l[k] w (hl _ (List.getElem_mem hlt))
          have HB' : Hid (bestF cs l ⟨#[]⟩ 0 = if M < wOf cs l[k] then bestF cs (l.drop (k + 1)) l[k] (wOf cs l[k]) else bestF cs (l.drop (k + 1)) B M) := by
            show _ = _
            rw [HB.out, List.drop_eq_getElem_cons hlt]; rfl
          clear T1 ht HT HB
          go_wp2_with fail
          refine (HT1.out _).mono ?_
          rintro e w2 ⟨rfl, hw⟩
          obtain rfl := hw.symm
          go_wp2_with fail
          obtain ⟨N, hN⟩ : ∃ N, N = lowS l[k] := ⟨_, rfl⟩
          rw [← hN] at HL
          have HWO : Hid (wOf cs l[k] = if wAt N (-1) cs < 0 then wAt star 0 cs else wAt N (-1) cs) := by show _ = _; unfold wOf; rw [← hN]
          clear hN
          have CCr : Hid (CV wr a0 cs w.heap.size w1.heap.size) := CC.below hbel
          go_loopw [12, 13, 14] (fun wv av i wq => ∃ W A : Int, wv = .int .i64 W ∧ av = .int .i64 A ∧ Below wr.heap.size wr wq ∧ Hid (InI cs N i W A)) (fun _ _ i _ => (intOf i + 1).toNat)
          case atStart => exact ⟨-1, 0, rfl, rfl, Below.refl _ _, InI.start cs N⟩
          case round =>
            obtain ⟨W, A, rfl, rfl, hbq, HI⟩ := hrel
            rcases HI.out with ⟨j, hj, rfl, hW, hA⟩ | ⟨rfl, hW, hA⟩
            · have hd0 : decide (0 ≤ (j : Int)) = true := decide_eq_true (by omega)
              rcases CCr.out with h | ⟨g', rfl, _, _, gc⟩
              · subst h; simp at hj
              obtain ⟨k1, k2⟩ := (gc.below hbq).2.2 j cs[j] (List.getElem?_eq_getElem hj)
              have gw := gc.1
              clear gc HI
              have eW := wAt_drop hj N (-1)
              have eA := wAt_drop hj star 0
              rw [← hW] at eW
              rw [← hA] at eA
              have q1 := text_cmp cs[j].1 N
              have q2 := star_cmp cs[j].1
              have gq := Nat.lt_of_lt_of_le gw hbq.size
              by_cases b1 : cs[j].1 = N
              · rw [if_pos b1] at eW
                rw [decide_eq_true b1] at q1
                by_cases b2 : cs[j].1 = star
                · rw [if_pos b2] at eA
                  rw [decide_eq_true b2] at q2
                  have HS' : Hid (InI cs N (.int .i64 ((j : Int) - 1)) (cs[j].2) (cs[j].2)) := InI.step hj eW.symm eA.symm
                  clear eW eA b1 b2 hW hA
                  go_wp2_with fail
                  go_region_with (go_at_call 66; refine (HL.out _).mono ?_; rintro e w2 ⟨rfl, hb2⟩; have c1 := (hb2.cell (p := ⟨g', j * 2, none⟩) gq).trans k1; have c2 := (hb2.cell (p := ⟨g', j * 2 + 1, none⟩) gq).trans k2)
                  all_goals
                    go_wp2_with fail
                    go_roundw
                    case rel => exact ⟨_, _, rfl, rfl, hbq.drew.trans (hb2.mono hbq.size), HS'⟩
                    case measure => simp [intOf]
                · rw [if_neg b2] at eA
                  rw [decide_eq_false b2] at q2
                  have HS' : Hid (InI cs N (.int .i64 ((j : Int) - 1)) (cs[j].2) (A)) := InI.step hj eW.symm eA.symm
                  clear eW eA b1 b2 hW hA
                  go_wp2_with fail
                  go_region_with (go_at_call 66; refine (HL.out _).mono ?_; rintro e w2 ⟨rfl, hb2⟩; have c1 := (hb2.cell (p := ⟨g', j * 2, none⟩) gq).trans k1; have c2 := (hb2.cell (p := ⟨g', j * 2 + 1, none⟩) gq).trans k2)
                  all_goals
                    go_wp2_with fail
                    go_roundw
                    case rel => exact ⟨_, _, rfl, rfl, hbq.drew.trans (hb2.mono hbq.size), HS'⟩
                    case measure => simp [intOf]
              · rw [if_neg b1] at eW
                rw [decide_eq_false b1] at q1
                by_cases b2 : cs[j].1 = star
                · rw [if_pos b2] at eA
                  rw [decide_eq_true b2] at q2
                  have HS' : Hid (InI cs N (.int .i64 ((j : Int) - 1)) (W) (cs[j].2)) := InI.step hj eW.symm eA.symm
                  clear eW eA b1 b2 hW hA
                  go_wp2_with fail
                  go_region_with (go_at_call 66; refine (HL.out _).mono ?_; rintro e w2 ⟨rfl, hb2⟩; have c1 := (hb2.cell (p := ⟨g', j * 2, none⟩) gq).trans k1; have c2 := (hb2.cell (p := ⟨g', j * 2 + 1, none⟩) gq).trans k2)
                  all_goals
                    go_wp2_with fail
                    go_roundw
                    case rel => exact ⟨_, _, rfl, rfl, hbq.drew.trans (hb2.mono hbq.size), HS'⟩
                    case measure => simp [intOf]
                · rw [if_neg b2] at eA
                  rw [decide_eq_false b2] at q2
                  have HS' : Hid (InI cs N (.int .i64 ((j : Int) - 1)) (W) (A)) := InI.step hj eW.symm eA.symm
                  clear eW eA b1 b2 hW hA
                  go_wp2_with fail
                  go_region_with (go_at_call 66; refine (HL.out _).mono ?_; rintro e w2 ⟨rfl, hb2⟩; have c1 := (hb2.cell (p := ⟨g', j * 2, none⟩) gq).trans k1; have c2 := (hb2.cell (p := ⟨g', j * 2 + 1, none⟩) gq).trans k2)
                  all_goals
                    go_wp2_with fail
                    go_roundw
                    case rel => exact ⟨_, _, rfl, rfl, hbq.drew.trans (hb2.mono hbq.size), HS'⟩
                    case measure => simp [intOf]
            · have hbq1 := hbel.trans (hbq.mono hbel.size)
              rw [← hW, ← hA] at HWO
              clear HI hW hA
              by_cases w0 : W < 0
              · have HW1 : wOf cs l[k] = A := HWO.out.trans (if_pos w0)
                rw [HW1] at HB'
                clear HWO HW1
                by_cases mg : M < A
                · have HBn : Hid (bestF cs l ⟨#[]⟩ 0 = bestF cs (l.drop (k + 1)) l[k] A) := HB'.out.trans (if_pos mg)
                  clear HB'
                  go_wp2_with fail
                  go_roundw
                  case rel => exact ⟨k + 1, _, _, by go_num, by omega, rfl, rfl, hbq1, HBn, HT'⟩
                  case measure => simp [intOf]; omega
                · have HBn : Hid (bestF cs l ⟨#[]⟩ 0 = bestF cs (l.drop (k + 1)) B M) := HB'.out.trans (if_neg mg)
                  clear HB'
                  go_wp2_with fail
                  go_roundw
                  case rel => exact ⟨k + 1, _, _, by go_num, by omega, rfl, rfl, hbq1, HBn, HT'⟩
                  case measure => simp [intOf]; omega
              · have HW1 : wOf cs l[k] = W := HWO.out.trans (if_neg w0)
                rw [HW1] at HB'
                clear HWO HW1
                by_cases mg : M < W
                · have HBn : Hid (bestF cs l ⟨#[]⟩ 0 = bestF cs (l.drop (k + 1)) l[k] W) := HB'.out.trans (if_pos mg)
                  clear HB'
                  go_wp2_with fail
                  go_roundw
                  case rel => exact ⟨k + 1, _, _, by go_num, by omega, rfl, rfl, hbq1, HBn, HT'⟩
                  case measure => simp [intOf]; omega
                · have HBn : Hid (bestF cs l ⟨#[]⟩ 0 = bestF cs (l.drop (k + 1)) B M) := HB'.out.trans (if_neg mg)
                  clear HB'
                  go_wp2_with fail
                  go_roundw
                  case rel => exact ⟨k + 1, _, _, by go_num, by omega, rfl, rfl, hbq1, HBn, HT'⟩
                  case measure => simp [intOf]; omega
      · have HR : Hid (bestB (some cs) l = (B, decide (0 < M))) := by
          show _ = _
          show (if areB l = true then ((bestF cs l ⟨#[]⟩ 0).1, decide (0 < (bestF cs l ⟨#[]⟩ 0).2)) else (⟨#[]⟩, false)) = _
          rw [areB_yes (by omega) (fun j hj => HT.out j hj (by omega)), HB.out, List.drop_eq_nil_of_le (by omega)]; rfl
        go_wp2_with fail
        go_ret2
        exact ⟨ret_best HR.out, hbw⟩

end Go.Proofs.YtaplkbkpgdpbaaaDoor.Bst
