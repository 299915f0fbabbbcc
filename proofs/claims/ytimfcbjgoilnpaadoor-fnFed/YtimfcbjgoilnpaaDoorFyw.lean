/-
  Walk: the law FnFed.
-/
import Derived.Test.YtimfcbjgoilnpaaDoorFan
import Derived.Test.YtimfcbjgoilnpaaDoorFac
import Derived.Deep.QuietTactic
import Derived.BigQuiet
namespace Go.Proofs.YtimfcbjgoilnpaaDoor.Fyw
open Go.RowKit
open Go.Proofs.YtimfcbjgoilnpaaDoor.Hex
open Go.Proofs.YtimfcbjgoilnpaaDoor.Cur
open Go.Proofs.YtimfcbjgoilnpaaDoor.Unk
open Go.Proofs.YtimfcbjgoilnpaaDoor.Mrk (TV RowT)
open Go.Proofs.YtimfcbjgoilnpaaDoor.Fkp (allT allT_take allT_size)
open Go.Proofs.YtimfcbjgoilnpaaDoor.Cqs (rcS rcQ rcC implRead_any)

theorem neq_same (B R : ByteArray) (d g : Bool) (wx : World) :
    (binOp .neq 36 (.agg #[.string B, .string R, .bool d, .bool g]) (.agg #[.string B, .string R, .bool d, .bool g])).run Tryd.prog wx = .ok (.bool false) wx := by
  simp [go_sem]
theorem take_small {l : List ByteArray} {N : Nat} (h : (allT l).size ≤ N) (i : Nat) : (allT (l.take i)).size ≤ N := by
  rw [allT_size] at h ⊢
  have := Ckm.sumS_le l i
  omega

theorem bdrew {R : Nat} {W w : World} (h : Below R W w) (n : Nat) : Below R W (w.drewN n) := ⟨h.os, h.tape, h.output, h.size, h.block⟩

set_option maxRecDepth 20000 in
set_option maxHeartbeats 12800000 in
theorem walk (u : Value) (n : Nat) (w : World) (hU : CodeArg w u n) (hn : n ≤ 140737488355328) (hT : Tab w) :
    Calls Tryd.prog 11 #[u] w fun e w' => e = .returned (.bool true) ∧ Below w.heap.size w w' := by
  have hgt := hT.lt
  obtain ⟨o, cap, rfl⟩ := hU.form
  have HU : Hid (CodeArg w (.slice o n cap) n) := hU
  have HT : Hid (∀ w', Below w.heap.size w w' → Tab w') := fun w' hb => hT.below hb hgt
  clear hU hT
  by_cases hz : 1048576 < n
  · have hd : decide (1048576 < (n : Int)) = true := decide_eq_true (by omega)
    go_enter Tryd.func11, Tryd.ntmps11
    go_wp2_with fail
    go_ret
    exact ⟨rfl, Below.refl _ _⟩
  have hd : decide (1048576 < (n : Int)) = false := decide_eq_false (by omega)
  go_enter Tryd.func11, Tryd.ntmps11
  go_wp2_with fail
  refine (drawFeedAll_any _ n _ HU.out (by omega)).mono ?_
  rintro e w1 ⟨a, ca, l, rfl, hl, hz2, hs, hv, hb1⟩
  have Hb1 : Hid (Below w.heap.size w w1) := hb1
  have HV1 : Hid (TV w1 a l w.heap.size w1.heap.size) := hv
  have hsi := fun i => take_small (i := i) (Nat.le_trans hs (show 1760 ≤ 2000 by decide))
  have hz3 : ∀ x ∈ l, x.size ≤ 2000 := fun x hx => Nat.le_trans (hz2 x hx) (by decide)
  have hI0 := fun wx lo hi ht hv => implFeedAll_any a ca l wx lo hi ht hl hz3 hsi hv
  have hS0 := fun wx lo hi hv => specFeedAll_any a ca l wx lo hi hl hz3 hsi hv
  have hR0 := fun wx hx => implRead_any (allT l) wx hx (by omega)
  have hgood := feed_good (allT l) (by omega)
  have HAll0 : Hid (allT (l.take l.length) = allT l) := by show _ = _; rw [List.take_length]
  have HA0 : Hid (∀ i, i < l.length → ∀ h : i < l.length, allT (l.take i) ++ l[i] = allT (l.take (i + 1)) ∧ (allT (l.take i)).size ≤ 1760 ∧ (allT (l.take (i + 1))).size ≤ 1760) := by
    intro i _ h
    exact ⟨allT_take l i h, take_small hs i, take_small hs (i + 1)⟩
  clear hv hb1 hsi hz3 hz2
  rcases code_3 (allT l) with ⟨h0, _, hq⟩ | ⟨h1, _⟩ | h2
  · obtain ⟨e1, e2, e3, e4⟩ := feed_0 h0
    rw [e1, e2, e3, e4] at hI0 hS0 hgood
    rw [h0] at hR0
    have hG0 := fun wx hx => implGood_any (rcS (allT l)) ((allT l).extract (rcQ (allT l)) (allT l).size) true false wx hx (by first | decide | omega | (rw [ByteArray.size_extract]; omega)) (by first | decide | omega | (have := code_3 (allT l); omega))
    rw [hgood] at hG0
    have HI : Hid _ := hI0
    have HS : Hid _ := hS0
    have HR : Hid _ := hR0
    have HG : Hid _ := hG0
    clear hI0 hS0 hR0 hG0 hgood e1 e2 e3 e4 h0
    have HAll := HAll0
    generalize allT l = T at *
    generalize rcS T = Y at *
    generalize rcQ T = q at *
    clear HAll0
    have HQ : Hid _ := fun wx => neq_same Y (T.extract q T.size) true false wx
    go_wp2_with fail
    refine (HI.out _ _ _ (HT.out _ Hb1.out) HV1.out).mono ?_
    rintro e w2 ⟨rfl, hb2⟩
    have Hb2 : Hid (Below w.heap.size w w2) := Hb1.out.trans (hb2.mono Hb1.out.size)
    have HV2 : Hid (TV w2 a l w.heap.size w1.heap.size) := HV1.out.below hb2
    clear hb2 Hb1 HV1 HI
    obtain ⟨w3, hw3⟩ : ∃ w3, w3 = w2.alloc (.cells #[.string Y, .string (T.extract q T.size), .bool true, .bool false] 36) := ⟨_, rfl⟩
    have hb3 : Below w2.heap.size w2 w3 := by rw [hw3]; exact bel1 _ _
    have HX3 : Hid (Bx w3 w2.heap.size Y (T.extract q T.size) true false) := by rw [hw3]; exact Bx.made w2 _ _ _ _ _
    have Hb3 : Hid (Below w.heap.size w w3) := Hb2.out.trans (hb3.mono Hb2.out.size)
    have HV3 : Hid (TV w3 a l w.heap.size w1.heap.size) := HV2.out.below hb3
    clear hb3 Hb2 HV2
    go_wp2_with fail
    rw [← hw3]
    clear hw3
    refine (HS.out _ _ _ HV3.out).mono ?_
    rintro e w4 ⟨rfl, hb4⟩
    have Hb4 : Hid (Below w.heap.size w w4) := Hb3.out.trans (hb4.mono Hb3.out.size)
    have HV4 : Hid (TV w4 a l w.heap.size w1.heap.size) := HV3.out.below hb4
    have HX4 : Hid (Bx w4 w2.heap.size _ _ _ _) := HX3.out.below hb4
    clear hb4 Hb3 HV3 HX3 HS
    obtain ⟨w5, hw5⟩ : ∃ w5, w5 = w4.alloc (.cells #[.string Y, .string (T.extract q T.size), .bool true, .bool false] 36) := ⟨_, rfl⟩
    have hb5 : Below w4.heap.size w4 w5 := by rw [hw5]; exact bel1 _ _
    have HX5 : Hid (Bx w5 w2.heap.size _ _ _ _) := HX4.out.below hb5
    have Hb5 : Hid (Below w.heap.size w w5) := Hb4.out.trans (hb5.mono Hb4.out.size)
    have HV5 : Hid (TV w5 a l w.heap.size w1.heap.size) := HV4.out.below hb5
    obtain ⟨p0, p1, p2, p3, p4, p5⟩ := HX4.out
    have hq5 := HQ.out
    clear hb5 Hb4 HV4 HX4
    go_wp2_with fail
    rw [← hw5]
    clear hw5 p0 p1 p2 p3 p4 p5 hq5 HQ
    go_loopw [8, 44] (fun b c wr => ∃ i : Nat, i ≤ l.length ∧ b = .string (allT (l.take i)) ∧ c = .int .i64 i ∧ wr = w5) (fun _ c _ => l.length - (intOf c).toNat)
    case atStart => exact ⟨0, by omega, rfl, rfl, rfl⟩
    case round =>
      obtain ⟨i, hi, rfl, rfl, rfl⟩ := hrel
      by_cases hlt : i < l.length
      · obtain ⟨gb, rfl, hgl, hc⟩ := row_of HV5.out hlt
        obtain ⟨a1, a2, a3⟩ := HA0.out i hlt hlt
        have HA1 : Hid _ := a1
        have hsz : l[i].size ≤ 1760 := by rw [← a1, ByteArray.size_append] at a3; omega
        clear a3 hgl
        go_wp2_with fail
        refine ⟨⟨i + 1, by omega, by first | rfl | rw [HA1.out], by go_num, by first | trivial | rfl⟩, ?_⟩
        simp [intOf]; omega
      · obtain rfl : i = l.length := by omega
        rw [HAll.out]
        clear HA0 HAll
        go_wp2_with fail
        refine (HR.out _ (HT.out _ Hb5.out)).mono ?_
        rintro e w6 ⟨rfl, hb6⟩
        have Hb7 : Hid (Below w.heap.size w w6) := Hb5.out.trans (hb6.mono Hb5.out.size)
        have HX6 : Hid (Bx w6 w2.heap.size _ _ _ _) := HX5.out.below hb6
        obtain ⟨x0, x1, x2, x3, x4, x5⟩ := HX6.out
        clear hb6 HX5 HR Hb5 HV5
        go_wp2_with fail
        refine (HG.out _ (HT.out _ Hb7.out)).mono ?_
        rintro e w7 ⟨rfl, hb7⟩
        have Hb8 : Hid (Below w.heap.size w w7) := Hb7.out.trans (hb7.mono Hb7.out.size)
        obtain ⟨y0, y1, y2, y3, y4, y5⟩ := HX6.out.below hb7
        clear hb7 HX6 HG x0 x1 x2 x3 x4 x5
        go_wp2_with fail
        go_quiet (fail)
        go_wp2_with fail
        go_ret
        exact ⟨rfl, bdrew Hb8.out _⟩
  · obtain ⟨e1, e2, e3, e4⟩ := feed_1 h1
    rw [e1, e2, e3, e4] at hI0 hS0 hgood
    rw [h1] at hR0
    have hG0 := fun wx hx => implGood_any ⟨#[]⟩ (allT l) false false wx hx (by first | decide | omega | (rw [ByteArray.size_extract]; omega)) (by first | decide | omega | (have := code_3 (allT l); omega))
    rw [hgood] at hG0
    have HI : Hid _ := hI0
    have HS : Hid _ := hS0
    have HR : Hid _ := hR0
    have HG : Hid _ := hG0
    clear hI0 hS0 hR0 hG0 hgood e1 e2 e3 e4 h1
    have HAll := HAll0
    generalize allT l = T at *
    generalize rcS T = Y at *
    generalize rcQ T = q at *
    clear HAll0
    have HQ : Hid _ := fun wx => neq_same ⟨#[]⟩ T false false wx
    go_wp2_with fail
    refine (HI.out _ _ _ (HT.out _ Hb1.out) HV1.out).mono ?_
    rintro e w2 ⟨rfl, hb2⟩
    have Hb2 : Hid (Below w.heap.size w w2) := Hb1.out.trans (hb2.mono Hb1.out.size)
    have HV2 : Hid (TV w2 a l w.heap.size w1.heap.size) := HV1.out.below hb2
    clear hb2 Hb1 HV1 HI
    obtain ⟨w3, hw3⟩ : ∃ w3, w3 = w2.alloc (.cells #[.string ⟨#[]⟩, .string T, .bool false, .bool false] 36) := ⟨_, rfl⟩
    have hb3 : Below w2.heap.size w2 w3 := by rw [hw3]; exact bel1 _ _
    have HX3 : Hid (Bx w3 w2.heap.size ⟨#[]⟩ T false false) := by rw [hw3]; exact Bx.made w2 _ _ _ _ _
    have Hb3 : Hid (Below w.heap.size w w3) := Hb2.out.trans (hb3.mono Hb2.out.size)
    have HV3 : Hid (TV w3 a l w.heap.size w1.heap.size) := HV2.out.below hb3
    clear hb3 Hb2 HV2
    go_wp2_with fail
    rw [← hw3]
    clear hw3
    refine (HS.out _ _ _ HV3.out).mono ?_
    rintro e w4 ⟨rfl, hb4⟩
    have Hb4 : Hid (Below w.heap.size w w4) := Hb3.out.trans (hb4.mono Hb3.out.size)
    have HV4 : Hid (TV w4 a l w.heap.size w1.heap.size) := HV3.out.below hb4
    have HX4 : Hid (Bx w4 w2.heap.size _ _ _ _) := HX3.out.below hb4
    clear hb4 Hb3 HV3 HX3 HS
    obtain ⟨w5, hw5⟩ : ∃ w5, w5 = w4.alloc (.cells #[.string ⟨#[]⟩, .string T, .bool false, .bool false] 36) := ⟨_, rfl⟩
    have hb5 : Below w4.heap.size w4 w5 := by rw [hw5]; exact bel1 _ _
    have HX5 : Hid (Bx w5 w2.heap.size _ _ _ _) := HX4.out.below hb5
    have Hb5 : Hid (Below w.heap.size w w5) := Hb4.out.trans (hb5.mono Hb4.out.size)
    have HV5 : Hid (TV w5 a l w.heap.size w1.heap.size) := HV4.out.below hb5
    obtain ⟨p0, p1, p2, p3, p4, p5⟩ := HX4.out
    have hq5 := HQ.out
    clear hb5 Hb4 HV4 HX4
    go_wp2_with fail
    rw [← hw5]
    clear hw5 p0 p1 p2 p3 p4 p5 hq5 HQ
    go_loopw [8, 44] (fun b c wr => ∃ i : Nat, i ≤ l.length ∧ b = .string (allT (l.take i)) ∧ c = .int .i64 i ∧ wr = w5) (fun _ c _ => l.length - (intOf c).toNat)
    case atStart => exact ⟨0, by omega, rfl, rfl, rfl⟩
    case round =>
      obtain ⟨i, hi, rfl, rfl, rfl⟩ := hrel
      by_cases hlt : i < l.length
      · obtain ⟨gb, rfl, hgl, hc⟩ := row_of HV5.out hlt
        obtain ⟨a1, a2, a3⟩ := HA0.out i hlt hlt
        have HA1 : Hid _ := a1
        have hsz : l[i].size ≤ 1760 := by rw [← a1, ByteArray.size_append] at a3; omega
        clear a3 hgl
        go_wp2_with fail
        refine ⟨⟨i + 1, by omega, by first | rfl | rw [HA1.out], by go_num, by first | trivial | rfl⟩, ?_⟩
        simp [intOf]; omega
      · obtain rfl : i = l.length := by omega
        rw [HAll.out]
        clear HA0 HAll
        go_wp2_with fail
        refine (HR.out _ (HT.out _ Hb5.out)).mono ?_
        rintro e w6 ⟨rfl, hb6⟩
        have Hb7 : Hid (Below w.heap.size w w6) := Hb5.out.trans (hb6.mono Hb5.out.size)
        have HX6 : Hid (Bx w6 w2.heap.size _ _ _ _) := HX5.out.below hb6
        obtain ⟨x0, x1, x2, x3, x4, x5⟩ := HX6.out
        clear hb6 HX5 HR Hb5 HV5
        go_wp2_with fail
        refine (HG.out _ (HT.out _ Hb7.out)).mono ?_
        rintro e w7 ⟨rfl, hb7⟩
        have Hb8 : Hid (Below w.heap.size w w7) := Hb7.out.trans (hb7.mono Hb7.out.size)
        obtain ⟨y0, y1, y2, y3, y4, y5⟩ := HX6.out.below hb7
        clear hb7 HX6 HG x0 x1 x2 x3 x4 x5
        go_wp2_with fail
        go_quiet (fail)
        go_wp2_with fail
        go_ret
        exact ⟨rfl, bdrew Hb8.out _⟩
  · obtain ⟨e1, e2, e3, e4⟩ := feed_2 h2
    rw [e1, e2, e3, e4] at hI0 hS0 hgood
    rw [h2] at hR0
    have hG0 := fun wx hx => implGood_any ⟨#[]⟩ ⟨#[]⟩ false true wx hx (by first | decide | omega | (rw [ByteArray.size_extract]; omega)) (by first | decide | omega | (have := code_3 (allT l); omega))
    rw [hgood] at hG0
    have HI : Hid _ := hI0
    have HS : Hid _ := hS0
    have HR : Hid _ := hR0
    have HG : Hid _ := hG0
    clear hI0 hS0 hR0 hG0 hgood e1 e2 e3 e4 h2
    have HAll := HAll0
    generalize allT l = T at *
    generalize rcS T = Y at *
    generalize rcQ T = q at *
    clear HAll0
    have HQ : Hid _ := fun wx => neq_same ⟨#[]⟩ ⟨#[]⟩ false true wx
    go_wp2_with fail
    refine (HI.out _ _ _ (HT.out _ Hb1.out) HV1.out).mono ?_
    rintro e w2 ⟨rfl, hb2⟩
    have Hb2 : Hid (Below w.heap.size w w2) := Hb1.out.trans (hb2.mono Hb1.out.size)
    have HV2 : Hid (TV w2 a l w.heap.size w1.heap.size) := HV1.out.below hb2
    clear hb2 Hb1 HV1 HI
    obtain ⟨w3, hw3⟩ : ∃ w3, w3 = w2.alloc (.cells #[.string ⟨#[]⟩, .string ⟨#[]⟩, .bool false, .bool true] 36) := ⟨_, rfl⟩
    have hb3 : Below w2.heap.size w2 w3 := by rw [hw3]; exact bel1 _ _
    have HX3 : Hid (Bx w3 w2.heap.size ⟨#[]⟩ ⟨#[]⟩ false true) := by rw [hw3]; exact Bx.made w2 _ _ _ _ _
    have Hb3 : Hid (Below w.heap.size w w3) := Hb2.out.trans (hb3.mono Hb2.out.size)
    have HV3 : Hid (TV w3 a l w.heap.size w1.heap.size) := HV2.out.below hb3
    clear hb3 Hb2 HV2
    go_wp2_with fail
    rw [← hw3]
    clear hw3
    refine (HS.out _ _ _ HV3.out).mono ?_
    rintro e w4 ⟨rfl, hb4⟩
    have Hb4 : Hid (Below w.heap.size w w4) := Hb3.out.trans (hb4.mono Hb3.out.size)
    have HV4 : Hid (TV w4 a l w.heap.size w1.heap.size) := HV3.out.below hb4
    have HX4 : Hid (Bx w4 w2.heap.size _ _ _ _) := HX3.out.below hb4
    clear hb4 Hb3 HV3 HX3 HS
    obtain ⟨w5, hw5⟩ : ∃ w5, w5 = w4.alloc (.cells #[.string ⟨#[]⟩, .string ⟨#[]⟩, .bool false, .bool true] 36) := ⟨_, rfl⟩
    have hb5 : Below w4.heap.size w4 w5 := by rw [hw5]; exact bel1 _ _
    have HX5 : Hid (Bx w5 w2.heap.size _ _ _ _) := HX4.out.below hb5
    have Hb5 : Hid (Below w.heap.size w w5) := Hb4.out.trans (hb5.mono Hb4.out.size)
    have HV5 : Hid (TV w5 a l w.heap.size w1.heap.size) := HV4.out.below hb5
    obtain ⟨p0, p1, p2, p3, p4, p5⟩ := HX4.out
    have hq5 := HQ.out
    clear hb5 Hb4 HV4 HX4
    go_wp2_with fail
    rw [← hw5]
    clear hw5 p0 p1 p2 p3 p4 p5 hq5 HQ
    go_loopw [8, 44] (fun b c wr => ∃ i : Nat, i ≤ l.length ∧ b = .string (allT (l.take i)) ∧ c = .int .i64 i ∧ wr = w5) (fun _ c _ => l.length - (intOf c).toNat)
    case atStart => exact ⟨0, by omega, rfl, rfl, rfl⟩
    case round =>
      obtain ⟨i, hi, rfl, rfl, rfl⟩ := hrel
      by_cases hlt : i < l.length
      · obtain ⟨gb, rfl, hgl, hc⟩ := row_of HV5.out hlt
        obtain ⟨a1, a2, a3⟩ := HA0.out i hlt hlt
        have HA1 : Hid _ := a1
        have hsz : l[i].size ≤ 1760 := by rw [← a1, ByteArray.size_append] at a3; omega
        clear a3 hgl
        go_wp2_with fail
        refine ⟨⟨i + 1, by omega, by first | rfl | rw [HA1.out], by go_num, by first | trivial | rfl⟩, ?_⟩
        simp [intOf]; omega
      · obtain rfl : i = l.length := by omega
        rw [HAll.out]
        clear HA0 HAll
        go_wp2_with fail
        refine (HR.out _ (HT.out _ Hb5.out)).mono ?_
        rintro e w6 ⟨rfl, hb6⟩
        have Hb7 : Hid (Below w.heap.size w w6) := Hb5.out.trans (hb6.mono Hb5.out.size)
        have HX6 : Hid (Bx w6 w2.heap.size _ _ _ _) := HX5.out.below hb6
        obtain ⟨x0, x1, x2, x3, x4, x5⟩ := HX6.out
        clear hb6 HX5 HR Hb5 HV5
        go_wp2_with fail
        refine (HG.out _ (HT.out _ Hb7.out)).mono ?_
        rintro e w7 ⟨rfl, hb7⟩
        have Hb8 : Hid (Below w.heap.size w w7) := Hb7.out.trans (hb7.mono Hb7.out.size)
        obtain ⟨y0, y1, y2, y3, y4, y5⟩ := HX6.out.below hb7
        clear hb7 HX6 HG x0 x1 x2 x3 x4 x5
        go_wp2_with fail
        go_quiet (fail)
        go_wp2_with fail
        go_ret
        exact ⟨rfl, bdrew Hb8.out _⟩

end Go.Proofs.YtimfcbjgoilnpaaDoor.Fyw
