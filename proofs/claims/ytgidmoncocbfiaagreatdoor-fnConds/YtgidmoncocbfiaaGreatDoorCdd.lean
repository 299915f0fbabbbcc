/-
  Walk: spec.CheckCond.
-/
import Derived.Test.YtgidmoncocbfiaaGreatDoorCdc
namespace Go.Proofs.YtgidmoncocbfiaaGreatDoor.Cds
open Go.RowKit
open Go.Proofs.YtgidmoncocbfiaaGreatDoor.Tga
open Go.Proofs.YtgidmoncocbfiaaGreatDoor.Fvs
open Go.Proofs.YtgidmoncocbfiaaGreatDoor.Fdb (FV)
open Go.Proofs.YtgidmoncocbfiaaGreatDoor.Cda

/-- Whether it may be asked. -/
def askB (m : ByteArray) (l : List (ByteArray × ByteArray)) (th tg K : Bool) (T : ByteArray) (dt : Bool) (md now : Int) : Bool := Fch.tokenB m.data.toList && (goodL l && (stB th tg K T dt md && inB now))
noncomputable def ansP (m : ByteArray) (l : List (ByteArray × ByteArray)) (th tg K : Bool) (T : ByteArray) (dt : Bool) (md now : Int) : Int := if askB m l th tg K T dt md now then codeP (looksB m) l th tg K T dt md else 0
theorem inB_is {n : Int} (h : inB n = true) : 0 ≤ n ∧ n ≤ 253402300799 := by
  unfold inB at h
  rw [Bool.and_eq_true] at h
  exact ⟨of_decide_eq_true h.1, of_decide_eq_true h.2⟩

set_option maxRecDepth 20000 in
set_option maxHeartbeats 3200000 in
theorem specCheck_any (m : ByteArray) (a : Option Addr) (ca : Nat) (l : List (ByteArray × ByteArray)) (th tg K : Bool) (T : ByteArray) (dt : Bool) (md now : Int) (w : World) (lo hi : Nat) (hl : l.length ≤ 2000000) (hm : m.size ≤ 2000000) (hT : T.size ≤ 2000000) (hd : ∀ c ∈ l, ∃ o, DV c.2 o) (hz : SzF l) (ha : FV w a l lo hi) :
    Calls Tryz.prog 8 #[.string m, .slice a l.length ca, stV th tg K T dt md, .int .i64 now] w fun e w' => e = .returned (.tuple #[.int .i64 (ansP m l th tg K T dt md now), .bool (askB m l th tg K T dt md now)]) ∧ Below w.heap.size w w' := by
  have HT : Hid _ := fun wx => Fch.l3Token_any m wx hm
  have HF : Hid (∀ wx, Below w.heap.size w wx → Calls Tryz.prog 27 #[.slice a l.length ca] wx fun e w' => e = .returned (.bool (goodL l)) ∧ Below wx.heap.size wx w') := fun wx hb => l3Fields_any a ca l wx lo hi hl hz (ha.below hb)
  have HS : Hid _ := fun wx => l7State_any th tg K T dt md wx hT
  have HI : Hid _ := fun wx => Fch.l1In_any now 0 253402300799 wx
  have HC : Hid (goodL l = true → inB now = true → ∀ wx, Below w.heap.size w wx → Calls Tryz.prog 30 #[.string m, .slice a l.length ca, stV th tg K T dt md, .int .i64 now] wx fun e w' => e = .returned (.int .i64 (codeP (looksB m) l th tg K T dt md)) ∧ Below wx.heap.size wx w') := fun hg hn wx hb => l7Check_any m a ca l th tg K T dt md now wx lo hi hg hd hz (ha.below hb) (inB_is hn)
  have HR : Hid (ansP m l th tg K T dt md now = if askB m l th tg K T dt md now then codeP (looksB m) l th tg K T dt md else 0) := rfl
  have HA : Hid (askB m l th tg K T dt md now = (Fch.tokenB m.data.toList && (goodL l && (stB th tg K T dt md && inB now)))) := rfl
  generalize ansP m l th tg K T dt md now = R at HR ⊢
  generalize askB m l th tg K T dt md now = A at HR HA ⊢
  generalize codeP (looksB m) l th tg K T dt md = C at HR HC
  generalize Fch.tokenB m.data.toList = b1 at HT HA
  generalize goodL l = b2 at HF HA HC
  generalize stB th tg K T dt md = b3 at HS HA
  change Hid (∀ wx, Calls Tryz.prog 29 #[.int .i64 now, .int .i64 0, .int .i64 253402300799] wx fun e w' => e = .returned (.bool (inB now)) ∧ w' = wx) at HI
  generalize inB now = b4 at HI HA HC
  unfold stV at HS HC ⊢
  have HB0 : Hid (Below w.heap.size w (w.alloc (.cells #[.bool th, .bool tg, .bool K, .string T, .bool dt, .int .i64 md] 27))) := (Below.refl _ _).alloc (Nat.le_refl _) _
  have HS0 : Hid (SB w.heap.size (w.alloc (.cells #[.bool th, .bool tg, .bool K, .string T, .bool dt, .int .i64 md] 27)) th tg K T dt md) := SB.made w _ th tg K T dt md
  clear hd hz ha
  obtain ⟨W, hW⟩ : ∃ W, W = w.alloc (.cells #[.bool th, .bool tg, .bool K, .string T, .bool dt, .int .i64 md] 27) := ⟨_, rfl⟩
  rw [← hW] at HB0 HS0
  cases b1
  · obtain rfl : A = false := HA.out
    obtain rfl : R = 0 := HR.out
    go_enter Tryz.func8, Tryz.ntmps8
    go_wp2_with fail
    rw [← hW]
    clear hW
    refine Calls.mono (HT.out _) ?_
    rintro e w1 ⟨rfl, rfl⟩
    obtain ⟨qn, q0, q1, q2, q3, q4, q5⟩ := HS0.out
    go_wp2_with fail
    go_ret2
    exact ⟨rfl, HB0.out⟩
  cases b2
  · obtain rfl : A = false := HA.out
    obtain rfl : R = 0 := HR.out
    go_enter Tryz.func8, Tryz.ntmps8
    go_wp2_with fail
    rw [← hW]
    clear hW
    refine Calls.mono (HT.out _) ?_
    rintro e w1 ⟨rfl, rfl⟩
    obtain ⟨qn, q0, q1, q2, q3, q4, q5⟩ := HS0.out
    go_wp2_with fail
    refine Calls.mono (HF.out _ HB0.out) ?_
    rintro e x1 ⟨rfl, hb⟩
    have HB1 : Hid (Below w.heap.size w x1) := HB0.out.trans (hb.mono HB0.out.size)
    have HS1 : Hid (SB w.heap.size x1 th tg K T dt md) := HS0.out.below hb
    clear q0 q1 q2 q3 q4 q5 qn
    obtain ⟨qn, q0, q1, q2, q3, q4, q5⟩ := HS1.out
    clear hb HB0 HS0
    go_wp2_with fail
    go_ret2
    exact ⟨rfl, HB1.out⟩
  cases b3
  · obtain rfl : A = false := HA.out
    obtain rfl : R = 0 := HR.out
    go_enter Tryz.func8, Tryz.ntmps8
    go_wp2_with fail
    rw [← hW]
    clear hW
    refine Calls.mono (HT.out _) ?_
    rintro e w1 ⟨rfl, rfl⟩
    obtain ⟨qn, q0, q1, q2, q3, q4, q5⟩ := HS0.out
    go_wp2_with fail
    refine Calls.mono (HF.out _ HB0.out) ?_
    rintro e x1 ⟨rfl, hb⟩
    have HB1 : Hid (Below w.heap.size w x1) := HB0.out.trans (hb.mono HB0.out.size)
    have HS1 : Hid (SB w.heap.size x1 th tg K T dt md) := HS0.out.below hb
    clear q0 q1 q2 q3 q4 q5 qn
    obtain ⟨qn, q0, q1, q2, q3, q4, q5⟩ := HS1.out
    clear hb HB0 HS0
    go_wp2_with fail
    refine Calls.mono (HS.out _) ?_
    rintro e x2 ⟨rfl, hb⟩
    have HB2 : Hid (Below w.heap.size w x2) := HB1.out.trans (hb.mono HB1.out.size)
    have HS2 : Hid (SB w.heap.size x2 th tg K T dt md) := HS1.out.below hb
    clear q0 q1 q2 q3 q4 q5 qn
    obtain ⟨qn, q0, q1, q2, q3, q4, q5⟩ := HS2.out
    clear hb HB1 HS1
    go_wp2_with fail
    go_ret2
    exact ⟨rfl, HB2.out⟩
  cases b4
  · obtain rfl : A = false := HA.out
    obtain rfl : R = 0 := HR.out
    go_enter Tryz.func8, Tryz.ntmps8
    go_wp2_with fail
    rw [← hW]
    clear hW
    refine Calls.mono (HT.out _) ?_
    rintro e w1 ⟨rfl, rfl⟩
    obtain ⟨qn, q0, q1, q2, q3, q4, q5⟩ := HS0.out
    go_wp2_with fail
    refine Calls.mono (HF.out _ HB0.out) ?_
    rintro e x1 ⟨rfl, hb⟩
    have HB1 : Hid (Below w.heap.size w x1) := HB0.out.trans (hb.mono HB0.out.size)
    have HS1 : Hid (SB w.heap.size x1 th tg K T dt md) := HS0.out.below hb
    clear q0 q1 q2 q3 q4 q5 qn
    obtain ⟨qn, q0, q1, q2, q3, q4, q5⟩ := HS1.out
    clear hb HB0 HS0
    go_wp2_with fail
    refine Calls.mono (HS.out _) ?_
    rintro e x2 ⟨rfl, hb⟩
    have HB2 : Hid (Below w.heap.size w x2) := HB1.out.trans (hb.mono HB1.out.size)
    have HS2 : Hid (SB w.heap.size x2 th tg K T dt md) := HS1.out.below hb
    clear q0 q1 q2 q3 q4 q5 qn
    obtain ⟨qn, q0, q1, q2, q3, q4, q5⟩ := HS2.out
    clear hb HB1 HS1
    go_wp2_with fail
    refine Calls.mono (HI.out _) ?_
    rintro e x3 ⟨rfl, rfl⟩
    go_wp2_with fail
    go_ret2
    exact ⟨rfl, HB2.out⟩
  · obtain rfl : A = true := HA.out
    obtain rfl : R = C := HR.out
    have HC2 : Hid _ := HC.out rfl rfl
    clear HC
    go_enter Tryz.func8, Tryz.ntmps8
    go_wp2_with fail
    rw [← hW]
    clear hW
    refine Calls.mono (HT.out _) ?_
    rintro e w1 ⟨rfl, rfl⟩
    obtain ⟨qn, q0, q1, q2, q3, q4, q5⟩ := HS0.out
    go_wp2_with fail
    refine Calls.mono (HF.out _ HB0.out) ?_
    rintro e x1 ⟨rfl, hb⟩
    have HB1 : Hid (Below w.heap.size w x1) := HB0.out.trans (hb.mono HB0.out.size)
    have HS1 : Hid (SB w.heap.size x1 th tg K T dt md) := HS0.out.below hb
    clear q0 q1 q2 q3 q4 q5 qn
    obtain ⟨qn, q0, q1, q2, q3, q4, q5⟩ := HS1.out
    clear hb HB0 HS0
    go_wp2_with fail
    refine Calls.mono (HS.out _) ?_
    rintro e x2 ⟨rfl, hb⟩
    have HB2 : Hid (Below w.heap.size w x2) := HB1.out.trans (hb.mono HB1.out.size)
    have HS2 : Hid (SB w.heap.size x2 th tg K T dt md) := HS1.out.below hb
    clear q0 q1 q2 q3 q4 q5 qn
    obtain ⟨qn, q0, q1, q2, q3, q4, q5⟩ := HS2.out
    clear hb HB1 HS1
    go_wp2_with fail
    refine Calls.mono (HI.out _) ?_
    rintro e x3 ⟨rfl, rfl⟩
    go_wp2_with fail
    refine Calls.mono (HC2.out _ HB2.out) ?_
    rintro e x4 ⟨rfl, hb⟩
    go_wp2_with fail
    go_ret2
    exact ⟨rfl, HB2.out.trans (hb.mono HB2.out.size)⟩

end Go.Proofs.YtgidmoncocbfiaaGreatDoor.Cds
