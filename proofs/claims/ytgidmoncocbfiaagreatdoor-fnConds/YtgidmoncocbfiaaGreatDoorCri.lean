/-
  Walks: impl.isJustThat, impl.RangeApplies.
-/
import Derived.Test.YtgidmoncocbfiaaGreatDoorMg17
import Derived.BigQuiet
import Derived.Test.YtgidmoncocbfiaaGreatDoorMg16
namespace Go.Proofs.YtgidmoncocbfiaaGreatDoor.Cds
open Go.RowKit
open Go.Proofs.YtgidmoncocbfiaaGreatDoor.Fbs (ret_bool)
open Go.Proofs.YtgidmoncocbfiaaGreatDoor.Tga Go.Proofs.YtgidmoncocbfiaaGreatDoor.Tgb Go.Proofs.YtgidmoncocbfiaaGreatDoor.Tgx
open Go.Proofs.YtgidmoncocbfiaaGreatDoor.Fvs
open Go.Proofs.YtgidmoncocbfiaaGreatDoor.Ows
open Go.Proofs.YtgidmoncocbfiaaGreatDoor.Fdb (FV)
open Go.Proofs.YtgidmoncocbfiaaGreatDoor.Mrk (TV tv_of)
open Go.Proofs.YtgidmoncocbfiaaGreatDoor.Cda
open Go.Proofs.YtgidmoncocbfiaaGreatDoor.Dua (DW DW.below)

set_option maxRecDepth 20000 in
set_option maxHeartbeats 3200000 in
theorem justThat_any (v : ByteArray) (th tg K : Bool) (T : ByteArray) (dt : Bool) (md now mx : Int) (w : World) (hW : DW mx w) (hT : tagB T = true) (hv : ∃ o, DV v o) (hn : 0 ≤ now ∧ now ≤ 253402300799) :
    Calls Tryz.prog 33 #[.string v, stV th tg K T dt md, .int .i64 now] w fun e w' => e = .returned (.bool (rngV v tg K T dt md)) ∧ Below w.heap.size w w' := by
  have hvs := dv_size hv
  have hTs := tag_small hT
  have HT : Hid _ := fun wx => Tgi.implReadTag_any v wx (by omega)
  obtain ⟨R, hR⟩ : ∃ R, R = rngV v tg K T dt md := ⟨_, rfl⟩
  rw [← hR]
  have HB0 : Hid (Below w.heap.size w (w.alloc (.cells #[.bool th, .bool tg, .bool K, .string T, .bool dt, .int .i64 md] 27))) := (Below.refl _ _).alloc (Nat.le_refl _) _
  have HS0 : Hid (SB w.heap.size (w.alloc (.cells #[.bool th, .bool tg, .bool K, .string T, .bool dt, .int .i64 md] 27)) th tg K T dt md) := SB.made w _ th tg K T dt md
  obtain ⟨W, hWW⟩ : ∃ W, W = w.alloc (.cells #[.bool th, .bool tg, .bool K, .string T, .bool dt, .int .i64 md] 27) := ⟨_, rfl⟩
  rw [← hWW] at HB0 HS0
  unfold stV
  cases hrt : readT v
  · rw [hrt] at HT
    have HR4 : Hid _ := hR.trans (rngV_date tg K T dt md hrt)
    have HD2 : Hid (∀ wx, Below w.heap.size w wx → Calls Tryz.prog 68 #[.string v, .int .i64 now] wx fun e w' => e = .returned (.tuple #[.int .i64 ((dvO v).getD 0), .bool (dvO v).isSome]) ∧ Below wx.heap.size wx w') := fun wx hb => readSeconds_any v now mx wx (hW.below hb) hv hn
    clear hrt hR hv hW
    generalize (dvO v).getD 0 = r at HD2 HR4
    generalize (dvO v).isSome = b at HD2 HR4
    change Hid (∀ wx, Calls Tryz.prog 66 #[.string v] wx fun e w' => e = .returned (.tuple #[.agg #[.bool false, .string ⟨#[]⟩], .bool false]) ∧ Below wx.heap.size wx w') at HT
    go_enter Tryz.func33, Tryz.ntmps33
    go_wp2_with fail
    rw [← hWW]
    clear hWW
    with_reducible refine Calls.mono (HT.out _) ?_
    rintro e x5 ⟨rfl, hb⟩
    have hb5 : Below w.heap.size w x5 := HB0.out.trans (hb.mono HB0.out.size)
    have HB5 : Hid (Below w.heap.size w (x5.alloc (.cells #[.bool false, .string ⟨#[]⟩] 25))) := hb5.alloc hb5.size _
    have HS5 : Hid (SB w.heap.size (x5.alloc (.cells #[.bool false, .string ⟨#[]⟩] 25)) th tg K T dt md) := (HS0.out.below hb).below ((Below.refl _ _).alloc (Nat.le_refl _) _)
    clear hb hb5 HB0 HS0
    go_wp2_with fail
    with_reducible refine Calls.mono (HD2.out _ HB5.out) ?_
    rintro e x6 ⟨rfl, hb⟩
    have HB6 : Hid (Below w.heap.size w x6) := HB5.out.trans (hb.mono HB5.out.size)
    have HS6 : Hid (SB w.heap.size x6 th tg K T dt md) := HS5.out.below hb
    obtain ⟨qn, q0, q1, q2, q3, q4, q5⟩ := HS6.out
    clear hb HB5 HS5
    cases b
    · obtain rfl : R = false := HR4.out
      go_wp2_with fail
      go_ret
      exact ⟨rfl, HB6.out⟩
    cases dt
    · obtain rfl : R = false := HR4.out
      go_wp2_with fail
      go_ret
      exact ⟨rfl, HB6.out⟩
    · obtain rfl : R = (r == md) := HR4.out
      go_wp2_with fail
      go_ret
      exact ⟨rfl, HB6.out⟩
  · rename_i c
    rw [hrt] at HT
    have hgc := read_good hrt
    have HR4 : Hid _ := (hR.trans (rngV_tag tg K T dt md hrt)).trans (it_strong tg K hT hgc)
    have hcs := tag_small hgc
    have HM2 : Hid _ := fun wx => Tgi.implStrongSame_any c.1 c.2 K T wx (by omega) (by omega)
    clear hrt hR hv hW
    obtain ⟨k, x⟩ := c
    change Hid (R = (strongB k x K T && tg)) at HR4
    change Hid (∀ wx, Calls Tryz.prog 67 #[.agg #[.bool k, .string x], .agg #[.bool K, .string T]] wx fun e w' => e = .returned (.tuple #[.bool (strongB k x K T), .bool (tagB x && tagB T)]) ∧ Below wx.heap.size wx w') at HM2
    generalize strongB k x K T = z at HR4 HM2
    generalize (tagB x && tagB T) = z2 at HM2
    change Hid (∀ wx, Calls Tryz.prog 66 #[.string v] wx fun e w' => e = .returned (.tuple #[.agg #[.bool k, .string x], .bool true]) ∧ Below wx.heap.size wx w') at HT
    go_enter Tryz.func33, Tryz.ntmps33
    go_wp2_with fail
    rw [← hWW]
    clear hWW
    with_reducible refine Calls.mono (HT.out _) ?_
    rintro e x5 ⟨rfl, hb⟩
    have hb5 : Below w.heap.size w x5 := HB0.out.trans (hb.mono HB0.out.size)
    have HB5 : Hid (Below w.heap.size w (x5.alloc (.cells #[.bool k, .string x] 25))) := hb5.alloc hb5.size _
    have HS5 : Hid (SB w.heap.size (x5.alloc (.cells #[.bool k, .string x] 25)) th tg K T dt md) := (HS0.out.below hb).below ((Below.refl _ _).alloc (Nat.le_refl _) _)
    obtain ⟨qn, q0, q1, q2, q3, q4, q5⟩ := HS5.out
    clear hb hb5 HB0 HS0
    go_wp2_with fail
    refine Calls.mono (HM2.out _) ?_
    rintro e x6 ⟨rfl, hb⟩
    have HB6 : Hid (Below w.heap.size w x6) := HB5.out.trans (hb.mono HB5.out.size)
    have HS6 : Hid (SB w.heap.size x6 th tg K T dt md) := HS5.out.below hb
    clear q0 q1 q2 q3 q4 q5 qn
    obtain ⟨qn, q0, q1, q2, q3, q4, q5⟩ := HS6.out
    clear hb HB5 HS5
    cases z
    · obtain rfl : R = false := HR4.out
      go_wp2_with fail
      go_ret
      exact ⟨rfl, HB6.out⟩
    · obtain rfl : R = tg := HR4.out
      go_wp2_with fail
      go_ret
      exact ⟨rfl, HB6.out⟩

set_option maxRecDepth 20000 in
set_option maxHeartbeats 3200000 in
theorem implRange_any (a : Option Addr) (ca : Nat) (l : List (ByteArray × ByteArray)) (th tg K : Bool) (T : ByteArray) (dt : Bool) (md now mx : Int) (w : World) (lo hi : Nat) (hW : DW mx w) (hT : T.size ≤ 2000000) (hd : ∀ c ∈ l, ∃ o, DV c.2 o) (hz : SzF l) (hca : l.length ≤ ca) (ha : FV w a l lo hi) :
    Calls Tryz.prog 11 #[.slice a l.length ca, stV th tg K T dt md, .int .i64 now] w fun e w' => e = .returned (.tuple #[.bool (rngP l th tg K T dt md now), .bool (mayB l th tg K T dt md now)]) ∧ Below w.heap.size w w' := by
  have HM : Hid (∀ wx, Below w.heap.size w wx → Calls Tryz.prog 23 #[.slice a l.length ca, stV th tg K T dt md, .int .i64 now] wx fun e w' => e = .returned (.bool (mayB l th tg K T dt md now)) ∧ Below wx.heap.size wx w') := fun wx hb => mayBe_any a ca l th tg K T dt md now mx wx lo hi (hW.below hb) hT hz (ha.below hb)
  have HV : Hid (goodL l = true → ∀ wx, Below w.heap.size w wx → Calls Tryz.prog 32 #[.slice a l.length ca, .string ⟨#[105, 102, 45, 114, 97, 110, 103, 101]⟩] wx fun e w' => (∃ v, e = .returned (.tuple #[v, .bool true]) ∧ textsIn w' wx.heap.size v (valsOf nIr l)) ∧ Below wx.heap.size wx w') := by
    intro hg wx hb
    refine (Vof.implVals_any a ca l nIr wx lo hi (hW.below hb).1 (by decide) hz hca (ha.below hb)).mono ?_
    rintro e w' ⟨hto, hb⟩
    rw [valO, if_pos ⟨hg, by decide⟩] at hto
    exact ⟨hto, hb⟩
  have hmem : ∀ v ∈ valsOf nIr l, ∃ o, DV v o := fun v hv => by
    obtain ⟨c, hc, rfl⟩ := vals_mem hv
    exact hd c hc
  have HR : Hid (rngP l th tg K T dt md now = if mayB l th tg K T dt md now then rngL (valsOf nIr l) tg K T dt md else false) := rfl
  have hA : mayB l th tg K T dt md now = (goodL l && (stB th tg K T dt md && inB now)) := rfl
  generalize rngP l th tg K T dt md now = R at HR ⊢
  generalize mayB l th tg K T dt md now = A at HR hA HM ⊢
  generalize valsOf nIr l = q at HV hmem HR
  have HB0 : Hid (Below w.heap.size w (w.alloc (.cells #[.bool th, .bool tg, .bool K, .string T, .bool dt, .int .i64 md] 27))) := (Below.refl _ _).alloc (Nat.le_refl _) _
  have HS0 : Hid (SB w.heap.size (w.alloc (.cells #[.bool th, .bool tg, .bool K, .string T, .bool dt, .int .i64 md] 27)) th tg K T dt md) := SB.made w _ th tg K T dt md
  clear hd hz ha hca
  obtain ⟨W, hWW⟩ : ∃ W, W = w.alloc (.cells #[.bool th, .bool tg, .bool K, .string T, .bool dt, .int .i64 md] 27) := ⟨_, rfl⟩
  rw [← hWW] at HB0 HS0
  cases A
  · obtain rfl : R = false := HR.out
    unfold stV at HM ⊢
    clear hmem hA hW
    obtain ⟨qn, q0, q1, q2, q3, q4, q5⟩ := HS0.out
    go_enter Tryz.func11, Tryz.ntmps11
    go_wp2_with fail
    rw [← hWW]
    clear hWW
    refine Calls.mono (HM.out _ HB0.out) ?_
    rintro e x1 ⟨rfl, hb⟩
    have HB1 : Hid (Below w.heap.size w x1) := HB0.out.trans (hb.mono HB0.out.size)
    clear q0 q1 q2 q3 q4 q5 qn hb HB0 HS0
    go_wp2_with fail
    go_ret2
    exact ⟨rfl, HB1.out⟩
  have hA2 := hA.symm
  rw [Bool.and_eq_true, Bool.and_eq_true] at hA2
  obtain ⟨hg, hs, hin⟩ := hA2
  have HV2 : Hid _ := HV.out hg
  have hnow := inB_is hin
  have htag := st_tag hs
  have HR2 : Hid (R = rngL q tg K T dt md) := HR.out
  have HJ : Hid (∀ v, (∃ o, DV v o) → ∀ wx, Below w.heap.size w wx → Calls Tryz.prog 33 #[.string v, stV th tg K T dt md, .int .i64 now] wx fun e w' => e = .returned (.bool (rngV v tg K T dt md)) ∧ Below wx.heap.size wx w') := fun v hv wx hb => justThat_any v th tg K T dt md now mx wx (hW.below hb) htag hv hnow
  clear hA hg hs hin hnow htag HV HR hW
  unfold stV at HM HJ ⊢
  by_cases hq0 : q.length = 0
  · obtain rfl : q = [] := List.length_eq_zero_iff.1 hq0
    obtain rfl : R = true := HR2.out
    clear hmem hq0 HJ
    obtain ⟨qn, q0, q1, q2, q3, q4, q5⟩ := HS0.out
    go_enter Tryz.func11, Tryz.ntmps11
    go_wp2_with fail
    rw [← hWW]
    clear hWW
    refine Calls.mono (HM.out _ HB0.out) ?_
    rintro e x1 ⟨rfl, hb⟩
    have HB1 : Hid (Below w.heap.size w x1) := HB0.out.trans (hb.mono HB0.out.size)
    clear q0 q1 q2 q3 q4 q5 qn hb HB0 HS0
    go_wp2_with fail
    with_reducible refine Calls.mono (HV2.out _ HB1.out) ?_
    rintro e x4 ⟨⟨u, rfl, hown⟩, hb⟩
    obtain ⟨aP, cP, rfl, hTV⟩ := tv_of hown
    have HB4 : Hid (Below w.heap.size w x4) := HB1.out.trans (hb.mono HB1.out.size)
    clear hown hTV hb
    go_wp2_with fail
    go_ret2
    exact ⟨rfl, HB4.out⟩
  by_cases hq1 : q.length = 1
  rotate_left
  · have hq2 : 2 ≤ q.length := by omega
    obtain rfl : R = false := HR2.out.trans (rngL_more tg K T dt md hq2)
    have d0 : ((q.length : Int) == 0) = false := by rw [beq_eq_false_iff_ne]; omega
    have d1 : ((q.length : Int) == 1) = false := by rw [beq_eq_false_iff_ne]; omega
    clear hmem HR2 HJ hq0 hq1
    obtain ⟨qn, q0, q1, q2, q3, q4, q5⟩ := HS0.out
    go_enter Tryz.func11, Tryz.ntmps11
    go_wp2_with fail
    rw [← hWW]
    clear hWW
    refine Calls.mono (HM.out _ HB0.out) ?_
    rintro e x1 ⟨rfl, hb⟩
    have HB1 : Hid (Below w.heap.size w x1) := HB0.out.trans (hb.mono HB0.out.size)
    clear q0 q1 q2 q3 q4 q5 qn hb HB0 HS0
    go_wp2_with fail
    with_reducible refine Calls.mono (HV2.out _ HB1.out) ?_
    rintro e x4 ⟨⟨u, rfl, hown⟩, hb⟩
    obtain ⟨aP, cP, rfl, hTV⟩ := tv_of hown
    have HB4 : Hid (∀ n, Below w.heap.size w (x4.drewN n)) := fun n => below_drewN (HB1.out.trans (hb.mono HB1.out.size)) n
    clear hown hTV hb
    go_wp2_with fail
    go_quiet (fail)
    all_goals
      go_wp2_with fail
      go_ret2
      exact ⟨rfl, HB4.out _⟩
  obtain ⟨v, rfl⟩ : ∃ v, q = [v] := by
    match q, hq1 with
    | [x], _ => exact ⟨x, rfl⟩
  have HJ2 : Hid _ := HJ.out v (hmem v (by simp))
  have HR3 : Hid (R = rngV v tg K T dt md) := HR2.out
  generalize rngV v tg K T dt md = Z at HR3 HJ2
  obtain rfl : R = Z := HR3.out
  clear hmem hq0 hq1 HR2 HJ HR3
  obtain ⟨qn, q0, q1, q2, q3, q4, q5⟩ := HS0.out
  go_enter Tryz.func11, Tryz.ntmps11
  go_wp2_with fail
  rw [← hWW]
  clear hWW
  refine Calls.mono (HM.out _ HB0.out) ?_
  rintro e x1 ⟨rfl, hb⟩
  have HB1 : Hid (Below w.heap.size w x1) := HB0.out.trans (hb.mono HB0.out.size)
  have HS1 : Hid (SB w.heap.size x1 th tg K T dt md) := HS0.out.below hb
  clear q0 q1 q2 q3 q4 q5 qn hb HB0 HS0
  go_wp2_with fail
  with_reducible refine Calls.mono (HV2.out _ HB1.out) ?_
  rintro e x4 ⟨⟨u, rfl, hown⟩, hb⟩
  obtain ⟨aP, cP, rfl, hTV⟩ := tv_of hown
  obtain ⟨g, rfl, hgl, hc⟩ := Tgx.one_part hTV
  have HB4 : Hid (Below w.heap.size w x4.drew) := (HB1.out.trans (hb.mono HB1.out.size)).drew
  have HS4 : Hid (SB w.heap.size x4 th tg K T dt md) := HS1.out.below hb
  clear hown hTV hb HS1 HB1
  obtain ⟨qn, q0, q1, q2, q3, q4, q5⟩ := HS4.out
  go_wp2_with fail
  go_region_with (go_at_call 33; refine (HJ2.out _ HB4.out).mono ?_; rintro e w5 ⟨rfl, hb5⟩)
  all_goals
    go_wp2_with fail
    go_ret2
    exact ⟨rfl, HB4.out.trans (hb5.mono HB4.out.size)⟩

end Go.Proofs.YtgidmoncocbfiaaGreatDoor.Cds
