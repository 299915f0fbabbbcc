/-
  Walk: laws.FnConds. (tools/gen_fcd.py)
-/
import Derived.Test.YtgidmoncocbfiaaGreatDoorMg21
import Derived.Test.YtgidmoncocbfiaaGreatDoorDtp
namespace Go.Proofs.YtgidmoncocbfiaaGreatDoor.Cds
open Go.RowKit
open Go.Proofs.YtgidmoncocbfiaaGreatDoor.Tga Go.Proofs.YtgidmoncocbfiaaGreatDoor.Tgb Go.Proofs.YtgidmoncocbfiaaGreatDoor.Tgx
open Go.Proofs.YtgidmoncocbfiaaGreatDoor.Fvs
open Go.Proofs.YtgidmoncocbfiaaGreatDoor.Fdb (FV)
open Go.Proofs.YtgidmoncocbfiaaGreatDoor.Cda
open Go.Proofs.YtgidmoncocbfiaaGreatDoor.Cur (clean3 dve_tag DVe CodeArg)
open Go.Proofs.YtgidmoncocbfiaaGreatDoor.Dua (DW DW.below)

theorem fv_made (w : World) (t : TypeId) (X z : ByteArray) : FV (w.alloc (.cells #[.string X, .string z] t)) (some ⟨w.heap.size, 0, none⟩) [(X, z)] 0 (w.heap.size + 1) := by
  refine .inr ⟨w.heap.size, rfl, Nat.zero_le _, Nat.lt_succ_self _, by simp, fun i => ?_, fun i c hc => ?_⟩
  · have hg : (w.alloc (.cells #[.string X, .string z] t)).heap[w.heap.size]? = some (.cells #[.string X, .string z] t) := by show (w.heap.push _)[w.heap.size]? = _; simp
    unfold World.frozen?
    rw [hg]
    rfl
  · match i, hc with
    | 0, hc =>
      obtain rfl : (X, z) = c := by simpa using hc
      exact ⟨by rw [World.cell?_alloc_mark]; rfl, by rw [World.cell?_alloc_mark]; rfl⟩

set_option maxRecDepth 20000 in
set_option maxHeartbeats 6400000 in
theorem walkConds (v1 v2 : Value) (n1 n2 : Nat) (mx : Int) (w : World) (hW : DW mx w) (hA : CodeArg w v1 n1) (hB : CodeArg w v2 n2) (hn : n1 + n2 ≤ 1048576) :
    Calls Tryz.prog 3 #[v1, v2] w fun e w' => e = .returned (.bool true) ∧ Below w.heap.size w w' := by
  obtain ⟨o1, c1, rfl⟩ := hA.form
  obtain ⟨o2, c2, rfl⟩ := hB.form
  have hD := Cur.drawCheck_any (.slice o1 n1 c1) n1 w hA (by omega)
  have H2 : Hid (∀ wx, Below w.heap.size w wx → _) := fun wx hb => Cur.drawRange_any (.slice o2 n2 c2) n2 wx (hB.below (Nat.le_refl _) hb) (by omega)
  have HDW : Hid (∀ wx, Below w.heap.size w wx → DW mx wx) := fun wx hb => hW.below hb
  have HBw : Hid (Below w.heap.size w w) := Below.refl _ _
  clear hW hA hB
  go_enter Tryz.func3, Tryz.ntmps3
  go_wp2_with fail
  refine Calls.mono hD ?_
  rintro e x1 ⟨m, a, ca, l, th, tg, K, T, dt, md, x, rfl, hm, hx, hl, hca, hz, hT, hFV, hb⟩
  obtain ⟨Z, hZ⟩ : ∃ Z, Z = x1.alloc (.cells #[.bool th, .bool tg, .bool K, .string T, .bool dt, .int .i64 md] 27) := ⟨_, rfl⟩
  have HBZ : Hid (Below w.heap.size w Z) := by show Below _ _ _; rw [hZ]; exact hb.alloc hb.size _
  obtain ⟨S1, hS1⟩ : ∃ S, S = x1.heap.size := ⟨_, rfl⟩
  have HSZ : Hid (SB S1 Z th tg K T dt md) := by show SB _ _ _ _ _ _ _ _; rw [hZ, hS1]; exact SB.made _ _ _ _ _ _ _ _
  have hFZ : FV Z a l w.heap.size x1.heap.size := by rw [hZ]; exact hFV.below ((Below.refl _ _).alloc (Nat.le_refl _) _)
  have hTz : T.size ≤ 3 := (Cur.clean_parts hT).1
  have hdz : ∀ c ∈ l, ∃ o, DV c.2 o := fun c hc => (hz c hc).2.2
  have hsz : SzF l := fun c hc => ⟨by have := (hz c hc).1; omega, by have := (hz c hc).2.1; omega⟩
  have HI : Hid (∀ wx, Below Z.heap.size Z wx → Calls Tryz.prog 7 #[.string m, .slice a l.length ca, .agg #[.bool th, .bool tg, .bool K, .string T, .bool dt, .int .i64 md], .int .i64 (86400 * (x : Int))] wx fun e w' => e = .returned (.tuple #[.int .i64 (ansP m l th tg K T dt md (86400 * (x : Int))), .bool (askB m l th tg K T dt md (86400 * (x : Int)))]) ∧ Below wx.heap.size wx w') := fun wx hbx => implCheck_any m a ca l th tg K T dt md _ mx wx _ _ ((HDW.out _ HBZ.out).below hbx) (by omega) (by omega) hdz hsz hca (hFZ.below hbx)
  have HS : Hid (∀ wx, Below Z.heap.size Z wx → Calls Tryz.prog 8 #[.string m, .slice a l.length ca, .agg #[.bool th, .bool tg, .bool K, .string T, .bool dt, .int .i64 md], .int .i64 (86400 * (x : Int))] wx fun e w' => e = .returned (.tuple #[.int .i64 (ansP m l th tg K T dt md (86400 * (x : Int))), .bool (askB m l th tg K T dt md (86400 * (x : Int)))]) ∧ Below wx.heap.size wx w') := fun wx hbx => specCheck_any m a ca l th tg K T dt md _ wx _ _ (by omega) (by omega) (by omega) hdz hsz (hFZ.below hbx)
  have HN : Hid (askB m l th tg K T dt md (86400 * (x : Int)) = true → ∀ wx, Below Z.heap.size Z wx → Calls Tryz.prog 7 #[.string m, .slice none 0 0, .agg #[.bool th, .bool tg, .bool K, .string T, .bool dt, .int .i64 md], .int .i64 (86400 * (x : Int))] wx fun e w' => e = .returned (.tuple #[.int .i64 0, .bool true]) ∧ Below wx.heap.size wx w') := by
    intro hask wx hbx
    have := implCheck_any m none 0 [] th tg K T dt md (86400 * (x : Int)) mx wx 0 0 ((HDW.out _ HBZ.out).below hbx) (by omega) (by omega) (fun c hc => by cases hc) (fun c hc => by cases hc) (Nat.le_refl _) (.inl rfl)
    rw [(nil_check hask).1, (nil_check hask).2] at this
    exact this
  have HTt : Hid (askB m l th tg K T dt md (86400 * (x : Int)) = true → ∀ wx, Calls Tryz.prog 9 #[.agg #[.bool K, .string T]] wx fun e w' => e = .returned (.tuple #[.string (tagT K T), .bool true]) ∧ Below wx.heap.size wx w') := by
    intro hask wx
    have ht := st_tag (ask_parts hask).1
    have := Tgi.implTagText_any K T wx (by omega)
    rw [ht, show tagS K T = tagT K T by unfold tagS; rw [if_pos ht]] at this
    exact this
  have HOw : Hid (askB m l th tg K T dt md (86400 * (x : Int)) = true → tg = true → ∀ wx g, Below Z.heap.size Z wx →
      (FV wx (some ⟨g, 0, none⟩) [(cINM, tagT K T)] 0 wx.heap.size → Calls Tryz.prog 7 #[.string ⟨#[71, 69, 84]⟩, .slice (some ⟨g, 0, none⟩) 1 1, .agg #[.bool th, .bool tg, .bool K, .string T, .bool dt, .int .i64 md], .int .i64 (86400 * (x : Int))] wx fun e w' => e = .returned (.tuple #[.int .i64 304, .bool true]) ∧ Below wx.heap.size wx w') ∧
      (FV wx (some ⟨g, 0, none⟩) [(cIM, tagT K T)] 0 wx.heap.size → Calls Tryz.prog 7 #[.string ⟨#[80, 85, 84]⟩, .slice (some ⟨g, 0, none⟩) 1 1, .agg #[.bool th, .bool tg, .bool K, .string T, .bool dt, .int .i64 md], .int .i64 (86400 * (x : Int))] wx fun e w' => e = .returned (.tuple #[.int .i64 (if K then 412 else 0), .bool true]) ∧ Below wx.heap.size wx w')) := by
    intro hask htg wx g hbx
    subst htg
    obtain ⟨⟨u1, u2⟩, u3, u4⟩ := own_checks hask
    have hdt := dve_tag K hT
    refine ⟨fun hf => ?_, fun hf => ?_⟩
    · have := implCheck_any ⟨#[71, 69, 84]⟩ (some ⟨g, 0, none⟩) 1 [(cINM, tagT K T)] th true K T dt md (86400 * (x : Int)) mx wx 0 wx.heap.size ((HDW.out _ HBZ.out).below hbx) (by decide) (by omega) (fun c hc => by rw [List.mem_singleton.1 hc]; exact hdt.2) (fun c hc => by rw [List.mem_singleton.1 hc]; exact ⟨by show cINM.size ≤ 2000000; decide, Nat.le_trans hdt.1 (by omega)⟩) (Nat.le_refl _) hf
      rw [u1, u2] at this
      exact this
    · have := implCheck_any ⟨#[80, 85, 84]⟩ (some ⟨g, 0, none⟩) 1 [(cIM, tagT K T)] th true K T dt md (86400 * (x : Int)) mx wx 0 wx.heap.size ((HDW.out _ HBZ.out).below hbx) (by decide) (by omega) (fun c hc => by rw [List.mem_singleton.1 hc]; exact hdt.2) (fun c hc => by rw [List.mem_singleton.1 hc]; exact ⟨by show cIM.size ≤ 2000000; decide, Nat.le_trans hdt.1 (by omega)⟩) (Nat.le_refl _) hf
      rw [u3, u4] at this
      exact this
  obtain ⟨hin, hlook⟩ := ans_in (m := m) (l := l) (th := th) (tg := tg) (K := K) (T := T) (dt := dt) (md := md) (now := 86400 * (x : Int))
  generalize ansP m l th tg K T dt md (86400 * (x : Int)) = R at HI HS hin hlook
  generalize askB m l th tg K T dt md (86400 * (x : Int)) = A at HI HS HN HTt HOw
  clear hb hFV hFZ hz hT hdz hsz hD
  unfold stV
  obtain ⟨qn, q0, q1, q2, q3, q4, q5⟩ := HSZ.out
  go_wp2_with fail
  rw [← hZ, ← hS1]
  clear hZ hS1
  refine Calls.mono (HI.out _ (Below.refl _ _)) ?_
  rintro e x2 ⟨rfl, hb⟩
  have HZ2 : Hid (Below Z.heap.size Z x2) := hb
  have HBx2 : Hid (Below w.heap.size w x2) := HBZ.out.trans (hb.mono HBZ.out.size)
  clear q0 q1 q2 q3 q4 q5 qn
  obtain ⟨qn, q0, q1, q2, q3, q4, q5⟩ := HSZ.out.below hb
  clear hb
  go_wp2_with fail
  refine Calls.mono (HS.out _ HZ2.out) ?_
  rintro e x3 ⟨rfl, hb⟩
  have HZ3 : Hid (Below Z.heap.size Z x3) := HZ2.out.trans (hb.mono HZ2.out.size)
  have HBx3 : Hid (Below w.heap.size w x3) := HBx2.out.trans (hb.mono HBx2.out.size)
  clear q0 q1 q2 q3 q4 q5 qn hb HI HS HZ2 HBx2
  obtain ⟨qn, q0, q1, q2, q3, q4, q5⟩ := HSZ.out.below HZ3.out
  cases A
  · clear HN HTt HOw
    go_wp2_with fail
    refine Calls.mono (H2.out _ HBx3.out) ?_
    rintro e y1 ⟨a2, ca2, l2, th2, tg2, K2, T2, dt2, md2, x2, rfl, hx2, hl2, hca2, hz2, hT2, hFV2, hb⟩
    have hy1 : Below w.heap.size w y1 := HBx3.out.trans (hb.mono HBx3.out.size)
    obtain ⟨Y, hY⟩ : ∃ Y, Y = y1.alloc (.cells #[.bool th2, .bool tg2, .bool K2, .string T2, .bool dt2, .int .i64 md2] 27) := ⟨_, rfl⟩
    have HBY : Hid (Below w.heap.size w Y) := by show Below _ _ _; rw [hY]; exact hy1.alloc hy1.size _
    obtain ⟨S2, hS2⟩ : ∃ S, S = y1.heap.size := ⟨_, rfl⟩
    have HSY : Hid (SB S2 Y th2 tg2 K2 T2 dt2 md2) := by show SB _ _ _ _ _ _ _ _; rw [hY, hS2]; exact SB.made _ _ _ _ _ _ _ _
    have hFY : FV Y a2 l2 x3.heap.size y1.heap.size := by rw [hY]; exact hFV2.below ((Below.refl _ _).alloc (Nat.le_refl _) _)
    have HIr : Hid (∀ wx, Below Y.heap.size Y wx → Calls Tryz.prog 11 #[.slice a2 l2.length ca2, .agg #[.bool th2, .bool tg2, .bool K2, .string T2, .bool dt2, .int .i64 md2], .int .i64 (86400 * (x2 : Int))] wx fun e w' => e = .returned (.tuple #[.bool (rngP l2 th2 tg2 K2 T2 dt2 md2 (86400 * (x2 : Int))), .bool (mayB l2 th2 tg2 K2 T2 dt2 md2 (86400 * (x2 : Int)))]) ∧ Below wx.heap.size wx w') := fun wx hbx => implRange_any a2 ca2 l2 th2 tg2 K2 T2 dt2 md2 _ mx wx _ _ ((HDW.out _ HBY.out).below hbx) (by have := (Cur.clean_parts hT2).1; omega) (fun c hc => (hz2 c hc).2.2) (fun c hc => ⟨by have := (hz2 c hc).1; omega, by have := (hz2 c hc).2.1; omega⟩) hca2 (hFY.below hbx)
    have HSr : Hid (∀ wx, Below Y.heap.size Y wx → Calls Tryz.prog 12 #[.slice a2 l2.length ca2, .agg #[.bool th2, .bool tg2, .bool K2, .string T2, .bool dt2, .int .i64 md2], .int .i64 (86400 * (x2 : Int))] wx fun e w' => e = .returned (.tuple #[.bool (rngP l2 th2 tg2 K2 T2 dt2 md2 (86400 * (x2 : Int))), .bool (mayB l2 th2 tg2 K2 T2 dt2 md2 (86400 * (x2 : Int)))]) ∧ Below wx.heap.size wx w') := fun wx hbx => specRange_any a2 ca2 l2 th2 tg2 K2 T2 dt2 md2 _ wx _ _ (by omega) (by have := (Cur.clean_parts hT2).1; omega) (fun c hc => (hz2 c hc).2.2) (fun c hc => ⟨by have := (hz2 c hc).1; omega, by have := (hz2 c hc).2.1; omega⟩) (hFY.below hbx)
    generalize rngP l2 th2 tg2 K2 T2 dt2 md2 (86400 * (x2 : Int)) = P2 at HIr HSr
    generalize mayB l2 th2 tg2 K2 T2 dt2 md2 (86400 * (x2 : Int)) = B2 at HIr HSr
    clear hb hFV2 hFY hz2 hT2 hy1 H2 HBx3
    unfold stV
    obtain ⟨qn, q0, q1, q2, q3, q4, q5⟩ := HSY.out
    go_wp2_with fail
    rw [← hY, ← hS2]
    clear hY hS2
    refine Calls.mono (HIr.out _ (Below.refl _ _)) ?_
    rintro e y2 ⟨rfl, hb⟩
    have HY2 : Hid (Below Y.heap.size Y y2) := hb
    have HBY2 : Hid (Below w.heap.size w y2) := HBY.out.trans (hb.mono HBY.out.size)
    clear q0 q1 q2 q3 q4 q5 qn
    obtain ⟨qn, q0, q1, q2, q3, q4, q5⟩ := HSY.out.below hb
    clear hb
    go_wp2_with fail
    refine Calls.mono (HSr.out _ HY2.out) ?_
    rintro e y3 ⟨rfl, hb⟩
    have HBY3 : Hid (Below w.heap.size w y3) := HBY2.out.trans (hb.mono HBY2.out.size)
    clear hb HBY2 HY2 HIr HSr HSY HBY q0 q1 q2 q3 q4 q5 qn
    cases P2 <;> cases B2
    all_goals
      go_wp2_with fail
      go_ret
      exact ⟨rfl, HBY3.out⟩
  · have HN2 : Hid _ := HN.out rfl
    have HT2 : Hid _ := HTt.out rfl
    clear HN HTt
    rcases hin with rfl | rfl | rfl
    · clear hlook
      go_wp2_with fail
      refine Calls.mono (HN2.out _ HZ3.out) ?_
      rintro e x4 ⟨rfl, hb⟩
      have HZ4 : Hid (Below Z.heap.size Z x4) := HZ3.out.trans (hb.mono HZ3.out.size)
      clear q0 q1 q2 q3 q4 q5 qn hb HN2 HZ3 HBx3
      obtain ⟨qn, q0, q1, q2, q3, q4, q5⟩ := HSZ.out.below HZ4.out
      go_wp2_with fail
      refine Calls.mono (HT2.out _) ?_
      rintro e x5 ⟨rfl, hb⟩
      have HZ5 : Hid (Below Z.heap.size Z x5) := HZ4.out.trans (hb.mono HZ4.out.size)
      have HBx5 : Hid (Below w.heap.size w x5) := HBZ.out.trans (HZ5.out.mono HBZ.out.size)
      clear q0 q1 q2 q3 q4 q5 qn hb HT2 HZ4
      obtain ⟨qn, q0, q1, q2, q3, q4, q5⟩ := HSZ.out.below HZ5.out
      cases tg
      · clear HOw
        go_wp2_with fail
        refine Calls.mono (H2.out _ HBx5.out) ?_
        rintro e y1 ⟨a2, ca2, l2, th2, tg2, K2, T2, dt2, md2, x2, rfl, hx2, hl2, hca2, hz2, hT2, hFV2, hb⟩
        have hy1 : Below w.heap.size w y1 := HBx5.out.trans (hb.mono HBx5.out.size)
        obtain ⟨Y, hY⟩ : ∃ Y, Y = y1.alloc (.cells #[.bool th2, .bool tg2, .bool K2, .string T2, .bool dt2, .int .i64 md2] 27) := ⟨_, rfl⟩
        have HBY : Hid (Below w.heap.size w Y) := by show Below _ _ _; rw [hY]; exact hy1.alloc hy1.size _
        obtain ⟨S2, hS2⟩ : ∃ S, S = y1.heap.size := ⟨_, rfl⟩
        have HSY : Hid (SB S2 Y th2 tg2 K2 T2 dt2 md2) := by show SB _ _ _ _ _ _ _ _; rw [hY, hS2]; exact SB.made _ _ _ _ _ _ _ _
        have hFY : FV Y a2 l2 x5.heap.size y1.heap.size := by rw [hY]; exact hFV2.below ((Below.refl _ _).alloc (Nat.le_refl _) _)
        have HIr : Hid (∀ wx, Below Y.heap.size Y wx → Calls Tryz.prog 11 #[.slice a2 l2.length ca2, .agg #[.bool th2, .bool tg2, .bool K2, .string T2, .bool dt2, .int .i64 md2], .int .i64 (86400 * (x2 : Int))] wx fun e w' => e = .returned (.tuple #[.bool (rngP l2 th2 tg2 K2 T2 dt2 md2 (86400 * (x2 : Int))), .bool (mayB l2 th2 tg2 K2 T2 dt2 md2 (86400 * (x2 : Int)))]) ∧ Below wx.heap.size wx w') := fun wx hbx => implRange_any a2 ca2 l2 th2 tg2 K2 T2 dt2 md2 _ mx wx _ _ ((HDW.out _ HBY.out).below hbx) (by have := (Cur.clean_parts hT2).1; omega) (fun c hc => (hz2 c hc).2.2) (fun c hc => ⟨by have := (hz2 c hc).1; omega, by have := (hz2 c hc).2.1; omega⟩) hca2 (hFY.below hbx)
        have HSr : Hid (∀ wx, Below Y.heap.size Y wx → Calls Tryz.prog 12 #[.slice a2 l2.length ca2, .agg #[.bool th2, .bool tg2, .bool K2, .string T2, .bool dt2, .int .i64 md2], .int .i64 (86400 * (x2 : Int))] wx fun e w' => e = .returned (.tuple #[.bool (rngP l2 th2 tg2 K2 T2 dt2 md2 (86400 * (x2 : Int))), .bool (mayB l2 th2 tg2 K2 T2 dt2 md2 (86400 * (x2 : Int)))]) ∧ Below wx.heap.size wx w') := fun wx hbx => specRange_any a2 ca2 l2 th2 tg2 K2 T2 dt2 md2 _ wx _ _ (by omega) (by have := (Cur.clean_parts hT2).1; omega) (fun c hc => (hz2 c hc).2.2) (fun c hc => ⟨by have := (hz2 c hc).1; omega, by have := (hz2 c hc).2.1; omega⟩) (hFY.below hbx)
        generalize rngP l2 th2 tg2 K2 T2 dt2 md2 (86400 * (x2 : Int)) = P2 at HIr HSr
        generalize mayB l2 th2 tg2 K2 T2 dt2 md2 (86400 * (x2 : Int)) = B2 at HIr HSr
        clear hb hFV2 hFY hz2 hT2 hy1 H2 HBx5
        unfold stV
        obtain ⟨qn, q0, q1, q2, q3, q4, q5⟩ := HSY.out
        go_wp2_with fail
        rw [← hY, ← hS2]
        clear hY hS2
        refine Calls.mono (HIr.out _ (Below.refl _ _)) ?_
        rintro e y2 ⟨rfl, hb⟩
        have HY2 : Hid (Below Y.heap.size Y y2) := hb
        have HBY2 : Hid (Below w.heap.size w y2) := HBY.out.trans (hb.mono HBY.out.size)
        clear q0 q1 q2 q3 q4 q5 qn
        obtain ⟨qn, q0, q1, q2, q3, q4, q5⟩ := HSY.out.below hb
        clear hb
        go_wp2_with fail
        refine Calls.mono (HSr.out _ HY2.out) ?_
        rintro e y3 ⟨rfl, hb⟩
        have HBY3 : Hid (Below w.heap.size w y3) := HBY2.out.trans (hb.mono HBY2.out.size)
        clear hb HBY2 HY2 HIr HSr HSY HBY q0 q1 q2 q3 q4 q5 qn
        cases P2 <;> cases B2
        all_goals
          go_wp2_with fail
          go_ret
          exact ⟨rfl, HBY3.out⟩
      · have HO2 : Hid _ := HOw.out (by trivial) (by trivial)
        obtain ⟨X5, hX5⟩ : ∃ X, X = x5.alloc (.cells #[.string cINM, .string (tagT K T)] 35) := ⟨_, rfl⟩
        have hZX5 : Below Z.heap.size Z X5 := by rw [hX5]; exact HZ5.out.alloc HZ5.out.size _
        have hs5 : X5.heap.size = x5.heap.size + 1 := by rw [hX5]; simp
        have hf5 : FV X5 (some ⟨x5.heap.size, 0, none⟩) [(cINM, tagT K T)] 0 X5.heap.size := by rw [hs5, hX5]; exact fv_made _ _ _ _
        have HC5 : Hid _ := (HO2.out X5 x5.heap.size hZX5).1 hf5
        have HZX5 : Hid (Below Z.heap.size Z X5) := hZX5
        clear hf5 hZX5
        obtain ⟨pn, p0, p1, p2, p3, p4, p5⟩ := HSZ.out.below HZX5.out
        rw [hX5] at p0 p1 p2 p3 p4 p5
        unfold cINM at p0 p1 p2 p3 p4 p5
        unfold cINM at hX5
        go_wp2_with fail
        rw [← hX5]
        clear hX5 HZ5 HBx5
        refine Calls.mono HC5.out ?_
        rintro e x6 ⟨rfl, hb⟩
        have HZ6 : Hid (Below Z.heap.size Z x6) := HZX5.out.trans (hb.mono HZX5.out.size)
        clear hb HC5 HZX5 q0 q1 q2 q3 q4 q5 qn p0 p1 p2 p3 p4 p5 pn
        obtain ⟨X6, hX6⟩ : ∃ X, X = x6.alloc (.cells #[.string cIM, .string (tagT K T)] 35) := ⟨_, rfl⟩
        have hZX6 : Below Z.heap.size Z X6 := by rw [hX6]; exact HZ6.out.alloc HZ6.out.size _
        have hs6 : X6.heap.size = x6.heap.size + 1 := by rw [hX6]; simp
        have hf6 : FV X6 (some ⟨x6.heap.size, 0, none⟩) [(cIM, tagT K T)] 0 X6.heap.size := by rw [hs6, hX6]; exact fv_made _ _ _ _
        have HC6 : Hid _ := (HO2.out X6 x6.heap.size hZX6).2 hf6
        have HZX6 : Hid (Below Z.heap.size Z X6) := hZX6
        clear hf6 hZX6
        obtain ⟨qn, q0, q1, q2, q3, q4, q5⟩ := HSZ.out.below HZX6.out
        rw [hX6] at q0 q1 q2 q3 q4 q5
        unfold cIM at hX6 q0 q1 q2 q3 q4 q5
        go_wp2_with fail
        rw [← hX6]
        clear hX6 HZ6
        refine Calls.mono HC6.out ?_
        rintro e x7 ⟨rfl, hb⟩
        have HZ7 : Hid (Below Z.heap.size Z x7) := HZX6.out.trans (hb.mono HZX6.out.size)
        have HBx7 : Hid (Below w.heap.size w x7) := HBZ.out.trans (HZ7.out.mono HBZ.out.size)
        clear hb HC6 HZX6 HO2 HOw q0 q1 q2 q3 q4 q5 qn
        obtain ⟨qn, q0, q1, q2, q3, q4, q5⟩ := HSZ.out.below HZ7.out
        cases K
        · go_wp2_with fail
          refine Calls.mono (H2.out _ HBx7.out) ?_
          rintro e y1 ⟨a2, ca2, l2, th2, tg2, K2, T2, dt2, md2, x2, rfl, hx2, hl2, hca2, hz2, hT2, hFV2, hb⟩
          have hy1 : Below w.heap.size w y1 := HBx7.out.trans (hb.mono HBx7.out.size)
          obtain ⟨Y, hY⟩ : ∃ Y, Y = y1.alloc (.cells #[.bool th2, .bool tg2, .bool K2, .string T2, .bool dt2, .int .i64 md2] 27) := ⟨_, rfl⟩
          have HBY : Hid (Below w.heap.size w Y) := by show Below _ _ _; rw [hY]; exact hy1.alloc hy1.size _
          obtain ⟨S2, hS2⟩ : ∃ S, S = y1.heap.size := ⟨_, rfl⟩
          have HSY : Hid (SB S2 Y th2 tg2 K2 T2 dt2 md2) := by show SB _ _ _ _ _ _ _ _; rw [hY, hS2]; exact SB.made _ _ _ _ _ _ _ _
          have hFY : FV Y a2 l2 x7.heap.size y1.heap.size := by rw [hY]; exact hFV2.below ((Below.refl _ _).alloc (Nat.le_refl _) _)
          have HIr : Hid (∀ wx, Below Y.heap.size Y wx → Calls Tryz.prog 11 #[.slice a2 l2.length ca2, .agg #[.bool th2, .bool tg2, .bool K2, .string T2, .bool dt2, .int .i64 md2], .int .i64 (86400 * (x2 : Int))] wx fun e w' => e = .returned (.tuple #[.bool (rngP l2 th2 tg2 K2 T2 dt2 md2 (86400 * (x2 : Int))), .bool (mayB l2 th2 tg2 K2 T2 dt2 md2 (86400 * (x2 : Int)))]) ∧ Below wx.heap.size wx w') := fun wx hbx => implRange_any a2 ca2 l2 th2 tg2 K2 T2 dt2 md2 _ mx wx _ _ ((HDW.out _ HBY.out).below hbx) (by have := (Cur.clean_parts hT2).1; omega) (fun c hc => (hz2 c hc).2.2) (fun c hc => ⟨by have := (hz2 c hc).1; omega, by have := (hz2 c hc).2.1; omega⟩) hca2 (hFY.below hbx)
          have HSr : Hid (∀ wx, Below Y.heap.size Y wx → Calls Tryz.prog 12 #[.slice a2 l2.length ca2, .agg #[.bool th2, .bool tg2, .bool K2, .string T2, .bool dt2, .int .i64 md2], .int .i64 (86400 * (x2 : Int))] wx fun e w' => e = .returned (.tuple #[.bool (rngP l2 th2 tg2 K2 T2 dt2 md2 (86400 * (x2 : Int))), .bool (mayB l2 th2 tg2 K2 T2 dt2 md2 (86400 * (x2 : Int)))]) ∧ Below wx.heap.size wx w') := fun wx hbx => specRange_any a2 ca2 l2 th2 tg2 K2 T2 dt2 md2 _ wx _ _ (by omega) (by have := (Cur.clean_parts hT2).1; omega) (fun c hc => (hz2 c hc).2.2) (fun c hc => ⟨by have := (hz2 c hc).1; omega, by have := (hz2 c hc).2.1; omega⟩) (hFY.below hbx)
          generalize rngP l2 th2 tg2 K2 T2 dt2 md2 (86400 * (x2 : Int)) = P2 at HIr HSr
          generalize mayB l2 th2 tg2 K2 T2 dt2 md2 (86400 * (x2 : Int)) = B2 at HIr HSr
          clear hb hFV2 hFY hz2 hT2 hy1 H2 HBx7
          unfold stV
          obtain ⟨qn, q0, q1, q2, q3, q4, q5⟩ := HSY.out
          go_wp2_with fail
          rw [← hY, ← hS2]
          clear hY hS2
          refine Calls.mono (HIr.out _ (Below.refl _ _)) ?_
          rintro e y2 ⟨rfl, hb⟩
          have HY2 : Hid (Below Y.heap.size Y y2) := hb
          have HBY2 : Hid (Below w.heap.size w y2) := HBY.out.trans (hb.mono HBY.out.size)
          clear q0 q1 q2 q3 q4 q5 qn
          obtain ⟨qn, q0, q1, q2, q3, q4, q5⟩ := HSY.out.below hb
          clear hb
          go_wp2_with fail
          refine Calls.mono (HSr.out _ HY2.out) ?_
          rintro e y3 ⟨rfl, hb⟩
          have HBY3 : Hid (Below w.heap.size w y3) := HBY2.out.trans (hb.mono HBY2.out.size)
          clear hb HBY2 HY2 HIr HSr HSY HBY q0 q1 q2 q3 q4 q5 qn
          cases P2 <;> cases B2
          all_goals
            go_wp2_with fail
            go_ret
            exact ⟨rfl, HBY3.out⟩
        · go_wp2_with fail
          refine Calls.mono (H2.out _ HBx7.out) ?_
          rintro e y1 ⟨a2, ca2, l2, th2, tg2, K2, T2, dt2, md2, x2, rfl, hx2, hl2, hca2, hz2, hT2, hFV2, hb⟩
          have hy1 : Below w.heap.size w y1 := HBx7.out.trans (hb.mono HBx7.out.size)
          obtain ⟨Y, hY⟩ : ∃ Y, Y = y1.alloc (.cells #[.bool th2, .bool tg2, .bool K2, .string T2, .bool dt2, .int .i64 md2] 27) := ⟨_, rfl⟩
          have HBY : Hid (Below w.heap.size w Y) := by show Below _ _ _; rw [hY]; exact hy1.alloc hy1.size _
          obtain ⟨S2, hS2⟩ : ∃ S, S = y1.heap.size := ⟨_, rfl⟩
          have HSY : Hid (SB S2 Y th2 tg2 K2 T2 dt2 md2) := by show SB _ _ _ _ _ _ _ _; rw [hY, hS2]; exact SB.made _ _ _ _ _ _ _ _
          have hFY : FV Y a2 l2 x7.heap.size y1.heap.size := by rw [hY]; exact hFV2.below ((Below.refl _ _).alloc (Nat.le_refl _) _)
          have HIr : Hid (∀ wx, Below Y.heap.size Y wx → Calls Tryz.prog 11 #[.slice a2 l2.length ca2, .agg #[.bool th2, .bool tg2, .bool K2, .string T2, .bool dt2, .int .i64 md2], .int .i64 (86400 * (x2 : Int))] wx fun e w' => e = .returned (.tuple #[.bool (rngP l2 th2 tg2 K2 T2 dt2 md2 (86400 * (x2 : Int))), .bool (mayB l2 th2 tg2 K2 T2 dt2 md2 (86400 * (x2 : Int)))]) ∧ Below wx.heap.size wx w') := fun wx hbx => implRange_any a2 ca2 l2 th2 tg2 K2 T2 dt2 md2 _ mx wx _ _ ((HDW.out _ HBY.out).below hbx) (by have := (Cur.clean_parts hT2).1; omega) (fun c hc => (hz2 c hc).2.2) (fun c hc => ⟨by have := (hz2 c hc).1; omega, by have := (hz2 c hc).2.1; omega⟩) hca2 (hFY.below hbx)
          have HSr : Hid (∀ wx, Below Y.heap.size Y wx → Calls Tryz.prog 12 #[.slice a2 l2.length ca2, .agg #[.bool th2, .bool tg2, .bool K2, .string T2, .bool dt2, .int .i64 md2], .int .i64 (86400 * (x2 : Int))] wx fun e w' => e = .returned (.tuple #[.bool (rngP l2 th2 tg2 K2 T2 dt2 md2 (86400 * (x2 : Int))), .bool (mayB l2 th2 tg2 K2 T2 dt2 md2 (86400 * (x2 : Int)))]) ∧ Below wx.heap.size wx w') := fun wx hbx => specRange_any a2 ca2 l2 th2 tg2 K2 T2 dt2 md2 _ wx _ _ (by omega) (by have := (Cur.clean_parts hT2).1; omega) (fun c hc => (hz2 c hc).2.2) (fun c hc => ⟨by have := (hz2 c hc).1; omega, by have := (hz2 c hc).2.1; omega⟩) (hFY.below hbx)
          generalize rngP l2 th2 tg2 K2 T2 dt2 md2 (86400 * (x2 : Int)) = P2 at HIr HSr
          generalize mayB l2 th2 tg2 K2 T2 dt2 md2 (86400 * (x2 : Int)) = B2 at HIr HSr
          clear hb hFV2 hFY hz2 hT2 hy1 H2 HBx7
          unfold stV
          obtain ⟨qn, q0, q1, q2, q3, q4, q5⟩ := HSY.out
          go_wp2_with fail
          rw [← hY, ← hS2]
          clear hY hS2
          refine Calls.mono (HIr.out _ (Below.refl _ _)) ?_
          rintro e y2 ⟨rfl, hb⟩
          have HY2 : Hid (Below Y.heap.size Y y2) := hb
          have HBY2 : Hid (Below w.heap.size w y2) := HBY.out.trans (hb.mono HBY.out.size)
          clear q0 q1 q2 q3 q4 q5 qn
          obtain ⟨qn, q0, q1, q2, q3, q4, q5⟩ := HSY.out.below hb
          clear hb
          go_wp2_with fail
          refine Calls.mono (HSr.out _ HY2.out) ?_
          rintro e y3 ⟨rfl, hb⟩
          have HBY3 : Hid (Below w.heap.size w y3) := HBY2.out.trans (hb.mono HBY2.out.size)
          clear hb HBY2 HY2 HIr HSr HSY HBY q0 q1 q2 q3 q4 q5 qn
          cases P2 <;> cases B2
          all_goals
            go_wp2_with fail
            go_ret
            exact ⟨rfl, HBY3.out⟩
    · have hm3 := hlook rfl
      clear hlook
      unfold looksB at hm3
      cases hg : (m.toList == [71, 69, 84])
      · rw [hg, Bool.false_or] at hm3
        go_wp2_with fail
        refine Calls.mono (HN2.out _ HZ3.out) ?_
        rintro e x4 ⟨rfl, hb⟩
        have HZ4 : Hid (Below Z.heap.size Z x4) := HZ3.out.trans (hb.mono HZ3.out.size)
        clear q0 q1 q2 q3 q4 q5 qn hb HN2 HZ3 HBx3
        obtain ⟨qn, q0, q1, q2, q3, q4, q5⟩ := HSZ.out.below HZ4.out
        go_wp2_with fail
        refine Calls.mono (HT2.out _) ?_
        rintro e x5 ⟨rfl, hb⟩
        have HZ5 : Hid (Below Z.heap.size Z x5) := HZ4.out.trans (hb.mono HZ4.out.size)
        have HBx5 : Hid (Below w.heap.size w x5) := HBZ.out.trans (HZ5.out.mono HBZ.out.size)
        clear q0 q1 q2 q3 q4 q5 qn hb HT2 HZ4
        obtain ⟨qn, q0, q1, q2, q3, q4, q5⟩ := HSZ.out.below HZ5.out
        cases tg
        · clear HOw
          go_wp2_with fail
          refine Calls.mono (H2.out _ HBx5.out) ?_
          rintro e y1 ⟨a2, ca2, l2, th2, tg2, K2, T2, dt2, md2, x2, rfl, hx2, hl2, hca2, hz2, hT2, hFV2, hb⟩
          have hy1 : Below w.heap.size w y1 := HBx5.out.trans (hb.mono HBx5.out.size)
          obtain ⟨Y, hY⟩ : ∃ Y, Y = y1.alloc (.cells #[.bool th2, .bool tg2, .bool K2, .string T2, .bool dt2, .int .i64 md2] 27) := ⟨_, rfl⟩
          have HBY : Hid (Below w.heap.size w Y) := by show Below _ _ _; rw [hY]; exact hy1.alloc hy1.size _
          obtain ⟨S2, hS2⟩ : ∃ S, S = y1.heap.size := ⟨_, rfl⟩
          have HSY : Hid (SB S2 Y th2 tg2 K2 T2 dt2 md2) := by show SB _ _ _ _ _ _ _ _; rw [hY, hS2]; exact SB.made _ _ _ _ _ _ _ _
          have hFY : FV Y a2 l2 x5.heap.size y1.heap.size := by rw [hY]; exact hFV2.below ((Below.refl _ _).alloc (Nat.le_refl _) _)
          have HIr : Hid (∀ wx, Below Y.heap.size Y wx → Calls Tryz.prog 11 #[.slice a2 l2.length ca2, .agg #[.bool th2, .bool tg2, .bool K2, .string T2, .bool dt2, .int .i64 md2], .int .i64 (86400 * (x2 : Int))] wx fun e w' => e = .returned (.tuple #[.bool (rngP l2 th2 tg2 K2 T2 dt2 md2 (86400 * (x2 : Int))), .bool (mayB l2 th2 tg2 K2 T2 dt2 md2 (86400 * (x2 : Int)))]) ∧ Below wx.heap.size wx w') := fun wx hbx => implRange_any a2 ca2 l2 th2 tg2 K2 T2 dt2 md2 _ mx wx _ _ ((HDW.out _ HBY.out).below hbx) (by have := (Cur.clean_parts hT2).1; omega) (fun c hc => (hz2 c hc).2.2) (fun c hc => ⟨by have := (hz2 c hc).1; omega, by have := (hz2 c hc).2.1; omega⟩) hca2 (hFY.below hbx)
          have HSr : Hid (∀ wx, Below Y.heap.size Y wx → Calls Tryz.prog 12 #[.slice a2 l2.length ca2, .agg #[.bool th2, .bool tg2, .bool K2, .string T2, .bool dt2, .int .i64 md2], .int .i64 (86400 * (x2 : Int))] wx fun e w' => e = .returned (.tuple #[.bool (rngP l2 th2 tg2 K2 T2 dt2 md2 (86400 * (x2 : Int))), .bool (mayB l2 th2 tg2 K2 T2 dt2 md2 (86400 * (x2 : Int)))]) ∧ Below wx.heap.size wx w') := fun wx hbx => specRange_any a2 ca2 l2 th2 tg2 K2 T2 dt2 md2 _ wx _ _ (by omega) (by have := (Cur.clean_parts hT2).1; omega) (fun c hc => (hz2 c hc).2.2) (fun c hc => ⟨by have := (hz2 c hc).1; omega, by have := (hz2 c hc).2.1; omega⟩) (hFY.below hbx)
          generalize rngP l2 th2 tg2 K2 T2 dt2 md2 (86400 * (x2 : Int)) = P2 at HIr HSr
          generalize mayB l2 th2 tg2 K2 T2 dt2 md2 (86400 * (x2 : Int)) = B2 at HIr HSr
          clear hb hFV2 hFY hz2 hT2 hy1 H2 HBx5
          unfold stV
          obtain ⟨qn, q0, q1, q2, q3, q4, q5⟩ := HSY.out
          go_wp2_with fail
          rw [← hY, ← hS2]
          clear hY hS2
          refine Calls.mono (HIr.out _ (Below.refl _ _)) ?_
          rintro e y2 ⟨rfl, hb⟩
          have HY2 : Hid (Below Y.heap.size Y y2) := hb
          have HBY2 : Hid (Below w.heap.size w y2) := HBY.out.trans (hb.mono HBY.out.size)
          clear q0 q1 q2 q3 q4 q5 qn
          obtain ⟨qn, q0, q1, q2, q3, q4, q5⟩ := HSY.out.below hb
          clear hb
          go_wp2_with fail
          refine Calls.mono (HSr.out _ HY2.out) ?_
          rintro e y3 ⟨rfl, hb⟩
          have HBY3 : Hid (Below w.heap.size w y3) := HBY2.out.trans (hb.mono HBY2.out.size)
          clear hb HBY2 HY2 HIr HSr HSY HBY q0 q1 q2 q3 q4 q5 qn
          cases P2 <;> cases B2
          all_goals
            go_wp2_with fail
            go_ret
            exact ⟨rfl, HBY3.out⟩
        · have HO2 : Hid _ := HOw.out (by trivial) (by trivial)
          obtain ⟨X5, hX5⟩ : ∃ X, X = x5.alloc (.cells #[.string cINM, .string (tagT K T)] 35) := ⟨_, rfl⟩
          have hZX5 : Below Z.heap.size Z X5 := by rw [hX5]; exact HZ5.out.alloc HZ5.out.size _
          have hs5 : X5.heap.size = x5.heap.size + 1 := by rw [hX5]; simp
          have hf5 : FV X5 (some ⟨x5.heap.size, 0, none⟩) [(cINM, tagT K T)] 0 X5.heap.size := by rw [hs5, hX5]; exact fv_made _ _ _ _
          have HC5 : Hid _ := (HO2.out X5 x5.heap.size hZX5).1 hf5
          have HZX5 : Hid (Below Z.heap.size Z X5) := hZX5
          clear hf5 hZX5
          obtain ⟨pn, p0, p1, p2, p3, p4, p5⟩ := HSZ.out.below HZX5.out
          rw [hX5] at p0 p1 p2 p3 p4 p5
          unfold cINM at p0 p1 p2 p3 p4 p5
          unfold cINM at hX5
          go_wp2_with fail
          rw [← hX5]
          clear hX5 HZ5 HBx5
          refine Calls.mono HC5.out ?_
          rintro e x6 ⟨rfl, hb⟩
          have HZ6 : Hid (Below Z.heap.size Z x6) := HZX5.out.trans (hb.mono HZX5.out.size)
          clear hb HC5 HZX5 q0 q1 q2 q3 q4 q5 qn p0 p1 p2 p3 p4 p5 pn
          obtain ⟨X6, hX6⟩ : ∃ X, X = x6.alloc (.cells #[.string cIM, .string (tagT K T)] 35) := ⟨_, rfl⟩
          have hZX6 : Below Z.heap.size Z X6 := by rw [hX6]; exact HZ6.out.alloc HZ6.out.size _
          have hs6 : X6.heap.size = x6.heap.size + 1 := by rw [hX6]; simp
          have hf6 : FV X6 (some ⟨x6.heap.size, 0, none⟩) [(cIM, tagT K T)] 0 X6.heap.size := by rw [hs6, hX6]; exact fv_made _ _ _ _
          have HC6 : Hid _ := (HO2.out X6 x6.heap.size hZX6).2 hf6
          have HZX6 : Hid (Below Z.heap.size Z X6) := hZX6
          clear hf6 hZX6
          obtain ⟨qn, q0, q1, q2, q3, q4, q5⟩ := HSZ.out.below HZX6.out
          rw [hX6] at q0 q1 q2 q3 q4 q5
          unfold cIM at hX6 q0 q1 q2 q3 q4 q5
          go_wp2_with fail
          rw [← hX6]
          clear hX6 HZ6
          refine Calls.mono HC6.out ?_
          rintro e x7 ⟨rfl, hb⟩
          have HZ7 : Hid (Below Z.heap.size Z x7) := HZX6.out.trans (hb.mono HZX6.out.size)
          have HBx7 : Hid (Below w.heap.size w x7) := HBZ.out.trans (HZ7.out.mono HBZ.out.size)
          clear hb HC6 HZX6 HO2 HOw q0 q1 q2 q3 q4 q5 qn
          obtain ⟨qn, q0, q1, q2, q3, q4, q5⟩ := HSZ.out.below HZ7.out
          cases K
          · go_wp2_with fail
            refine Calls.mono (H2.out _ HBx7.out) ?_
            rintro e y1 ⟨a2, ca2, l2, th2, tg2, K2, T2, dt2, md2, x2, rfl, hx2, hl2, hca2, hz2, hT2, hFV2, hb⟩
            have hy1 : Below w.heap.size w y1 := HBx7.out.trans (hb.mono HBx7.out.size)
            obtain ⟨Y, hY⟩ : ∃ Y, Y = y1.alloc (.cells #[.bool th2, .bool tg2, .bool K2, .string T2, .bool dt2, .int .i64 md2] 27) := ⟨_, rfl⟩
            have HBY : Hid (Below w.heap.size w Y) := by show Below _ _ _; rw [hY]; exact hy1.alloc hy1.size _
            obtain ⟨S2, hS2⟩ : ∃ S, S = y1.heap.size := ⟨_, rfl⟩
            have HSY : Hid (SB S2 Y th2 tg2 K2 T2 dt2 md2) := by show SB _ _ _ _ _ _ _ _; rw [hY, hS2]; exact SB.made _ _ _ _ _ _ _ _
            have hFY : FV Y a2 l2 x7.heap.size y1.heap.size := by rw [hY]; exact hFV2.below ((Below.refl _ _).alloc (Nat.le_refl _) _)
            have HIr : Hid (∀ wx, Below Y.heap.size Y wx → Calls Tryz.prog 11 #[.slice a2 l2.length ca2, .agg #[.bool th2, .bool tg2, .bool K2, .string T2, .bool dt2, .int .i64 md2], .int .i64 (86400 * (x2 : Int))] wx fun e w' => e = .returned (.tuple #[.bool (rngP l2 th2 tg2 K2 T2 dt2 md2 (86400 * (x2 : Int))), .bool (mayB l2 th2 tg2 K2 T2 dt2 md2 (86400 * (x2 : Int)))]) ∧ Below wx.heap.size wx w') := fun wx hbx => implRange_any a2 ca2 l2 th2 tg2 K2 T2 dt2 md2 _ mx wx _ _ ((HDW.out _ HBY.out).below hbx) (by have := (Cur.clean_parts hT2).1; omega) (fun c hc => (hz2 c hc).2.2) (fun c hc => ⟨by have := (hz2 c hc).1; omega, by have := (hz2 c hc).2.1; omega⟩) hca2 (hFY.below hbx)
            have HSr : Hid (∀ wx, Below Y.heap.size Y wx → Calls Tryz.prog 12 #[.slice a2 l2.length ca2, .agg #[.bool th2, .bool tg2, .bool K2, .string T2, .bool dt2, .int .i64 md2], .int .i64 (86400 * (x2 : Int))] wx fun e w' => e = .returned (.tuple #[.bool (rngP l2 th2 tg2 K2 T2 dt2 md2 (86400 * (x2 : Int))), .bool (mayB l2 th2 tg2 K2 T2 dt2 md2 (86400 * (x2 : Int)))]) ∧ Below wx.heap.size wx w') := fun wx hbx => specRange_any a2 ca2 l2 th2 tg2 K2 T2 dt2 md2 _ wx _ _ (by omega) (by have := (Cur.clean_parts hT2).1; omega) (fun c hc => (hz2 c hc).2.2) (fun c hc => ⟨by have := (hz2 c hc).1; omega, by have := (hz2 c hc).2.1; omega⟩) (hFY.below hbx)
            generalize rngP l2 th2 tg2 K2 T2 dt2 md2 (86400 * (x2 : Int)) = P2 at HIr HSr
            generalize mayB l2 th2 tg2 K2 T2 dt2 md2 (86400 * (x2 : Int)) = B2 at HIr HSr
            clear hb hFV2 hFY hz2 hT2 hy1 H2 HBx7
            unfold stV
            obtain ⟨qn, q0, q1, q2, q3, q4, q5⟩ := HSY.out
            go_wp2_with fail
            rw [← hY, ← hS2]
            clear hY hS2
            refine Calls.mono (HIr.out _ (Below.refl _ _)) ?_
            rintro e y2 ⟨rfl, hb⟩
            have HY2 : Hid (Below Y.heap.size Y y2) := hb
            have HBY2 : Hid (Below w.heap.size w y2) := HBY.out.trans (hb.mono HBY.out.size)
            clear q0 q1 q2 q3 q4 q5 qn
            obtain ⟨qn, q0, q1, q2, q3, q4, q5⟩ := HSY.out.below hb
            clear hb
            go_wp2_with fail
            refine Calls.mono (HSr.out _ HY2.out) ?_
            rintro e y3 ⟨rfl, hb⟩
            have HBY3 : Hid (Below w.heap.size w y3) := HBY2.out.trans (hb.mono HBY2.out.size)
            clear hb HBY2 HY2 HIr HSr HSY HBY q0 q1 q2 q3 q4 q5 qn
            cases P2 <;> cases B2
            all_goals
              go_wp2_with fail
              go_ret
              exact ⟨rfl, HBY3.out⟩
          · go_wp2_with fail
            refine Calls.mono (H2.out _ HBx7.out) ?_
            rintro e y1 ⟨a2, ca2, l2, th2, tg2, K2, T2, dt2, md2, x2, rfl, hx2, hl2, hca2, hz2, hT2, hFV2, hb⟩
            have hy1 : Below w.heap.size w y1 := HBx7.out.trans (hb.mono HBx7.out.size)
            obtain ⟨Y, hY⟩ : ∃ Y, Y = y1.alloc (.cells #[.bool th2, .bool tg2, .bool K2, .string T2, .bool dt2, .int .i64 md2] 27) := ⟨_, rfl⟩
            have HBY : Hid (Below w.heap.size w Y) := by show Below _ _ _; rw [hY]; exact hy1.alloc hy1.size _
            obtain ⟨S2, hS2⟩ : ∃ S, S = y1.heap.size := ⟨_, rfl⟩
            have HSY : Hid (SB S2 Y th2 tg2 K2 T2 dt2 md2) := by show SB _ _ _ _ _ _ _ _; rw [hY, hS2]; exact SB.made _ _ _ _ _ _ _ _
            have hFY : FV Y a2 l2 x7.heap.size y1.heap.size := by rw [hY]; exact hFV2.below ((Below.refl _ _).alloc (Nat.le_refl _) _)
            have HIr : Hid (∀ wx, Below Y.heap.size Y wx → Calls Tryz.prog 11 #[.slice a2 l2.length ca2, .agg #[.bool th2, .bool tg2, .bool K2, .string T2, .bool dt2, .int .i64 md2], .int .i64 (86400 * (x2 : Int))] wx fun e w' => e = .returned (.tuple #[.bool (rngP l2 th2 tg2 K2 T2 dt2 md2 (86400 * (x2 : Int))), .bool (mayB l2 th2 tg2 K2 T2 dt2 md2 (86400 * (x2 : Int)))]) ∧ Below wx.heap.size wx w') := fun wx hbx => implRange_any a2 ca2 l2 th2 tg2 K2 T2 dt2 md2 _ mx wx _ _ ((HDW.out _ HBY.out).below hbx) (by have := (Cur.clean_parts hT2).1; omega) (fun c hc => (hz2 c hc).2.2) (fun c hc => ⟨by have := (hz2 c hc).1; omega, by have := (hz2 c hc).2.1; omega⟩) hca2 (hFY.below hbx)
            have HSr : Hid (∀ wx, Below Y.heap.size Y wx → Calls Tryz.prog 12 #[.slice a2 l2.length ca2, .agg #[.bool th2, .bool tg2, .bool K2, .string T2, .bool dt2, .int .i64 md2], .int .i64 (86400 * (x2 : Int))] wx fun e w' => e = .returned (.tuple #[.bool (rngP l2 th2 tg2 K2 T2 dt2 md2 (86400 * (x2 : Int))), .bool (mayB l2 th2 tg2 K2 T2 dt2 md2 (86400 * (x2 : Int)))]) ∧ Below wx.heap.size wx w') := fun wx hbx => specRange_any a2 ca2 l2 th2 tg2 K2 T2 dt2 md2 _ wx _ _ (by omega) (by have := (Cur.clean_parts hT2).1; omega) (fun c hc => (hz2 c hc).2.2) (fun c hc => ⟨by have := (hz2 c hc).1; omega, by have := (hz2 c hc).2.1; omega⟩) (hFY.below hbx)
            generalize rngP l2 th2 tg2 K2 T2 dt2 md2 (86400 * (x2 : Int)) = P2 at HIr HSr
            generalize mayB l2 th2 tg2 K2 T2 dt2 md2 (86400 * (x2 : Int)) = B2 at HIr HSr
            clear hb hFV2 hFY hz2 hT2 hy1 H2 HBx7
            unfold stV
            obtain ⟨qn, q0, q1, q2, q3, q4, q5⟩ := HSY.out
            go_wp2_with fail
            rw [← hY, ← hS2]
            clear hY hS2
            refine Calls.mono (HIr.out _ (Below.refl _ _)) ?_
            rintro e y2 ⟨rfl, hb⟩
            have HY2 : Hid (Below Y.heap.size Y y2) := hb
            have HBY2 : Hid (Below w.heap.size w y2) := HBY.out.trans (hb.mono HBY.out.size)
            clear q0 q1 q2 q3 q4 q5 qn
            obtain ⟨qn, q0, q1, q2, q3, q4, q5⟩ := HSY.out.below hb
            clear hb
            go_wp2_with fail
            refine Calls.mono (HSr.out _ HY2.out) ?_
            rintro e y3 ⟨rfl, hb⟩
            have HBY3 : Hid (Below w.heap.size w y3) := HBY2.out.trans (hb.mono HBY2.out.size)
            clear hb HBY2 HY2 HIr HSr HSY HBY q0 q1 q2 q3 q4 q5 qn
            cases P2 <;> cases B2
            all_goals
              go_wp2_with fail
              go_ret
              exact ⟨rfl, HBY3.out⟩
      · clear hm3
        go_wp2_with fail
        refine Calls.mono (HN2.out _ HZ3.out) ?_
        rintro e x4 ⟨rfl, hb⟩
        have HZ4 : Hid (Below Z.heap.size Z x4) := HZ3.out.trans (hb.mono HZ3.out.size)
        clear q0 q1 q2 q3 q4 q5 qn hb HN2 HZ3 HBx3
        obtain ⟨qn, q0, q1, q2, q3, q4, q5⟩ := HSZ.out.below HZ4.out
        go_wp2_with fail
        refine Calls.mono (HT2.out _) ?_
        rintro e x5 ⟨rfl, hb⟩
        have HZ5 : Hid (Below Z.heap.size Z x5) := HZ4.out.trans (hb.mono HZ4.out.size)
        have HBx5 : Hid (Below w.heap.size w x5) := HBZ.out.trans (HZ5.out.mono HBZ.out.size)
        clear q0 q1 q2 q3 q4 q5 qn hb HT2 HZ4
        obtain ⟨qn, q0, q1, q2, q3, q4, q5⟩ := HSZ.out.below HZ5.out
        cases tg
        · clear HOw
          go_wp2_with fail
          refine Calls.mono (H2.out _ HBx5.out) ?_
          rintro e y1 ⟨a2, ca2, l2, th2, tg2, K2, T2, dt2, md2, x2, rfl, hx2, hl2, hca2, hz2, hT2, hFV2, hb⟩
          have hy1 : Below w.heap.size w y1 := HBx5.out.trans (hb.mono HBx5.out.size)
          obtain ⟨Y, hY⟩ : ∃ Y, Y = y1.alloc (.cells #[.bool th2, .bool tg2, .bool K2, .string T2, .bool dt2, .int .i64 md2] 27) := ⟨_, rfl⟩
          have HBY : Hid (Below w.heap.size w Y) := by show Below _ _ _; rw [hY]; exact hy1.alloc hy1.size _
          obtain ⟨S2, hS2⟩ : ∃ S, S = y1.heap.size := ⟨_, rfl⟩
          have HSY : Hid (SB S2 Y th2 tg2 K2 T2 dt2 md2) := by show SB _ _ _ _ _ _ _ _; rw [hY, hS2]; exact SB.made _ _ _ _ _ _ _ _
          have hFY : FV Y a2 l2 x5.heap.size y1.heap.size := by rw [hY]; exact hFV2.below ((Below.refl _ _).alloc (Nat.le_refl _) _)
          have HIr : Hid (∀ wx, Below Y.heap.size Y wx → Calls Tryz.prog 11 #[.slice a2 l2.length ca2, .agg #[.bool th2, .bool tg2, .bool K2, .string T2, .bool dt2, .int .i64 md2], .int .i64 (86400 * (x2 : Int))] wx fun e w' => e = .returned (.tuple #[.bool (rngP l2 th2 tg2 K2 T2 dt2 md2 (86400 * (x2 : Int))), .bool (mayB l2 th2 tg2 K2 T2 dt2 md2 (86400 * (x2 : Int)))]) ∧ Below wx.heap.size wx w') := fun wx hbx => implRange_any a2 ca2 l2 th2 tg2 K2 T2 dt2 md2 _ mx wx _ _ ((HDW.out _ HBY.out).below hbx) (by have := (Cur.clean_parts hT2).1; omega) (fun c hc => (hz2 c hc).2.2) (fun c hc => ⟨by have := (hz2 c hc).1; omega, by have := (hz2 c hc).2.1; omega⟩) hca2 (hFY.below hbx)
          have HSr : Hid (∀ wx, Below Y.heap.size Y wx → Calls Tryz.prog 12 #[.slice a2 l2.length ca2, .agg #[.bool th2, .bool tg2, .bool K2, .string T2, .bool dt2, .int .i64 md2], .int .i64 (86400 * (x2 : Int))] wx fun e w' => e = .returned (.tuple #[.bool (rngP l2 th2 tg2 K2 T2 dt2 md2 (86400 * (x2 : Int))), .bool (mayB l2 th2 tg2 K2 T2 dt2 md2 (86400 * (x2 : Int)))]) ∧ Below wx.heap.size wx w') := fun wx hbx => specRange_any a2 ca2 l2 th2 tg2 K2 T2 dt2 md2 _ wx _ _ (by omega) (by have := (Cur.clean_parts hT2).1; omega) (fun c hc => (hz2 c hc).2.2) (fun c hc => ⟨by have := (hz2 c hc).1; omega, by have := (hz2 c hc).2.1; omega⟩) (hFY.below hbx)
          generalize rngP l2 th2 tg2 K2 T2 dt2 md2 (86400 * (x2 : Int)) = P2 at HIr HSr
          generalize mayB l2 th2 tg2 K2 T2 dt2 md2 (86400 * (x2 : Int)) = B2 at HIr HSr
          clear hb hFV2 hFY hz2 hT2 hy1 H2 HBx5
          unfold stV
          obtain ⟨qn, q0, q1, q2, q3, q4, q5⟩ := HSY.out
          go_wp2_with fail
          rw [← hY, ← hS2]
          clear hY hS2
          refine Calls.mono (HIr.out _ (Below.refl _ _)) ?_
          rintro e y2 ⟨rfl, hb⟩
          have HY2 : Hid (Below Y.heap.size Y y2) := hb
          have HBY2 : Hid (Below w.heap.size w y2) := HBY.out.trans (hb.mono HBY.out.size)
          clear q0 q1 q2 q3 q4 q5 qn
          obtain ⟨qn, q0, q1, q2, q3, q4, q5⟩ := HSY.out.below hb
          clear hb
          go_wp2_with fail
          refine Calls.mono (HSr.out _ HY2.out) ?_
          rintro e y3 ⟨rfl, hb⟩
          have HBY3 : Hid (Below w.heap.size w y3) := HBY2.out.trans (hb.mono HBY2.out.size)
          clear hb HBY2 HY2 HIr HSr HSY HBY q0 q1 q2 q3 q4 q5 qn
          cases P2 <;> cases B2
          all_goals
            go_wp2_with fail
            go_ret
            exact ⟨rfl, HBY3.out⟩
        · have HO2 : Hid _ := HOw.out (by trivial) (by trivial)
          obtain ⟨X5, hX5⟩ : ∃ X, X = x5.alloc (.cells #[.string cINM, .string (tagT K T)] 35) := ⟨_, rfl⟩
          have hZX5 : Below Z.heap.size Z X5 := by rw [hX5]; exact HZ5.out.alloc HZ5.out.size _
          have hs5 : X5.heap.size = x5.heap.size + 1 := by rw [hX5]; simp
          have hf5 : FV X5 (some ⟨x5.heap.size, 0, none⟩) [(cINM, tagT K T)] 0 X5.heap.size := by rw [hs5, hX5]; exact fv_made _ _ _ _
          have HC5 : Hid _ := (HO2.out X5 x5.heap.size hZX5).1 hf5
          have HZX5 : Hid (Below Z.heap.size Z X5) := hZX5
          clear hf5 hZX5
          obtain ⟨pn, p0, p1, p2, p3, p4, p5⟩ := HSZ.out.below HZX5.out
          rw [hX5] at p0 p1 p2 p3 p4 p5
          unfold cINM at p0 p1 p2 p3 p4 p5
          unfold cINM at hX5
          go_wp2_with fail
          rw [← hX5]
          clear hX5 HZ5 HBx5
          refine Calls.mono HC5.out ?_
          rintro e x6 ⟨rfl, hb⟩
          have HZ6 : Hid (Below Z.heap.size Z x6) := HZX5.out.trans (hb.mono HZX5.out.size)
          clear hb HC5 HZX5 q0 q1 q2 q3 q4 q5 qn p0 p1 p2 p3 p4 p5 pn
          obtain ⟨X6, hX6⟩ : ∃ X, X = x6.alloc (.cells #[.string cIM, .string (tagT K T)] 35) := ⟨_, rfl⟩
          have hZX6 : Below Z.heap.size Z X6 := by rw [hX6]; exact HZ6.out.alloc HZ6.out.size _
          have hs6 : X6.heap.size = x6.heap.size + 1 := by rw [hX6]; simp
          have hf6 : FV X6 (some ⟨x6.heap.size, 0, none⟩) [(cIM, tagT K T)] 0 X6.heap.size := by rw [hs6, hX6]; exact fv_made _ _ _ _
          have HC6 : Hid _ := (HO2.out X6 x6.heap.size hZX6).2 hf6
          have HZX6 : Hid (Below Z.heap.size Z X6) := hZX6
          clear hf6 hZX6
          obtain ⟨qn, q0, q1, q2, q3, q4, q5⟩ := HSZ.out.below HZX6.out
          rw [hX6] at q0 q1 q2 q3 q4 q5
          unfold cIM at hX6 q0 q1 q2 q3 q4 q5
          go_wp2_with fail
          rw [← hX6]
          clear hX6 HZ6
          refine Calls.mono HC6.out ?_
          rintro e x7 ⟨rfl, hb⟩
          have HZ7 : Hid (Below Z.heap.size Z x7) := HZX6.out.trans (hb.mono HZX6.out.size)
          have HBx7 : Hid (Below w.heap.size w x7) := HBZ.out.trans (HZ7.out.mono HBZ.out.size)
          clear hb HC6 HZX6 HO2 HOw q0 q1 q2 q3 q4 q5 qn
          obtain ⟨qn, q0, q1, q2, q3, q4, q5⟩ := HSZ.out.below HZ7.out
          cases K
          · go_wp2_with fail
            refine Calls.mono (H2.out _ HBx7.out) ?_
            rintro e y1 ⟨a2, ca2, l2, th2, tg2, K2, T2, dt2, md2, x2, rfl, hx2, hl2, hca2, hz2, hT2, hFV2, hb⟩
            have hy1 : Below w.heap.size w y1 := HBx7.out.trans (hb.mono HBx7.out.size)
            obtain ⟨Y, hY⟩ : ∃ Y, Y = y1.alloc (.cells #[.bool th2, .bool tg2, .bool K2, .string T2, .bool dt2, .int .i64 md2] 27) := ⟨_, rfl⟩
            have HBY : Hid (Below w.heap.size w Y) := by show Below _ _ _; rw [hY]; exact hy1.alloc hy1.size _
            obtain ⟨S2, hS2⟩ : ∃ S, S = y1.heap.size := ⟨_, rfl⟩
            have HSY : Hid (SB S2 Y th2 tg2 K2 T2 dt2 md2) := by show SB _ _ _ _ _ _ _ _; rw [hY, hS2]; exact SB.made _ _ _ _ _ _ _ _
            have hFY : FV Y a2 l2 x7.heap.size y1.heap.size := by rw [hY]; exact hFV2.below ((Below.refl _ _).alloc (Nat.le_refl _) _)
            have HIr : Hid (∀ wx, Below Y.heap.size Y wx → Calls Tryz.prog 11 #[.slice a2 l2.length ca2, .agg #[.bool th2, .bool tg2, .bool K2, .string T2, .bool dt2, .int .i64 md2], .int .i64 (86400 * (x2 : Int))] wx fun e w' => e = .returned (.tuple #[.bool (rngP l2 th2 tg2 K2 T2 dt2 md2 (86400 * (x2 : Int))), .bool (mayB l2 th2 tg2 K2 T2 dt2 md2 (86400 * (x2 : Int)))]) ∧ Below wx.heap.size wx w') := fun wx hbx => implRange_any a2 ca2 l2 th2 tg2 K2 T2 dt2 md2 _ mx wx _ _ ((HDW.out _ HBY.out).below hbx) (by have := (Cur.clean_parts hT2).1; omega) (fun c hc => (hz2 c hc).2.2) (fun c hc => ⟨by have := (hz2 c hc).1; omega, by have := (hz2 c hc).2.1; omega⟩) hca2 (hFY.below hbx)
            have HSr : Hid (∀ wx, Below Y.heap.size Y wx → Calls Tryz.prog 12 #[.slice a2 l2.length ca2, .agg #[.bool th2, .bool tg2, .bool K2, .string T2, .bool dt2, .int .i64 md2], .int .i64 (86400 * (x2 : Int))] wx fun e w' => e = .returned (.tuple #[.bool (rngP l2 th2 tg2 K2 T2 dt2 md2 (86400 * (x2 : Int))), .bool (mayB l2 th2 tg2 K2 T2 dt2 md2 (86400 * (x2 : Int)))]) ∧ Below wx.heap.size wx w') := fun wx hbx => specRange_any a2 ca2 l2 th2 tg2 K2 T2 dt2 md2 _ wx _ _ (by omega) (by have := (Cur.clean_parts hT2).1; omega) (fun c hc => (hz2 c hc).2.2) (fun c hc => ⟨by have := (hz2 c hc).1; omega, by have := (hz2 c hc).2.1; omega⟩) (hFY.below hbx)
            generalize rngP l2 th2 tg2 K2 T2 dt2 md2 (86400 * (x2 : Int)) = P2 at HIr HSr
            generalize mayB l2 th2 tg2 K2 T2 dt2 md2 (86400 * (x2 : Int)) = B2 at HIr HSr
            clear hb hFV2 hFY hz2 hT2 hy1 H2 HBx7
            unfold stV
            obtain ⟨qn, q0, q1, q2, q3, q4, q5⟩ := HSY.out
            go_wp2_with fail
            rw [← hY, ← hS2]
            clear hY hS2
            refine Calls.mono (HIr.out _ (Below.refl _ _)) ?_
            rintro e y2 ⟨rfl, hb⟩
            have HY2 : Hid (Below Y.heap.size Y y2) := hb
            have HBY2 : Hid (Below w.heap.size w y2) := HBY.out.trans (hb.mono HBY.out.size)
            clear q0 q1 q2 q3 q4 q5 qn
            obtain ⟨qn, q0, q1, q2, q3, q4, q5⟩ := HSY.out.below hb
            clear hb
            go_wp2_with fail
            refine Calls.mono (HSr.out _ HY2.out) ?_
            rintro e y3 ⟨rfl, hb⟩
            have HBY3 : Hid (Below w.heap.size w y3) := HBY2.out.trans (hb.mono HBY2.out.size)
            clear hb HBY2 HY2 HIr HSr HSY HBY q0 q1 q2 q3 q4 q5 qn
            cases P2 <;> cases B2
            all_goals
              go_wp2_with fail
              go_ret
              exact ⟨rfl, HBY3.out⟩
          · go_wp2_with fail
            refine Calls.mono (H2.out _ HBx7.out) ?_
            rintro e y1 ⟨a2, ca2, l2, th2, tg2, K2, T2, dt2, md2, x2, rfl, hx2, hl2, hca2, hz2, hT2, hFV2, hb⟩
            have hy1 : Below w.heap.size w y1 := HBx7.out.trans (hb.mono HBx7.out.size)
            obtain ⟨Y, hY⟩ : ∃ Y, Y = y1.alloc (.cells #[.bool th2, .bool tg2, .bool K2, .string T2, .bool dt2, .int .i64 md2] 27) := ⟨_, rfl⟩
            have HBY : Hid (Below w.heap.size w Y) := by show Below _ _ _; rw [hY]; exact hy1.alloc hy1.size _
            obtain ⟨S2, hS2⟩ : ∃ S, S = y1.heap.size := ⟨_, rfl⟩
            have HSY : Hid (SB S2 Y th2 tg2 K2 T2 dt2 md2) := by show SB _ _ _ _ _ _ _ _; rw [hY, hS2]; exact SB.made _ _ _ _ _ _ _ _
            have hFY : FV Y a2 l2 x7.heap.size y1.heap.size := by rw [hY]; exact hFV2.below ((Below.refl _ _).alloc (Nat.le_refl _) _)
            have HIr : Hid (∀ wx, Below Y.heap.size Y wx → Calls Tryz.prog 11 #[.slice a2 l2.length ca2, .agg #[.bool th2, .bool tg2, .bool K2, .string T2, .bool dt2, .int .i64 md2], .int .i64 (86400 * (x2 : Int))] wx fun e w' => e = .returned (.tuple #[.bool (rngP l2 th2 tg2 K2 T2 dt2 md2 (86400 * (x2 : Int))), .bool (mayB l2 th2 tg2 K2 T2 dt2 md2 (86400 * (x2 : Int)))]) ∧ Below wx.heap.size wx w') := fun wx hbx => implRange_any a2 ca2 l2 th2 tg2 K2 T2 dt2 md2 _ mx wx _ _ ((HDW.out _ HBY.out).below hbx) (by have := (Cur.clean_parts hT2).1; omega) (fun c hc => (hz2 c hc).2.2) (fun c hc => ⟨by have := (hz2 c hc).1; omega, by have := (hz2 c hc).2.1; omega⟩) hca2 (hFY.below hbx)
            have HSr : Hid (∀ wx, Below Y.heap.size Y wx → Calls Tryz.prog 12 #[.slice a2 l2.length ca2, .agg #[.bool th2, .bool tg2, .bool K2, .string T2, .bool dt2, .int .i64 md2], .int .i64 (86400 * (x2 : Int))] wx fun e w' => e = .returned (.tuple #[.bool (rngP l2 th2 tg2 K2 T2 dt2 md2 (86400 * (x2 : Int))), .bool (mayB l2 th2 tg2 K2 T2 dt2 md2 (86400 * (x2 : Int)))]) ∧ Below wx.heap.size wx w') := fun wx hbx => specRange_any a2 ca2 l2 th2 tg2 K2 T2 dt2 md2 _ wx _ _ (by omega) (by have := (Cur.clean_parts hT2).1; omega) (fun c hc => (hz2 c hc).2.2) (fun c hc => ⟨by have := (hz2 c hc).1; omega, by have := (hz2 c hc).2.1; omega⟩) (hFY.below hbx)
            generalize rngP l2 th2 tg2 K2 T2 dt2 md2 (86400 * (x2 : Int)) = P2 at HIr HSr
            generalize mayB l2 th2 tg2 K2 T2 dt2 md2 (86400 * (x2 : Int)) = B2 at HIr HSr
            clear hb hFV2 hFY hz2 hT2 hy1 H2 HBx7
            unfold stV
            obtain ⟨qn, q0, q1, q2, q3, q4, q5⟩ := HSY.out
            go_wp2_with fail
            rw [← hY, ← hS2]
            clear hY hS2
            refine Calls.mono (HIr.out _ (Below.refl _ _)) ?_
            rintro e y2 ⟨rfl, hb⟩
            have HY2 : Hid (Below Y.heap.size Y y2) := hb
            have HBY2 : Hid (Below w.heap.size w y2) := HBY.out.trans (hb.mono HBY.out.size)
            clear q0 q1 q2 q3 q4 q5 qn
            obtain ⟨qn, q0, q1, q2, q3, q4, q5⟩ := HSY.out.below hb
            clear hb
            go_wp2_with fail
            refine Calls.mono (HSr.out _ HY2.out) ?_
            rintro e y3 ⟨rfl, hb⟩
            have HBY3 : Hid (Below w.heap.size w y3) := HBY2.out.trans (hb.mono HBY2.out.size)
            clear hb HBY2 HY2 HIr HSr HSY HBY q0 q1 q2 q3 q4 q5 qn
            cases P2 <;> cases B2
            all_goals
              go_wp2_with fail
              go_ret
              exact ⟨rfl, HBY3.out⟩
    · clear hlook
      go_wp2_with fail
      refine Calls.mono (HN2.out _ HZ3.out) ?_
      rintro e x4 ⟨rfl, hb⟩
      have HZ4 : Hid (Below Z.heap.size Z x4) := HZ3.out.trans (hb.mono HZ3.out.size)
      clear q0 q1 q2 q3 q4 q5 qn hb HN2 HZ3 HBx3
      obtain ⟨qn, q0, q1, q2, q3, q4, q5⟩ := HSZ.out.below HZ4.out
      go_wp2_with fail
      refine Calls.mono (HT2.out _) ?_
      rintro e x5 ⟨rfl, hb⟩
      have HZ5 : Hid (Below Z.heap.size Z x5) := HZ4.out.trans (hb.mono HZ4.out.size)
      have HBx5 : Hid (Below w.heap.size w x5) := HBZ.out.trans (HZ5.out.mono HBZ.out.size)
      clear q0 q1 q2 q3 q4 q5 qn hb HT2 HZ4
      obtain ⟨qn, q0, q1, q2, q3, q4, q5⟩ := HSZ.out.below HZ5.out
      cases tg
      · clear HOw
        go_wp2_with fail
        refine Calls.mono (H2.out _ HBx5.out) ?_
        rintro e y1 ⟨a2, ca2, l2, th2, tg2, K2, T2, dt2, md2, x2, rfl, hx2, hl2, hca2, hz2, hT2, hFV2, hb⟩
        have hy1 : Below w.heap.size w y1 := HBx5.out.trans (hb.mono HBx5.out.size)
        obtain ⟨Y, hY⟩ : ∃ Y, Y = y1.alloc (.cells #[.bool th2, .bool tg2, .bool K2, .string T2, .bool dt2, .int .i64 md2] 27) := ⟨_, rfl⟩
        have HBY : Hid (Below w.heap.size w Y) := by show Below _ _ _; rw [hY]; exact hy1.alloc hy1.size _
        obtain ⟨S2, hS2⟩ : ∃ S, S = y1.heap.size := ⟨_, rfl⟩
        have HSY : Hid (SB S2 Y th2 tg2 K2 T2 dt2 md2) := by show SB _ _ _ _ _ _ _ _; rw [hY, hS2]; exact SB.made _ _ _ _ _ _ _ _
        have hFY : FV Y a2 l2 x5.heap.size y1.heap.size := by rw [hY]; exact hFV2.below ((Below.refl _ _).alloc (Nat.le_refl _) _)
        have HIr : Hid (∀ wx, Below Y.heap.size Y wx → Calls Tryz.prog 11 #[.slice a2 l2.length ca2, .agg #[.bool th2, .bool tg2, .bool K2, .string T2, .bool dt2, .int .i64 md2], .int .i64 (86400 * (x2 : Int))] wx fun e w' => e = .returned (.tuple #[.bool (rngP l2 th2 tg2 K2 T2 dt2 md2 (86400 * (x2 : Int))), .bool (mayB l2 th2 tg2 K2 T2 dt2 md2 (86400 * (x2 : Int)))]) ∧ Below wx.heap.size wx w') := fun wx hbx => implRange_any a2 ca2 l2 th2 tg2 K2 T2 dt2 md2 _ mx wx _ _ ((HDW.out _ HBY.out).below hbx) (by have := (Cur.clean_parts hT2).1; omega) (fun c hc => (hz2 c hc).2.2) (fun c hc => ⟨by have := (hz2 c hc).1; omega, by have := (hz2 c hc).2.1; omega⟩) hca2 (hFY.below hbx)
        have HSr : Hid (∀ wx, Below Y.heap.size Y wx → Calls Tryz.prog 12 #[.slice a2 l2.length ca2, .agg #[.bool th2, .bool tg2, .bool K2, .string T2, .bool dt2, .int .i64 md2], .int .i64 (86400 * (x2 : Int))] wx fun e w' => e = .returned (.tuple #[.bool (rngP l2 th2 tg2 K2 T2 dt2 md2 (86400 * (x2 : Int))), .bool (mayB l2 th2 tg2 K2 T2 dt2 md2 (86400 * (x2 : Int)))]) ∧ Below wx.heap.size wx w') := fun wx hbx => specRange_any a2 ca2 l2 th2 tg2 K2 T2 dt2 md2 _ wx _ _ (by omega) (by have := (Cur.clean_parts hT2).1; omega) (fun c hc => (hz2 c hc).2.2) (fun c hc => ⟨by have := (hz2 c hc).1; omega, by have := (hz2 c hc).2.1; omega⟩) (hFY.below hbx)
        generalize rngP l2 th2 tg2 K2 T2 dt2 md2 (86400 * (x2 : Int)) = P2 at HIr HSr
        generalize mayB l2 th2 tg2 K2 T2 dt2 md2 (86400 * (x2 : Int)) = B2 at HIr HSr
        clear hb hFV2 hFY hz2 hT2 hy1 H2 HBx5
        unfold stV
        obtain ⟨qn, q0, q1, q2, q3, q4, q5⟩ := HSY.out
        go_wp2_with fail
        rw [← hY, ← hS2]
        clear hY hS2
        refine Calls.mono (HIr.out _ (Below.refl _ _)) ?_
        rintro e y2 ⟨rfl, hb⟩
        have HY2 : Hid (Below Y.heap.size Y y2) := hb
        have HBY2 : Hid (Below w.heap.size w y2) := HBY.out.trans (hb.mono HBY.out.size)
        clear q0 q1 q2 q3 q4 q5 qn
        obtain ⟨qn, q0, q1, q2, q3, q4, q5⟩ := HSY.out.below hb
        clear hb
        go_wp2_with fail
        refine Calls.mono (HSr.out _ HY2.out) ?_
        rintro e y3 ⟨rfl, hb⟩
        have HBY3 : Hid (Below w.heap.size w y3) := HBY2.out.trans (hb.mono HBY2.out.size)
        clear hb HBY2 HY2 HIr HSr HSY HBY q0 q1 q2 q3 q4 q5 qn
        cases P2 <;> cases B2
        all_goals
          go_wp2_with fail
          go_ret
          exact ⟨rfl, HBY3.out⟩
      · have HO2 : Hid _ := HOw.out (by trivial) (by trivial)
        obtain ⟨X5, hX5⟩ : ∃ X, X = x5.alloc (.cells #[.string cINM, .string (tagT K T)] 35) := ⟨_, rfl⟩
        have hZX5 : Below Z.heap.size Z X5 := by rw [hX5]; exact HZ5.out.alloc HZ5.out.size _
        have hs5 : X5.heap.size = x5.heap.size + 1 := by rw [hX5]; simp
        have hf5 : FV X5 (some ⟨x5.heap.size, 0, none⟩) [(cINM, tagT K T)] 0 X5.heap.size := by rw [hs5, hX5]; exact fv_made _ _ _ _
        have HC5 : Hid _ := (HO2.out X5 x5.heap.size hZX5).1 hf5
        have HZX5 : Hid (Below Z.heap.size Z X5) := hZX5
        clear hf5 hZX5
        obtain ⟨pn, p0, p1, p2, p3, p4, p5⟩ := HSZ.out.below HZX5.out
        rw [hX5] at p0 p1 p2 p3 p4 p5
        unfold cINM at p0 p1 p2 p3 p4 p5
        unfold cINM at hX5
        go_wp2_with fail
        rw [← hX5]
        clear hX5 HZ5 HBx5
        refine Calls.mono HC5.out ?_
        rintro e x6 ⟨rfl, hb⟩
        have HZ6 : Hid (Below Z.heap.size Z x6) := HZX5.out.trans (hb.mono HZX5.out.size)
        clear hb HC5 HZX5 q0 q1 q2 q3 q4 q5 qn p0 p1 p2 p3 p4 p5 pn
        obtain ⟨X6, hX6⟩ : ∃ X, X = x6.alloc (.cells #[.string cIM, .string (tagT K T)] 35) := ⟨_, rfl⟩
        have hZX6 : Below Z.heap.size Z X6 := by rw [hX6]; exact HZ6.out.alloc HZ6.out.size _
        have hs6 : X6.heap.size = x6.heap.size + 1 := by rw [hX6]; simp
        have hf6 : FV X6 (some ⟨x6.heap.size, 0, none⟩) [(cIM, tagT K T)] 0 X6.heap.size := by rw [hs6, hX6]; exact fv_made _ _ _ _
        have HC6 : Hid _ := (HO2.out X6 x6.heap.size hZX6).2 hf6
        have HZX6 : Hid (Below Z.heap.size Z X6) := hZX6
        clear hf6 hZX6
        obtain ⟨qn, q0, q1, q2, q3, q4, q5⟩ := HSZ.out.below HZX6.out
        rw [hX6] at q0 q1 q2 q3 q4 q5
        unfold cIM at hX6 q0 q1 q2 q3 q4 q5
        go_wp2_with fail
        rw [← hX6]
        clear hX6 HZ6
        refine Calls.mono HC6.out ?_
        rintro e x7 ⟨rfl, hb⟩
        have HZ7 : Hid (Below Z.heap.size Z x7) := HZX6.out.trans (hb.mono HZX6.out.size)
        have HBx7 : Hid (Below w.heap.size w x7) := HBZ.out.trans (HZ7.out.mono HBZ.out.size)
        clear hb HC6 HZX6 HO2 HOw q0 q1 q2 q3 q4 q5 qn
        obtain ⟨qn, q0, q1, q2, q3, q4, q5⟩ := HSZ.out.below HZ7.out
        cases K
        · go_wp2_with fail
          refine Calls.mono (H2.out _ HBx7.out) ?_
          rintro e y1 ⟨a2, ca2, l2, th2, tg2, K2, T2, dt2, md2, x2, rfl, hx2, hl2, hca2, hz2, hT2, hFV2, hb⟩
          have hy1 : Below w.heap.size w y1 := HBx7.out.trans (hb.mono HBx7.out.size)
          obtain ⟨Y, hY⟩ : ∃ Y, Y = y1.alloc (.cells #[.bool th2, .bool tg2, .bool K2, .string T2, .bool dt2, .int .i64 md2] 27) := ⟨_, rfl⟩
          have HBY : Hid (Below w.heap.size w Y) := by show Below _ _ _; rw [hY]; exact hy1.alloc hy1.size _
          obtain ⟨S2, hS2⟩ : ∃ S, S = y1.heap.size := ⟨_, rfl⟩
          have HSY : Hid (SB S2 Y th2 tg2 K2 T2 dt2 md2) := by show SB _ _ _ _ _ _ _ _; rw [hY, hS2]; exact SB.made _ _ _ _ _ _ _ _
          have hFY : FV Y a2 l2 x7.heap.size y1.heap.size := by rw [hY]; exact hFV2.below ((Below.refl _ _).alloc (Nat.le_refl _) _)
          have HIr : Hid (∀ wx, Below Y.heap.size Y wx → Calls Tryz.prog 11 #[.slice a2 l2.length ca2, .agg #[.bool th2, .bool tg2, .bool K2, .string T2, .bool dt2, .int .i64 md2], .int .i64 (86400 * (x2 : Int))] wx fun e w' => e = .returned (.tuple #[.bool (rngP l2 th2 tg2 K2 T2 dt2 md2 (86400 * (x2 : Int))), .bool (mayB l2 th2 tg2 K2 T2 dt2 md2 (86400 * (x2 : Int)))]) ∧ Below wx.heap.size wx w') := fun wx hbx => implRange_any a2 ca2 l2 th2 tg2 K2 T2 dt2 md2 _ mx wx _ _ ((HDW.out _ HBY.out).below hbx) (by have := (Cur.clean_parts hT2).1; omega) (fun c hc => (hz2 c hc).2.2) (fun c hc => ⟨by have := (hz2 c hc).1; omega, by have := (hz2 c hc).2.1; omega⟩) hca2 (hFY.below hbx)
          have HSr : Hid (∀ wx, Below Y.heap.size Y wx → Calls Tryz.prog 12 #[.slice a2 l2.length ca2, .agg #[.bool th2, .bool tg2, .bool K2, .string T2, .bool dt2, .int .i64 md2], .int .i64 (86400 * (x2 : Int))] wx fun e w' => e = .returned (.tuple #[.bool (rngP l2 th2 tg2 K2 T2 dt2 md2 (86400 * (x2 : Int))), .bool (mayB l2 th2 tg2 K2 T2 dt2 md2 (86400 * (x2 : Int)))]) ∧ Below wx.heap.size wx w') := fun wx hbx => specRange_any a2 ca2 l2 th2 tg2 K2 T2 dt2 md2 _ wx _ _ (by omega) (by have := (Cur.clean_parts hT2).1; omega) (fun c hc => (hz2 c hc).2.2) (fun c hc => ⟨by have := (hz2 c hc).1; omega, by have := (hz2 c hc).2.1; omega⟩) (hFY.below hbx)
          generalize rngP l2 th2 tg2 K2 T2 dt2 md2 (86400 * (x2 : Int)) = P2 at HIr HSr
          generalize mayB l2 th2 tg2 K2 T2 dt2 md2 (86400 * (x2 : Int)) = B2 at HIr HSr
          clear hb hFV2 hFY hz2 hT2 hy1 H2 HBx7
          unfold stV
          obtain ⟨qn, q0, q1, q2, q3, q4, q5⟩ := HSY.out
          go_wp2_with fail
          rw [← hY, ← hS2]
          clear hY hS2
          refine Calls.mono (HIr.out _ (Below.refl _ _)) ?_
          rintro e y2 ⟨rfl, hb⟩
          have HY2 : Hid (Below Y.heap.size Y y2) := hb
          have HBY2 : Hid (Below w.heap.size w y2) := HBY.out.trans (hb.mono HBY.out.size)
          clear q0 q1 q2 q3 q4 q5 qn
          obtain ⟨qn, q0, q1, q2, q3, q4, q5⟩ := HSY.out.below hb
          clear hb
          go_wp2_with fail
          refine Calls.mono (HSr.out _ HY2.out) ?_
          rintro e y3 ⟨rfl, hb⟩
          have HBY3 : Hid (Below w.heap.size w y3) := HBY2.out.trans (hb.mono HBY2.out.size)
          clear hb HBY2 HY2 HIr HSr HSY HBY q0 q1 q2 q3 q4 q5 qn
          cases P2 <;> cases B2
          all_goals
            go_wp2_with fail
            go_ret
            exact ⟨rfl, HBY3.out⟩
        · go_wp2_with fail
          refine Calls.mono (H2.out _ HBx7.out) ?_
          rintro e y1 ⟨a2, ca2, l2, th2, tg2, K2, T2, dt2, md2, x2, rfl, hx2, hl2, hca2, hz2, hT2, hFV2, hb⟩
          have hy1 : Below w.heap.size w y1 := HBx7.out.trans (hb.mono HBx7.out.size)
          obtain ⟨Y, hY⟩ : ∃ Y, Y = y1.alloc (.cells #[.bool th2, .bool tg2, .bool K2, .string T2, .bool dt2, .int .i64 md2] 27) := ⟨_, rfl⟩
          have HBY : Hid (Below w.heap.size w Y) := by show Below _ _ _; rw [hY]; exact hy1.alloc hy1.size _
          obtain ⟨S2, hS2⟩ : ∃ S, S = y1.heap.size := ⟨_, rfl⟩
          have HSY : Hid (SB S2 Y th2 tg2 K2 T2 dt2 md2) := by show SB _ _ _ _ _ _ _ _; rw [hY, hS2]; exact SB.made _ _ _ _ _ _ _ _
          have hFY : FV Y a2 l2 x7.heap.size y1.heap.size := by rw [hY]; exact hFV2.below ((Below.refl _ _).alloc (Nat.le_refl _) _)
          have HIr : Hid (∀ wx, Below Y.heap.size Y wx → Calls Tryz.prog 11 #[.slice a2 l2.length ca2, .agg #[.bool th2, .bool tg2, .bool K2, .string T2, .bool dt2, .int .i64 md2], .int .i64 (86400 * (x2 : Int))] wx fun e w' => e = .returned (.tuple #[.bool (rngP l2 th2 tg2 K2 T2 dt2 md2 (86400 * (x2 : Int))), .bool (mayB l2 th2 tg2 K2 T2 dt2 md2 (86400 * (x2 : Int)))]) ∧ Below wx.heap.size wx w') := fun wx hbx => implRange_any a2 ca2 l2 th2 tg2 K2 T2 dt2 md2 _ mx wx _ _ ((HDW.out _ HBY.out).below hbx) (by have := (Cur.clean_parts hT2).1; omega) (fun c hc => (hz2 c hc).2.2) (fun c hc => ⟨by have := (hz2 c hc).1; omega, by have := (hz2 c hc).2.1; omega⟩) hca2 (hFY.below hbx)
          have HSr : Hid (∀ wx, Below Y.heap.size Y wx → Calls Tryz.prog 12 #[.slice a2 l2.length ca2, .agg #[.bool th2, .bool tg2, .bool K2, .string T2, .bool dt2, .int .i64 md2], .int .i64 (86400 * (x2 : Int))] wx fun e w' => e = .returned (.tuple #[.bool (rngP l2 th2 tg2 K2 T2 dt2 md2 (86400 * (x2 : Int))), .bool (mayB l2 th2 tg2 K2 T2 dt2 md2 (86400 * (x2 : Int)))]) ∧ Below wx.heap.size wx w') := fun wx hbx => specRange_any a2 ca2 l2 th2 tg2 K2 T2 dt2 md2 _ wx _ _ (by omega) (by have := (Cur.clean_parts hT2).1; omega) (fun c hc => (hz2 c hc).2.2) (fun c hc => ⟨by have := (hz2 c hc).1; omega, by have := (hz2 c hc).2.1; omega⟩) (hFY.below hbx)
          generalize rngP l2 th2 tg2 K2 T2 dt2 md2 (86400 * (x2 : Int)) = P2 at HIr HSr
          generalize mayB l2 th2 tg2 K2 T2 dt2 md2 (86400 * (x2 : Int)) = B2 at HIr HSr
          clear hb hFV2 hFY hz2 hT2 hy1 H2 HBx7
          unfold stV
          obtain ⟨qn, q0, q1, q2, q3, q4, q5⟩ := HSY.out
          go_wp2_with fail
          rw [← hY, ← hS2]
          clear hY hS2
          refine Calls.mono (HIr.out _ (Below.refl _ _)) ?_
          rintro e y2 ⟨rfl, hb⟩
          have HY2 : Hid (Below Y.heap.size Y y2) := hb
          have HBY2 : Hid (Below w.heap.size w y2) := HBY.out.trans (hb.mono HBY.out.size)
          clear q0 q1 q2 q3 q4 q5 qn
          obtain ⟨qn, q0, q1, q2, q3, q4, q5⟩ := HSY.out.below hb
          clear hb
          go_wp2_with fail
          refine Calls.mono (HSr.out _ HY2.out) ?_
          rintro e y3 ⟨rfl, hb⟩
          have HBY3 : Hid (Below w.heap.size w y3) := HBY2.out.trans (hb.mono HBY2.out.size)
          clear hb HBY2 HY2 HIr HSr HSY HBY q0 q1 q2 q3 q4 q5 qn
          cases P2 <;> cases B2
          all_goals
            go_wp2_with fail
            go_ret
            exact ⟨rfl, HBY3.out⟩


end Go.Proofs.YtgidmoncocbfiaaGreatDoor.Cds
