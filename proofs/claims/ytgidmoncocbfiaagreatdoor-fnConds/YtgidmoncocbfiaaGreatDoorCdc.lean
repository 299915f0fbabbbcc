/-
  Walk: spec.l7Check.
-/
import Derived.Test.YtgidmoncocbfiaaGreatDoorMg15
namespace Go.Proofs.YtgidmoncocbfiaaGreatDoor.Cds
open Go.RowKit
open Go.Proofs.YtgidmoncocbfiaaGreatDoor.Tga Go.Proofs.YtgidmoncocbfiaaGreatDoor.Tgb Go.Proofs.YtgidmoncocbfiaaGreatDoor.Tgx
open Go.Proofs.YtgidmoncocbfiaaGreatDoor.Fvs
open Go.Proofs.YtgidmoncocbfiaaGreatDoor.Fdb (FV)
open Go.Proofs.YtgidmoncocbfiaaGreatDoor.Jnd (joinS)
open Go.Proofs.YtgidmoncocbfiaaGreatDoor.Cda
open Go.Proofs.YtgidmoncocbfiaaGreatDoor.Lsp (listO)
open Go.Proofs.YtgidmoncocbfiaaGreatDoor.Wgt (ret_i)

set_option maxRecDepth 20000 in
set_option maxHeartbeats 6400000 in
theorem l7Check_any (m : ByteArray) (a : Option Addr) (ca : Nat) (l : List (ByteArray × ByteArray)) (th tg K : Bool) (T : ByteArray) (dt : Bool) (md now : Int) (w : World) (lo hi : Nat) (hg : goodL l = true) (hd : ∀ c ∈ l, ∃ o, DV c.2 o) (hz : SzF l) (ha : FV w a l lo hi) (hnow : 0 ≤ now ∧ now ≤ 253402300799) :
    Calls Tryz.prog 30 #[.string m, .slice a l.length ca, stV th tg K T dt md, .int .i64 now] w fun e w' => e = .returned (.int .i64 (codeP (looksB m) l th tg K T dt md)) ∧ Below w.heap.size w w' := by
  have hlen := (goodL_all hg).1
  have HJ1 : Hid (∀ wx, Below w.heap.size w wx → Calls Tryz.prog 60 #[.slice a l.length ca, .string ⟨#[105, 102, 45, 109, 97, 116, 99, 104]⟩] wx fun e w' => e = .returned (.tuple #[.string (joinS (valsOf nIm l)), .bool (hasN l nIm)]) ∧ Below wx.heap.size wx w') := fun wx hb => Jnd.l3Joined_any a ca l nIm wx lo hi (by omega) (by decide) hz (ha.below hb)
  have HJ2 : Hid (∀ wx, Below w.heap.size w wx → Calls Tryz.prog 60 #[.slice a l.length ca, .string ⟨#[105, 102, 45, 110, 111, 110, 101, 45, 109, 97, 116, 99, 104]⟩] wx fun e w' => e = .returned (.tuple #[.string (joinS (valsOf nInm l)), .bool (hasN l nInm)]) ∧ Below wx.heap.size wx w') := fun wx hb => Jnd.l3Joined_any a ca l nInm wx lo hi (by omega) (by decide) hz (ha.below hb)
  have HT1 : Hid (∀ wx, Calls Tryz.prog 61 #[.string (joinS (valsOf nIm l))] wx fun e w' => (∃ a cap, e = .returned (.tuple #[.slice a (tagsR (lstN l nIm)).length cap, .bool (oneR (lstN l nIm)), .bool (okR (lstN l nIm))]) ∧ GV w' a (tagsR (lstN l nIm)) wx.heap.size w'.heap.size) ∧ Below wx.heap.size wx w') := fun wx => (specTags_any _ wx (good_join hg nIm)).mono fun e w' ⟨h, hb⟩ => ⟨tags_gv h, hb⟩
  have HT2 : Hid (∀ wx, Calls Tryz.prog 61 #[.string (joinS (valsOf nInm l))] wx fun e w' => (∃ a cap, e = .returned (.tuple #[.slice a (tagsR (lstN l nInm)).length cap, .bool (oneR (lstN l nInm)), .bool (okR (lstN l nInm))]) ∧ GV w' a (tagsR (lstN l nInm)) wx.heap.size w'.heap.size) ∧ Below wx.heap.size wx w') := fun wx => (specTags_any _ wx (good_join hg nInm)).mono fun e w' ⟨h, hb⟩ => ⟨tags_gv h, hb⟩
  have HM1 : Hid (∀ a ca wx lo hi, GV wx a (tagsR (lstN l nIm)) lo hi → Calls Tryz.prog 36 #[.slice a (tagsR (lstN l nIm)).length ca, .bool (oneR (lstN l nIm)), .agg #[.bool th, .bool tg, .bool K, .string T, .bool dt, .int .i64 md], .bool true] wx fun e w' => e = .returned (.bool (matN l nIm th tg K T true)) ∧ Below wx.heap.size wx w') := fun a ca wx lo hi h => l7Matches_any a ca _ _ th tg K T dt md true wx lo hi (by have := tags_len (lstN l nIm); omega) h
  have HM2 : Hid (∀ a ca wx lo hi, GV wx a (tagsR (lstN l nInm)) lo hi → Calls Tryz.prog 36 #[.slice a (tagsR (lstN l nInm)).length ca, .bool (oneR (lstN l nInm)), .agg #[.bool th, .bool tg, .bool K, .string T, .bool dt, .int .i64 md], .bool false] wx fun e w' => e = .returned (.bool (matN l nInm th tg K T false)) ∧ Below wx.heap.size wx w') := fun a ca wx lo hi h => l7Matches_any a ca _ _ th tg K T dt md false wx lo hi (by have := tags_len (lstN l nInm); omega) h
  have HD1 : Hid (∀ wx, Below w.heap.size w wx → Calls Tryz.prog 37 #[.slice a l.length ca, .string ⟨#[105, 102, 45, 117, 110, 109, 111, 100, 105, 102, 105, 101, 100, 45, 115, 105, 110, 99, 101]⟩, .int .i64 now] wx fun e w' => e = .returned (.tuple #[.int .i64 ((dateP l nIus).getD 0), .bool (dateP l nIus).isSome]) ∧ Below wx.heap.size wx w') := fun wx hb => l7Date_any a ca l nIus now wx lo hi (by omega) hd (by decide) hz (ha.below hb) hnow
  have HD2 : Hid (∀ wx, Below w.heap.size w wx → Calls Tryz.prog 37 #[.slice a l.length ca, .string ⟨#[105, 102, 45, 109, 111, 100, 105, 102, 105, 101, 100, 45, 115, 105, 110, 99, 101]⟩, .int .i64 now] wx fun e w' => e = .returned (.tuple #[.int .i64 ((dateP l nIms).getD 0), .bool (dateP l nIms).isSome]) ∧ Below wx.heap.size wx w') := fun wx hb => l7Date_any a ca l nIms now wx lo hi (by omega) hd (by decide) hz (ha.below hb) hnow
  have HC : Hid (codeP (looksB m) l th tg K T dt md = codeF (looksB m) (hasN l nIm) (okR (lstN l nIm)) (matN l nIm th tg K T true) (dateP l nIus).isSome ((dateP l nIus).getD 0) (hasN l nInm) (okR (lstN l nInm)) (matN l nInm th tg K T false) (dateP l nIms).isSome ((dateP l nIms).getD 0) dt md) := code_parts _ l th tg K T dt md
  have HB0 : Hid (Below w.heap.size w (w.alloc (.cells #[.bool th, .bool tg, .bool K, .string T, .bool dt, .int .i64 md] 27))) := (Below.refl _ _).alloc (Nat.le_refl _) _
  have HS0 : Hid (SB w.heap.size (w.alloc (.cells #[.bool th, .bool tg, .bool K, .string T, .bool dt, .int .i64 md] 27)) th tg K T dt md) := SB.made w _ th tg K T dt md
  generalize codeP (looksB m) l th tg K T dt md = R at HC ⊢
  clear hg hd hz ha hnow
  generalize matN l nIm th tg K T true = m1 at HM1 HC
  generalize matN l nInm th tg K T false = m2 at HM2 HC
  generalize tagsR (lstN l nIm) = t1 at HM1 HT1
  generalize tagsR (lstN l nInm) = t2 at HM2 HT2
  generalize oneR (lstN l nIm) = o1 at HM1 HT1
  generalize oneR (lstN l nInm) = o2 at HM2 HT2
  generalize okR (lstN l nIm) = k1 at HT1 HC
  generalize okR (lstN l nInm) = k2 at HT2 HC
  generalize joinS (valsOf nIm l) = j1 at HJ1 HT1
  generalize joinS (valsOf nInm l) = j2 at HJ2 HT2
  generalize hasN l nIm = h1 at HJ1 HC
  generalize hasN l nInm = h2 at HJ2 HC
  generalize (dateP l nIus).getD 0 = D1 at HD1 HC
  generalize (dateP l nIus).isSome = s1 at HD1 HC
  generalize (dateP l nIms).getD 0 = D2 at HD2 HC
  generalize (dateP l nIms).isSome = s2 at HD2 HC
  obtain ⟨lk, hlk⟩ : ∃ lk, lk = looksB m := ⟨_, rfl⟩
  rw [← hlk] at HC
  unfold looksB at hlk
  cases b1 : (m.toList == [71, 69, 84])
  rotate_left
  · obtain rfl : lk = true := by rw [hlk, b1]; rfl
    clear hlk
    go_enter Tryz.func30, Tryz.ntmps30
    go_wp2_with fail
    refine Calls.mono (HJ1.out _ HB0.out) ?_
    rintro e w1 ⟨rfl, hb⟩
    have HB1 : Hid (Below w.heap.size w w1) := HB0.out.trans (hb.mono HB0.out.size)
    have HS1 : Hid (SB w.heap.size w1 th tg K T dt md) := HS0.out.below hb
    obtain ⟨qn, q0, q1, q2, q3, q4, q5⟩ := HS1.out
    clear hb HB0 HS0
    cases h1
    rotate_left
    · go_wp2_with fail
      refine Calls.mono (HT1.out _) ?_
      rintro e w2 ⟨⟨a1, c1, rfl, hG⟩, hb⟩
      have HG : Hid (GV w2 a1 t1 w1.heap.size w2.heap.size) := hG
      clear hG
      have HB2 : Hid (Below w.heap.size w w2) := HB1.out.trans (hb.mono HB1.out.size)
      have HS2 : Hid (SB w.heap.size w2 th tg K T dt md) := HS1.out.below hb
      clear q0 q1 q2 q3 q4 q5 qn
      obtain ⟨qn, q0, q1, q2, q3, q4, q5⟩ := HS2.out
      clear hb HB1 HS1
      cases k1
      · clear HG
        go_wp2_with fail
        refine Calls.mono (HJ2.out _ HB2.out) ?_
        rintro e w3 ⟨rfl, hb⟩
        have HB3 : Hid (Below w.heap.size w w3) := HB2.out.trans (hb.mono HB2.out.size)
        have HS3 : Hid (SB w.heap.size w3 th tg K T dt md) := HS2.out.below hb
        clear q0 q1 q2 q3 q4 q5 qn
        obtain ⟨qn, q0, q1, q2, q3, q4, q5⟩ := HS3.out
        clear hb HB2 HS2
        cases h2
        rotate_left
        · go_wp2_with fail
          refine Calls.mono (HT2.out _) ?_
          rintro e w4 ⟨⟨a2, c2, rfl, hG⟩, hb⟩
          have HG : Hid (GV w4 a2 t2 w3.heap.size w4.heap.size) := hG
          clear hG
          have HB4 : Hid (Below w.heap.size w w4) := HB3.out.trans (hb.mono HB3.out.size)
          have HS4 : Hid (SB w.heap.size w4 th tg K T dt md) := HS3.out.below hb
          clear q0 q1 q2 q3 q4 q5 qn
          obtain ⟨qn, q0, q1, q2, q3, q4, q5⟩ := HS4.out
          clear hb HB3 HS3
          cases k2
          · go_wp2_with fail
            go_ret
            exact ⟨ret_i (HC.out.trans (by first | (unfold codeF; rw [hfd, hcd]; rfl) | (unfold codeF; rw [hfd]; rfl) | (unfold codeF; rw [hcd]; rfl) | (simp [codeF]; done))).symm, HB4.out⟩
          · go_wp2_with fail
            refine Calls.mono (HM2.out _ _ _ _ _ HG.out) ?_
            rintro e w5 ⟨rfl, hb⟩
            have HB5 : Hid (Below w.heap.size w w5) := HB4.out.trans (hb.mono HB4.out.size)
            have HS5 : Hid (SB w.heap.size w5 th tg K T dt md) := HS4.out.below hb
            clear q0 q1 q2 q3 q4 q5 qn
            obtain ⟨qn, q0, q1, q2, q3, q4, q5⟩ := HS5.out
            clear hb HB4 HS4
            cases m2
            · go_wp2_with fail
              go_ret
              exact ⟨ret_i (HC.out.trans (by first | (unfold codeF; rw [hfd, hcd]; rfl) | (unfold codeF; rw [hfd]; rfl) | (unfold codeF; rw [hcd]; rfl) | (simp [codeF]; done))).symm, HB5.out⟩
            · go_wp2_with fail
              go_ret
              exact ⟨ret_i (HC.out.trans (by first | (unfold codeF; rw [hfd, hcd]; rfl) | (unfold codeF; rw [hfd]; rfl) | (unfold codeF; rw [hcd]; rfl) | (simp [codeF]; done))).symm, HB5.out⟩
        · go_wp2_with fail
          refine Calls.mono (HD2.out _ HB3.out) ?_
          rintro e w4 ⟨rfl, hb⟩
          have HB4 : Hid (Below w.heap.size w w4) := HB3.out.trans (hb.mono HB3.out.size)
          have HS4 : Hid (SB w.heap.size w4 th tg K T dt md) := HS3.out.below hb
          clear q0 q1 q2 q3 q4 q5 qn
          obtain ⟨qn, q0, q1, q2, q3, q4, q5⟩ := HS4.out
          clear hb HB3 HS3
          cases s2
          · go_wp2_with fail
            go_ret
            exact ⟨ret_i (HC.out.trans (by first | (unfold codeF; rw [hfd, hcd]; rfl) | (unfold codeF; rw [hfd]; rfl) | (unfold codeF; rw [hcd]; rfl) | (simp [codeF]; done))).symm, HB4.out⟩
          · cases dt
            · go_wp2_with fail
              go_ret
              exact ⟨ret_i (HC.out.trans (by first | (unfold codeF; rw [hfd, hcd]; rfl) | (unfold codeF; rw [hfd]; rfl) | (unfold codeF; rw [hcd]; rfl) | (simp [codeF]; done))).symm, HB4.out⟩
            · by_cases hc : md ≤ D2
              · have hcd : decide (md ≤ D2) = true := decide_eq_true hc
                go_wp2_with fail
                go_ret
                exact ⟨ret_i (HC.out.trans (by first | (unfold codeF; rw [hfd, hcd]; rfl) | (unfold codeF; rw [hfd]; rfl) | (unfold codeF; rw [hcd]; rfl) | (simp [codeF, hc]; done))).symm, HB4.out⟩
              · have hcd : decide (md ≤ D2) = false := decide_eq_false hc
                go_wp2_with fail
                go_ret
                exact ⟨ret_i (HC.out.trans (by first | (unfold codeF; rw [hfd, hcd]; rfl) | (unfold codeF; rw [hfd]; rfl) | (unfold codeF; rw [hcd]; rfl) | (simp [codeF, hc]; done))).symm, HB4.out⟩
      · go_wp2_with fail
        refine Calls.mono (HM1.out _ _ _ _ _ HG.out) ?_
        rintro e w3 ⟨rfl, hb⟩
        clear HG
        have HB3 : Hid (Below w.heap.size w w3) := HB2.out.trans (hb.mono HB2.out.size)
        have HS3 : Hid (SB w.heap.size w3 th tg K T dt md) := HS2.out.below hb
        clear q0 q1 q2 q3 q4 q5 qn
        obtain ⟨qn, q0, q1, q2, q3, q4, q5⟩ := HS3.out
        clear hb HB2 HS2
        cases m1
        · go_wp2_with fail
          go_ret
          exact ⟨ret_i (HC.out.trans (by first | (unfold codeF; rw [hfd, hcd]; rfl) | (unfold codeF; rw [hfd]; rfl) | (unfold codeF; rw [hcd]; rfl) | (simp [codeF]; done))).symm, HB3.out⟩
        · go_wp2_with fail
          refine Calls.mono (HJ2.out _ HB3.out) ?_
          rintro e w4 ⟨rfl, hb⟩
          have HB4 : Hid (Below w.heap.size w w4) := HB3.out.trans (hb.mono HB3.out.size)
          have HS4 : Hid (SB w.heap.size w4 th tg K T dt md) := HS3.out.below hb
          clear q0 q1 q2 q3 q4 q5 qn
          obtain ⟨qn, q0, q1, q2, q3, q4, q5⟩ := HS4.out
          clear hb HB3 HS3
          cases h2
          rotate_left
          · go_wp2_with fail
            refine Calls.mono (HT2.out _) ?_
            rintro e w5 ⟨⟨a2, c2, rfl, hG⟩, hb⟩
            have HG : Hid (GV w5 a2 t2 w4.heap.size w5.heap.size) := hG
            clear hG
            have HB5 : Hid (Below w.heap.size w w5) := HB4.out.trans (hb.mono HB4.out.size)
            have HS5 : Hid (SB w.heap.size w5 th tg K T dt md) := HS4.out.below hb
            clear q0 q1 q2 q3 q4 q5 qn
            obtain ⟨qn, q0, q1, q2, q3, q4, q5⟩ := HS5.out
            clear hb HB4 HS4
            cases k2
            · go_wp2_with fail
              go_ret
              exact ⟨ret_i (HC.out.trans (by first | (unfold codeF; rw [hfd, hcd]; rfl) | (unfold codeF; rw [hfd]; rfl) | (unfold codeF; rw [hcd]; rfl) | (simp [codeF]; done))).symm, HB5.out⟩
            · go_wp2_with fail
              refine Calls.mono (HM2.out _ _ _ _ _ HG.out) ?_
              rintro e w6 ⟨rfl, hb⟩
              have HB6 : Hid (Below w.heap.size w w6) := HB5.out.trans (hb.mono HB5.out.size)
              have HS6 : Hid (SB w.heap.size w6 th tg K T dt md) := HS5.out.below hb
              clear q0 q1 q2 q3 q4 q5 qn
              obtain ⟨qn, q0, q1, q2, q3, q4, q5⟩ := HS6.out
              clear hb HB5 HS5
              cases m2
              · go_wp2_with fail
                go_ret
                exact ⟨ret_i (HC.out.trans (by first | (unfold codeF; rw [hfd, hcd]; rfl) | (unfold codeF; rw [hfd]; rfl) | (unfold codeF; rw [hcd]; rfl) | (simp [codeF]; done))).symm, HB6.out⟩
              · go_wp2_with fail
                go_ret
                exact ⟨ret_i (HC.out.trans (by first | (unfold codeF; rw [hfd, hcd]; rfl) | (unfold codeF; rw [hfd]; rfl) | (unfold codeF; rw [hcd]; rfl) | (simp [codeF]; done))).symm, HB6.out⟩
          · go_wp2_with fail
            refine Calls.mono (HD2.out _ HB4.out) ?_
            rintro e w5 ⟨rfl, hb⟩
            have HB5 : Hid (Below w.heap.size w w5) := HB4.out.trans (hb.mono HB4.out.size)
            have HS5 : Hid (SB w.heap.size w5 th tg K T dt md) := HS4.out.below hb
            clear q0 q1 q2 q3 q4 q5 qn
            obtain ⟨qn, q0, q1, q2, q3, q4, q5⟩ := HS5.out
            clear hb HB4 HS4
            cases s2
            · go_wp2_with fail
              go_ret
              exact ⟨ret_i (HC.out.trans (by first | (unfold codeF; rw [hfd, hcd]; rfl) | (unfold codeF; rw [hfd]; rfl) | (unfold codeF; rw [hcd]; rfl) | (simp [codeF]; done))).symm, HB5.out⟩
            · cases dt
              · go_wp2_with fail
                go_ret
                exact ⟨ret_i (HC.out.trans (by first | (unfold codeF; rw [hfd, hcd]; rfl) | (unfold codeF; rw [hfd]; rfl) | (unfold codeF; rw [hcd]; rfl) | (simp [codeF]; done))).symm, HB5.out⟩
              · by_cases hc : md ≤ D2
                · have hcd : decide (md ≤ D2) = true := decide_eq_true hc
                  go_wp2_with fail
                  go_ret
                  exact ⟨ret_i (HC.out.trans (by first | (unfold codeF; rw [hfd, hcd]; rfl) | (unfold codeF; rw [hfd]; rfl) | (unfold codeF; rw [hcd]; rfl) | (simp [codeF, hc]; done))).symm, HB5.out⟩
                · have hcd : decide (md ≤ D2) = false := decide_eq_false hc
                  go_wp2_with fail
                  go_ret
                  exact ⟨ret_i (HC.out.trans (by first | (unfold codeF; rw [hfd, hcd]; rfl) | (unfold codeF; rw [hfd]; rfl) | (unfold codeF; rw [hcd]; rfl) | (simp [codeF, hc]; done))).symm, HB5.out⟩
    · go_wp2_with fail
      refine Calls.mono (HD1.out _ HB1.out) ?_
      rintro e w2 ⟨rfl, hb⟩
      have HB2 : Hid (Below w.heap.size w w2) := HB1.out.trans (hb.mono HB1.out.size)
      have HS2 : Hid (SB w.heap.size w2 th tg K T dt md) := HS1.out.below hb
      clear q0 q1 q2 q3 q4 q5 qn
      obtain ⟨qn, q0, q1, q2, q3, q4, q5⟩ := HS2.out
      clear hb HB1 HS1
      cases s1
      · go_wp2_with fail
        refine Calls.mono (HJ2.out _ HB2.out) ?_
        rintro e w3 ⟨rfl, hb⟩
        have HB3 : Hid (Below w.heap.size w w3) := HB2.out.trans (hb.mono HB2.out.size)
        have HS3 : Hid (SB w.heap.size w3 th tg K T dt md) := HS2.out.below hb
        clear q0 q1 q2 q3 q4 q5 qn
        obtain ⟨qn, q0, q1, q2, q3, q4, q5⟩ := HS3.out
        clear hb HB2 HS2
        cases h2
        rotate_left
        · go_wp2_with fail
          refine Calls.mono (HT2.out _) ?_
          rintro e w4 ⟨⟨a2, c2, rfl, hG⟩, hb⟩
          have HG : Hid (GV w4 a2 t2 w3.heap.size w4.heap.size) := hG
          clear hG
          have HB4 : Hid (Below w.heap.size w w4) := HB3.out.trans (hb.mono HB3.out.size)
          have HS4 : Hid (SB w.heap.size w4 th tg K T dt md) := HS3.out.below hb
          clear q0 q1 q2 q3 q4 q5 qn
          obtain ⟨qn, q0, q1, q2, q3, q4, q5⟩ := HS4.out
          clear hb HB3 HS3
          cases k2
          · go_wp2_with fail
            go_ret
            exact ⟨ret_i (HC.out.trans (by first | (unfold codeF; rw [hfd, hcd]; rfl) | (unfold codeF; rw [hfd]; rfl) | (unfold codeF; rw [hcd]; rfl) | (simp [codeF]; done))).symm, HB4.out⟩
          · go_wp2_with fail
            refine Calls.mono (HM2.out _ _ _ _ _ HG.out) ?_
            rintro e w5 ⟨rfl, hb⟩
            have HB5 : Hid (Below w.heap.size w w5) := HB4.out.trans (hb.mono HB4.out.size)
            have HS5 : Hid (SB w.heap.size w5 th tg K T dt md) := HS4.out.below hb
            clear q0 q1 q2 q3 q4 q5 qn
            obtain ⟨qn, q0, q1, q2, q3, q4, q5⟩ := HS5.out
            clear hb HB4 HS4
            cases m2
            · go_wp2_with fail
              go_ret
              exact ⟨ret_i (HC.out.trans (by first | (unfold codeF; rw [hfd, hcd]; rfl) | (unfold codeF; rw [hfd]; rfl) | (unfold codeF; rw [hcd]; rfl) | (simp [codeF]; done))).symm, HB5.out⟩
            · go_wp2_with fail
              go_ret
              exact ⟨ret_i (HC.out.trans (by first | (unfold codeF; rw [hfd, hcd]; rfl) | (unfold codeF; rw [hfd]; rfl) | (unfold codeF; rw [hcd]; rfl) | (simp [codeF]; done))).symm, HB5.out⟩
        · go_wp2_with fail
          refine Calls.mono (HD2.out _ HB3.out) ?_
          rintro e w4 ⟨rfl, hb⟩
          have HB4 : Hid (Below w.heap.size w w4) := HB3.out.trans (hb.mono HB3.out.size)
          have HS4 : Hid (SB w.heap.size w4 th tg K T dt md) := HS3.out.below hb
          clear q0 q1 q2 q3 q4 q5 qn
          obtain ⟨qn, q0, q1, q2, q3, q4, q5⟩ := HS4.out
          clear hb HB3 HS3
          cases s2
          · go_wp2_with fail
            go_ret
            exact ⟨ret_i (HC.out.trans (by first | (unfold codeF; rw [hfd, hcd]; rfl) | (unfold codeF; rw [hfd]; rfl) | (unfold codeF; rw [hcd]; rfl) | (simp [codeF]; done))).symm, HB4.out⟩
          · cases dt
            · go_wp2_with fail
              go_ret
              exact ⟨ret_i (HC.out.trans (by first | (unfold codeF; rw [hfd, hcd]; rfl) | (unfold codeF; rw [hfd]; rfl) | (unfold codeF; rw [hcd]; rfl) | (simp [codeF]; done))).symm, HB4.out⟩
            · by_cases hc : md ≤ D2
              · have hcd : decide (md ≤ D2) = true := decide_eq_true hc
                go_wp2_with fail
                go_ret
                exact ⟨ret_i (HC.out.trans (by first | (unfold codeF; rw [hfd, hcd]; rfl) | (unfold codeF; rw [hfd]; rfl) | (unfold codeF; rw [hcd]; rfl) | (simp [codeF, hc]; done))).symm, HB4.out⟩
              · have hcd : decide (md ≤ D2) = false := decide_eq_false hc
                go_wp2_with fail
                go_ret
                exact ⟨ret_i (HC.out.trans (by first | (unfold codeF; rw [hfd, hcd]; rfl) | (unfold codeF; rw [hfd]; rfl) | (unfold codeF; rw [hcd]; rfl) | (simp [codeF, hc]; done))).symm, HB4.out⟩
      · cases dt
        · go_wp2_with fail
          refine Calls.mono (HJ2.out _ HB2.out) ?_
          rintro e w3 ⟨rfl, hb⟩
          have HB3 : Hid (Below w.heap.size w w3) := HB2.out.trans (hb.mono HB2.out.size)
          have HS3 : Hid (SB w.heap.size w3 th tg K T false md) := HS2.out.below hb
          clear q0 q1 q2 q3 q4 q5 qn
          obtain ⟨qn, q0, q1, q2, q3, q4, q5⟩ := HS3.out
          clear hb HB2 HS2
          cases h2
          rotate_left
          · go_wp2_with fail
            refine Calls.mono (HT2.out _) ?_
            rintro e w4 ⟨⟨a2, c2, rfl, hG⟩, hb⟩
            have HG : Hid (GV w4 a2 t2 w3.heap.size w4.heap.size) := hG
            clear hG
            have HB4 : Hid (Below w.heap.size w w4) := HB3.out.trans (hb.mono HB3.out.size)
            have HS4 : Hid (SB w.heap.size w4 th tg K T false md) := HS3.out.below hb
            clear q0 q1 q2 q3 q4 q5 qn
            obtain ⟨qn, q0, q1, q2, q3, q4, q5⟩ := HS4.out
            clear hb HB3 HS3
            cases k2
            · go_wp2_with fail
              go_ret
              exact ⟨ret_i (HC.out.trans (by first | (unfold codeF; rw [hfd, hcd]; rfl) | (unfold codeF; rw [hfd]; rfl) | (unfold codeF; rw [hcd]; rfl) | (simp [codeF]; done))).symm, HB4.out⟩
            · go_wp2_with fail
              refine Calls.mono (HM2.out _ _ _ _ _ HG.out) ?_
              rintro e w5 ⟨rfl, hb⟩
              have HB5 : Hid (Below w.heap.size w w5) := HB4.out.trans (hb.mono HB4.out.size)
              have HS5 : Hid (SB w.heap.size w5 th tg K T false md) := HS4.out.below hb
              clear q0 q1 q2 q3 q4 q5 qn
              obtain ⟨qn, q0, q1, q2, q3, q4, q5⟩ := HS5.out
              clear hb HB4 HS4
              cases m2
              · go_wp2_with fail
                go_ret
                exact ⟨ret_i (HC.out.trans (by first | (unfold codeF; rw [hfd, hcd]; rfl) | (unfold codeF; rw [hfd]; rfl) | (unfold codeF; rw [hcd]; rfl) | (simp [codeF]; done))).symm, HB5.out⟩
              · go_wp2_with fail
                go_ret
                exact ⟨ret_i (HC.out.trans (by first | (unfold codeF; rw [hfd, hcd]; rfl) | (unfold codeF; rw [hfd]; rfl) | (unfold codeF; rw [hcd]; rfl) | (simp [codeF]; done))).symm, HB5.out⟩
          · go_wp2_with fail
            refine Calls.mono (HD2.out _ HB3.out) ?_
            rintro e w4 ⟨rfl, hb⟩
            have HB4 : Hid (Below w.heap.size w w4) := HB3.out.trans (hb.mono HB3.out.size)
            have HS4 : Hid (SB w.heap.size w4 th tg K T false md) := HS3.out.below hb
            clear q0 q1 q2 q3 q4 q5 qn
            obtain ⟨qn, q0, q1, q2, q3, q4, q5⟩ := HS4.out
            clear hb HB3 HS3
            cases s2
            · go_wp2_with fail
              go_ret
              exact ⟨ret_i (HC.out.trans (by first | (unfold codeF; rw [hfd, hcd]; rfl) | (unfold codeF; rw [hfd]; rfl) | (unfold codeF; rw [hcd]; rfl) | (simp [codeF]; done))).symm, HB4.out⟩
            · go_wp2_with fail
              go_ret
              exact ⟨ret_i (HC.out.trans (by first | (unfold codeF; rw [hfd, hcd]; rfl) | (unfold codeF; rw [hfd]; rfl) | (unfold codeF; rw [hcd]; rfl) | (simp [codeF]; done))).symm, HB4.out⟩
        · by_cases hf : D1 < md
          · have hfd : decide (D1 < md) = true := decide_eq_true hf
            go_wp2_with fail
            go_ret
            exact ⟨ret_i (HC.out.trans (by first | (unfold codeF; rw [hfd, hcd]; rfl) | (unfold codeF; rw [hfd]; rfl) | (unfold codeF; rw [hcd]; rfl) | (simp [codeF, hf]; done))).symm, HB2.out⟩
          · have hfd : decide (D1 < md) = false := decide_eq_false hf
            go_wp2_with fail
            refine Calls.mono (HJ2.out _ HB2.out) ?_
            rintro e w3 ⟨rfl, hb⟩
            have HB3 : Hid (Below w.heap.size w w3) := HB2.out.trans (hb.mono HB2.out.size)
            have HS3 : Hid (SB w.heap.size w3 th tg K T true md) := HS2.out.below hb
            clear q0 q1 q2 q3 q4 q5 qn
            obtain ⟨qn, q0, q1, q2, q3, q4, q5⟩ := HS3.out
            clear hb HB2 HS2
            cases h2
            rotate_left
            · go_wp2_with fail
              refine Calls.mono (HT2.out _) ?_
              rintro e w4 ⟨⟨a2, c2, rfl, hG⟩, hb⟩
              have HG : Hid (GV w4 a2 t2 w3.heap.size w4.heap.size) := hG
              clear hG
              have HB4 : Hid (Below w.heap.size w w4) := HB3.out.trans (hb.mono HB3.out.size)
              have HS4 : Hid (SB w.heap.size w4 th tg K T true md) := HS3.out.below hb
              clear q0 q1 q2 q3 q4 q5 qn
              obtain ⟨qn, q0, q1, q2, q3, q4, q5⟩ := HS4.out
              clear hb HB3 HS3
              cases k2
              · go_wp2_with fail
                go_ret
                exact ⟨ret_i (HC.out.trans (by first | (unfold codeF; rw [hfd, hcd]; rfl) | (unfold codeF; rw [hfd]; rfl) | (unfold codeF; rw [hcd]; rfl) | (simp [codeF, hf]; done))).symm, HB4.out⟩
              · go_wp2_with fail
                refine Calls.mono (HM2.out _ _ _ _ _ HG.out) ?_
                rintro e w5 ⟨rfl, hb⟩
                have HB5 : Hid (Below w.heap.size w w5) := HB4.out.trans (hb.mono HB4.out.size)
                have HS5 : Hid (SB w.heap.size w5 th tg K T true md) := HS4.out.below hb
                clear q0 q1 q2 q3 q4 q5 qn
                obtain ⟨qn, q0, q1, q2, q3, q4, q5⟩ := HS5.out
                clear hb HB4 HS4
                cases m2
                · go_wp2_with fail
                  go_ret
                  exact ⟨ret_i (HC.out.trans (by first | (unfold codeF; rw [hfd, hcd]; rfl) | (unfold codeF; rw [hfd]; rfl) | (unfold codeF; rw [hcd]; rfl) | (simp [codeF, hf]; done))).symm, HB5.out⟩
                · go_wp2_with fail
                  go_ret
                  exact ⟨ret_i (HC.out.trans (by first | (unfold codeF; rw [hfd, hcd]; rfl) | (unfold codeF; rw [hfd]; rfl) | (unfold codeF; rw [hcd]; rfl) | (simp [codeF, hf]; done))).symm, HB5.out⟩
            · go_wp2_with fail
              refine Calls.mono (HD2.out _ HB3.out) ?_
              rintro e w4 ⟨rfl, hb⟩
              have HB4 : Hid (Below w.heap.size w w4) := HB3.out.trans (hb.mono HB3.out.size)
              have HS4 : Hid (SB w.heap.size w4 th tg K T true md) := HS3.out.below hb
              clear q0 q1 q2 q3 q4 q5 qn
              obtain ⟨qn, q0, q1, q2, q3, q4, q5⟩ := HS4.out
              clear hb HB3 HS3
              cases s2
              · go_wp2_with fail
                go_ret
                exact ⟨ret_i (HC.out.trans (by first | (unfold codeF; rw [hfd, hcd]; rfl) | (unfold codeF; rw [hfd]; rfl) | (unfold codeF; rw [hcd]; rfl) | (simp [codeF, hf]; done))).symm, HB4.out⟩
              · by_cases hc : md ≤ D2
                · have hcd : decide (md ≤ D2) = true := decide_eq_true hc
                  go_wp2_with fail
                  go_ret
                  exact ⟨ret_i (HC.out.trans (by first | (unfold codeF; rw [hfd, hcd]; rfl) | (unfold codeF; rw [hfd]; rfl) | (unfold codeF; rw [hcd]; rfl) | (simp [codeF, hf, hc]; done))).symm, HB4.out⟩
                · have hcd : decide (md ≤ D2) = false := decide_eq_false hc
                  go_wp2_with fail
                  go_ret
                  exact ⟨ret_i (HC.out.trans (by first | (unfold codeF; rw [hfd, hcd]; rfl) | (unfold codeF; rw [hfd]; rfl) | (unfold codeF; rw [hcd]; rfl) | (simp [codeF, hf, hc]; done))).symm, HB4.out⟩
  · obtain rfl : lk = (m.toList == [72, 69, 65, 68]) := by rw [hlk, b1]; rfl
    generalize b2 : (m.toList == [72, 69, 65, 68]) = lk at HC
    clear hlk
    go_enter Tryz.func30, Tryz.ntmps30
    go_wp2_with fail
    refine Calls.mono (HJ1.out _ HB0.out) ?_
    rintro e w1 ⟨rfl, hb⟩
    have HB1 : Hid (Below w.heap.size w w1) := HB0.out.trans (hb.mono HB0.out.size)
    have HS1 : Hid (SB w.heap.size w1 th tg K T dt md) := HS0.out.below hb
    obtain ⟨qn, q0, q1, q2, q3, q4, q5⟩ := HS1.out
    clear hb HB0 HS0
    cases h1
    rotate_left
    · go_wp2_with fail
      refine Calls.mono (HT1.out _) ?_
      rintro e w2 ⟨⟨a1, c1, rfl, hG⟩, hb⟩
      have HG : Hid (GV w2 a1 t1 w1.heap.size w2.heap.size) := hG
      clear hG
      have HB2 : Hid (Below w.heap.size w w2) := HB1.out.trans (hb.mono HB1.out.size)
      have HS2 : Hid (SB w.heap.size w2 th tg K T dt md) := HS1.out.below hb
      clear q0 q1 q2 q3 q4 q5 qn
      obtain ⟨qn, q0, q1, q2, q3, q4, q5⟩ := HS2.out
      clear hb HB1 HS1
      cases k1
      · clear HG
        go_wp2_with fail
        refine Calls.mono (HJ2.out _ HB2.out) ?_
        rintro e w3 ⟨rfl, hb⟩
        have HB3 : Hid (Below w.heap.size w w3) := HB2.out.trans (hb.mono HB2.out.size)
        have HS3 : Hid (SB w.heap.size w3 th tg K T dt md) := HS2.out.below hb
        clear q0 q1 q2 q3 q4 q5 qn
        obtain ⟨qn, q0, q1, q2, q3, q4, q5⟩ := HS3.out
        clear hb HB2 HS2
        cases h2
        rotate_left
        · go_wp2_with fail
          refine Calls.mono (HT2.out _) ?_
          rintro e w4 ⟨⟨a2, c2, rfl, hG⟩, hb⟩
          have HG : Hid (GV w4 a2 t2 w3.heap.size w4.heap.size) := hG
          clear hG
          have HB4 : Hid (Below w.heap.size w w4) := HB3.out.trans (hb.mono HB3.out.size)
          have HS4 : Hid (SB w.heap.size w4 th tg K T dt md) := HS3.out.below hb
          clear q0 q1 q2 q3 q4 q5 qn
          obtain ⟨qn, q0, q1, q2, q3, q4, q5⟩ := HS4.out
          clear hb HB3 HS3
          cases k2
          · go_wp2_with fail
            go_ret
            exact ⟨ret_i (HC.out.trans (by first | (unfold codeF; rw [hfd, hcd]; rfl) | (unfold codeF; rw [hfd]; rfl) | (unfold codeF; rw [hcd]; rfl) | (simp [codeF]; done))).symm, HB4.out⟩
          · go_wp2_with fail
            refine Calls.mono (HM2.out _ _ _ _ _ HG.out) ?_
            rintro e w5 ⟨rfl, hb⟩
            have HB5 : Hid (Below w.heap.size w w5) := HB4.out.trans (hb.mono HB4.out.size)
            have HS5 : Hid (SB w.heap.size w5 th tg K T dt md) := HS4.out.below hb
            clear q0 q1 q2 q3 q4 q5 qn
            obtain ⟨qn, q0, q1, q2, q3, q4, q5⟩ := HS5.out
            clear hb HB4 HS4
            cases m2
            · go_wp2_with fail
              go_ret
              exact ⟨ret_i (HC.out.trans (by first | (unfold codeF; rw [hfd, hcd]; rfl) | (unfold codeF; rw [hfd]; rfl) | (unfold codeF; rw [hcd]; rfl) | (simp [codeF]; done))).symm, HB5.out⟩
            · cases lk
              · go_wp2_with fail
                go_ret
                exact ⟨ret_i (HC.out.trans (by first | (unfold codeF; rw [hfd, hcd]; rfl) | (unfold codeF; rw [hfd]; rfl) | (unfold codeF; rw [hcd]; rfl) | (simp [codeF]; done))).symm, HB5.out⟩
              · go_wp2_with fail
                go_ret
                exact ⟨ret_i (HC.out.trans (by first | (unfold codeF; rw [hfd, hcd]; rfl) | (unfold codeF; rw [hfd]; rfl) | (unfold codeF; rw [hcd]; rfl) | (simp [codeF]; done))).symm, HB5.out⟩
        · go_wp2_with fail
          refine Calls.mono (HD2.out _ HB3.out) ?_
          rintro e w4 ⟨rfl, hb⟩
          have HB4 : Hid (Below w.heap.size w w4) := HB3.out.trans (hb.mono HB3.out.size)
          have HS4 : Hid (SB w.heap.size w4 th tg K T dt md) := HS3.out.below hb
          clear q0 q1 q2 q3 q4 q5 qn
          obtain ⟨qn, q0, q1, q2, q3, q4, q5⟩ := HS4.out
          clear hb HB3 HS3
          cases s2
          · go_wp2_with fail
            go_ret
            exact ⟨ret_i (HC.out.trans (by first | (unfold codeF; rw [hfd, hcd]; rfl) | (unfold codeF; rw [hfd]; rfl) | (unfold codeF; rw [hcd]; rfl) | (simp [codeF]; done))).symm, HB4.out⟩
          · cases lk
            · go_wp2_with fail
              go_ret
              exact ⟨ret_i (HC.out.trans (by first | (unfold codeF; rw [hfd, hcd]; rfl) | (unfold codeF; rw [hfd]; rfl) | (unfold codeF; rw [hcd]; rfl) | (simp [codeF]; done))).symm, HB4.out⟩
            · cases dt
              · go_wp2_with fail
                go_ret
                exact ⟨ret_i (HC.out.trans (by first | (unfold codeF; rw [hfd, hcd]; rfl) | (unfold codeF; rw [hfd]; rfl) | (unfold codeF; rw [hcd]; rfl) | (simp [codeF]; done))).symm, HB4.out⟩
              · by_cases hc : md ≤ D2
                · have hcd : decide (md ≤ D2) = true := decide_eq_true hc
                  go_wp2_with fail
                  go_ret
                  exact ⟨ret_i (HC.out.trans (by first | (unfold codeF; rw [hfd, hcd]; rfl) | (unfold codeF; rw [hfd]; rfl) | (unfold codeF; rw [hcd]; rfl) | (simp [codeF, hc]; done))).symm, HB4.out⟩
                · have hcd : decide (md ≤ D2) = false := decide_eq_false hc
                  go_wp2_with fail
                  go_ret
                  exact ⟨ret_i (HC.out.trans (by first | (unfold codeF; rw [hfd, hcd]; rfl) | (unfold codeF; rw [hfd]; rfl) | (unfold codeF; rw [hcd]; rfl) | (simp [codeF, hc]; done))).symm, HB4.out⟩
      · go_wp2_with fail
        refine Calls.mono (HM1.out _ _ _ _ _ HG.out) ?_
        rintro e w3 ⟨rfl, hb⟩
        clear HG
        have HB3 : Hid (Below w.heap.size w w3) := HB2.out.trans (hb.mono HB2.out.size)
        have HS3 : Hid (SB w.heap.size w3 th tg K T dt md) := HS2.out.below hb
        clear q0 q1 q2 q3 q4 q5 qn
        obtain ⟨qn, q0, q1, q2, q3, q4, q5⟩ := HS3.out
        clear hb HB2 HS2
        cases m1
        · go_wp2_with fail
          go_ret
          exact ⟨ret_i (HC.out.trans (by first | (unfold codeF; rw [hfd, hcd]; rfl) | (unfold codeF; rw [hfd]; rfl) | (unfold codeF; rw [hcd]; rfl) | (simp [codeF]; done))).symm, HB3.out⟩
        · go_wp2_with fail
          refine Calls.mono (HJ2.out _ HB3.out) ?_
          rintro e w4 ⟨rfl, hb⟩
          have HB4 : Hid (Below w.heap.size w w4) := HB3.out.trans (hb.mono HB3.out.size)
          have HS4 : Hid (SB w.heap.size w4 th tg K T dt md) := HS3.out.below hb
          clear q0 q1 q2 q3 q4 q5 qn
          obtain ⟨qn, q0, q1, q2, q3, q4, q5⟩ := HS4.out
          clear hb HB3 HS3
          cases h2
          rotate_left
          · go_wp2_with fail
            refine Calls.mono (HT2.out _) ?_
            rintro e w5 ⟨⟨a2, c2, rfl, hG⟩, hb⟩
            have HG : Hid (GV w5 a2 t2 w4.heap.size w5.heap.size) := hG
            clear hG
            have HB5 : Hid (Below w.heap.size w w5) := HB4.out.trans (hb.mono HB4.out.size)
            have HS5 : Hid (SB w.heap.size w5 th tg K T dt md) := HS4.out.below hb
            clear q0 q1 q2 q3 q4 q5 qn
            obtain ⟨qn, q0, q1, q2, q3, q4, q5⟩ := HS5.out
            clear hb HB4 HS4
            cases k2
            · go_wp2_with fail
              go_ret
              exact ⟨ret_i (HC.out.trans (by first | (unfold codeF; rw [hfd, hcd]; rfl) | (unfold codeF; rw [hfd]; rfl) | (unfold codeF; rw [hcd]; rfl) | (simp [codeF]; done))).symm, HB5.out⟩
            · go_wp2_with fail
              refine Calls.mono (HM2.out _ _ _ _ _ HG.out) ?_
              rintro e w6 ⟨rfl, hb⟩
              have HB6 : Hid (Below w.heap.size w w6) := HB5.out.trans (hb.mono HB5.out.size)
              have HS6 : Hid (SB w.heap.size w6 th tg K T dt md) := HS5.out.below hb
              clear q0 q1 q2 q3 q4 q5 qn
              obtain ⟨qn, q0, q1, q2, q3, q4, q5⟩ := HS6.out
              clear hb HB5 HS5
              cases m2
              · go_wp2_with fail
                go_ret
                exact ⟨ret_i (HC.out.trans (by first | (unfold codeF; rw [hfd, hcd]; rfl) | (unfold codeF; rw [hfd]; rfl) | (unfold codeF; rw [hcd]; rfl) | (simp [codeF]; done))).symm, HB6.out⟩
              · cases lk
                · go_wp2_with fail
                  go_ret
                  exact ⟨ret_i (HC.out.trans (by first | (unfold codeF; rw [hfd, hcd]; rfl) | (unfold codeF; rw [hfd]; rfl) | (unfold codeF; rw [hcd]; rfl) | (simp [codeF]; done))).symm, HB6.out⟩
                · go_wp2_with fail
                  go_ret
                  exact ⟨ret_i (HC.out.trans (by first | (unfold codeF; rw [hfd, hcd]; rfl) | (unfold codeF; rw [hfd]; rfl) | (unfold codeF; rw [hcd]; rfl) | (simp [codeF]; done))).symm, HB6.out⟩
          · go_wp2_with fail
            refine Calls.mono (HD2.out _ HB4.out) ?_
            rintro e w5 ⟨rfl, hb⟩
            have HB5 : Hid (Below w.heap.size w w5) := HB4.out.trans (hb.mono HB4.out.size)
            have HS5 : Hid (SB w.heap.size w5 th tg K T dt md) := HS4.out.below hb
            clear q0 q1 q2 q3 q4 q5 qn
            obtain ⟨qn, q0, q1, q2, q3, q4, q5⟩ := HS5.out
            clear hb HB4 HS4
            cases s2
            · go_wp2_with fail
              go_ret
              exact ⟨ret_i (HC.out.trans (by first | (unfold codeF; rw [hfd, hcd]; rfl) | (unfold codeF; rw [hfd]; rfl) | (unfold codeF; rw [hcd]; rfl) | (simp [codeF]; done))).symm, HB5.out⟩
            · cases lk
              · go_wp2_with fail
                go_ret
                exact ⟨ret_i (HC.out.trans (by first | (unfold codeF; rw [hfd, hcd]; rfl) | (unfold codeF; rw [hfd]; rfl) | (unfold codeF; rw [hcd]; rfl) | (simp [codeF]; done))).symm, HB5.out⟩
              · cases dt
                · go_wp2_with fail
                  go_ret
                  exact ⟨ret_i (HC.out.trans (by first | (unfold codeF; rw [hfd, hcd]; rfl) | (unfold codeF; rw [hfd]; rfl) | (unfold codeF; rw [hcd]; rfl) | (simp [codeF]; done))).symm, HB5.out⟩
                · by_cases hc : md ≤ D2
                  · have hcd : decide (md ≤ D2) = true := decide_eq_true hc
                    go_wp2_with fail
                    go_ret
                    exact ⟨ret_i (HC.out.trans (by first | (unfold codeF; rw [hfd, hcd]; rfl) | (unfold codeF; rw [hfd]; rfl) | (unfold codeF; rw [hcd]; rfl) | (simp [codeF, hc]; done))).symm, HB5.out⟩
                  · have hcd : decide (md ≤ D2) = false := decide_eq_false hc
                    go_wp2_with fail
                    go_ret
                    exact ⟨ret_i (HC.out.trans (by first | (unfold codeF; rw [hfd, hcd]; rfl) | (unfold codeF; rw [hfd]; rfl) | (unfold codeF; rw [hcd]; rfl) | (simp [codeF, hc]; done))).symm, HB5.out⟩
    · go_wp2_with fail
      refine Calls.mono (HD1.out _ HB1.out) ?_
      rintro e w2 ⟨rfl, hb⟩
      have HB2 : Hid (Below w.heap.size w w2) := HB1.out.trans (hb.mono HB1.out.size)
      have HS2 : Hid (SB w.heap.size w2 th tg K T dt md) := HS1.out.below hb
      clear q0 q1 q2 q3 q4 q5 qn
      obtain ⟨qn, q0, q1, q2, q3, q4, q5⟩ := HS2.out
      clear hb HB1 HS1
      cases s1
      · go_wp2_with fail
        refine Calls.mono (HJ2.out _ HB2.out) ?_
        rintro e w3 ⟨rfl, hb⟩
        have HB3 : Hid (Below w.heap.size w w3) := HB2.out.trans (hb.mono HB2.out.size)
        have HS3 : Hid (SB w.heap.size w3 th tg K T dt md) := HS2.out.below hb
        clear q0 q1 q2 q3 q4 q5 qn
        obtain ⟨qn, q0, q1, q2, q3, q4, q5⟩ := HS3.out
        clear hb HB2 HS2
        cases h2
        rotate_left
        · go_wp2_with fail
          refine Calls.mono (HT2.out _) ?_
          rintro e w4 ⟨⟨a2, c2, rfl, hG⟩, hb⟩
          have HG : Hid (GV w4 a2 t2 w3.heap.size w4.heap.size) := hG
          clear hG
          have HB4 : Hid (Below w.heap.size w w4) := HB3.out.trans (hb.mono HB3.out.size)
          have HS4 : Hid (SB w.heap.size w4 th tg K T dt md) := HS3.out.below hb
          clear q0 q1 q2 q3 q4 q5 qn
          obtain ⟨qn, q0, q1, q2, q3, q4, q5⟩ := HS4.out
          clear hb HB3 HS3
          cases k2
          · go_wp2_with fail
            go_ret
            exact ⟨ret_i (HC.out.trans (by first | (unfold codeF; rw [hfd, hcd]; rfl) | (unfold codeF; rw [hfd]; rfl) | (unfold codeF; rw [hcd]; rfl) | (simp [codeF]; done))).symm, HB4.out⟩
          · go_wp2_with fail
            refine Calls.mono (HM2.out _ _ _ _ _ HG.out) ?_
            rintro e w5 ⟨rfl, hb⟩
            have HB5 : Hid (Below w.heap.size w w5) := HB4.out.trans (hb.mono HB4.out.size)
            have HS5 : Hid (SB w.heap.size w5 th tg K T dt md) := HS4.out.below hb
            clear q0 q1 q2 q3 q4 q5 qn
            obtain ⟨qn, q0, q1, q2, q3, q4, q5⟩ := HS5.out
            clear hb HB4 HS4
            cases m2
            · go_wp2_with fail
              go_ret
              exact ⟨ret_i (HC.out.trans (by first | (unfold codeF; rw [hfd, hcd]; rfl) | (unfold codeF; rw [hfd]; rfl) | (unfold codeF; rw [hcd]; rfl) | (simp [codeF]; done))).symm, HB5.out⟩
            · cases lk
              · go_wp2_with fail
                go_ret
                exact ⟨ret_i (HC.out.trans (by first | (unfold codeF; rw [hfd, hcd]; rfl) | (unfold codeF; rw [hfd]; rfl) | (unfold codeF; rw [hcd]; rfl) | (simp [codeF]; done))).symm, HB5.out⟩
              · go_wp2_with fail
                go_ret
                exact ⟨ret_i (HC.out.trans (by first | (unfold codeF; rw [hfd, hcd]; rfl) | (unfold codeF; rw [hfd]; rfl) | (unfold codeF; rw [hcd]; rfl) | (simp [codeF]; done))).symm, HB5.out⟩
        · go_wp2_with fail
          refine Calls.mono (HD2.out _ HB3.out) ?_
          rintro e w4 ⟨rfl, hb⟩
          have HB4 : Hid (Below w.heap.size w w4) := HB3.out.trans (hb.mono HB3.out.size)
          have HS4 : Hid (SB w.heap.size w4 th tg K T dt md) := HS3.out.below hb
          clear q0 q1 q2 q3 q4 q5 qn
          obtain ⟨qn, q0, q1, q2, q3, q4, q5⟩ := HS4.out
          clear hb HB3 HS3
          cases s2
          · go_wp2_with fail
            go_ret
            exact ⟨ret_i (HC.out.trans (by first | (unfold codeF; rw [hfd, hcd]; rfl) | (unfold codeF; rw [hfd]; rfl) | (unfold codeF; rw [hcd]; rfl) | (simp [codeF]; done))).symm, HB4.out⟩
          · cases lk
            · go_wp2_with fail
              go_ret
              exact ⟨ret_i (HC.out.trans (by first | (unfold codeF; rw [hfd, hcd]; rfl) | (unfold codeF; rw [hfd]; rfl) | (unfold codeF; rw [hcd]; rfl) | (simp [codeF]; done))).symm, HB4.out⟩
            · cases dt
              · go_wp2_with fail
                go_ret
                exact ⟨ret_i (HC.out.trans (by first | (unfold codeF; rw [hfd, hcd]; rfl) | (unfold codeF; rw [hfd]; rfl) | (unfold codeF; rw [hcd]; rfl) | (simp [codeF]; done))).symm, HB4.out⟩
              · by_cases hc : md ≤ D2
                · have hcd : decide (md ≤ D2) = true := decide_eq_true hc
                  go_wp2_with fail
                  go_ret
                  exact ⟨ret_i (HC.out.trans (by first | (unfold codeF; rw [hfd, hcd]; rfl) | (unfold codeF; rw [hfd]; rfl) | (unfold codeF; rw [hcd]; rfl) | (simp [codeF, hc]; done))).symm, HB4.out⟩
                · have hcd : decide (md ≤ D2) = false := decide_eq_false hc
                  go_wp2_with fail
                  go_ret
                  exact ⟨ret_i (HC.out.trans (by first | (unfold codeF; rw [hfd, hcd]; rfl) | (unfold codeF; rw [hfd]; rfl) | (unfold codeF; rw [hcd]; rfl) | (simp [codeF, hc]; done))).symm, HB4.out⟩
      · cases dt
        · go_wp2_with fail
          refine Calls.mono (HJ2.out _ HB2.out) ?_
          rintro e w3 ⟨rfl, hb⟩
          have HB3 : Hid (Below w.heap.size w w3) := HB2.out.trans (hb.mono HB2.out.size)
          have HS3 : Hid (SB w.heap.size w3 th tg K T false md) := HS2.out.below hb
          clear q0 q1 q2 q3 q4 q5 qn
          obtain ⟨qn, q0, q1, q2, q3, q4, q5⟩ := HS3.out
          clear hb HB2 HS2
          cases h2
          rotate_left
          · go_wp2_with fail
            refine Calls.mono (HT2.out _) ?_
            rintro e w4 ⟨⟨a2, c2, rfl, hG⟩, hb⟩
            have HG : Hid (GV w4 a2 t2 w3.heap.size w4.heap.size) := hG
            clear hG
            have HB4 : Hid (Below w.heap.size w w4) := HB3.out.trans (hb.mono HB3.out.size)
            have HS4 : Hid (SB w.heap.size w4 th tg K T false md) := HS3.out.below hb
            clear q0 q1 q2 q3 q4 q5 qn
            obtain ⟨qn, q0, q1, q2, q3, q4, q5⟩ := HS4.out
            clear hb HB3 HS3
            cases k2
            · go_wp2_with fail
              go_ret
              exact ⟨ret_i (HC.out.trans (by first | (unfold codeF; rw [hfd, hcd]; rfl) | (unfold codeF; rw [hfd]; rfl) | (unfold codeF; rw [hcd]; rfl) | (simp [codeF]; done))).symm, HB4.out⟩
            · go_wp2_with fail
              refine Calls.mono (HM2.out _ _ _ _ _ HG.out) ?_
              rintro e w5 ⟨rfl, hb⟩
              have HB5 : Hid (Below w.heap.size w w5) := HB4.out.trans (hb.mono HB4.out.size)
              have HS5 : Hid (SB w.heap.size w5 th tg K T false md) := HS4.out.below hb
              clear q0 q1 q2 q3 q4 q5 qn
              obtain ⟨qn, q0, q1, q2, q3, q4, q5⟩ := HS5.out
              clear hb HB4 HS4
              cases m2
              · go_wp2_with fail
                go_ret
                exact ⟨ret_i (HC.out.trans (by first | (unfold codeF; rw [hfd, hcd]; rfl) | (unfold codeF; rw [hfd]; rfl) | (unfold codeF; rw [hcd]; rfl) | (simp [codeF]; done))).symm, HB5.out⟩
              · cases lk
                · go_wp2_with fail
                  go_ret
                  exact ⟨ret_i (HC.out.trans (by first | (unfold codeF; rw [hfd, hcd]; rfl) | (unfold codeF; rw [hfd]; rfl) | (unfold codeF; rw [hcd]; rfl) | (simp [codeF]; done))).symm, HB5.out⟩
                · go_wp2_with fail
                  go_ret
                  exact ⟨ret_i (HC.out.trans (by first | (unfold codeF; rw [hfd, hcd]; rfl) | (unfold codeF; rw [hfd]; rfl) | (unfold codeF; rw [hcd]; rfl) | (simp [codeF]; done))).symm, HB5.out⟩
          · go_wp2_with fail
            refine Calls.mono (HD2.out _ HB3.out) ?_
            rintro e w4 ⟨rfl, hb⟩
            have HB4 : Hid (Below w.heap.size w w4) := HB3.out.trans (hb.mono HB3.out.size)
            have HS4 : Hid (SB w.heap.size w4 th tg K T false md) := HS3.out.below hb
            clear q0 q1 q2 q3 q4 q5 qn
            obtain ⟨qn, q0, q1, q2, q3, q4, q5⟩ := HS4.out
            clear hb HB3 HS3
            cases s2
            · go_wp2_with fail
              go_ret
              exact ⟨ret_i (HC.out.trans (by first | (unfold codeF; rw [hfd, hcd]; rfl) | (unfold codeF; rw [hfd]; rfl) | (unfold codeF; rw [hcd]; rfl) | (simp [codeF]; done))).symm, HB4.out⟩
            · cases lk
              · go_wp2_with fail
                go_ret
                exact ⟨ret_i (HC.out.trans (by first | (unfold codeF; rw [hfd, hcd]; rfl) | (unfold codeF; rw [hfd]; rfl) | (unfold codeF; rw [hcd]; rfl) | (simp [codeF]; done))).symm, HB4.out⟩
              · go_wp2_with fail
                go_ret
                exact ⟨ret_i (HC.out.trans (by first | (unfold codeF; rw [hfd, hcd]; rfl) | (unfold codeF; rw [hfd]; rfl) | (unfold codeF; rw [hcd]; rfl) | (simp [codeF]; done))).symm, HB4.out⟩
        · by_cases hf : D1 < md
          · have hfd : decide (D1 < md) = true := decide_eq_true hf
            go_wp2_with fail
            go_ret
            exact ⟨ret_i (HC.out.trans (by first | (unfold codeF; rw [hfd, hcd]; rfl) | (unfold codeF; rw [hfd]; rfl) | (unfold codeF; rw [hcd]; rfl) | (simp [codeF, hf]; done))).symm, HB2.out⟩
          · have hfd : decide (D1 < md) = false := decide_eq_false hf
            go_wp2_with fail
            refine Calls.mono (HJ2.out _ HB2.out) ?_
            rintro e w3 ⟨rfl, hb⟩
            have HB3 : Hid (Below w.heap.size w w3) := HB2.out.trans (hb.mono HB2.out.size)
            have HS3 : Hid (SB w.heap.size w3 th tg K T true md) := HS2.out.below hb
            clear q0 q1 q2 q3 q4 q5 qn
            obtain ⟨qn, q0, q1, q2, q3, q4, q5⟩ := HS3.out
            clear hb HB2 HS2
            cases h2
            rotate_left
            · go_wp2_with fail
              refine Calls.mono (HT2.out _) ?_
              rintro e w4 ⟨⟨a2, c2, rfl, hG⟩, hb⟩
              have HG : Hid (GV w4 a2 t2 w3.heap.size w4.heap.size) := hG
              clear hG
              have HB4 : Hid (Below w.heap.size w w4) := HB3.out.trans (hb.mono HB3.out.size)
              have HS4 : Hid (SB w.heap.size w4 th tg K T true md) := HS3.out.below hb
              clear q0 q1 q2 q3 q4 q5 qn
              obtain ⟨qn, q0, q1, q2, q3, q4, q5⟩ := HS4.out
              clear hb HB3 HS3
              cases k2
              · go_wp2_with fail
                go_ret
                exact ⟨ret_i (HC.out.trans (by first | (unfold codeF; rw [hfd, hcd]; rfl) | (unfold codeF; rw [hfd]; rfl) | (unfold codeF; rw [hcd]; rfl) | (simp [codeF, hf]; done))).symm, HB4.out⟩
              · go_wp2_with fail
                refine Calls.mono (HM2.out _ _ _ _ _ HG.out) ?_
                rintro e w5 ⟨rfl, hb⟩
                have HB5 : Hid (Below w.heap.size w w5) := HB4.out.trans (hb.mono HB4.out.size)
                have HS5 : Hid (SB w.heap.size w5 th tg K T true md) := HS4.out.below hb
                clear q0 q1 q2 q3 q4 q5 qn
                obtain ⟨qn, q0, q1, q2, q3, q4, q5⟩ := HS5.out
                clear hb HB4 HS4
                cases m2
                · go_wp2_with fail
                  go_ret
                  exact ⟨ret_i (HC.out.trans (by first | (unfold codeF; rw [hfd, hcd]; rfl) | (unfold codeF; rw [hfd]; rfl) | (unfold codeF; rw [hcd]; rfl) | (simp [codeF, hf]; done))).symm, HB5.out⟩
                · cases lk
                  · go_wp2_with fail
                    go_ret
                    exact ⟨ret_i (HC.out.trans (by first | (unfold codeF; rw [hfd, hcd]; rfl) | (unfold codeF; rw [hfd]; rfl) | (unfold codeF; rw [hcd]; rfl) | (simp [codeF, hf]; done))).symm, HB5.out⟩
                  · go_wp2_with fail
                    go_ret
                    exact ⟨ret_i (HC.out.trans (by first | (unfold codeF; rw [hfd, hcd]; rfl) | (unfold codeF; rw [hfd]; rfl) | (unfold codeF; rw [hcd]; rfl) | (simp [codeF, hf]; done))).symm, HB5.out⟩
            · go_wp2_with fail
              refine Calls.mono (HD2.out _ HB3.out) ?_
              rintro e w4 ⟨rfl, hb⟩
              have HB4 : Hid (Below w.heap.size w w4) := HB3.out.trans (hb.mono HB3.out.size)
              have HS4 : Hid (SB w.heap.size w4 th tg K T true md) := HS3.out.below hb
              clear q0 q1 q2 q3 q4 q5 qn
              obtain ⟨qn, q0, q1, q2, q3, q4, q5⟩ := HS4.out
              clear hb HB3 HS3
              cases s2
              · go_wp2_with fail
                go_ret
                exact ⟨ret_i (HC.out.trans (by first | (unfold codeF; rw [hfd, hcd]; rfl) | (unfold codeF; rw [hfd]; rfl) | (unfold codeF; rw [hcd]; rfl) | (simp [codeF, hf]; done))).symm, HB4.out⟩
              · cases lk
                · go_wp2_with fail
                  go_ret
                  exact ⟨ret_i (HC.out.trans (by first | (unfold codeF; rw [hfd, hcd]; rfl) | (unfold codeF; rw [hfd]; rfl) | (unfold codeF; rw [hcd]; rfl) | (simp [codeF, hf]; done))).symm, HB4.out⟩
                · by_cases hc : md ≤ D2
                  · have hcd : decide (md ≤ D2) = true := decide_eq_true hc
                    go_wp2_with fail
                    go_ret
                    exact ⟨ret_i (HC.out.trans (by first | (unfold codeF; rw [hfd, hcd]; rfl) | (unfold codeF; rw [hfd]; rfl) | (unfold codeF; rw [hcd]; rfl) | (simp [codeF, hf, hc]; done))).symm, HB4.out⟩
                  · have hcd : decide (md ≤ D2) = false := decide_eq_false hc
                    go_wp2_with fail
                    go_ret
                    exact ⟨ret_i (HC.out.trans (by first | (unfold codeF; rw [hfd, hcd]; rfl) | (unfold codeF; rw [hfd]; rfl) | (unfold codeF; rw [hcd]; rfl) | (simp [codeF, hf, hc]; done))).symm, HB4.out⟩

end Go.Proofs.YtgidmoncocbfiaaGreatDoor.Cds
