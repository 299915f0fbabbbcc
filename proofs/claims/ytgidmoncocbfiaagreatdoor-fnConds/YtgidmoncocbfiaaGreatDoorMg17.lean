/-
  Walks: impl.mayBeAsked, impl.CheckCond.
  Walk: impl.CheckCond.
  Walk: spec.RangeApplies.
-/
import Derived.Test.YtgidmoncocbfiaaGreatDoorCic
import Derived.Test.YtgidmoncocbfiaaGreatDoorCdd
namespace Go.Proofs.YtgidmoncocbfiaaGreatDoor.Cds
open Go.RowKit
open Go.Proofs.YtgidmoncocbfiaaGreatDoor.Fbs (ret_bool)
open Go.Proofs.YtgidmoncocbfiaaGreatDoor.Tga Go.Proofs.YtgidmoncocbfiaaGreatDoor.Tgb Go.Proofs.YtgidmoncocbfiaaGreatDoor.Tgx
open Go.Proofs.YtgidmoncocbfiaaGreatDoor.Fvs
open Go.Proofs.YtgidmoncocbfiaaGreatDoor.Fdb (FV)
open Go.Proofs.YtgidmoncocbfiaaGreatDoor.Cda
open Go.Proofs.YtgidmoncocbfiaaGreatDoor.Dua (DW DW.below)

/-- What the first condition comes to, and the second. -/
def q1F (h k M s : Bool) (D : Int) (dt : Bool) (md : Int) : Int := if h then (if k then (if M then 0 else 412) else 0) else (if s then (if dt && decide (D < md) then 412 else 0) else 0)
def q2F (lk h k M s : Bool) (D : Int) (dt : Bool) (md : Int) : Int := if h then (if k then (if M then (if lk then 304 else 412) else 0) else 0) else (if s then (if lk && (dt && decide (md ≤ D)) then 304 else 0) else 0)
theorem code_two (lk h1 k1 m1 s1 : Bool) (D1 : Int) (h2 k2 m2 s2 : Bool) (D2 : Int) (dt : Bool) (md : Int) : codeF lk h1 k1 m1 s1 D1 h2 k2 m2 s2 D2 dt md = if q1F h1 k1 m1 s1 D1 dt md ≠ 0 then q1F h1 k1 m1 s1 D1 dt md else q2F lk h2 k2 m2 s2 D2 dt md := by
  unfold codeF q1F q2F
  generalize decide (D1 < md) = a
  generalize decide (md ≤ D2) = b
  cases h1 <;> cases k1 <;> cases m1 <;> cases s1 <;> cases dt <;> cases a <;> cases h2 <;> cases k2 <;> cases m2 <;> cases s2 <;> simp
def firstNZ : List Int → Int
  | [] => 0
  | c :: r => if c ≠ 0 then c else firstNZ r
theorem first_hit : ∀ (O : List Int) (j : Nat) (hj : j < O.length), (∀ i, (hi : i < O.length) → i < j → O[i] = 0) → O[j] ≠ 0 → firstNZ O = O[j]
  | c :: r, 0, _, _, h => by
    unfold firstNZ
    rw [if_pos (show c ≠ 0 from h)]; rfl
  | c :: r, j + 1, hj, h0, h => by
    have hc : c = 0 := h0 0 (by simp) (by omega)
    unfold firstNZ
    rw [if_neg (by simp [hc])]
    exact first_hit r j (by simpa using hj) (fun i hi hij => by have := h0 (i + 1) (by simpa using hi) (by omega); simpa using this) (by simpa using h)
theorem first_none : ∀ (O : List Int), (∀ i, (hi : i < O.length) → O[i] = 0) → firstNZ O = 0
  | [], _ => rfl
  | c :: r, h => by
    have hc : c = 0 := h 0 (by simp)
    unfold firstNZ
    rw [if_neg (by simp [hc])]
    exact first_none r (fun i hi => by have := h (i + 1) (by simpa using hi); simpa using this)

theorem conds_form {w : World} {B : Nat} {v : Value} {C : List Value} (h : condsIn w B v C) : ∃ a cap, v = .slice a C.length cap ∧ (C = [] ∨ ∃ g, a = some ⟨g, 0, none⟩ ∧ g < w.heap.size ∧ ∀ j, (hj : j < C.length) → w.cell? ⟨g, j, none⟩ = some C[j]) := by
  have hh := h
  rcases h.2 with ⟨rfl, h0⟩ | ⟨g, cap, cur, rfl, hbg, hg, hnc, hcm, hcs, htake⟩
  · have hl : C = [] := by simpa using h0
    subst hl
    exact ⟨none, 0, rfl, .inl rfl⟩
  · refine ⟨_, _, rfl, .inr ⟨g, rfl, (Array.getElem?_eq_some_iff.1 hg).1, fun j hj => ?_⟩⟩
    have e1 := World.ownsRow.cells hh (g := g) rfl j _ (List.getElem?_eq_getElem hj)
    rwa [Addr.add_lit, Nat.zero_add] at e1

set_option maxRecDepth 20000 in
set_option maxHeartbeats 1600000 in
theorem mayBe_any (a : Option Addr) (ca : Nat) (l : List (ByteArray × ByteArray)) (th tg K : Bool) (T : ByteArray) (dt : Bool) (md now mx : Int) (w : World) (lo hi : Nat) (hW : DW mx w) (hT : T.size ≤ 2000000) (hz : SzF l) (ha : FV w a l lo hi) :
    Calls Tryz.prog 23 #[.slice a l.length ca, stV th tg K T dt md, .int .i64 now] w fun e w' => e = .returned (.bool (goodL l && (stB th tg K T dt md && inB now))) ∧ Below w.heap.size w w' := by
  have HF : Hid (∀ wx, Below w.heap.size w wx → Calls Tryz.prog 52 #[.slice a l.length ca] wx fun e w' => e = .returned (.bool (goodL l)) ∧ Below wx.heap.size wx w') := fun wx hb => areFields_any a ca l wx lo hi (hW.below hb).1 hz (ha.below hb)
  have HS : Hid (∀ wx, Calls Tryz.prog 53 #[.agg #[.bool th, .bool tg, .bool K, .string T, .bool dt, .int .i64 md]] wx fun e w' => e = .returned (.bool (stB th tg K T dt md)) ∧ Below wx.heap.size wx w') := fun wx => isState_any th tg K T dt md wx hT
  have HI : Hid (∀ wx, Calls Tryz.prog 49 #[.int .i64 0, .int .i64 now, .int .i64 253402300799] wx fun e w' => e = .returned (.bool (inB now)) ∧ w' = wx) := fun wx => Fch.isBetween_any 0 now 253402300799 wx
  generalize goodL l = b2 at HF ⊢
  generalize stB th tg K T dt md = b3 at HS ⊢
  generalize inB now = b4 at HI ⊢
  obtain ⟨W, hWW⟩ : ∃ W, W = w.alloc (.cells #[.bool th, .bool tg, .bool K, .string T, .bool dt, .int .i64 md] 27) := ⟨_, rfl⟩
  have HB0 : Hid (Below w.heap.size w W) := by show Below _ _ _; rw [hWW]; exact (Below.refl _ _).alloc (Nat.le_refl _) _
  have HS0 : Hid (SB w.heap.size W th tg K T dt md) := by show SB _ _ _ _ _ _ _ _; rw [hWW]; exact SB.made w _ th tg K T dt md
  clear hW hz ha hT
  go_enter Tryz.func23, Tryz.ntmps23
  go_wp2_with fail
  rw [← hWW]
  clear hWW
  refine Calls.mono (HF.out _ HB0.out) ?_
  rintro e w1 ⟨rfl, hb⟩
  have HB1 : Hid (Below w.heap.size w w1) := HB0.out.trans (hb.mono HB0.out.size)
  obtain ⟨qn, q0, q1, q2, q3, q4, q5⟩ := HS0.out.below hb
  clear hb HB0 HS0
  cases b2
  · go_wp2_with fail
    go_ret
    exact ⟨rfl, HB1.out⟩
  go_wp2_with fail
  refine Calls.mono (HS.out _) ?_
  rintro e w2 ⟨rfl, hb⟩
  have HB2 : Hid (Below w.heap.size w w2) := HB1.out.trans (hb.mono HB1.out.size)
  clear hb HB1
  cases b3
  · go_wp2_with fail
    go_ret
    exact ⟨rfl, HB2.out⟩
  go_wp2_with fail
  refine Calls.mono (HI.out _) ?_
  rintro e w3 ⟨rfl, rfl⟩
  go_wp2_with fail
  go_ret
  exact ⟨rfl, HB2.out⟩

end Go.Proofs.YtgidmoncocbfiaaGreatDoor.Cds

namespace Go.Proofs.YtgidmoncocbfiaaGreatDoor.Cds
open Go.RowKit
open Go.Proofs.YtgidmoncocbfiaaGreatDoor.Fbs (ret_bool)
open Go.Proofs.YtgidmoncocbfiaaGreatDoor.Tga Go.Proofs.YtgidmoncocbfiaaGreatDoor.Tgb Go.Proofs.YtgidmoncocbfiaaGreatDoor.Tgx
open Go.Proofs.YtgidmoncocbfiaaGreatDoor.Fvs
open Go.Proofs.YtgidmoncocbfiaaGreatDoor.Fdb (FV)
open Go.Proofs.YtgidmoncocbfiaaGreatDoor.Cda
open Go.Proofs.YtgidmoncocbfiaaGreatDoor.Dua (DW DW.below)

/-- What follows from each condition. -/
def OutsOK (w : World) (m : ByteArray) (st : Value) (f : List Value) (O : List Int) : Prop :=
  O.length = f.length ∧ ∀ (j : Nat) (hj : j < f.length) (ho : j < O.length) (wx : World), Below w.heap.size w wx → Calls Tryz.prog 25 #[f[j], st, .string m] wx fun e w' => e = .returned (.int .i64 O[j]) ∧ Below wx.heap.size wx w'
theorem OutsOK.none (w : World) (m : ByteArray) (st : Value) : OutsOK w m st [] [] := ⟨rfl, fun j hj => absurd hj (by simp)⟩
theorem OutsOK.one {w : World} {m : ByteArray} {st c : Value} {n : Int} (h : ∀ wx, Below w.heap.size w wx → Calls Tryz.prog 25 #[c, st, .string m] wx fun e w' => e = .returned (.int .i64 n) ∧ Below wx.heap.size wx w') : OutsOK w m st [c] [n] := by
  refine ⟨rfl, fun j hj ho wx hb => ?_⟩
  obtain rfl : j = 0 := by simp at hj; omega
  exact h wx hb
theorem OutsOK.app {w : World} {m : ByteArray} {st : Value} {f1 f2 : List Value} {O1 O2 : List Int} (h1 : OutsOK w m st f1 O1) (h2 : OutsOK w m st f2 O2) : OutsOK w m st (f1 ++ f2) (O1 ++ O2) := by
  refine ⟨by rw [List.length_append, List.length_append, h1.1, h2.1], fun j hj ho wx hb => ?_⟩
  have e1 := h1.1
  by_cases hlt : j < f1.length
  · rw [List.getElem_append_left hlt, List.getElem_append_left (show j < O1.length by omega)]
    exact h1.2 j hlt (by omega) wx hb
  · rw [List.getElem_append_right (by omega), List.getElem_append_right (show O1.length ≤ j by omega)]
    have hj2 : j - f1.length < f2.length := by rw [List.length_append] at hj; omega
    have ho2 : j - f1.length < O2.length := by rw [h2.1]; exact hj2
    have := h2.2 (j - f1.length) hj2 ho2 wx hb
    simp only [e1]
    exact this
theorem first_app : ∀ (O1 O2 : List Int), firstNZ (O1 ++ O2) = if firstNZ O1 ≠ 0 then firstNZ O1 else firstNZ O2
  | [], O2 => by show firstNZ O2 = _; rw [show firstNZ [] = 0 from rfl]; simp
  | c :: r, O2 => by
    show firstNZ (c :: (r ++ O2)) = _
    have e1 : firstNZ (c :: (r ++ O2)) = if c ≠ 0 then c else firstNZ (r ++ O2) := rfl
    have e2 : firstNZ (c :: r) = if c ≠ 0 then c else firstNZ r := rfl
    rw [e1, e2, first_app r O2]
    by_cases h : c = 0
    · simp [h]
    · simp [h]
theorem first_one (n : Int) : firstNZ [n] = n := by
  have e : firstNZ [n] = if n ≠ 0 then n else 0 := rfl
  rw [e]
  by_cases h : n = 0
  · simp [h]
  · simp [h]
theorem st_tag {th tg K : Bool} {T : ByteArray} {dt : Bool} {md : Int} (h : stB th tg K T dt md = true) : tagB T = true := by
  unfold stB at h
  cases th
  · have h1 : noTag K T = true := by
      cases hn : noTag K T
      · rw [hn] at h; simp at h
      · rfl
    unfold noTag at h1
    have h3 : T.toList = [] := by
      simp at h1
      exact h1.2
    have h2 : T = ⟨#[]⟩ := by
      apply ByteArray.ext; apply Array.ext'
      rw [← ByteArray.toList_eq, h3]
    rw [h2]; decide
  · simp at h; exact h.1.1

theorem outs_first {w : World} {m : ByteArray} {h k s : Bool} {t : List (Bool × ByteArray)} {o : Bool} {D : Int} {th tg K : Bool} {T : ByteArray} {dt : Bool} {md : Int} {f : List Value} (H : C1 w h k s t o D 102 103 f) (hT : tagB T = true) (hg : ∀ c ∈ t, tagB c.2 = true) (hl : t.length ≤ 1000) :
    ∃ O, OutsOK w m (stV th tg K T dt md) f O ∧ firstNZ O = q1F h k (matchB t o th tg K T true) s D dt md := by
  unfold C1 at H
  unfold q1F
  cases h
  · rw [if_neg (by simp)] at H ⊢
    cases s
    · rw [if_neg (by simp)] at H ⊢
      subst H
      exact ⟨[], OutsOK.none _ _ _, rfl⟩
    · rw [if_pos rfl] at H ⊢
      subst H
      exact ⟨[_], OutsOK.one (fun wx _ => outUn_any m D th tg K T dt md wx), first_one _⟩
  · rw [if_pos rfl] at H ⊢
    cases k
    · rw [if_neg (by simp)] at H ⊢
      subst H
      exact ⟨[], OutsOK.none _ _ _, rfl⟩
    · rw [if_pos rfl] at H ⊢
      obtain ⟨tv, B, rfl, hv⟩ := H
      obtain ⟨a, cap, rfl, hG⟩ := gv_of hv
      exact ⟨[_], OutsOK.one (fun wx hb => outMatch_any m a cap t o th tg K T dt md wx _ _ hT hg hl (hG.below hb)), first_one _⟩
theorem outs_second {w : World} {m : ByteArray} {h k s : Bool} {t : List (Bool × ByteArray)} {o : Bool} {D : Int} {th tg K : Bool} {T : ByteArray} {dt : Bool} {md : Int} {f : List Value} (H : C1 w h k s t o D 104 105 f) (hT : tagB T = true) (hg : ∀ c ∈ t, tagB c.2 = true) (hl : t.length ≤ 1000) :
    ∃ O, OutsOK w m (stV th tg K T dt md) f O ∧ firstNZ O = q2F (looksB m) h k (matchB t o th tg K T false) s D dt md := by
  unfold C1 at H
  unfold q2F
  cases h
  · rw [if_neg (by simp)] at H ⊢
    cases s
    · rw [if_neg (by simp)] at H ⊢
      subst H
      exact ⟨[], OutsOK.none _ _ _, rfl⟩
    · rw [if_pos rfl] at H ⊢
      subst H
      exact ⟨[_], OutsOK.one (fun wx _ => outMod_any m D th tg K T dt md wx), first_one _⟩
  · rw [if_pos rfl] at H ⊢
    cases k
    · rw [if_neg (by simp)] at H ⊢
      subst H
      exact ⟨[], OutsOK.none _ _ _, rfl⟩
    · rw [if_pos rfl] at H ⊢
      obtain ⟨tv, B, rfl, hv⟩ := H
      obtain ⟨a, cap, rfl, hG⟩ := gv_of hv
      exact ⟨[_], OutsOK.one (fun wx hb => outNone_any m a cap t o th tg K T dt md wx _ _ hT hg hl (hG.below hb)), first_one _⟩

set_option maxRecDepth 20000 in
set_option maxHeartbeats 3200000 in
theorem implCheck_any (m : ByteArray) (a : Option Addr) (ca : Nat) (l : List (ByteArray × ByteArray)) (th tg K : Bool) (T : ByteArray) (dt : Bool) (md now mx : Int) (w : World) (lo hi : Nat) (hW : DW mx w) (_hm : m.size ≤ 2000000) (hT : T.size ≤ 2000000) (hd : ∀ c ∈ l, ∃ o, DV c.2 o) (hz : SzF l) (hca : l.length ≤ ca) (ha : FV w a l lo hi) :
    Calls Tryz.prog 7 #[.string m, .slice a l.length ca, stV th tg K T dt md, .int .i64 now] w fun e w' => e = .returned (.tuple #[.int .i64 (ansP m l th tg K T dt md now), .bool (askB m l th tg K T dt md now)]) ∧ Below w.heap.size w w' := by
  have HT : Hid _ := fun wx (hb : Below w.heap.size w wx) => Fch.isToken_any m wx (hW.below hb).1
  have HM : Hid (∀ wx, Below w.heap.size w wx → Calls Tryz.prog 23 #[.slice a l.length ca, stV th tg K T dt md, .int .i64 now] wx fun e w' => e = .returned (.bool (goodL l && (stB th tg K T dt md && inB now))) ∧ Below wx.heap.size wx w') := fun wx hb => mayBe_any a ca l th tg K T dt md now mx wx lo hi (hW.below hb) hT hz (ha.below hb)
  have HC : Hid (goodL l = true → inB now = true → ∀ wx, Below w.heap.size w wx → _) := fun hg hn wx hb => conditionsOf_any a ca l now mx wx lo hi (hW.below hb) hg hd hz hca (ha.below hb) (inB_is hn)
  have HP : Hid (stB th tg K T dt md = true → ∀ wx f1 f2, C1 wx (hasN l nIm) (okR (lstN l nIm)) (dateP l nIus).isSome (tagsR (lstN l nIm)) (oneR (lstN l nIm)) ((dateP l nIus).getD 0) 102 103 f1 →
      C1 wx (hasN l nInm) (okR (lstN l nInm)) (dateP l nIms).isSome (tagsR (lstN l nInm)) (oneR (lstN l nInm)) ((dateP l nIms).getD 0) 104 105 f2 → ∃ O, OutsOK wx m (stV th tg K T dt md) (f1 ++ f2) O ∧ firstNZ O = codeP (looksB m) l th tg K T dt md) := by
    intro hs wx f1 f2 H1 H2
    have htl1 := tags_len (lstN l nIm)
    have htl2 := tags_len (lstN l nInm)
    obtain ⟨O1, p1, q1⟩ := outs_first (m := m) (th := th) (tg := tg) (K := K) (dt := dt) (md := md) H1 (st_tag hs) (tags_good _) (by omega)
    obtain ⟨O2, p2, q2⟩ := outs_second (m := m) (th := th) (tg := tg) (K := K) (dt := dt) (md := md) H2 (st_tag hs) (tags_good _) (by omega)
    refine ⟨O1 ++ O2, p1.app p2, ?_⟩
    rw [first_app, q1, q2, code_parts, code_two]
    rfl
  have HR : Hid (ansP m l th tg K T dt md now = if askB m l th tg K T dt md now then codeP (looksB m) l th tg K T dt md else 0) := rfl
  have HA : Hid (askB m l th tg K T dt md now = (Fch.tokenB m.data.toList && (goodL l && (stB th tg K T dt md && inB now)))) := rfl
  generalize ansP m l th tg K T dt md now = R at HR ⊢
  generalize askB m l th tg K T dt md now = A at HR HA ⊢
  generalize codeP (looksB m) l th tg K T dt md = C at HR HP
  generalize Fch.tokenB m.data.toList = b1 at HT HA
  generalize hG : (goodL l && (stB th tg K T dt md && inB now)) = b2 at HM HA
  unfold stV at HM HP ⊢
  have HB0 : Hid (Below w.heap.size w (w.alloc (.cells #[.bool th, .bool tg, .bool K, .string T, .bool dt, .int .i64 md] 27))) := (Below.refl _ _).alloc (Nat.le_refl _) _
  have HS0 : Hid (SB w.heap.size (w.alloc (.cells #[.bool th, .bool tg, .bool K, .string T, .bool dt, .int .i64 md] 27)) th tg K T dt md) := SB.made w _ th tg K T dt md
  clear hd hz ha hT _hm hca hW
  obtain ⟨W, hW⟩ : ∃ W, W = w.alloc (.cells #[.bool th, .bool tg, .bool K, .string T, .bool dt, .int .i64 md] 27) := ⟨_, rfl⟩
  rw [← hW] at HB0 HS0
  cases b1
  · obtain rfl : A = false := HA.out
    obtain rfl : R = 0 := HR.out
    go_enter Tryz.func7, Tryz.ntmps7
    go_wp2_with fail
    rw [← hW]
    clear hW
    refine Calls.mono (HT.out _ HB0.out) ?_
    rintro e w1 ⟨rfl, rfl⟩
    obtain ⟨qn, q0, q1, q2, q3, q4, q5⟩ := HS0.out
    go_wp2_with fail
    go_ret2
    exact ⟨rfl, HB0.out⟩
  cases b2
  · obtain rfl : A = false := HA.out
    obtain rfl : R = 0 := HR.out
    clear hG
    go_enter Tryz.func7, Tryz.ntmps7
    go_wp2_with fail
    rw [← hW]
    clear hW
    refine Calls.mono (HT.out _ HB0.out) ?_
    rintro e w1 ⟨rfl, rfl⟩
    obtain ⟨qn, q0, q1, q2, q3, q4, q5⟩ := HS0.out
    go_wp2_with fail
    refine Calls.mono (HM.out _ HB0.out) ?_
    rintro e x1 ⟨rfl, hb⟩
    have HB1 : Hid (Below w.heap.size w x1) := HB0.out.trans (hb.mono HB0.out.size)
    clear hb HB0 HS0 q0 q1 q2 q3 q4 q5 qn
    go_wp2_with fail
    go_ret2
    exact ⟨rfl, HB1.out⟩
  obtain rfl : A = true := HA.out
  obtain rfl : R = C := HR.out
  rw [Bool.and_eq_true, Bool.and_eq_true] at hG
  have HC2 : Hid _ := HC.out hG.1 hG.2.2
  have HP2 : Hid _ := HP.out hG.2.1
  clear HC HP hG HR HA
  go_enter Tryz.func7, Tryz.ntmps7
  go_wp2_with fail
  rw [← hW]
  clear hW
  refine Calls.mono (HT.out _ HB0.out) ?_
  rintro e w1 ⟨rfl, rfl⟩
  obtain ⟨qn, q0, q1, q2, q3, q4, q5⟩ := HS0.out
  go_wp2_with fail
  refine Calls.mono (HM.out _ HB0.out) ?_
  rintro e x1 ⟨rfl, hb⟩
  have HB1 : Hid (Below w.heap.size w x1) := HB0.out.trans (hb.mono HB0.out.size)
  have HS1 : Hid (SB w.heap.size x1 th tg K T dt md) := HS0.out.below hb
  clear q0 q1 q2 q3 q4 q5 qn
  obtain ⟨qn, q0, q1, q2, q3, q4, q5⟩ := HS1.out
  clear hb HB0 HS0
  go_wp2_with fail
  refine Calls.mono (HC2.out _ HB1.out) ?_
  rintro e x2 ⟨⟨v, f1, f2, rfl, hcond, hf1, hf2⟩, hb⟩
  have HB2 : Hid (Below w.heap.size w x2) := HB1.out.trans (hb.mono HB1.out.size)
  have HS2 : Hid (SB w.heap.size x2 th tg K T dt md) := HS1.out.below hb
  obtain ⟨O, HO, hO⟩ := HP2.out x2 f1 f2 hf1 hf2
  have hlen : (f1 ++ f2).length ≤ 2 := by
    rw [List.length_append]
    have := hf1.len; have := hf2.len; omega
  obtain ⟨g, cap, rfl, hcells⟩ := conds_form hcond
  have hOl := HO.1
  have HOO : Hid _ := HO.2
  have HF : Hid (firstNZ O = R) := hO
  have HCE : Hid _ := hcells
  clear hb HB1 HS1 q0 q1 q2 q3 q4 q5 qn hf1 hf2 hcond HC2 HP2 HM HT HO hO hcells
  generalize f1 ++ f2 = F at hlen hOl HOO HCE ⊢
  go_wp2_with fail
  go_loopw [27] (fun cv wr => ∃ i : Nat, i ≤ F.length ∧ cv = .int .i64 i ∧ Hid (∀ j, (hj : j < O.length) → j < i → O[j] = 0) ∧ Hid (Below x2.heap.size x2 wr)) (fun cv _ => F.length - (intOf cv).toNat)
  case atStart => exact ⟨0, by omega, rfl, fun j _ h => absurd h (by omega), Below.refl _ _⟩
  case round =>
    obtain ⟨i, hi, rfl, HN, HW⟩ := hrel
    have HZ : Hid (Below w.heap.size w wr) := HB2.out.trans (HW.out.mono HB2.out.size)
    obtain ⟨qn, q0, q1, q2, q3, q4, q5⟩ := HS2.out.below HW.out
    by_cases hlt : i < F.length
    · obtain ⟨g, rfl, hgl, hce⟩ : ∃ g', g = some ⟨g', 0, none⟩ ∧ g' < x2.heap.size ∧ ∀ j, (hj : j < F.length) → x2.cell? ⟨g', j, none⟩ = some F[j] := by
        rcases HCE.out with h | h
        · rw [h] at hlt; simp at hlt
        · exact h
      have c0 := (HW.out.cell (p := ⟨g, i, none⟩) hgl).trans (hce i hlt)
      have HOx : Hid _ := HOO.out i hlt (by omega) wr HW.out
      have HNx : Hid (O[i]'(by omega) = 0 → ∀ j, (hj : j < O.length) → j < i + 1 → O[j] = 0) := by
        intro h j hj hji
        by_cases e : j = i
        · subst e; exact h
        · exact HN.out j hj (by omega)
      have HYx : Hid (O[i]'(by omega) ≠ 0 → O[i]'(by omega) = R) := fun h => by
        rw [← HF.out]; exact (first_hit O i (by omega) (fun j hj hji => HN.out j hj hji) h).symm
      have hgr : g < wr.heap.size := Nat.lt_of_lt_of_le hgl HW.out.size
      generalize O[i]'(by omega) = q at HOx HNx HYx
      generalize F[i] = X at c0 HOx
      clear HN hce HOO HCE
      go_wp2_with fail
      refine Calls.mono HOx.out ?_
      rintro e w2 ⟨rfl, hb⟩
      have HW2 : Hid (Below x2.heap.size x2 w2) := HW.out.trans (hb.mono HW.out.size)
      have HZ2 : Hid (Below w.heap.size w w2) := HZ.out.trans (hb.mono HZ.out.size)
      clear hb HW HZ HOx c0 hgr q0 q1 q2 q3 q4 q5 qn
      by_cases hq : q = 0
      · subst hq
        have HNy : Hid _ := HNx.out rfl
        clear HNx HYx
        go_wp2_with fail
        refine ⟨⟨i + 1, by omega, by go_num, HNy, HW2⟩, ?_⟩
        simp [intOf]; omega
      · obtain rfl := (HYx.out hq).symm
        clear HNx HYx
        go_wp2_with fail
        go_ret2
        exact ⟨rfl, HZ2.out⟩
    · obtain rfl : i = F.length := by omega
      have hR : R = 0 := by
        rw [← HF.out]; exact first_none O (fun j hj => HN.out j hj (by omega))
      subst hR
      clear HN HCE HOO
      go_wp2_with fail
      go_ret2
      exact ⟨rfl, HZ.out⟩

end Go.Proofs.YtgidmoncocbfiaaGreatDoor.Cds

namespace Go.Proofs.YtgidmoncocbfiaaGreatDoor.Cds
open Go.RowKit
open Go.Proofs.YtgidmoncocbfiaaGreatDoor.Fbs (ret_bool)
open Go.Proofs.YtgidmoncocbfiaaGreatDoor.Tga Go.Proofs.YtgidmoncocbfiaaGreatDoor.Tgb Go.Proofs.YtgidmoncocbfiaaGreatDoor.Tgx
open Go.Proofs.YtgidmoncocbfiaaGreatDoor.Fvs
open Go.Proofs.YtgidmoncocbfiaaGreatDoor.Ows
open Go.Proofs.YtgidmoncocbfiaaGreatDoor.Fdb (FV)
open Go.Proofs.YtgidmoncocbfiaaGreatDoor.Mrk (TV tv_of)
open Go.Proofs.YtgidmoncocbfiaaGreatDoor.Cda
open Go.Proofs.YtgidmoncocbfiaaGreatDoor.Dua (DW DW.below)

/-- Whether what an If-Range tells is the state's. -/
noncomputable def rngV (v : ByteArray) (tg K : Bool) (T : ByteArray) (dt : Bool) (md : Int) : Bool := match readT v with
  | some c => isIt tg K T true c
  | none => (dvO v).isSome && (dt && ((dvO v).getD 0 == md))
theorem rngV_tag {v : ByteArray} {c : Bool × ByteArray} (tg K : Bool) (T : ByteArray) (dt : Bool) (md : Int) (h : readT v = some c) : rngV v tg K T dt md = isIt tg K T true c := by unfold rngV; rw [h]
theorem rngV_date {v : ByteArray} (tg K : Bool) (T : ByteArray) (dt : Bool) (md : Int) (h : readT v = none) : rngV v tg K T dt md = ((dvO v).isSome && (dt && ((dvO v).getD 0 == md))) := by unfold rngV; rw [h]
noncomputable def rngL (q : List ByteArray) (tg K : Bool) (T : ByteArray) (dt : Bool) (md : Int) : Bool := match q with
  | [] => true
  | [v] => rngV v tg K T dt md
  | _ => false
theorem rngL_more {q : List ByteArray} (tg K : Bool) (T : ByteArray) (dt : Bool) (md : Int) (h : 2 ≤ q.length) : rngL q tg K T dt md = false := by
  match q, h with
  | _ :: _ :: _, _ => rfl
def mayB (l : List (ByteArray × ByteArray)) (th tg K : Bool) (T : ByteArray) (dt : Bool) (md now : Int) : Bool := goodL l && (stB th tg K T dt md && inB now)
noncomputable def rngP (l : List (ByteArray × ByteArray)) (th tg K : Bool) (T : ByteArray) (dt : Bool) (md now : Int) : Bool := if mayB l th tg K T dt md now then rngL (valsOf nIr l) tg K T dt md else false

theorem row_made (w : World) (t : TypeId) (k : Bool) (x : ByteArray) : RowG (w.alloc (.cells #[.bool k, .string x] t)) w.heap.size [(k, x)] := by
  refine ⟨by simp, fun i => ?_, fun i c hc => ?_⟩
  · have hg : (w.alloc (.cells #[.bool k, .string x] t)).heap[w.heap.size]? = some (.cells #[.bool k, .string x] t) := by show (w.heap.push _)[w.heap.size]? = _; simp
    unfold World.frozen?
    rw [hg]
    rfl
  · match i, hc with
    | 0, hc =>
      obtain rfl : (k, x) = c := by simpa using hc
      exact ⟨by rw [World.cell?_alloc_mark]; rfl, by rw [World.cell?_alloc_mark]; rfl⟩

set_option maxRecDepth 20000 in
set_option maxHeartbeats 3200000 in
theorem specRange_any (a : Option Addr) (ca : Nat) (l : List (ByteArray × ByteArray)) (th tg K : Bool) (T : ByteArray) (dt : Bool) (md now : Int) (w : World) (lo hi : Nat) (hl : l.length ≤ 2000000) (hT : T.size ≤ 2000000) (hd : ∀ c ∈ l, ∃ o, DV c.2 o) (hz : SzF l) (ha : FV w a l lo hi) :
    Calls Tryz.prog 12 #[.slice a l.length ca, stV th tg K T dt md, .int .i64 now] w fun e w' => e = .returned (.tuple #[.bool (rngP l th tg K T dt md now), .bool (mayB l th tg K T dt md now)]) ∧ Below w.heap.size w w' := by
  have HF : Hid (∀ wx, Below w.heap.size w wx → Calls Tryz.prog 27 #[.slice a l.length ca] wx fun e w' => e = .returned (.bool (goodL l)) ∧ Below wx.heap.size wx w') := fun wx hb => l3Fields_any a ca l wx lo hi hl hz (ha.below hb)
  have HS : Hid _ := fun wx => l7State_any th tg K T dt md wx hT
  have HI : Hid _ := fun wx => Fch.l1In_any now 0 253402300799 wx
  have HV : Hid (∀ wx, Below w.heap.size w wx → Calls Tryz.prog 34 #[.slice a l.length ca, .string ⟨#[105, 102, 45, 114, 97, 110, 103, 101]⟩] wx fun e w' => (∃ v, e = .returned v ∧ textsIn w' wx.heap.size v (valsOf nIr l)) ∧ Below wx.heap.size wx w') := fun wx hb => Fvs.l3Values_any a ca l nIr wx lo hi hl (by decide) hz (ha.below hb)
  have HD : Hid (inB now = true → ∀ wx, Below w.heap.size w wx → Calls Tryz.prog 37 #[.slice a l.length ca, .string ⟨#[105, 102, 45, 114, 97, 110, 103, 101]⟩, .int .i64 now] wx fun e w' => e = .returned (.tuple #[.int .i64 ((dateP l nIr).getD 0), .bool (dateP l nIr).isSome]) ∧ Below wx.heap.size wx w') := fun hn wx hb => l7Date_any a ca l nIr now wx lo hi hl hd (by decide) hz (ha.below hb) (inB_is hn)
  have hmem : ∀ v ∈ valsOf nIr l, ∃ o, DV v o := fun v hv => by
    obtain ⟨c, hc, rfl⟩ := vals_mem hv
    exact hd c hc
  have HR : Hid (rngP l th tg K T dt md now = if mayB l th tg K T dt md now then rngL (valsOf nIr l) tg K T dt md else false) := rfl
  have HA : Hid (mayB l th tg K T dt md now = (goodL l && (stB th tg K T dt md && inB now))) := rfl
  have hone : ∀ v, valsOf nIr l = [v] → dateP l nIr = dvO v := fun v h => dateP_one h
  generalize rngP l th tg K T dt md now = R at HR ⊢
  generalize mayB l th tg K T dt md now = A at HR HA ⊢
  generalize goodL l = b2 at HF HA
  generalize stB th tg K T dt md = b3 at HS HA
  change Hid (∀ wx, Calls Tryz.prog 29 #[.int .i64 now, .int .i64 0, .int .i64 253402300799] wx fun e w' => e = .returned (.bool (inB now)) ∧ w' = wx) at HI
  generalize inB now = b4 at HI HA HD
  generalize dateP l nIr = dO at HD hone
  generalize valsOf nIr l = q at HV hmem HR hone
  have HMt : Hid (∀ (c : Bool × ByteArray) wx g, RowG wx g [c] → Calls Tryz.prog 36 #[.slice (some ⟨g, 0, none⟩) 1 1, .bool false, stV th tg K T dt md, .bool true] wx fun e w' => e = .returned (.bool (isIt tg K T true c)) ∧ Below wx.heap.size wx w') := by
    intro c wx g hg
    have := l7Matches_any (some ⟨g, 0, none⟩) 1 [c] false th tg K T dt md true wx 0 wx.heap.size (by simp) (.inr ⟨g, rfl, Nat.zero_le _, hg.1, hg⟩)
    have e : matchB [c] false th tg K T true = isIt tg K T true c := by
      unfold matchB
      rw [if_neg (by simp), List.any_cons, List.any_nil, Bool.or_false]
    rw [e] at this
    exact this
  unfold stV at HS HMt ⊢
  have HB0 : Hid (Below w.heap.size w (w.alloc (.cells #[.bool th, .bool tg, .bool K, .string T, .bool dt, .int .i64 md] 27))) := (Below.refl _ _).alloc (Nat.le_refl _) _
  have HS0 : Hid (SB w.heap.size (w.alloc (.cells #[.bool th, .bool tg, .bool K, .string T, .bool dt, .int .i64 md] 27)) th tg K T dt md) := SB.made w _ th tg K T dt md
  clear hd hz ha
  obtain ⟨W, hW⟩ : ∃ W, W = w.alloc (.cells #[.bool th, .bool tg, .bool K, .string T, .bool dt, .int .i64 md] 27) := ⟨_, rfl⟩
  rw [← hW] at HB0 HS0
  cases b2
  · obtain rfl : A = false := HA.out
    obtain rfl : R = false := HR.out
    clear hmem hone
    go_enter Tryz.func12, Tryz.ntmps12
    go_wp2_with fail
    rw [← hW]
    clear hW
    obtain ⟨qn, q0, q1, q2, q3, q4, q5⟩ := HS0.out
    refine Calls.mono (HF.out _ HB0.out) ?_
    rintro e x1 ⟨rfl, hb⟩
    have HB1 : Hid (Below w.heap.size w x1) := HB0.out.trans (hb.mono HB0.out.size)
    clear q0 q1 q2 q3 q4 q5 qn hb HB0 HS0
    go_wp2_with fail
    go_ret2
    exact ⟨rfl, HB1.out⟩
  cases b3
  · obtain rfl : A = false := HA.out
    obtain rfl : R = false := HR.out
    clear hmem hone
    go_enter Tryz.func12, Tryz.ntmps12
    go_wp2_with fail
    rw [← hW]
    clear hW
    refine Calls.mono (HF.out _ HB0.out) ?_
    rintro e x1 ⟨rfl, hb⟩
    have HB1 : Hid (Below w.heap.size w x1) := HB0.out.trans (hb.mono HB0.out.size)
    have HS1 : Hid (SB w.heap.size x1 th tg K T dt md) := HS0.out.below hb
    obtain ⟨qn, q0, q1, q2, q3, q4, q5⟩ := HS1.out
    clear hb HB0 HS0
    go_wp2_with fail
    refine Calls.mono (HS.out _) ?_
    rintro e x2 ⟨rfl, hb⟩
    have HB2 : Hid (Below w.heap.size w x2) := HB1.out.trans (hb.mono HB1.out.size)
    clear q0 q1 q2 q3 q4 q5 qn hb HB1 HS1
    go_wp2_with fail
    go_ret2
    exact ⟨rfl, HB2.out⟩
  cases b4
  · obtain rfl : A = false := HA.out
    obtain rfl : R = false := HR.out
    clear hmem hone
    go_enter Tryz.func12, Tryz.ntmps12
    go_wp2_with fail
    rw [← hW]
    clear hW
    refine Calls.mono (HF.out _ HB0.out) ?_
    rintro e x1 ⟨rfl, hb⟩
    have HB1 : Hid (Below w.heap.size w x1) := HB0.out.trans (hb.mono HB0.out.size)
    have HS1 : Hid (SB w.heap.size x1 th tg K T dt md) := HS0.out.below hb
    obtain ⟨qn, q0, q1, q2, q3, q4, q5⟩ := HS1.out
    clear hb HB0 HS0
    go_wp2_with fail
    refine Calls.mono (HS.out _) ?_
    rintro e x2 ⟨rfl, hb⟩
    have HB2 : Hid (Below w.heap.size w x2) := HB1.out.trans (hb.mono HB1.out.size)
    clear q0 q1 q2 q3 q4 q5 qn hb HB1 HS1
    go_wp2_with fail
    refine Calls.mono (HI.out _) ?_
    rintro e x3 ⟨rfl, rfl⟩
    go_wp2_with fail
    go_ret2
    exact ⟨rfl, HB2.out⟩
  obtain rfl : A = true := HA.out
  have HR2 : Hid (R = rngL q tg K T dt md) := HR.out
  have HD2 : Hid _ := HD.out rfl
  clear HR HD HA
  by_cases hq0 : q.length = 0
  · obtain rfl : q = [] := List.length_eq_zero_iff.1 hq0
    obtain rfl : R = true := HR2.out
    clear hmem hone hq0
    go_enter Tryz.func12, Tryz.ntmps12
    go_wp2_with fail
    rw [← hW]
    clear hW
    refine Calls.mono (HF.out _ HB0.out) ?_
    rintro e x1 ⟨rfl, hb⟩
    have HB1 : Hid (Below w.heap.size w x1) := HB0.out.trans (hb.mono HB0.out.size)
    have HS1 : Hid (SB w.heap.size x1 th tg K T dt md) := HS0.out.below hb
    obtain ⟨qn, q0, q1, q2, q3, q4, q5⟩ := HS1.out
    clear hb HB0 HS0
    go_wp2_with fail
    refine Calls.mono (HS.out _) ?_
    rintro e x2 ⟨rfl, hb⟩
    have HB2 : Hid (Below w.heap.size w x2) := HB1.out.trans (hb.mono HB1.out.size)
    clear q0 q1 q2 q3 q4 q5 qn hb HB1 HS1
    go_wp2_with fail
    refine Calls.mono (HI.out _) ?_
    rintro e x3 ⟨rfl, rfl⟩
    go_wp2_with fail
    with_reducible refine Calls.mono (HV.out _ HB2.out) ?_
    rintro e x4 ⟨⟨u, rfl, hown⟩, hb⟩
    obtain ⟨aP, cP, rfl, hTV⟩ := tv_of hown
    have HB4 : Hid (Below w.heap.size w x4) := HB2.out.trans (hb.mono HB2.out.size)
    clear hown hTV hb
    go_wp2_with fail
    go_ret2
    exact ⟨rfl, HB4.out⟩
  by_cases hq1 : q.length = 1
  rotate_left
  · have hq2 : 2 ≤ q.length := by omega
    obtain rfl : R = false := HR2.out.trans (rngL_more tg K T dt md hq2)
    have d0 : ((q.length : Int) == 0) = false := by rw [beq_eq_false_iff_ne]; omega
    have d1 : ((q.length : Int) == 1) = false := by rw [beq_eq_false_iff_ne]; omega
    have n0 : ¬ ((q.length : Int) = 0) := by omega
    have n1 : ¬ ((q.length : Int) = 1) := by omega
    clear hmem hone HR2
    go_enter Tryz.func12, Tryz.ntmps12
    go_wp2_with fail
    rw [← hW]
    clear hW
    refine Calls.mono (HF.out _ HB0.out) ?_
    rintro e x1 ⟨rfl, hb⟩
    have HB1 : Hid (Below w.heap.size w x1) := HB0.out.trans (hb.mono HB0.out.size)
    have HS1 : Hid (SB w.heap.size x1 th tg K T dt md) := HS0.out.below hb
    obtain ⟨qn, q0, q1, q2, q3, q4, q5⟩ := HS1.out
    clear hb HB0 HS0
    go_wp2_with fail
    refine Calls.mono (HS.out _) ?_
    rintro e x2 ⟨rfl, hb⟩
    have HB2 : Hid (Below w.heap.size w x2) := HB1.out.trans (hb.mono HB1.out.size)
    clear q0 q1 q2 q3 q4 q5 qn hb HB1 HS1
    go_wp2_with fail
    refine Calls.mono (HI.out _) ?_
    rintro e x3 ⟨rfl, rfl⟩
    go_wp2_with fail
    with_reducible refine Calls.mono (HV.out _ HB2.out) ?_
    rintro e x4 ⟨⟨u, rfl, hown⟩, hb⟩
    obtain ⟨aP, cP, rfl, hTV⟩ := tv_of hown
    have HB4 : Hid (Below w.heap.size w x4) := HB2.out.trans (hb.mono HB2.out.size)
    clear hown hTV hb
    go_wp2_with fail
    go_ret2
    exact ⟨rfl, HB4.out⟩
  obtain ⟨v, rfl⟩ : ∃ v, q = [v] := by
    match q, hq1 with
    | [x], _ => exact ⟨x, rfl⟩
  obtain rfl := hone v rfl
  have hvs := dv_size (hmem v (by simp))
  have HT : Hid _ := fun wx => l7Read_any v wx (by omega)
  have HR3 : Hid (R = rngV v tg K T dt md) := HR2.out
  clear hone hmem hq0 hq1 HR2
  cases hrt : readT v
  · rw [hrt] at HT
    have HR4 : Hid _ := HR3.out.trans (rngV_date tg K T dt md hrt)
    clear hrt HR3 HMt
    generalize (dvO v).getD 0 = r at HD2 HR4
    generalize (dvO v).isSome = b at HD2 HR4
    change Hid (∀ wx, Calls Tryz.prog 35 #[.string v] wx fun e w' => e = .returned (.tuple #[.agg #[.bool false, .string ⟨#[]⟩], .bool false]) ∧ Below wx.heap.size wx w') at HT
    go_enter Tryz.func12, Tryz.ntmps12
    go_wp2_with fail
    rw [← hW]
    clear hW
    refine Calls.mono (HF.out _ HB0.out) ?_
    rintro e x1 ⟨rfl, hb⟩
    have HB1 : Hid (Below w.heap.size w x1) := HB0.out.trans (hb.mono HB0.out.size)
    have HS1 : Hid (SB w.heap.size x1 th tg K T dt md) := HS0.out.below hb
    obtain ⟨qn, q0, q1, q2, q3, q4, q5⟩ := HS1.out
    clear hb HB0 HS0
    go_wp2_with fail
    refine Calls.mono (HS.out _) ?_
    rintro e x2 ⟨rfl, hb⟩
    have HB2 : Hid (Below w.heap.size w x2) := HB1.out.trans (hb.mono HB1.out.size)
    have HS2 : Hid (SB w.heap.size x2 th tg K T dt md) := HS1.out.below hb
    clear q0 q1 q2 q3 q4 q5 qn hb HB1 HS1
    go_wp2_with fail
    refine Calls.mono (HI.out _) ?_
    rintro e x3 ⟨rfl, rfl⟩
    go_wp2_with fail
    with_reducible refine Calls.mono (HV.out _ HB2.out) ?_
    rintro e x4 ⟨⟨u, rfl, hown⟩, hb⟩
    obtain ⟨aP, cP, rfl, hTV⟩ := tv_of hown
    obtain ⟨g, rfl, hgl, hc⟩ := Tgx.one_part hTV
    have HB4 : Hid (Below w.heap.size w x4) := HB2.out.trans (hb.mono HB2.out.size)
    have HS4 : Hid (SB w.heap.size x4 th tg K T dt md) := HS2.out.below hb
    clear hown hTV hb HB2 HS2
    go_wp2_with fail
    with_reducible refine Calls.mono (HT.out _) ?_
    rintro e x5 ⟨rfl, hb⟩
    have hb5 : Below w.heap.size w x5 := HB4.out.trans (hb.mono HB4.out.size)
    have HB5 : Hid (Below w.heap.size w (x5.alloc (.cells #[.bool false, .string ⟨#[]⟩] 25))) := hb5.alloc hb5.size _
    have HS5 : Hid (SB w.heap.size (x5.alloc (.cells #[.bool false, .string ⟨#[]⟩] 25)) th tg K T dt md) := (HS4.out.below hb).below ((Below.refl _ _).alloc (Nat.le_refl _) _)
    clear hb hb5 hc hgl HB4 HS4
    go_wp2_with fail
    with_reducible refine Calls.mono (HD2.out _ HB5.out) ?_
    rintro e x6 ⟨rfl, hb⟩
    have HB6 : Hid (Below w.heap.size w x6) := HB5.out.trans (hb.mono HB5.out.size)
    have HS6 : Hid (SB w.heap.size x6 th tg K T dt md) := HS5.out.below hb
    obtain ⟨qn, q0, q1, q2, q3, q4, q5⟩ := HS6.out
    clear hb HB5 HS5
    cases b
    · obtain rfl : R = false := HR4.out
      go_wp2_with fail
      go_ret2
      exact ⟨rfl, HB6.out⟩
    cases dt
    · obtain rfl : R = false := HR4.out
      go_wp2_with fail
      go_ret2
      exact ⟨rfl, HB6.out⟩
    · obtain rfl : R = (r == md) := HR4.out
      go_wp2_with fail
      go_ret2
      exact ⟨rfl, HB6.out⟩
  · rename_i c
    rw [hrt] at HT
    have HR4 : Hid _ := HR3.out.trans (rngV_tag tg K T dt md hrt)
    have HM2 : Hid _ := HMt.out c
    clear hrt HR3 HD2 HMt
    generalize isIt tg K T true c = z at HR4 HM2
    obtain ⟨k, x⟩ := c
    change Hid (∀ wx, Calls Tryz.prog 35 #[.string v] wx fun e w' => e = .returned (.tuple #[.agg #[.bool k, .string x], .bool true]) ∧ Below wx.heap.size wx w') at HT
    obtain rfl : R = z := HR4.out
    clear HR4
    go_enter Tryz.func12, Tryz.ntmps12
    go_wp2_with fail
    rw [← hW]
    clear hW
    refine Calls.mono (HF.out _ HB0.out) ?_
    rintro e x1 ⟨rfl, hb⟩
    have HB1 : Hid (Below w.heap.size w x1) := HB0.out.trans (hb.mono HB0.out.size)
    have HS1 : Hid (SB w.heap.size x1 th tg K T dt md) := HS0.out.below hb
    obtain ⟨qn, q0, q1, q2, q3, q4, q5⟩ := HS1.out
    clear hb HB0 HS0
    go_wp2_with fail
    refine Calls.mono (HS.out _) ?_
    rintro e x2 ⟨rfl, hb⟩
    have HB2 : Hid (Below w.heap.size w x2) := HB1.out.trans (hb.mono HB1.out.size)
    have HS2 : Hid (SB w.heap.size x2 th tg K T dt md) := HS1.out.below hb
    clear q0 q1 q2 q3 q4 q5 qn hb HB1 HS1
    go_wp2_with fail
    refine Calls.mono (HI.out _) ?_
    rintro e x3 ⟨rfl, rfl⟩
    go_wp2_with fail
    with_reducible refine Calls.mono (HV.out _ HB2.out) ?_
    rintro e x4 ⟨⟨u, rfl, hown⟩, hb⟩
    obtain ⟨aP, cP, rfl, hTV⟩ := tv_of hown
    obtain ⟨g, rfl, hgl, hc⟩ := Tgx.one_part hTV
    have HB4 : Hid (Below w.heap.size w x4) := HB2.out.trans (hb.mono HB2.out.size)
    have HS4 : Hid (SB w.heap.size x4 th tg K T dt md) := HS2.out.below hb
    clear hown hTV hb HB2 HS2
    go_wp2_with fail
    with_reducible refine Calls.mono (HT.out _) ?_
    rintro e x5 ⟨rfl, hb⟩
    have hb5 : Below w.heap.size w x5 := HB4.out.trans (hb.mono HB4.out.size)
    have HB5 : Hid (Below w.heap.size w (x5.alloc (.cells #[.bool k, .string x] 25))) := hb5.alloc hb5.size _
    have HS5 : Hid (SB w.heap.size (x5.alloc (.cells #[.bool k, .string x] 25)) th tg K T dt md) := (HS4.out.below hb).below ((Below.refl _ _).alloc (Nat.le_refl _) _)
    have HS6 : Hid (SB w.heap.size ((x5.alloc (.cells #[.bool k, .string x] 25)).alloc (.cells #[.bool k, .string x] 25)) th tg K T dt md) := HS5.out.below ((Below.refl _ _).alloc (Nat.le_refl _) _)
    obtain ⟨qn, q0, q1, q2, q3, q4, q5⟩ := HS6.out
    have HG6 : Hid (RowG ((x5.alloc (.cells #[.bool k, .string x] 25)).alloc (.cells #[.bool k, .string x] 25)) (x5.heap.size + 1) [(k, x)]) := by
      have := row_made (x5.alloc (.cells #[.bool k, .string x] 25)) 25 k x
      rw [World.size_alloc] at this
      exact this
    clear hb hb5 hc hgl HB4 HS4 HS5
    go_wp2_with fail
    refine Calls.mono (HM2.out _ _ HG6.out) ?_
    rintro e x6 ⟨rfl, hb⟩
    go_wp2_with fail
    go_ret2
    exact ⟨rfl, ((HB5.out.alloc HB5.out.size _).trans (hb.mono (HB5.out.alloc HB5.out.size _).size))⟩

end Go.Proofs.YtgidmoncocbfiaaGreatDoor.Cds

