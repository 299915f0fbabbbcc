/-
  Lists of conditions that the call itself makes. Walk: impl.conditionsOf.
-/
import Derived.Test.YtgidmoncocbfiaaGreatDoorMg15
import Derived.Test.YtgidmoncocbfiaaGreatDoorMg16
namespace Go.Proofs.YtgidmoncocbfiaaGreatDoor.Cds
open Go.RowKit
open Go.Proofs.YtgidmoncocbfiaaGreatDoor.Tga Go.Proofs.YtgidmoncocbfiaaGreatDoor.Tgb Go.Proofs.YtgidmoncocbfiaaGreatDoor.Tgx
open Go.Proofs.YtgidmoncocbfiaaGreatDoor.Fvs
open Go.Proofs.YtgidmoncocbfiaaGreatDoor.Fdb (FV)
open Go.Proofs.YtgidmoncocbfiaaGreatDoor.Jnd (joinS jnO)
open Go.Proofs.YtgidmoncocbfiaaGreatDoor.Cda
open Go.Proofs.YtgidmoncocbfiaaGreatDoor.Dua (DW DW.below)
open Go.Proofs.YtgidmoncocbfiaaGreatDoor.Lsp (listO)

theorem infoC : (Tryz.prog.info? 66).map (fun i => (i.zero, i.size, i.bytes)) = some (some .nilIface, 1, 16) := by kernel_rfl

/-- The value v holds the conditions l, in memory of the call's own from block B on. -/
def condsIn (w : World) (B : Nat) (v : Value) (l : List Value) : Prop := w.ownsRow B 66 1 v l.length l
theorem condsIn.below {w w' : World} {B : Nat} {v : Value} {l : List Value} (h : condsIn w B v l) (hb : Below w.heap.size w w') : condsIn w' B v l := by
  refine ⟨h.1, ?_⟩
  rcases h.2 with hn | ⟨g, cap, cur, rfl, hbg, hg, rest⟩
  · exact .inl hn
  · exact .inr ⟨g, cap, cur, rfl, hbg, (hb.block g (Array.getElem?_eq_some_iff.1 hg).1).trans hg, rest⟩
theorem condsIn.alloc {w : World} {B : Nat} {v : Value} {l : List Value} (h : condsIn w B v l) (o : Obj) : condsIn (w.alloc o) B v l := World.ownsRow.alloc h o
theorem condsIn.made (w : World) (B : Nat) (h : B ≤ w.heap.size) : condsIn (w.alloc (.cells #[] 66)) B (.slice (some ⟨w.heap.size, 0, none⟩) 0 0) [] :=
  ⟨rfl, .inr ⟨w.heap.size, 0, #[], rfl, h, by show (w.heap.push _)[w.heap.size]? = _; simp, Nat.le_refl _, by decide, rfl, rfl⟩⟩
/-- A list of tags beside one of conditions stays. -/
theorem tags_beside {w w' : World} {B B2 : Nat} {v tv : Value} {l : List Value} {t : List (Bool × ByteArray)} (h : tagsIn w B tv t) (hc : condsIn w B2 v l) (hg : w.grownBy w' v.ownBlock) : tagsIn w' B tv t := by
  refine ⟨h.1, ?_⟩
  rcases h.2 with hn | ⟨g, cap, cur, rfl, hbg, hgg, rest⟩
  · exact .inl hn
  · refine .inr ⟨g, cap, cur, rfl, hbg, (hg.block g (Array.getElem?_eq_some_iff.1 hgg).1 ?_).trans hgg, rest⟩
    rcases hc.2 with ⟨rfl, _⟩ | ⟨g2, cap2, cur2, rfl, _, hg2, _⟩
    · simp [Value.ownBlock]
    · intro e
      have : g = g2 := by simpa [Value.ownBlock] using e
      subst this
      rw [hgg] at hg2
      cases hg2

/-- 'append(v, c)' of one condition, for the walk. -/
theorem wpList_append_cond (wr : World) {ops : Array Oper} {rest : List Oper} {o : Oper} {a : Act} {Q : Exit → Act → World → Prop} (hgd : o.guard = none) (s x : Operand)
    (ho : o.op = .call { callee := .builtin .append, args := #[s, x], argTypes := #[63, 63] })
    (B : Nat) (v : Value) (l : List Value) (hs : a.eval s = v) (hown : condsIn wr B v l)
    (X : Value) (hX : X.oneCell' = true) (cap : Nat) (hx : a.eval x = .slice (some ⟨wr.heap.size, 0, none⟩) 1 cap)
    (hb : l.length + 1 ≤ 1000000) (hbase : B ≤ wr.heap.size) (B0 : Nat) (hB0 : B0 ≤ B) (W : World) (hbel : Below B0 W wr)
    (h : ∀ v' w', condsIn w' B v' (l ++ [X]) → (wr.alloc (.cells #[X] 66)).grownBy w' v.ownBlock → Below B0 W w' → wpList Tryz.prog ops Q rest (a.put o.dst v') w') : wpList Tryz.prog ops Q (o :: rest) a (wr.alloc (.cells #[X] 66)) := by
  obtain ⟨i0, hi, hz0, hz1, hz2⟩ := info_parts infoC
  refine wpList_append_own _ hgd s x 63 ho B 66 i0 .nilIface 1 16 Tryz.underlying63 hi hz0 hz1 hz2 rfl (by decide) v l.length _ hs (hown.alloc _) ⟨wr.heap.size, 0, none⟩ 1 cap [X] hx rfl ?_ ?_
    (by unfold maxLen; omega) (by omega) (by simp; omega) ?_
  · intro j u hj
    match j, hj with
    | 0, hj => simp at hj; subst hj; simp [Addr.add]
  · intro u hu; simp at hu; subst hu; exact hX
  · intro v' w' hown' hg _
    refine h v' w' ?_ hg ((hbel.alloc (by omega) _).grown hg (by simp; omega) (fun k hk => Nat.le_trans hB0 (World.ownsRow.lt hown k hk).1))
    unfold condsIn
    rw [List.length_append]
    exact hown'

/-- What stands for a name: tags, a date, or nothing. -/
def C1 (w : World) (h k s : Bool) (t : List (Bool × ByteArray)) (o : Bool) (D : Int) (tm td : TypeId) (f : List Value) : Prop :=
  if h then (if k then ∃ tv B, f = [.iface tm (.agg #[tv, .bool o])] ∧ tagsIn w B tv t else f = []) else (if s then f = [.iface td (.int .i64 D)] else f = [])
theorem C1.below {w w' : World} {h k s : Bool} {t : List (Bool × ByteArray)} {o : Bool} {D : Int} {tm td : TypeId} {f : List Value} (H : C1 w h k s t o D tm td f) (hb : Below w.heap.size w w') : C1 w' h k s t o D tm td f := by
  unfold C1 at H ⊢
  cases h
  · exact H
  · cases k
    · exact H
    · obtain ⟨tv, B, e, ht⟩ := H
      exact ⟨tv, B, e, ht.below hb⟩
theorem C1.beside {w w' : World} {h k s : Bool} {t : List (Bool × ByteArray)} {o : Bool} {D : Int} {tm td : TypeId} {f l : List Value} {B2 : Nat} {v : Value} (H : C1 w h k s t o D tm td f) (hc : condsIn w B2 v l) (hg : w.grownBy w' v.ownBlock) : C1 w' h k s t o D tm td f := by
  unfold C1 at H ⊢
  cases h
  · exact H
  · cases k
    · exact H
    · obtain ⟨tv, B, e, ht⟩ := H
      exact ⟨tv, B, e, tags_beside ht hc hg⟩
theorem C1.len {w : World} {h k s : Bool} {t : List (Bool × ByteArray)} {o : Bool} {D : Int} {tm td : TypeId} {f : List Value} (H : C1 w h k s t o D tm td f) : f.length ≤ 1 := by
  unfold C1 at H
  cases h <;> cases k <;> cases s <;> simp at H
  all_goals first | (rw [H]; simp; done) | (obtain ⟨tv, e, _⟩ := H; rw [e]; simp) | (subst H; simp)

theorem tags_form {w : World} {B : Nat} {v : Value} {l : List (Bool × ByteArray)} (h : tagsIn w B v l) : ∃ a cap, v = .slice a l.length cap := by
  obtain ⟨a, cap, e, _⟩ := gv_of h
  exact ⟨a, cap, e⟩
theorem jn_good {l : List (ByteArray × ByteArray)} {n : ByteArray} (hg : goodL l = true) (ht : Fch.tokenB n.data.toList = true) : jnO l n = (joinS (valsOf n l), hasN l n) := by
  unfold jnO
  rw [valO, if_pos ⟨hg, ht⟩]
  rfl

set_option maxRecDepth 20000 in
set_option maxHeartbeats 3200000 in
theorem conditionsOf_any (a : Option Addr) (ca : Nat) (l : List (ByteArray × ByteArray)) (now mx : Int) (w : World) (lo hi : Nat) (hW : DW mx w) (hg : goodL l = true) (hd : ∀ c ∈ l, ∃ o, DV c.2 o) (hz : SzF l) (hca : l.length ≤ ca) (ha : FV w a l lo hi) (hnow : 0 ≤ now ∧ now ≤ 253402300799) :
    Calls Tryz.prog 24 #[.slice a l.length ca, .int .i64 now] w fun e w' => (∃ v f1 f2, e = .returned v ∧ condsIn w' w.heap.size v (f1 ++ f2) ∧
      C1 w' (hasN l nIm) (okR (lstN l nIm)) (dateP l nIus).isSome (tagsR (lstN l nIm)) (oneR (lstN l nIm)) ((dateP l nIus).getD 0) 102 103 f1 ∧
      C1 w' (hasN l nInm) (okR (lstN l nInm)) (dateP l nIms).isSome (tagsR (lstN l nInm)) (oneR (lstN l nInm)) ((dateP l nIms).getD 0) 104 105 f2) ∧ Below w.heap.size w w' := by
  have HJ1 : Hid (∀ wx, Below w.heap.size w wx → Calls Tryz.prog 54 #[.slice a l.length ca, .string ⟨#[105, 102, 45, 109, 97, 116, 99, 104]⟩] wx fun e w' => e = .returned (.tuple #[.string (joinS (valsOf nIm l)), .bool (hasN l nIm)]) ∧ Below wx.heap.size wx w') := fun wx hb => by
    have := Jnd.implJoined_any a ca l nIm wx lo hi (hW.below hb).1 (by decide) hz hca (ha.below hb)
    rw [jn_good hg (by decide)] at this
    exact this
  have HJ2 : Hid (∀ wx, Below w.heap.size w wx → Calls Tryz.prog 54 #[.slice a l.length ca, .string ⟨#[105, 102, 45, 110, 111, 110, 101, 45, 109, 97, 116, 99, 104]⟩] wx fun e w' => e = .returned (.tuple #[.string (joinS (valsOf nInm l)), .bool (hasN l nInm)]) ∧ Below wx.heap.size wx w') := fun wx hb => by
    have := Jnd.implJoined_any a ca l nInm wx lo hi (hW.below hb).1 (by decide) hz hca (ha.below hb)
    rw [jn_good hg (by decide)] at this
    exact this
  have HT1 : Hid (∀ wx, Calls Tryz.prog 55 #[.string (joinS (valsOf nIm l))] wx fun e w' => (∃ v, e = .returned (.tuple #[v, .bool (oneR (lstN l nIm)), .bool (okR (lstN l nIm))]) ∧ tagsIn w' wx.heap.size v (tagsR (lstN l nIm))) ∧ Below wx.heap.size wx w') := fun wx => implTags_any _ wx (good_join hg nIm)
  have HT2 : Hid (∀ wx, Calls Tryz.prog 55 #[.string (joinS (valsOf nInm l))] wx fun e w' => (∃ v, e = .returned (.tuple #[v, .bool (oneR (lstN l nInm)), .bool (okR (lstN l nInm))]) ∧ tagsIn w' wx.heap.size v (tagsR (lstN l nInm))) ∧ Below wx.heap.size wx w') := fun wx => implTags_any _ wx (good_join hg nInm)
  have HD1 : Hid (∀ wx, Below w.heap.size w wx → Calls Tryz.prog 56 #[.slice a l.length ca, .string ⟨#[105, 102, 45, 117, 110, 109, 111, 100, 105, 102, 105, 101, 100, 45, 115, 105, 110, 99, 101]⟩, .int .i64 now] wx fun e w' => e = .returned (.tuple #[.int .i64 ((dateP l nIus).getD 0), .bool (dateP l nIus).isSome]) ∧ Below wx.heap.size wx w') := fun wx hb => secondsTold_any a ca l nIus now mx wx lo hi (hW.below hb) hg (by decide) hd (by decide) hz hca (ha.below hb) hnow
  have HD2 : Hid (∀ wx, Below w.heap.size w wx → Calls Tryz.prog 56 #[.slice a l.length ca, .string ⟨#[105, 102, 45, 109, 111, 100, 105, 102, 105, 101, 100, 45, 115, 105, 110, 99, 101]⟩, .int .i64 now] wx fun e w' => e = .returned (.tuple #[.int .i64 ((dateP l nIms).getD 0), .bool (dateP l nIms).isSome]) ∧ Below wx.heap.size wx w') := fun wx hb => secondsTold_any a ca l nIms now mx wx lo hi (hW.below hb) hg (by decide) hd (by decide) hz hca (ha.below hb) hnow
  clear hW hg hd hz hca ha hnow
  generalize tagsR (lstN l nIm) = t1 at HT1 ⊢
  generalize tagsR (lstN l nInm) = t2 at HT2 ⊢
  generalize oneR (lstN l nIm) = o1 at HT1 ⊢
  generalize oneR (lstN l nInm) = o2 at HT2 ⊢
  generalize okR (lstN l nIm) = k1 at HT1 ⊢
  generalize okR (lstN l nInm) = k2 at HT2 ⊢
  generalize joinS (valsOf nIm l) = j1 at HJ1 HT1
  generalize joinS (valsOf nInm l) = j2 at HJ2 HT2
  generalize hasN l nIm = h1 at HJ1 ⊢
  generalize hasN l nInm = h2 at HJ2 ⊢
  generalize (dateP l nIus).getD 0 = D1 at HD1 ⊢
  generalize (dateP l nIus).isSome = s1 at HD1 ⊢
  generalize (dateP l nIms).getD 0 = D2 at HD2 ⊢
  generalize (dateP l nIms).isSome = s2 at HD2 ⊢
  have HB0 : Hid (Below w.heap.size w (w.alloc (.cells #[] 66))) := (Below.refl _ _).alloc (Nat.le_refl _) _
  have HC0 : Hid (condsIn (w.alloc (.cells #[] 66)) w.heap.size (.slice (some ⟨w.heap.size, 0, none⟩) 0 0) []) := condsIn.made w _ (Nat.le_refl _)
  go_enter Tryz.func24, Tryz.ntmps24
  go_wp2_with fail
  refine Calls.mono (HJ1.out _ HB0.out) ?_
  rintro e w1 ⟨rfl, hb⟩
  have HB1 : Hid (Below w.heap.size w w1) := HB0.out.trans (hb.mono HB0.out.size)
  have HC1 : Hid (condsIn w1 w.heap.size (.slice (some ⟨w.heap.size, 0, none⟩) 0 0) []) := HC0.out.below hb
  clear HB0 HC0
  clear hb
  cases h1
  rotate_left
  · go_wp2_with fail
    refine Calls.mono (HT1.out _) ?_
    rintro e w2 ⟨⟨tv, rfl, htv⟩, hb⟩
    obtain ⟨tA1, tC1, rfl⟩ := tags_form htv
    have HB2 : Hid (Below w.heap.size w w2) := HB1.out.trans (hb.mono HB1.out.size)
    have HC2 : Hid (condsIn w2 w.heap.size (.slice (some ⟨w.heap.size, 0, none⟩) 0 0) []) := HC1.out.below hb
    clear HB1 HC1
    have HV : Hid (tagsIn w2 w1.heap.size (.slice tA1 t1.length tC1) t1) := htv
    clear hb htv
    cases k1
    rotate_left
    · go_wp2_with (at_builtin; refine wpList_append_cond w2 rfl _ _ rfl w.heap.size _ [] (by rfl) HC2.out (.iface 102 (.agg #[.slice tA1 t1.length tC1, .bool o1])) rfl _ (by first | rfl | (rw [World.size_alloc]; rfl)) (by simp) HB2.out.size w.heap.size (Nat.le_refl _) w HB2.out ?_)
      intro v1 w3 hc hgr hb
      have HB3 : Hid (Below w.heap.size w w3) := hb
      have HC3 : Hid (condsIn w3 w.heap.size v1 ([] ++ [.iface 102 (.agg #[.slice tA1 t1.length tC1, .bool o1])])) := hc
      have HK : C1 w3 true true s1 t1 o1 D1 102 103 [.iface 102 (.agg #[.slice tA1 t1.length tC1, .bool o1])] := ⟨_, _, rfl, tags_beside (tagsIn.alloc HV.out _) (condsIn.alloc HC2.out _) hgr⟩
      clear hc hgr hb HB2 HC2 HV
      go_wp2_with fail
      have HF3 : Hid (C1 w3 true true s1 t1 o1 D1 102 103 [.iface 102 (.agg #[.slice tA1 t1.length tC1, .bool o1])]) := HK
      clear HK
      refine Calls.mono (HJ2.out _ HB3.out) ?_
      rintro e w4 ⟨rfl, hb⟩
      have HB4 : Hid (Below w.heap.size w w4) := HB3.out.trans (hb.mono HB3.out.size)
      have HC4 : Hid (condsIn w4 w.heap.size v1 ([] ++ [.iface 102 (.agg #[.slice tA1 t1.length tC1, .bool o1])])) := HC3.out.below hb
      have HF4 : Hid (C1 w4 true true s1 t1 o1 D1 102 103 [.iface 102 (.agg #[.slice tA1 t1.length tC1, .bool o1])]) := HF3.out.below hb
      clear HB3 HC3 HF3
      clear hb
      cases h2
      rotate_left
      · go_wp2_with fail
        refine Calls.mono (HT2.out _) ?_
        rintro e w5 ⟨⟨tv, rfl, htv⟩, hb⟩
        obtain ⟨tA2, tC2, rfl⟩ := tags_form htv
        have HB5 : Hid (Below w.heap.size w w5) := HB4.out.trans (hb.mono HB4.out.size)
        have HC5 : Hid (condsIn w5 w.heap.size v1 ([] ++ [.iface 102 (.agg #[.slice tA1 t1.length tC1, .bool o1])])) := HC4.out.below hb
        have HF5 : Hid (C1 w5 true true s1 t1 o1 D1 102 103 [.iface 102 (.agg #[.slice tA1 t1.length tC1, .bool o1])]) := HF4.out.below hb
        clear HB4 HC4 HF4
        have HV : Hid (tagsIn w5 w4.heap.size (.slice tA2 t2.length tC2) t2) := htv
        clear hb htv
        cases k2
        rotate_left
        · go_wp2_with (at_builtin; refine wpList_append_cond w5 rfl _ _ rfl w.heap.size _ ([] ++ [.iface 102 (.agg #[.slice tA1 t1.length tC1, .bool o1])]) (by rfl) HC5.out (.iface 104 (.agg #[.slice tA2 t2.length tC2, .bool o2])) rfl _ (by first | rfl | (rw [World.size_alloc]; rfl)) (by simp) HB5.out.size w.heap.size (Nat.le_refl _) w HB5.out ?_)
          intro v2 w6 hc hgr hb
          have HB6 : Hid (Below w.heap.size w w6) := hb
          have HC6 : Hid (condsIn w6 w.heap.size v2 (([] ++ [.iface 102 (.agg #[.slice tA1 t1.length tC1, .bool o1])]) ++ [.iface 104 (.agg #[.slice tA2 t2.length tC2, .bool o2])])) := hc
          have HF6 : Hid (C1 w6 true true s1 t1 o1 D1 102 103 [.iface 102 (.agg #[.slice tA1 t1.length tC1, .bool o1])]) := ((HF5.out.below ((Below.refl _ _).alloc (Nat.le_refl _) _)).beside (condsIn.alloc HC5.out _) hgr)
          have HK : C1 w6 true true s2 t2 o2 D2 104 105 [.iface 104 (.agg #[.slice tA2 t2.length tC2, .bool o2])] := ⟨_, _, rfl, tags_beside (tagsIn.alloc HV.out _) (condsIn.alloc HC5.out _) hgr⟩
          clear hc hgr hb HB5 HC5 HF5 HV
          go_wp2_with fail
          have HK2 : Hid (C1 w6 true true s2 t2 o2 D2 104 105 [.iface 104 (.agg #[.slice tA2 t2.length tC2, .bool o2])]) := HK
          clear HK
          go_ret
          exact ⟨⟨_, [.iface 102 (.agg #[.slice tA1 t1.length tC1, .bool o1])], [.iface 104 (.agg #[.slice tA2 t2.length tC2, .bool o2])], rfl, HC6.out, HF6.out, HK2.out⟩, HB6.out⟩
        · clear HV
          have HK : C1 w5 true false s2 t2 o2 D2 104 105 [] := rfl
          go_wp2_with fail
          have HK2 : Hid (C1 w5 true false s2 t2 o2 D2 104 105 []) := HK
          clear HK
          go_ret
          exact ⟨⟨_, [.iface 102 (.agg #[.slice tA1 t1.length tC1, .bool o1])], [], rfl, HC5.out, HF5.out, HK2.out⟩, HB5.out⟩
      · go_wp2_with fail
        refine Calls.mono (HD2.out _ HB4.out) ?_
        rintro e w5 ⟨rfl, hb⟩
        have HB5 : Hid (Below w.heap.size w w5) := HB4.out.trans (hb.mono HB4.out.size)
        have HC5 : Hid (condsIn w5 w.heap.size v1 ([] ++ [.iface 102 (.agg #[.slice tA1 t1.length tC1, .bool o1])])) := HC4.out.below hb
        have HF5 : Hid (C1 w5 true true s1 t1 o1 D1 102 103 [.iface 102 (.agg #[.slice tA1 t1.length tC1, .bool o1])]) := HF4.out.below hb
        clear HB4 HC4 HF4
        clear hb
        cases s2
        rotate_left
        · go_wp2_with (at_builtin; refine wpList_append_cond w5 rfl _ _ rfl w.heap.size _ ([] ++ [.iface 102 (.agg #[.slice tA1 t1.length tC1, .bool o1])]) (by rfl) HC5.out (.iface 105 (.int .i64 D2)) rfl _ (by first | rfl | (rw [World.size_alloc]; rfl)) (by simp) HB5.out.size w.heap.size (Nat.le_refl _) w HB5.out ?_)
          intro v2 w6 hc hgr hb
          have HB6 : Hid (Below w.heap.size w w6) := hb
          have HC6 : Hid (condsIn w6 w.heap.size v2 (([] ++ [.iface 102 (.agg #[.slice tA1 t1.length tC1, .bool o1])]) ++ [.iface 105 (.int .i64 D2)])) := hc
          have HF6 : Hid (C1 w6 true true s1 t1 o1 D1 102 103 [.iface 102 (.agg #[.slice tA1 t1.length tC1, .bool o1])]) := ((HF5.out.below ((Below.refl _ _).alloc (Nat.le_refl _) _)).beside (condsIn.alloc HC5.out _) hgr)
          have HK : C1 w6 false k2 true t2 o2 D2 104 105 [.iface 105 (.int .i64 D2)] := rfl
          clear hc hgr hb HB5 HC5 HF5
          go_wp2_with fail
          have HK2 : Hid (C1 w6 false k2 true t2 o2 D2 104 105 [.iface 105 (.int .i64 D2)]) := HK
          clear HK
          go_ret
          exact ⟨⟨_, [.iface 102 (.agg #[.slice tA1 t1.length tC1, .bool o1])], [.iface 105 (.int .i64 D2)], rfl, HC6.out, HF6.out, HK2.out⟩, HB6.out⟩
        · have HK : C1 w5 false k2 false t2 o2 D2 104 105 [] := rfl
          go_wp2_with fail
          have HK2 : Hid (C1 w5 false k2 false t2 o2 D2 104 105 []) := HK
          clear HK
          go_ret
          exact ⟨⟨_, [.iface 102 (.agg #[.slice tA1 t1.length tC1, .bool o1])], [], rfl, HC5.out, HF5.out, HK2.out⟩, HB5.out⟩
    · clear HV
      have HK : C1 w2 true false s1 t1 o1 D1 102 103 [] := rfl
      go_wp2_with fail
      have HF2 : Hid (C1 w2 true false s1 t1 o1 D1 102 103 []) := HK
      clear HK
      refine Calls.mono (HJ2.out _ HB2.out) ?_
      rintro e w3 ⟨rfl, hb⟩
      have HB3 : Hid (Below w.heap.size w w3) := HB2.out.trans (hb.mono HB2.out.size)
      have HC3 : Hid (condsIn w3 w.heap.size (.slice (some ⟨w.heap.size, 0, none⟩) 0 0) []) := HC2.out.below hb
      have HF3 : Hid (C1 w3 true false s1 t1 o1 D1 102 103 []) := HF2.out.below hb
      clear HB2 HC2 HF2
      clear hb
      cases h2
      rotate_left
      · go_wp2_with fail
        refine Calls.mono (HT2.out _) ?_
        rintro e w4 ⟨⟨tv, rfl, htv⟩, hb⟩
        obtain ⟨tA2, tC2, rfl⟩ := tags_form htv
        have HB4 : Hid (Below w.heap.size w w4) := HB3.out.trans (hb.mono HB3.out.size)
        have HC4 : Hid (condsIn w4 w.heap.size (.slice (some ⟨w.heap.size, 0, none⟩) 0 0) []) := HC3.out.below hb
        have HF4 : Hid (C1 w4 true false s1 t1 o1 D1 102 103 []) := HF3.out.below hb
        clear HB3 HC3 HF3
        have HV : Hid (tagsIn w4 w3.heap.size (.slice tA2 t2.length tC2) t2) := htv
        clear hb htv
        cases k2
        rotate_left
        · go_wp2_with (at_builtin; refine wpList_append_cond w4 rfl _ _ rfl w.heap.size _ [] (by rfl) HC4.out (.iface 104 (.agg #[.slice tA2 t2.length tC2, .bool o2])) rfl _ (by first | rfl | (rw [World.size_alloc]; rfl)) (by simp) HB4.out.size w.heap.size (Nat.le_refl _) w HB4.out ?_)
          intro v2 w5 hc hgr hb
          have HB5 : Hid (Below w.heap.size w w5) := hb
          have HC5 : Hid (condsIn w5 w.heap.size v2 ([] ++ [.iface 104 (.agg #[.slice tA2 t2.length tC2, .bool o2])])) := hc
          have HF5 : Hid (C1 w5 true false s1 t1 o1 D1 102 103 []) := ((HF4.out.below ((Below.refl _ _).alloc (Nat.le_refl _) _)).beside (condsIn.alloc HC4.out _) hgr)
          have HK : C1 w5 true true s2 t2 o2 D2 104 105 [.iface 104 (.agg #[.slice tA2 t2.length tC2, .bool o2])] := ⟨_, _, rfl, tags_beside (tagsIn.alloc HV.out _) (condsIn.alloc HC4.out _) hgr⟩
          clear hc hgr hb HB4 HC4 HF4 HV
          go_wp2_with fail
          have HK2 : Hid (C1 w5 true true s2 t2 o2 D2 104 105 [.iface 104 (.agg #[.slice tA2 t2.length tC2, .bool o2])]) := HK
          clear HK
          go_ret
          exact ⟨⟨_, [], [.iface 104 (.agg #[.slice tA2 t2.length tC2, .bool o2])], rfl, HC5.out, HF5.out, HK2.out⟩, HB5.out⟩
        · clear HV
          have HK : C1 w4 true false s2 t2 o2 D2 104 105 [] := rfl
          go_wp2_with fail
          have HK2 : Hid (C1 w4 true false s2 t2 o2 D2 104 105 []) := HK
          clear HK
          go_ret
          exact ⟨⟨_, [], [], rfl, HC4.out, HF4.out, HK2.out⟩, HB4.out⟩
      · go_wp2_with fail
        refine Calls.mono (HD2.out _ HB3.out) ?_
        rintro e w4 ⟨rfl, hb⟩
        have HB4 : Hid (Below w.heap.size w w4) := HB3.out.trans (hb.mono HB3.out.size)
        have HC4 : Hid (condsIn w4 w.heap.size (.slice (some ⟨w.heap.size, 0, none⟩) 0 0) []) := HC3.out.below hb
        have HF4 : Hid (C1 w4 true false s1 t1 o1 D1 102 103 []) := HF3.out.below hb
        clear HB3 HC3 HF3
        clear hb
        cases s2
        rotate_left
        · go_wp2_with (at_builtin; refine wpList_append_cond w4 rfl _ _ rfl w.heap.size _ [] (by rfl) HC4.out (.iface 105 (.int .i64 D2)) rfl _ (by first | rfl | (rw [World.size_alloc]; rfl)) (by simp) HB4.out.size w.heap.size (Nat.le_refl _) w HB4.out ?_)
          intro v2 w5 hc hgr hb
          have HB5 : Hid (Below w.heap.size w w5) := hb
          have HC5 : Hid (condsIn w5 w.heap.size v2 ([] ++ [.iface 105 (.int .i64 D2)])) := hc
          have HF5 : Hid (C1 w5 true false s1 t1 o1 D1 102 103 []) := ((HF4.out.below ((Below.refl _ _).alloc (Nat.le_refl _) _)).beside (condsIn.alloc HC4.out _) hgr)
          have HK : C1 w5 false k2 true t2 o2 D2 104 105 [.iface 105 (.int .i64 D2)] := rfl
          clear hc hgr hb HB4 HC4 HF4
          go_wp2_with fail
          have HK2 : Hid (C1 w5 false k2 true t2 o2 D2 104 105 [.iface 105 (.int .i64 D2)]) := HK
          clear HK
          go_ret
          exact ⟨⟨_, [], [.iface 105 (.int .i64 D2)], rfl, HC5.out, HF5.out, HK2.out⟩, HB5.out⟩
        · have HK : C1 w4 false k2 false t2 o2 D2 104 105 [] := rfl
          go_wp2_with fail
          have HK2 : Hid (C1 w4 false k2 false t2 o2 D2 104 105 []) := HK
          clear HK
          go_ret
          exact ⟨⟨_, [], [], rfl, HC4.out, HF4.out, HK2.out⟩, HB4.out⟩
  · go_wp2_with fail
    refine Calls.mono (HD1.out _ HB1.out) ?_
    rintro e w2 ⟨rfl, hb⟩
    have HB2 : Hid (Below w.heap.size w w2) := HB1.out.trans (hb.mono HB1.out.size)
    have HC2 : Hid (condsIn w2 w.heap.size (.slice (some ⟨w.heap.size, 0, none⟩) 0 0) []) := HC1.out.below hb
    clear HB1 HC1
    clear hb
    cases s1
    rotate_left
    · go_wp2_with (at_builtin; refine wpList_append_cond w2 rfl _ _ rfl w.heap.size _ [] (by rfl) HC2.out (.iface 103 (.int .i64 D1)) rfl _ (by first | rfl | (rw [World.size_alloc]; rfl)) (by simp) HB2.out.size w.heap.size (Nat.le_refl _) w HB2.out ?_)
      intro v1 w3 hc hgr hb
      have HB3 : Hid (Below w.heap.size w w3) := hb
      have HC3 : Hid (condsIn w3 w.heap.size v1 ([] ++ [.iface 103 (.int .i64 D1)])) := hc
      have HK : C1 w3 false k1 true t1 o1 D1 102 103 [.iface 103 (.int .i64 D1)] := rfl
      clear hc hgr hb HB2 HC2
      go_wp2_with fail
      have HF3 : Hid (C1 w3 false k1 true t1 o1 D1 102 103 [.iface 103 (.int .i64 D1)]) := HK
      clear HK
      refine Calls.mono (HJ2.out _ HB3.out) ?_
      rintro e w4 ⟨rfl, hb⟩
      have HB4 : Hid (Below w.heap.size w w4) := HB3.out.trans (hb.mono HB3.out.size)
      have HC4 : Hid (condsIn w4 w.heap.size v1 ([] ++ [.iface 103 (.int .i64 D1)])) := HC3.out.below hb
      have HF4 : Hid (C1 w4 false k1 true t1 o1 D1 102 103 [.iface 103 (.int .i64 D1)]) := HF3.out.below hb
      clear HB3 HC3 HF3
      clear hb
      cases h2
      rotate_left
      · go_wp2_with fail
        refine Calls.mono (HT2.out _) ?_
        rintro e w5 ⟨⟨tv, rfl, htv⟩, hb⟩
        obtain ⟨tA2, tC2, rfl⟩ := tags_form htv
        have HB5 : Hid (Below w.heap.size w w5) := HB4.out.trans (hb.mono HB4.out.size)
        have HC5 : Hid (condsIn w5 w.heap.size v1 ([] ++ [.iface 103 (.int .i64 D1)])) := HC4.out.below hb
        have HF5 : Hid (C1 w5 false k1 true t1 o1 D1 102 103 [.iface 103 (.int .i64 D1)]) := HF4.out.below hb
        clear HB4 HC4 HF4
        have HV : Hid (tagsIn w5 w4.heap.size (.slice tA2 t2.length tC2) t2) := htv
        clear hb htv
        cases k2
        rotate_left
        · go_wp2_with (at_builtin; refine wpList_append_cond w5 rfl _ _ rfl w.heap.size _ ([] ++ [.iface 103 (.int .i64 D1)]) (by rfl) HC5.out (.iface 104 (.agg #[.slice tA2 t2.length tC2, .bool o2])) rfl _ (by first | rfl | (rw [World.size_alloc]; rfl)) (by simp) HB5.out.size w.heap.size (Nat.le_refl _) w HB5.out ?_)
          intro v2 w6 hc hgr hb
          have HB6 : Hid (Below w.heap.size w w6) := hb
          have HC6 : Hid (condsIn w6 w.heap.size v2 (([] ++ [.iface 103 (.int .i64 D1)]) ++ [.iface 104 (.agg #[.slice tA2 t2.length tC2, .bool o2])])) := hc
          have HF6 : Hid (C1 w6 false k1 true t1 o1 D1 102 103 [.iface 103 (.int .i64 D1)]) := ((HF5.out.below ((Below.refl _ _).alloc (Nat.le_refl _) _)).beside (condsIn.alloc HC5.out _) hgr)
          have HK : C1 w6 true true s2 t2 o2 D2 104 105 [.iface 104 (.agg #[.slice tA2 t2.length tC2, .bool o2])] := ⟨_, _, rfl, tags_beside (tagsIn.alloc HV.out _) (condsIn.alloc HC5.out _) hgr⟩
          clear hc hgr hb HB5 HC5 HF5 HV
          go_wp2_with fail
          have HK2 : Hid (C1 w6 true true s2 t2 o2 D2 104 105 [.iface 104 (.agg #[.slice tA2 t2.length tC2, .bool o2])]) := HK
          clear HK
          go_ret
          exact ⟨⟨_, [.iface 103 (.int .i64 D1)], [.iface 104 (.agg #[.slice tA2 t2.length tC2, .bool o2])], rfl, HC6.out, HF6.out, HK2.out⟩, HB6.out⟩
        · clear HV
          have HK : C1 w5 true false s2 t2 o2 D2 104 105 [] := rfl
          go_wp2_with fail
          have HK2 : Hid (C1 w5 true false s2 t2 o2 D2 104 105 []) := HK
          clear HK
          go_ret
          exact ⟨⟨_, [.iface 103 (.int .i64 D1)], [], rfl, HC5.out, HF5.out, HK2.out⟩, HB5.out⟩
      · go_wp2_with fail
        refine Calls.mono (HD2.out _ HB4.out) ?_
        rintro e w5 ⟨rfl, hb⟩
        have HB5 : Hid (Below w.heap.size w w5) := HB4.out.trans (hb.mono HB4.out.size)
        have HC5 : Hid (condsIn w5 w.heap.size v1 ([] ++ [.iface 103 (.int .i64 D1)])) := HC4.out.below hb
        have HF5 : Hid (C1 w5 false k1 true t1 o1 D1 102 103 [.iface 103 (.int .i64 D1)]) := HF4.out.below hb
        clear HB4 HC4 HF4
        clear hb
        cases s2
        rotate_left
        · go_wp2_with (at_builtin; refine wpList_append_cond w5 rfl _ _ rfl w.heap.size _ ([] ++ [.iface 103 (.int .i64 D1)]) (by rfl) HC5.out (.iface 105 (.int .i64 D2)) rfl _ (by first | rfl | (rw [World.size_alloc]; rfl)) (by simp) HB5.out.size w.heap.size (Nat.le_refl _) w HB5.out ?_)
          intro v2 w6 hc hgr hb
          have HB6 : Hid (Below w.heap.size w w6) := hb
          have HC6 : Hid (condsIn w6 w.heap.size v2 (([] ++ [.iface 103 (.int .i64 D1)]) ++ [.iface 105 (.int .i64 D2)])) := hc
          have HF6 : Hid (C1 w6 false k1 true t1 o1 D1 102 103 [.iface 103 (.int .i64 D1)]) := ((HF5.out.below ((Below.refl _ _).alloc (Nat.le_refl _) _)).beside (condsIn.alloc HC5.out _) hgr)
          have HK : C1 w6 false k2 true t2 o2 D2 104 105 [.iface 105 (.int .i64 D2)] := rfl
          clear hc hgr hb HB5 HC5 HF5
          go_wp2_with fail
          have HK2 : Hid (C1 w6 false k2 true t2 o2 D2 104 105 [.iface 105 (.int .i64 D2)]) := HK
          clear HK
          go_ret
          exact ⟨⟨_, [.iface 103 (.int .i64 D1)], [.iface 105 (.int .i64 D2)], rfl, HC6.out, HF6.out, HK2.out⟩, HB6.out⟩
        · have HK : C1 w5 false k2 false t2 o2 D2 104 105 [] := rfl
          go_wp2_with fail
          have HK2 : Hid (C1 w5 false k2 false t2 o2 D2 104 105 []) := HK
          clear HK
          go_ret
          exact ⟨⟨_, [.iface 103 (.int .i64 D1)], [], rfl, HC5.out, HF5.out, HK2.out⟩, HB5.out⟩
    · have HK : C1 w2 false k1 false t1 o1 D1 102 103 [] := rfl
      go_wp2_with fail
      have HF2 : Hid (C1 w2 false k1 false t1 o1 D1 102 103 []) := HK
      clear HK
      refine Calls.mono (HJ2.out _ HB2.out) ?_
      rintro e w3 ⟨rfl, hb⟩
      have HB3 : Hid (Below w.heap.size w w3) := HB2.out.trans (hb.mono HB2.out.size)
      have HC3 : Hid (condsIn w3 w.heap.size (.slice (some ⟨w.heap.size, 0, none⟩) 0 0) []) := HC2.out.below hb
      have HF3 : Hid (C1 w3 false k1 false t1 o1 D1 102 103 []) := HF2.out.below hb
      clear HB2 HC2 HF2
      clear hb
      cases h2
      rotate_left
      · go_wp2_with fail
        refine Calls.mono (HT2.out _) ?_
        rintro e w4 ⟨⟨tv, rfl, htv⟩, hb⟩
        obtain ⟨tA2, tC2, rfl⟩ := tags_form htv
        have HB4 : Hid (Below w.heap.size w w4) := HB3.out.trans (hb.mono HB3.out.size)
        have HC4 : Hid (condsIn w4 w.heap.size (.slice (some ⟨w.heap.size, 0, none⟩) 0 0) []) := HC3.out.below hb
        have HF4 : Hid (C1 w4 false k1 false t1 o1 D1 102 103 []) := HF3.out.below hb
        clear HB3 HC3 HF3
        have HV : Hid (tagsIn w4 w3.heap.size (.slice tA2 t2.length tC2) t2) := htv
        clear hb htv
        cases k2
        rotate_left
        · go_wp2_with (at_builtin; refine wpList_append_cond w4 rfl _ _ rfl w.heap.size _ [] (by rfl) HC4.out (.iface 104 (.agg #[.slice tA2 t2.length tC2, .bool o2])) rfl _ (by first | rfl | (rw [World.size_alloc]; rfl)) (by simp) HB4.out.size w.heap.size (Nat.le_refl _) w HB4.out ?_)
          intro v2 w5 hc hgr hb
          have HB5 : Hid (Below w.heap.size w w5) := hb
          have HC5 : Hid (condsIn w5 w.heap.size v2 ([] ++ [.iface 104 (.agg #[.slice tA2 t2.length tC2, .bool o2])])) := hc
          have HF5 : Hid (C1 w5 false k1 false t1 o1 D1 102 103 []) := ((HF4.out.below ((Below.refl _ _).alloc (Nat.le_refl _) _)).beside (condsIn.alloc HC4.out _) hgr)
          have HK : C1 w5 true true s2 t2 o2 D2 104 105 [.iface 104 (.agg #[.slice tA2 t2.length tC2, .bool o2])] := ⟨_, _, rfl, tags_beside (tagsIn.alloc HV.out _) (condsIn.alloc HC4.out _) hgr⟩
          clear hc hgr hb HB4 HC4 HF4 HV
          go_wp2_with fail
          have HK2 : Hid (C1 w5 true true s2 t2 o2 D2 104 105 [.iface 104 (.agg #[.slice tA2 t2.length tC2, .bool o2])]) := HK
          clear HK
          go_ret
          exact ⟨⟨_, [], [.iface 104 (.agg #[.slice tA2 t2.length tC2, .bool o2])], rfl, HC5.out, HF5.out, HK2.out⟩, HB5.out⟩
        · clear HV
          have HK : C1 w4 true false s2 t2 o2 D2 104 105 [] := rfl
          go_wp2_with fail
          have HK2 : Hid (C1 w4 true false s2 t2 o2 D2 104 105 []) := HK
          clear HK
          go_ret
          exact ⟨⟨_, [], [], rfl, HC4.out, HF4.out, HK2.out⟩, HB4.out⟩
      · go_wp2_with fail
        refine Calls.mono (HD2.out _ HB3.out) ?_
        rintro e w4 ⟨rfl, hb⟩
        have HB4 : Hid (Below w.heap.size w w4) := HB3.out.trans (hb.mono HB3.out.size)
        have HC4 : Hid (condsIn w4 w.heap.size (.slice (some ⟨w.heap.size, 0, none⟩) 0 0) []) := HC3.out.below hb
        have HF4 : Hid (C1 w4 false k1 false t1 o1 D1 102 103 []) := HF3.out.below hb
        clear HB3 HC3 HF3
        clear hb
        cases s2
        rotate_left
        · go_wp2_with (at_builtin; refine wpList_append_cond w4 rfl _ _ rfl w.heap.size _ [] (by rfl) HC4.out (.iface 105 (.int .i64 D2)) rfl _ (by first | rfl | (rw [World.size_alloc]; rfl)) (by simp) HB4.out.size w.heap.size (Nat.le_refl _) w HB4.out ?_)
          intro v2 w5 hc hgr hb
          have HB5 : Hid (Below w.heap.size w w5) := hb
          have HC5 : Hid (condsIn w5 w.heap.size v2 ([] ++ [.iface 105 (.int .i64 D2)])) := hc
          have HF5 : Hid (C1 w5 false k1 false t1 o1 D1 102 103 []) := ((HF4.out.below ((Below.refl _ _).alloc (Nat.le_refl _) _)).beside (condsIn.alloc HC4.out _) hgr)
          have HK : C1 w5 false k2 true t2 o2 D2 104 105 [.iface 105 (.int .i64 D2)] := rfl
          clear hc hgr hb HB4 HC4 HF4
          go_wp2_with fail
          have HK2 : Hid (C1 w5 false k2 true t2 o2 D2 104 105 [.iface 105 (.int .i64 D2)]) := HK
          clear HK
          go_ret
          exact ⟨⟨_, [], [.iface 105 (.int .i64 D2)], rfl, HC5.out, HF5.out, HK2.out⟩, HB5.out⟩
        · have HK : C1 w4 false k2 false t2 o2 D2 104 105 [] := rfl
          go_wp2_with fail
          have HK2 : Hid (C1 w4 false k2 false t2 o2 D2 104 105 []) := HK
          clear HK
          go_ret
          exact ⟨⟨_, [], [], rfl, HC4.out, HF4.out, HK2.out⟩, HB4.out⟩

end Go.Proofs.YtgidmoncocbfiaaGreatDoor.Cds
