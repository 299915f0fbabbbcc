/-
  The walk of the law FnQuoted.
-/
import Derived.Test.YtaplkbkpgdpbaaaDoorFqp
import Derived.Test.YtaplkbkpgdpbaaaDoorDfh
import Derived.Test.YtaplkbkpgdpbaaaDoorSam3
import Derived.Test.YtaplkbkpgdpbaaaDoorSfi
import Derived.Test.YtaplkbkpgdpbaaaDoorVsp
namespace Go.Proofs.YtaplkbkpgdpbaaaDoor.Fqw
open Go.RowKit
open Go.Proofs.YtaplkbkpgdpbaaaDoor.Fbs
open Go.Proofs.YtaplkbkpgdpbaaaDoor.Fch
open Go.Proofs.YtaplkbkpgdpbaaaDoor.Mrk (TV RowT same_text below_drewN told_tv lst)
open Go.Proofs.YtaplkbkpgdpbaaaDoor.Fdb (fieldsIn FV RowF fv_of)
open Go.Proofs.YtaplkbkpgdpbaaaDoor.Fvs
open Go.Proofs.YtaplkbkpgdpbaaaDoor.Stf
open Go.Proofs.YtaplkbkpgdpbaaaDoor.Quo
open Go.Proofs.YtaplkbkpgdpbaaaDoor.Unq
open Go.Proofs.YtaplkbkpgdpbaaaDoor.Cur

/-- A block that holds a field. -/
def Bx (w : World) (b : Nat) (X z : ByteArray) : Prop := b < w.heap.size ∧ w.cell? ⟨b, 0, none⟩ = some (.string X) ∧ w.cell? ⟨b, 1, none⟩ = some (.string z)
theorem Bx.made (w : World) (X z : ByteArray) (t : TypeId) : Bx (w.alloc (.cells #[.string X, .string z] t)) w.heap.size X z :=
  ⟨by simp, by rw [World.cell?_alloc_mark]; rfl, by rw [World.cell?_alloc_mark]; rfl⟩
theorem Bx.below {w w' : World} {b : Nat} {X z : ByteArray} (h : Bx w b X z) (hb : Below w.heap.size w w') : Bx w' b X z :=
  ⟨Nat.lt_of_lt_of_le h.1 hb.size, (hb.cell (p := ⟨b, 0, none⟩) h.1).trans h.2.1, (hb.cell (p := ⟨b, 1, none⟩) h.1).trans h.2.2⟩

/-- As told_fv, with the room. -/
theorem told_room {w : World} {B : Nat} {e : Ending} {o : Option (List (ByteArray × ByteArray))} (h : ToldF w B e o) : ∃ a cap, e = .returned (.tuple #[.slice a (lstF o).length cap, .bool o.isSome]) ∧ FV w a (lstF o) B w.heap.size ∧ (lstF o).length ≤ cap := by
  cases o with
  | none => exact ⟨none, 0, h, .inl rfl, Nat.le_refl _⟩
  | some l =>
    obtain ⟨v, rfl, hown⟩ := h
    have hh := hown
    obtain ⟨a, cap, rfl, ht⟩ := fv_of hown
    refine ⟨a, cap, rfl, ht, ?_⟩
    rcases hh.2 with ⟨he, h0⟩ | ⟨g, cap2, cur, he, hbg, hg, hnc, _⟩
    · injection he with _ h1 _
      show l.length ≤ cap
      omega
    · injection he with _ _ h1
      rw [h1]; exact hnc

set_option maxRecDepth 20000 in
set_option maxHeartbeats 3200000 in
theorem walk (u v : Value) (n k : Nat) (w : World) (hU : CodeArg w u n) (hV : CodeArg w v k) (hn : n ≤ 140737488355328) (hk : k ≤ 140737488355328) (hT : Tab w) :
    Calls Tryd.prog 3 #[u, v] w fun e w' => e = .returned (.bool true) ∧ Below w.heap.size w w' := by
  have hgt := hT.lt
  obtain ⟨o, cap, rfl⟩ := hU.form
  obtain ⟨o2, cap2, rfl⟩ := hV.form
  have HU : Hid (CodeArg w (.slice o n cap) n) := hU
  have HV : Hid (CodeArg w (.slice o2 k cap2) k) := hV
  clear hU hV
  by_cases hz : 1048576 < n + k
  · have hd : decide (1048576 < (n : Int) + (k : Int)) = true := decide_eq_true (by omega)
    go_enter Tryd.func3, Tryd.ntmps3
    go_wp2_with fail
    go_ret
    exact ⟨rfl, Below.refl _ _⟩
  have hd : decide (1048576 < (n : Int) + (k : Int)) = false := decide_eq_false (by omega)
  go_enter Tryd.func3, Tryd.ntmps3
  go_wp2_with fail
  refine (drawQuote_any _ n _ HU.out (by omega)).mono ?_
  rintro e w1 ⟨s, rfl, hs, hb1⟩
  have hb1h : Hid (Below w.heap.size w w1) := hb1
  clear hb1
  cases hq : quotable s
  · have HQi : Hid (∀ w, Calls Tryd.prog 10 #[.string s] w fun e w' => e = .returned (.tuple #[.string ⟨#[]⟩, .bool false]) ∧ Below w.heap.size w w') := by
      intro w
      have := implQuote_any s w
      unfold quoV at this
      rw [if_neg (by rw [hq]; decide)] at this
      exact this
    have HQs : Hid (∀ w, Calls Tryd.prog 11 #[.string s] w fun e w' => e = .returned (.tuple #[.string ⟨#[]⟩, .bool false]) ∧ Below w.heap.size w w') := by
      intro w
      have := specQuote_any s w (by omega)
      unfold quoV at this
      rw [if_neg (by rw [hq]; decide)] at this
      exact this
    clear hq
    go_wp2_with fail
    refine (HQi.out _).mono ?_
    rintro e w2 ⟨rfl, hb2'⟩
    have hb2 : Hid (Below w.heap.size w w2) := hb1h.out.trans (hb2'.mono hb1h.out.size)
    clear hb2' hb1h HQi
    go_wp2_with fail
    refine (HQs.out _).mono ?_
    rintro e w3 ⟨rfl, hb3'⟩
    have hb3 : Hid (Below w.heap.size w w3) := hb2.out.trans (hb3'.mono hb2.out.size)
    clear hb3' hb2 HQs
    go_wp2_with fail
    refine (drawSet_any _ k _ (CodeArg.below HV.out (Nat.le_refl _) hb3.out) (by omega)).mono ?_
    rintro e v1 ⟨a, ca, l, X, z, rfl, hl, hz, hX, hz2, F1, hv1'⟩
    have hv1 : Hid (Below w.heap.size w (v1.alloc (.cells #[.string X, .string z] 31))) := (hb3.out.trans (hv1'.mono hb3.out.size)).alloc (hb3.out.trans (hv1'.mono hb3.out.size)).size _
    have B1 : Hid _ := Bx.made v1 X z 31
    have F1a := F1.below ((Below.refl _ _).alloc (Nat.le_refl _) (.cells #[.string X, .string z] 31))
    have hsz : SzF l := fun c hc => ⟨Nat.le_trans (hz c hc).1 (by decide), Nat.le_trans (hz c hc).2 (by decide)⟩
    have HSi : Hid (∀ w lo hi, Tab w → FV w a l lo hi → Calls Tryd.prog 15 #[.slice a l.length ca, .agg #[.string X, .string z]] w fun e w' => (∃ a cap, e = .returned (.tuple #[.slice a (lstF (setO X z l)).length cap, .bool (setO X z l).isSome]) ∧ FV w' a (lstF (setO X z l)) w.heap.size w'.heap.size ∧ (lstF (setO X z l)).length ≤ cap) ∧ Below w.heap.size w w') :=
      fun w lo hi t f => (implSet_any a ca l X z w lo hi t (by omega) (by omega) hsz f).mono fun e w' ⟨h, hb⟩ => ⟨told_room h, hb⟩
    have HSs : Hid (∀ w lo hi, FV w a l lo hi → Calls Tryd.prog 16 #[.slice a l.length ca, .agg #[.string X, .string z]] w fun e w' => (∃ a cap, e = .returned (.tuple #[.slice a (lstF (setO X z l)).length cap, .bool (setO X z l).isSome]) ∧ FV w' a (lstF (setO X z l)) w.heap.size w'.heap.size ∧ (lstF (setO X z l)).length ≤ cap) ∧ Below w.heap.size w w') :=
      fun w lo hi f => (specSet_any a ca l X z w lo hi (by omega) (by omega) (by omega) hsz f).mono fun e w' ⟨h, hb⟩ => ⟨told_room h, hb⟩
    have HFact : Hid (((setO X z l).isSome = false → lstF (setO X z l) = []) ∧ ((setO X z l).isSome = true → setO X z l = some (lstF (setO X z l)))) := by
      cases setO X z l with
      | none => exact ⟨fun _ => rfl, fun h => (by cases h)⟩
      | some m => exact ⟨fun h => (by cases h), fun _ => rfl⟩
    have hml : (lstF (setO X z l)).length ≤ 42 := Fqp.set_len X z l (by omega)
    have HTold := @Fqp.set_told X z l
    obtain ⟨m, hm⟩ : ∃ m, m = lstF (setO X z l) := ⟨_, rfl⟩
    obtain ⟨is, his⟩ : ∃ is, is = (setO X z l).isSome := ⟨_, rfl⟩
    rw [← hm, ← his] at HSi HSs HFact
    rw [← hm] at hml
    have HT2 : Hid (is = true → _) := fun h => HTold (HFact.out.2 h)
    have HF1 : Hid (is = false → m = []) := HFact.out.1
    clear hm his HFact HTold hv1' F1
    go_wp2_with fail
    refine (HSi.out _ _ _ (hT.below hv1.out hgt) F1a).mono ?_
    rintro e v2 ⟨⟨a2, c2, rfl, F2, hc2⟩, hv2'⟩
    have hv2 : Hid (Below w.heap.size w v2) := hv1.out.trans (hv2'.mono hv1.out.size)
    have B2 : Hid _ := Bx.below B1.out hv2'
    have F1b := F1a.below hv2'
    clear hv2' hv1 B1 F1a HSi
    obtain ⟨b20, b21, b22⟩ := B2.out
    go_wp2_with fail
    refine (HSs.out _ _ _ F1b).mono ?_
    rintro e v3 ⟨⟨a3, c3, rfl, F3, hc3⟩, hv3'⟩
    have hv3 : Hid (Below w.heap.size w v3) := hv2.out.trans (hv3'.mono hv2.out.size)
    have B3 : Hid _ := Bx.below B2.out hv3'
    have F1c := F1b.below hv3'
    have F23 := F2.below hv3'
    clear hv3' hv2 B2 F1b F2 HSs b20 b21 b22 hc3
    go_wp2_with fail
    refine (Sam2.sameF_any a2 a3 c2 c3 m _ _ _ _ _ (by omega) F23 F3).mono ?_
    rintro e v4 ⟨rfl, hv4'⟩
    have hv4 : Hid (Below w.heap.size w v4) := hv3.out.trans (hv4'.mono hv3.out.size)
    have B4 : Hid _ := Bx.below B3.out hv4'
    have F1d := F1c.below hv4'
    have F24 := F23.below hv4'
    clear hv4' hv3 B3 F1c F23 F3
    cases is
    · obtain rfl := HF1.out rfl
      clear HF1 HT2
      go_wp2_with fail
      go_ret
      exact ⟨rfl, hv4.out⟩
    · obtain ⟨t1, t2, t3, t4, t5, t6⟩ := HT2.out rfl
      have hszm : SzF m := Fqp.good_sz t5
      have HVm : Hid (∀ w lo hi, Tab w → FV w a2 m lo hi → Calls Tryd.prog 18 #[.slice a2 m.length c2, .string X] w fun e w' => (∃ g cap, e = .returned (.tuple #[.slice (some ⟨g, 0, none⟩) 1 cap, .bool true]) ∧ g < w'.heap.size ∧ w'.cell? ⟨g, 0, none⟩ = some (.string z)) ∧ Below w.heap.size w w') := by
        intro w lo hi t f
        refine (Vof.implVals_any a2 c2 m X w lo hi t (by omega) hszm hc2 f).mono fun e w' ⟨h, hb⟩ => ⟨?_, hb⟩
        rw [t1] at h
        obtain ⟨a, cap, he, ht⟩ := told_tv h
        rcases ht with h0 | ⟨g, rfl, _, hg, hr⟩
        · cases h0
        · exact ⟨g, cap, he, hg, hr.2.2 0 _ rfl⟩
      have HJm : Hid (∀ w lo hi, Tab w → FV w a2 m lo hi → Calls Tryd.prog 19 #[.slice a2 m.length c2, .string X] w fun e w' => e = .returned (.tuple #[.string z, .bool true]) ∧ Below w.heap.size w w') := by
        intro w lo hi t f
        have := Jnd.implJoined_any a2 c2 m X w lo hi t (by omega) hszm hc2 f
        rw [t2] at this
        exact this
      have HT6 : Hid _ := t6
      have hsc := same_text z
      obtain ⟨b40, b41, b42⟩ := B4.out
      clear HT2 HF1 t1 t2 t4 t5 t6
      go_wp2_with fail
      refine (HVm.out _ _ _ (hT.below hv4.out hgt) F24).mono ?_
      rintro e v5 ⟨⟨g5, c5, rfl, hg5, k5⟩, hv5'⟩
      have hv5 : Hid (Below w.heap.size w v5) := hv4.out.trans (hv5'.mono hv4.out.size)
      have B5 : Hid _ := Bx.below B4.out hv5'
      have F1e := F1d.below hv5'
      have F25 := F24.below hv5'
      clear hv5' hv4 B4 F1d F24 HVm b40 b41 b42
      obtain ⟨b50, b51, b52⟩ := B5.out
      go_wp2_with fail
      refine (HJm.out _ _ _ (hT.below hv5.out hgt) F25).mono ?_
      rintro e v6 ⟨rfl, hv6'⟩
      have hv6 : Hid (Below w.heap.size w v6) := hv5.out.trans (hv6'.mono hv5.out.size)
      have B6 : Hid _ := Bx.below B5.out hv6'
      have F1f := F1e.below hv6'
      have F26 := F25.below hv6'
      have k6 := (hv6'.cell (p := ⟨g5, 0, none⟩) hg5).trans k5
      clear hv6' hv5 B5 F1e F25 HJm b50 b51 b52 k5
      obtain ⟨b60, b61, b62⟩ := B6.out
      go_wp2_with fail
      go_quiet (fail)
      go_wp2_with fail
      go_loopw [173] (fun iv wq => ∃ j : Nat, iv = .int .i64 j ∧ j ≤ l.length ∧ Hid (Below v6.heap.size v6 wq)) (fun iv _ => l.length - (intOf iv).toNat)
      case atStart => exact ⟨0, rfl, by omega, Mrk.below_drewN v6 _⟩
      case round =>
        obtain ⟨j, rfl, hj, hbq⟩ := hrel
        clear b60 b61 b62 k6 hsc
        by_cases hlt : j < l.length
        · have hne : l ≠ [] := fun h => by rw [h] at hlt; exact absurd hlt (by simp)
          have FR := F1f.below hbq.out
          rcases F1f with h | ⟨g1, rfl, _, _, R1⟩
          · exact absurd h hne
          obtain ⟨kx1, kx2⟩ := (R1.below hbq.out).2.2 j l[j] (List.getElem?_eq_getElem hlt)
          obtain ⟨p1, p2, p3, p4⟩ := HT6.out l[j] (List.getElem_mem hlt)
          have hN := (hz l[j] (List.getElem_mem hlt)).1
          obtain ⟨N, hNe⟩ : ∃ N, N = l[j].1 := ⟨_, rfl⟩
          obtain ⟨M, hMe⟩ : ∃ M, M = l[j].2 := ⟨_, rfl⟩
          rw [← hNe] at p1 p2 p3 p4 hN kx1
          rw [← hMe] at kx2
          clear hNe hMe R1
          have hVl1 := Fvs.valsOf_len N l
          have hVl2 := Fvs.valsOf_len N m
          have HVA : Hid (∀ w lo hi, FV w (some ⟨g1, 0, none⟩) l lo hi → Calls Tryd.prog 20 #[.slice (some ⟨g1, 0, none⟩) l.length ca, .string N] w fun e w' => (∃ a' cap, e = .returned (.tuple #[.slice a' (valsOf N l).length cap, .bool true]) ∧ TV w' a' (valsOf N l) w.heap.size w'.heap.size) ∧ Below w.heap.size w w') := by
            intro w lo hi f
            refine (Fvs.specVals_any _ ca l N w lo hi (by omega) (by omega) hsz f).mono fun e w' ⟨h, hb⟩ => ⟨?_, hb⟩
            rw [p1] at h
            exact told_tv h
          have HVB : Hid (∀ w lo hi, Tab w → FV w a2 m lo hi → Calls Tryd.prog 18 #[.slice a2 m.length c2, .string N] w fun e w' => (∃ a' cap, e = .returned (.tuple #[.slice a' (valsOf N m).length cap, .bool true]) ∧ TV w' a' (valsOf N m) w.heap.size w'.heap.size) ∧ Below w.heap.size w w') := by
            intro w lo hi t f
            refine (Vof.implVals_any a2 c2 m N w lo hi t (by omega) hszm hc2 f).mono fun e w' ⟨h, hb⟩ => ⟨?_, hb⟩
            rw [p2] at h
            exact told_tv h
          have HVC : Hid (∀ w a lo hi, FV w a [(X, z)] lo hi → Calls Tryd.prog 20 #[.slice a 1 1, .string N] w fun e w' => (∃ a' cap, e = .returned (.tuple #[.slice a' (valsOf N [(X, z)]).length cap, .bool true])) ∧ Below w.heap.size w w') := by
            intro w a lo hi f
            have hs1 : SzF [(X, z)] := fun c hc => by rw [List.mem_singleton.1 hc]; exact ⟨by show X.size ≤ _; omega, by show z.size ≤ _; omega⟩
            refine (Fvs.specVals_any a 1 [(X, z)] N w lo hi (by show 1 ≤ _; omega) (by omega) hs1 f).mono fun e w' ⟨h, hb⟩ => ⟨?_, hb⟩
            rw [p3] at h
            obtain ⟨a', cap, he, _⟩ := told_tv h
            exact ⟨a', cap, he⟩
          generalize valsOf N l = A at HVA p4 hVl1
          generalize valsOf N m = Bv at HVB p4 hVl2
          generalize valsOf N [(X, z)] = Cv at HVC p4
          have hx0 : Hid (Below wr.heap.size wr (wr.alloc (.cells #[.string N, .string M] 31))) := (Below.refl _ _).alloc (Nat.le_refl _) _
          have BX : Hid _ := Bx.made wr N M 31
          have hv7 : Hid (Below w.heap.size w (wr.alloc (.cells #[.string N, .string M] 31))) := (hv6.out.trans (hbq.out.mono hv6.out.size)).trans (hx0.out.mono (hv6.out.trans (hbq.out.mono hv6.out.size)).size)
          have B7 : Hid _ := Bx.below (Bx.below B6.out hbq.out) hx0.out
          have FR7 := FR.below hx0.out
          have F27 := (F26.below hbq.out).below hx0.out
          have hbq7 : Hid (Below v6.heap.size v6 (wr.alloc (.cells #[.string N, .string M] 31))) := hbq.out.trans (hx0.out.mono hbq.out.size)
          clear p1 p2 p3 FR B6 F26 hv6 hbq
          go_wp2_with fail
          refine (HVA.out _ _ _ FR7).mono ?_
          rintro e v8 ⟨⟨a8, c8, rfl, T8⟩, hv8'⟩
          have hv8 : Hid (Below w.heap.size w v8) := hv7.out.trans (hv8'.mono hv7.out.size)
          have hbq8 : Hid (Below v6.heap.size v6 v8) := hbq7.out.trans (hv8'.mono hbq7.out.size)
          have B8 : Hid _ := Bx.below B7.out hv8'
          have BX8 : Hid _ := Bx.below BX.out hv8'
          have F28 := F27.below hv8'
          clear hv8' hv7 hbq7 B7 BX FR7 F27 HVA hx0 kx1 kx2
          obtain ⟨x80, x81, x82⟩ := BX8.out
          go_wp2_with fail
          refine (HVB.out _ _ _ (hT.below hv8.out hgt) F28).mono ?_
          rintro e v9 ⟨⟨a9, c9, rfl, T9⟩, hv9'⟩
          have hbq9 : Hid (Below v6.heap.size v6 v9) := hbq8.out.trans (hv9'.mono hbq8.out.size)
          have B9 : Hid _ := Bx.below B8.out hv9'
          have BX9 : Hid _ := Bx.below BX8.out hv9'
          have T89 := T8.below hv9'
          clear hv9' hbq8 B8 BX8 T8 F28 HVB x80 x81 x82
          obtain ⟨x90, x91, x92⟩ := BX9.out
          obtain ⟨y90, y91, y92⟩ := B9.out
          have hw0 : Below v9.heap.size v9 (v9.alloc (.cells #[.string X, .string z] 31)) := (Below.refl _ _).alloc (Nat.le_refl _) _
          have FW : Hid (FV (v9.alloc (.cells #[.string X, .string z] 31)) (some ⟨v9.heap.size, 0, none⟩) [(X, z)] v9.heap.size (v9.heap.size + 1)) := by
            refine .inr ⟨v9.heap.size, rfl, Nat.le_refl _, Nat.lt_succ_self _, by simp, fun i => World.frozen?_alloc_at _ _ _ i rfl, fun i c hc => ?_⟩
            cases i with
            | zero =>
              have : (X, z) = c := by simpa using hc
              subst this
              exact ⟨by rw [World.cell?_alloc_mark]; rfl, by rw [World.cell?_alloc_mark]; rfl⟩
            | succ i => simp at hc
          have hbq10 : Hid (Below v6.heap.size v6 (v9.alloc (.cells #[.string X, .string z] 31))) := hbq9.out.trans (hw0.mono hbq9.out.size)
          have BX10 := Bx.below BX9.out hw0
          have T8a := T89.below hw0
          have T9a := T9.below hw0
          obtain ⟨z90, z91, z92⟩ := BX10
          clear hbq9 B9 BX9 T89 T9 hw0
          go_wp2_with fail
          refine (HVC.out _ _ _ _ FW.out).mono ?_
          rintro e v11 ⟨⟨a11, c11, rfl⟩, hv11'⟩
          have hbq11 : Hid (Below v6.heap.size v6 v11) := hbq10.out.trans (hv11'.mono hbq10.out.size)
          have T8b := T8a.below hv11'
          have T9b := T9a.below hv11'
          clear hv11' hbq10 T8a T9a FW HVC x90 x91 x92 y90 y91 y92 z90 z91 z92
          by_cases hc0 : Cv = []
          · obtain rfl := p4 hc0
            subst hc0
            go_wp2_with fail
            refine (Sam2.sameT_any a8 a9 c8 c9 Bv _ _ _ _ _ (by omega) T8b T9b).mono ?_
            rintro e v12 ⟨rfl, hv12'⟩
            have hbq12 : Hid (Below v6.heap.size v6 v12) := hbq11.out.trans (hv12'.mono hbq11.out.size)
            clear hv12' hbq11 T8b T9b
            go_wp2_with fail
            refine ⟨⟨j + 1, by go_num, by omega, hbq12⟩, ?_⟩
            simp [intOf]; omega
          · have hcl : ((Cv.length : Int) == 0) = false := by
              rw [beq_eq_false_iff_ne]
              have := List.length_pos_iff.2 hc0
              omega
            go_wp2_with fail
            refine ⟨⟨j + 1, by go_num, by omega, hbq11⟩, ?_⟩
            simp [intOf]; omega
        · have hbe := hv6.out.trans (hbq.out.mono hv6.out.size)
          go_wp2_with fail
          go_ret
          exact ⟨rfl, hbe⟩
  · have HQi : Hid (∀ w, Calls Tryd.prog 10 #[.string s] w fun e w' => e = .returned (.tuple #[.string (quoB s), .bool true]) ∧ Below w.heap.size w w') := by
      intro w
      have := implQuote_any s w
      unfold quoV at this
      rw [if_pos hq] at this
      exact this
    have HQs : Hid (∀ w, Calls Tryd.prog 11 #[.string s] w fun e w' => e = .returned (.tuple #[.string (quoB s), .bool true]) ∧ Below w.heap.size w w') := by
      intro w
      have := specQuote_any s w (by omega)
      unfold quoV at this
      rw [if_pos hq] at this
      exact this
    have hqz : (quoB s).size ≤ 202 := Fqp.quo_size s hs
    have es : (⟨s.data.toList.toArray⟩ : ByteArray) = s := by apply ByteArray.ext; simp
    have HUq : Hid (∀ w, Calls Tryd.prog 12 #[.string (quoB s)] w fun e w' => e = .returned (.tuple #[.string s, .bool true]) ∧ Below w.heap.size w w') := by
      intro w
      have := implUnquote_any (quoB s) w (by omega)
      have hv : unqV (some s.data.toList) = .tuple #[.string s, .bool true] := by
        show Value.tuple #[.string ⟨s.data.toList.toArray⟩, .bool true] = _
        rw [es]
      rw [Fqp.unq_quo hq, hv] at this
      exact this
    have HLq : Hid (∀ w, Calls Tryd.prog 13 #[.string ((quoB s ++ (⟨#[44, 32]⟩ : ByteArray)) ++ quoB s)] w fun e w' => ((∃ a cap, e = .returned (.tuple #[.slice a 0 cap, .bool false])) ∨ ∃ g cap, e = .returned (.tuple #[.slice (some ⟨g, 0, none⟩) 2 cap, .bool true]) ∧ w'.cell? ⟨g, 0, none⟩ = some (.string (quoB s)) ∧ w'.cell? ⟨g, 1, none⟩ = some (.string (quoB s))) ∧ Below w.heap.size w w') := by
      intro w
      refine (Lit.implList_any _ w (by rw [ByteArray.size_append, ByteArray.size_append]; have : (⟨#[44, 32]⟩ : ByteArray).size = 2 := rfl; omega)).mono fun e w' ⟨h, hb⟩ => ⟨?_, hb⟩
      rcases Fqp.list_twice s with hl | hl
      · rw [hl] at h
        exact .inl ⟨none, 0, h⟩
      · rw [hl] at h
        obtain ⟨a, cap, he, ht⟩ := told_tv h
        rcases ht with h0 | ⟨g, rfl, _, _, hr⟩
        · cases h0
        · exact .inr ⟨g, cap, he, hr.2.2 0 _ rfl, hr.2.2 1 _ rfl⟩
    have hss := same_text s
    have hsq := same_text (quoB s)
    clear hq es
    generalize quoB s = q at HQi HQs HUq HLq hsq hqz
    have z1 : (q ++ (⟨#[44, 32]⟩ : ByteArray)).size ≤ 204 := by rw [ByteArray.size_append]; have : (⟨#[44, 32]⟩ : ByteArray).size = 2 := rfl; omega
    go_wp2_with fail
    refine (HQi.out _).mono ?_
    rintro e w2 ⟨rfl, hb2'⟩
    have hb2 : Hid (Below w.heap.size w w2) := hb1h.out.trans (hb2'.mono hb1h.out.size)
    clear hb2' hb1h HQi
    go_wp2_with fail
    refine (HQs.out _).mono ?_
    rintro e w3 ⟨rfl, hb3'⟩
    have hb3 : Hid (Below w.heap.size w w3) := hb2.out.trans (hb3'.mono hb2.out.size)
    clear hb3' hb2 HQs
    go_wp2_with fail
    refine (HUq.out _).mono ?_
    rintro e w4 ⟨rfl, hb4'⟩
    have hb4 : Hid (Below w.heap.size w w4) := hb3.out.trans (hb4'.mono hb3.out.size)
    clear hb4' hb3 HUq
    go_wp2_with fail
    refine (HLq.out _).mono ?_
    rintro e w5 ⟨h5, hb5'⟩
    have hb5 : Hid (Below w.heap.size w w5) := hb4.out.trans (hb5'.mono hb4.out.size)
    clear hb5' hb4 HLq
    rcases h5 with ⟨a5, c5, rfl⟩ | ⟨g5, c5, rfl, k1, k2⟩
    · go_wp2_with fail
      refine (drawSet_any _ k _ (CodeArg.below HV.out (Nat.le_refl _) hb5.out) (by omega)).mono ?_
      rintro e v1 ⟨a, ca, l, X, z, rfl, hl, hz, hX, hz2, F1, hv1'⟩
      have hv1 : Hid (Below w.heap.size w (v1.alloc (.cells #[.string X, .string z] 31))) := (hb5.out.trans (hv1'.mono hb5.out.size)).alloc (hb5.out.trans (hv1'.mono hb5.out.size)).size _
      have B1 : Hid _ := Bx.made v1 X z 31
      have F1a := F1.below ((Below.refl _ _).alloc (Nat.le_refl _) (.cells #[.string X, .string z] 31))
      have hsz : SzF l := fun c hc => ⟨Nat.le_trans (hz c hc).1 (by decide), Nat.le_trans (hz c hc).2 (by decide)⟩
      have HSi : Hid (∀ w lo hi, Tab w → FV w a l lo hi → Calls Tryd.prog 15 #[.slice a l.length ca, .agg #[.string X, .string z]] w fun e w' => (∃ a cap, e = .returned (.tuple #[.slice a (lstF (setO X z l)).length cap, .bool (setO X z l).isSome]) ∧ FV w' a (lstF (setO X z l)) w.heap.size w'.heap.size ∧ (lstF (setO X z l)).length ≤ cap) ∧ Below w.heap.size w w') :=
        fun w lo hi t f => (implSet_any a ca l X z w lo hi t (by omega) (by omega) hsz f).mono fun e w' ⟨h, hb⟩ => ⟨told_room h, hb⟩
      have HSs : Hid (∀ w lo hi, FV w a l lo hi → Calls Tryd.prog 16 #[.slice a l.length ca, .agg #[.string X, .string z]] w fun e w' => (∃ a cap, e = .returned (.tuple #[.slice a (lstF (setO X z l)).length cap, .bool (setO X z l).isSome]) ∧ FV w' a (lstF (setO X z l)) w.heap.size w'.heap.size ∧ (lstF (setO X z l)).length ≤ cap) ∧ Below w.heap.size w w') :=
        fun w lo hi f => (specSet_any a ca l X z w lo hi (by omega) (by omega) (by omega) hsz f).mono fun e w' ⟨h, hb⟩ => ⟨told_room h, hb⟩
      have HFact : Hid (((setO X z l).isSome = false → lstF (setO X z l) = []) ∧ ((setO X z l).isSome = true → setO X z l = some (lstF (setO X z l)))) := by
        cases setO X z l with
        | none => exact ⟨fun _ => rfl, fun h => (by cases h)⟩
        | some m => exact ⟨fun h => (by cases h), fun _ => rfl⟩
      have hml : (lstF (setO X z l)).length ≤ 42 := Fqp.set_len X z l (by omega)
      have HTold := @Fqp.set_told X z l
      obtain ⟨m, hm⟩ : ∃ m, m = lstF (setO X z l) := ⟨_, rfl⟩
      obtain ⟨is, his⟩ : ∃ is, is = (setO X z l).isSome := ⟨_, rfl⟩
      rw [← hm, ← his] at HSi HSs HFact
      rw [← hm] at hml
      have HT2 : Hid (is = true → _) := fun h => HTold (HFact.out.2 h)
      have HF1 : Hid (is = false → m = []) := HFact.out.1
      clear hm his HFact HTold hv1' F1
      go_wp2_with fail
      refine (HSi.out _ _ _ (hT.below hv1.out hgt) F1a).mono ?_
      rintro e v2 ⟨⟨a2, c2, rfl, F2, hc2⟩, hv2'⟩
      have hv2 : Hid (Below w.heap.size w v2) := hv1.out.trans (hv2'.mono hv1.out.size)
      have B2 : Hid _ := Bx.below B1.out hv2'
      have F1b := F1a.below hv2'
      clear hv2' hv1 B1 F1a HSi
      obtain ⟨b20, b21, b22⟩ := B2.out
      go_wp2_with fail
      refine (HSs.out _ _ _ F1b).mono ?_
      rintro e v3 ⟨⟨a3, c3, rfl, F3, hc3⟩, hv3'⟩
      have hv3 : Hid (Below w.heap.size w v3) := hv2.out.trans (hv3'.mono hv2.out.size)
      have B3 : Hid _ := Bx.below B2.out hv3'
      have F1c := F1b.below hv3'
      have F23 := F2.below hv3'
      clear hv3' hv2 B2 F1b F2 HSs b20 b21 b22 hc3
      go_wp2_with fail
      refine (Sam2.sameF_any a2 a3 c2 c3 m _ _ _ _ _ (by omega) F23 F3).mono ?_
      rintro e v4 ⟨rfl, hv4'⟩
      have hv4 : Hid (Below w.heap.size w v4) := hv3.out.trans (hv4'.mono hv3.out.size)
      have B4 : Hid _ := Bx.below B3.out hv4'
      have F1d := F1c.below hv4'
      have F24 := F23.below hv4'
      clear hv4' hv3 B3 F1c F23 F3
      cases is
      · obtain rfl := HF1.out rfl
        clear HF1 HT2
        go_wp2_with fail
        go_ret
        exact ⟨rfl, hv4.out⟩
      · obtain ⟨t1, t2, t3, t4, t5, t6⟩ := HT2.out rfl
        have hszm : SzF m := Fqp.good_sz t5
        have HVm : Hid (∀ w lo hi, Tab w → FV w a2 m lo hi → Calls Tryd.prog 18 #[.slice a2 m.length c2, .string X] w fun e w' => (∃ g cap, e = .returned (.tuple #[.slice (some ⟨g, 0, none⟩) 1 cap, .bool true]) ∧ g < w'.heap.size ∧ w'.cell? ⟨g, 0, none⟩ = some (.string z)) ∧ Below w.heap.size w w') := by
          intro w lo hi t f
          refine (Vof.implVals_any a2 c2 m X w lo hi t (by omega) hszm hc2 f).mono fun e w' ⟨h, hb⟩ => ⟨?_, hb⟩
          rw [t1] at h
          obtain ⟨a, cap, he, ht⟩ := told_tv h
          rcases ht with h0 | ⟨g, rfl, _, hg, hr⟩
          · cases h0
          · exact ⟨g, cap, he, hg, hr.2.2 0 _ rfl⟩
        have HJm : Hid (∀ w lo hi, Tab w → FV w a2 m lo hi → Calls Tryd.prog 19 #[.slice a2 m.length c2, .string X] w fun e w' => e = .returned (.tuple #[.string z, .bool true]) ∧ Below w.heap.size w w') := by
          intro w lo hi t f
          have := Jnd.implJoined_any a2 c2 m X w lo hi t (by omega) hszm hc2 f
          rw [t2] at this
          exact this
        have HT6 : Hid _ := t6
        have hsc := same_text z
        obtain ⟨b40, b41, b42⟩ := B4.out
        clear HT2 HF1 t1 t2 t4 t5 t6
        go_wp2_with fail
        refine (HVm.out _ _ _ (hT.below hv4.out hgt) F24).mono ?_
        rintro e v5 ⟨⟨g5, c5, rfl, hg5, k5⟩, hv5'⟩
        have hv5 : Hid (Below w.heap.size w v5) := hv4.out.trans (hv5'.mono hv4.out.size)
        have B5 : Hid _ := Bx.below B4.out hv5'
        have F1e := F1d.below hv5'
        have F25 := F24.below hv5'
        clear hv5' hv4 B4 F1d F24 HVm b40 b41 b42
        obtain ⟨b50, b51, b52⟩ := B5.out
        go_wp2_with fail
        refine (HJm.out _ _ _ (hT.below hv5.out hgt) F25).mono ?_
        rintro e v6 ⟨rfl, hv6'⟩
        have hv6 : Hid (Below w.heap.size w v6) := hv5.out.trans (hv6'.mono hv5.out.size)
        have B6 : Hid _ := Bx.below B5.out hv6'
        have F1f := F1e.below hv6'
        have F26 := F25.below hv6'
        have k6 := (hv6'.cell (p := ⟨g5, 0, none⟩) hg5).trans k5
        clear hv6' hv5 B5 F1e F25 HJm b50 b51 b52 k5
        obtain ⟨b60, b61, b62⟩ := B6.out
        go_wp2_with fail
        go_quiet (fail)
        go_wp2_with fail
        go_loopw [173] (fun iv wq => ∃ j : Nat, iv = .int .i64 j ∧ j ≤ l.length ∧ Hid (Below v6.heap.size v6 wq)) (fun iv _ => l.length - (intOf iv).toNat)
        case atStart => exact ⟨0, rfl, by omega, Mrk.below_drewN v6 _⟩
        case round =>
          obtain ⟨j, rfl, hj, hbq⟩ := hrel
          clear b60 b61 b62 k6 hsc
          by_cases hlt : j < l.length
          · have hne : l ≠ [] := fun h => by rw [h] at hlt; exact absurd hlt (by simp)
            have FR := F1f.below hbq.out
            rcases F1f with h | ⟨g1, rfl, _, _, R1⟩
            · exact absurd h hne
            obtain ⟨kx1, kx2⟩ := (R1.below hbq.out).2.2 j l[j] (List.getElem?_eq_getElem hlt)
            obtain ⟨p1, p2, p3, p4⟩ := HT6.out l[j] (List.getElem_mem hlt)
            have hN := (hz l[j] (List.getElem_mem hlt)).1
            obtain ⟨N, hNe⟩ : ∃ N, N = l[j].1 := ⟨_, rfl⟩
            obtain ⟨M, hMe⟩ : ∃ M, M = l[j].2 := ⟨_, rfl⟩
            rw [← hNe] at p1 p2 p3 p4 hN kx1
            rw [← hMe] at kx2
            clear hNe hMe R1
            have hVl1 := Fvs.valsOf_len N l
            have hVl2 := Fvs.valsOf_len N m
            have HVA : Hid (∀ w lo hi, FV w (some ⟨g1, 0, none⟩) l lo hi → Calls Tryd.prog 20 #[.slice (some ⟨g1, 0, none⟩) l.length ca, .string N] w fun e w' => (∃ a' cap, e = .returned (.tuple #[.slice a' (valsOf N l).length cap, .bool true]) ∧ TV w' a' (valsOf N l) w.heap.size w'.heap.size) ∧ Below w.heap.size w w') := by
              intro w lo hi f
              refine (Fvs.specVals_any _ ca l N w lo hi (by omega) (by omega) hsz f).mono fun e w' ⟨h, hb⟩ => ⟨?_, hb⟩
              rw [p1] at h
              exact told_tv h
            have HVB : Hid (∀ w lo hi, Tab w → FV w a2 m lo hi → Calls Tryd.prog 18 #[.slice a2 m.length c2, .string N] w fun e w' => (∃ a' cap, e = .returned (.tuple #[.slice a' (valsOf N m).length cap, .bool true]) ∧ TV w' a' (valsOf N m) w.heap.size w'.heap.size) ∧ Below w.heap.size w w') := by
              intro w lo hi t f
              refine (Vof.implVals_any a2 c2 m N w lo hi t (by omega) hszm hc2 f).mono fun e w' ⟨h, hb⟩ => ⟨?_, hb⟩
              rw [p2] at h
              exact told_tv h
            have HVC : Hid (∀ w a lo hi, FV w a [(X, z)] lo hi → Calls Tryd.prog 20 #[.slice a 1 1, .string N] w fun e w' => (∃ a' cap, e = .returned (.tuple #[.slice a' (valsOf N [(X, z)]).length cap, .bool true])) ∧ Below w.heap.size w w') := by
              intro w a lo hi f
              have hs1 : SzF [(X, z)] := fun c hc => by rw [List.mem_singleton.1 hc]; exact ⟨by show X.size ≤ _; omega, by show z.size ≤ _; omega⟩
              refine (Fvs.specVals_any a 1 [(X, z)] N w lo hi (by show 1 ≤ _; omega) (by omega) hs1 f).mono fun e w' ⟨h, hb⟩ => ⟨?_, hb⟩
              rw [p3] at h
              obtain ⟨a', cap, he, _⟩ := told_tv h
              exact ⟨a', cap, he⟩
            generalize valsOf N l = A at HVA p4 hVl1
            generalize valsOf N m = Bv at HVB p4 hVl2
            generalize valsOf N [(X, z)] = Cv at HVC p4
            have hx0 : Hid (Below wr.heap.size wr (wr.alloc (.cells #[.string N, .string M] 31))) := (Below.refl _ _).alloc (Nat.le_refl _) _
            have BX : Hid _ := Bx.made wr N M 31
            have hv7 : Hid (Below w.heap.size w (wr.alloc (.cells #[.string N, .string M] 31))) := (hv6.out.trans (hbq.out.mono hv6.out.size)).trans (hx0.out.mono (hv6.out.trans (hbq.out.mono hv6.out.size)).size)
            have B7 : Hid _ := Bx.below (Bx.below B6.out hbq.out) hx0.out
            have FR7 := FR.below hx0.out
            have F27 := (F26.below hbq.out).below hx0.out
            have hbq7 : Hid (Below v6.heap.size v6 (wr.alloc (.cells #[.string N, .string M] 31))) := hbq.out.trans (hx0.out.mono hbq.out.size)
            clear p1 p2 p3 FR B6 F26 hv6 hbq
            go_wp2_with fail
            refine (HVA.out _ _ _ FR7).mono ?_
            rintro e v8 ⟨⟨a8, c8, rfl, T8⟩, hv8'⟩
            have hv8 : Hid (Below w.heap.size w v8) := hv7.out.trans (hv8'.mono hv7.out.size)
            have hbq8 : Hid (Below v6.heap.size v6 v8) := hbq7.out.trans (hv8'.mono hbq7.out.size)
            have B8 : Hid _ := Bx.below B7.out hv8'
            have BX8 : Hid _ := Bx.below BX.out hv8'
            have F28 := F27.below hv8'
            clear hv8' hv7 hbq7 B7 BX FR7 F27 HVA hx0 kx1 kx2
            obtain ⟨x80, x81, x82⟩ := BX8.out
            go_wp2_with fail
            refine (HVB.out _ _ _ (hT.below hv8.out hgt) F28).mono ?_
            rintro e v9 ⟨⟨a9, c9, rfl, T9⟩, hv9'⟩
            have hbq9 : Hid (Below v6.heap.size v6 v9) := hbq8.out.trans (hv9'.mono hbq8.out.size)
            have B9 : Hid _ := Bx.below B8.out hv9'
            have BX9 : Hid _ := Bx.below BX8.out hv9'
            have T89 := T8.below hv9'
            clear hv9' hbq8 B8 BX8 T8 F28 HVB x80 x81 x82
            obtain ⟨x90, x91, x92⟩ := BX9.out
            obtain ⟨y90, y91, y92⟩ := B9.out
            have hw0 : Below v9.heap.size v9 (v9.alloc (.cells #[.string X, .string z] 31)) := (Below.refl _ _).alloc (Nat.le_refl _) _
            have FW : Hid (FV (v9.alloc (.cells #[.string X, .string z] 31)) (some ⟨v9.heap.size, 0, none⟩) [(X, z)] v9.heap.size (v9.heap.size + 1)) := by
              refine .inr ⟨v9.heap.size, rfl, Nat.le_refl _, Nat.lt_succ_self _, by simp, fun i => World.frozen?_alloc_at _ _ _ i rfl, fun i c hc => ?_⟩
              cases i with
              | zero =>
                have : (X, z) = c := by simpa using hc
                subst this
                exact ⟨by rw [World.cell?_alloc_mark]; rfl, by rw [World.cell?_alloc_mark]; rfl⟩
              | succ i => simp at hc
            have hbq10 : Hid (Below v6.heap.size v6 (v9.alloc (.cells #[.string X, .string z] 31))) := hbq9.out.trans (hw0.mono hbq9.out.size)
            have BX10 := Bx.below BX9.out hw0
            have T8a := T89.below hw0
            have T9a := T9.below hw0
            obtain ⟨z90, z91, z92⟩ := BX10
            clear hbq9 B9 BX9 T89 T9 hw0
            go_wp2_with fail
            refine (HVC.out _ _ _ _ FW.out).mono ?_
            rintro e v11 ⟨⟨a11, c11, rfl⟩, hv11'⟩
            have hbq11 : Hid (Below v6.heap.size v6 v11) := hbq10.out.trans (hv11'.mono hbq10.out.size)
            have T8b := T8a.below hv11'
            have T9b := T9a.below hv11'
            clear hv11' hbq10 T8a T9a FW HVC x90 x91 x92 y90 y91 y92 z90 z91 z92
            by_cases hc0 : Cv = []
            · obtain rfl := p4 hc0
              subst hc0
              go_wp2_with fail
              refine (Sam2.sameT_any a8 a9 c8 c9 Bv _ _ _ _ _ (by omega) T8b T9b).mono ?_
              rintro e v12 ⟨rfl, hv12'⟩
              have hbq12 : Hid (Below v6.heap.size v6 v12) := hbq11.out.trans (hv12'.mono hbq11.out.size)
              clear hv12' hbq11 T8b T9b
              go_wp2_with fail
              refine ⟨⟨j + 1, by go_num, by omega, hbq12⟩, ?_⟩
              simp [intOf]; omega
            · have hcl : ((Cv.length : Int) == 0) = false := by
                rw [beq_eq_false_iff_ne]
                have := List.length_pos_iff.2 hc0
                omega
              go_wp2_with fail
              refine ⟨⟨j + 1, by go_num, by omega, hbq11⟩, ?_⟩
              simp [intOf]; omega
          · have hbe := hv6.out.trans (hbq.out.mono hv6.out.size)
            go_wp2_with fail
            go_ret
            exact ⟨rfl, hbe⟩
    · go_wp2_with fail
      refine (drawSet_any _ k _ (CodeArg.below HV.out (Nat.le_refl _) hb5.out) (by omega)).mono ?_
      rintro e v1 ⟨a, ca, l, X, z, rfl, hl, hz, hX, hz2, F1, hv1'⟩
      have hv1 : Hid (Below w.heap.size w (v1.alloc (.cells #[.string X, .string z] 31))) := (hb5.out.trans (hv1'.mono hb5.out.size)).alloc (hb5.out.trans (hv1'.mono hb5.out.size)).size _
      have B1 : Hid _ := Bx.made v1 X z 31
      have F1a := F1.below ((Below.refl _ _).alloc (Nat.le_refl _) (.cells #[.string X, .string z] 31))
      have hsz : SzF l := fun c hc => ⟨Nat.le_trans (hz c hc).1 (by decide), Nat.le_trans (hz c hc).2 (by decide)⟩
      have HSi : Hid (∀ w lo hi, Tab w → FV w a l lo hi → Calls Tryd.prog 15 #[.slice a l.length ca, .agg #[.string X, .string z]] w fun e w' => (∃ a cap, e = .returned (.tuple #[.slice a (lstF (setO X z l)).length cap, .bool (setO X z l).isSome]) ∧ FV w' a (lstF (setO X z l)) w.heap.size w'.heap.size ∧ (lstF (setO X z l)).length ≤ cap) ∧ Below w.heap.size w w') :=
        fun w lo hi t f => (implSet_any a ca l X z w lo hi t (by omega) (by omega) hsz f).mono fun e w' ⟨h, hb⟩ => ⟨told_room h, hb⟩
      have HSs : Hid (∀ w lo hi, FV w a l lo hi → Calls Tryd.prog 16 #[.slice a l.length ca, .agg #[.string X, .string z]] w fun e w' => (∃ a cap, e = .returned (.tuple #[.slice a (lstF (setO X z l)).length cap, .bool (setO X z l).isSome]) ∧ FV w' a (lstF (setO X z l)) w.heap.size w'.heap.size ∧ (lstF (setO X z l)).length ≤ cap) ∧ Below w.heap.size w w') :=
        fun w lo hi f => (specSet_any a ca l X z w lo hi (by omega) (by omega) (by omega) hsz f).mono fun e w' ⟨h, hb⟩ => ⟨told_room h, hb⟩
      have HFact : Hid (((setO X z l).isSome = false → lstF (setO X z l) = []) ∧ ((setO X z l).isSome = true → setO X z l = some (lstF (setO X z l)))) := by
        cases setO X z l with
        | none => exact ⟨fun _ => rfl, fun h => (by cases h)⟩
        | some m => exact ⟨fun h => (by cases h), fun _ => rfl⟩
      have hml : (lstF (setO X z l)).length ≤ 42 := Fqp.set_len X z l (by omega)
      have HTold := @Fqp.set_told X z l
      obtain ⟨m, hm⟩ : ∃ m, m = lstF (setO X z l) := ⟨_, rfl⟩
      obtain ⟨is, his⟩ : ∃ is, is = (setO X z l).isSome := ⟨_, rfl⟩
      rw [← hm, ← his] at HSi HSs HFact
      rw [← hm] at hml
      have HT2 : Hid (is = true → _) := fun h => HTold (HFact.out.2 h)
      have HF1 : Hid (is = false → m = []) := HFact.out.1
      clear hm his HFact HTold hv1' F1
      go_wp2_with fail
      refine (HSi.out _ _ _ (hT.below hv1.out hgt) F1a).mono ?_
      rintro e v2 ⟨⟨a2, c2, rfl, F2, hc2⟩, hv2'⟩
      have hv2 : Hid (Below w.heap.size w v2) := hv1.out.trans (hv2'.mono hv1.out.size)
      have B2 : Hid _ := Bx.below B1.out hv2'
      have F1b := F1a.below hv2'
      clear hv2' hv1 B1 F1a HSi
      obtain ⟨b20, b21, b22⟩ := B2.out
      go_wp2_with fail
      refine (HSs.out _ _ _ F1b).mono ?_
      rintro e v3 ⟨⟨a3, c3, rfl, F3, hc3⟩, hv3'⟩
      have hv3 : Hid (Below w.heap.size w v3) := hv2.out.trans (hv3'.mono hv2.out.size)
      have B3 : Hid _ := Bx.below B2.out hv3'
      have F1c := F1b.below hv3'
      have F23 := F2.below hv3'
      clear hv3' hv2 B2 F1b F2 HSs b20 b21 b22 hc3
      go_wp2_with fail
      refine (Sam2.sameF_any a2 a3 c2 c3 m _ _ _ _ _ (by omega) F23 F3).mono ?_
      rintro e v4 ⟨rfl, hv4'⟩
      have hv4 : Hid (Below w.heap.size w v4) := hv3.out.trans (hv4'.mono hv3.out.size)
      have B4 : Hid _ := Bx.below B3.out hv4'
      have F1d := F1c.below hv4'
      have F24 := F23.below hv4'
      clear hv4' hv3 B3 F1c F23 F3
      cases is
      · obtain rfl := HF1.out rfl
        clear HF1 HT2
        go_wp2_with fail
        go_ret
        exact ⟨rfl, hv4.out⟩
      · obtain ⟨t1, t2, t3, t4, t5, t6⟩ := HT2.out rfl
        have hszm : SzF m := Fqp.good_sz t5
        have HVm : Hid (∀ w lo hi, Tab w → FV w a2 m lo hi → Calls Tryd.prog 18 #[.slice a2 m.length c2, .string X] w fun e w' => (∃ g cap, e = .returned (.tuple #[.slice (some ⟨g, 0, none⟩) 1 cap, .bool true]) ∧ g < w'.heap.size ∧ w'.cell? ⟨g, 0, none⟩ = some (.string z)) ∧ Below w.heap.size w w') := by
          intro w lo hi t f
          refine (Vof.implVals_any a2 c2 m X w lo hi t (by omega) hszm hc2 f).mono fun e w' ⟨h, hb⟩ => ⟨?_, hb⟩
          rw [t1] at h
          obtain ⟨a, cap, he, ht⟩ := told_tv h
          rcases ht with h0 | ⟨g, rfl, _, hg, hr⟩
          · cases h0
          · exact ⟨g, cap, he, hg, hr.2.2 0 _ rfl⟩
        have HJm : Hid (∀ w lo hi, Tab w → FV w a2 m lo hi → Calls Tryd.prog 19 #[.slice a2 m.length c2, .string X] w fun e w' => e = .returned (.tuple #[.string z, .bool true]) ∧ Below w.heap.size w w') := by
          intro w lo hi t f
          have := Jnd.implJoined_any a2 c2 m X w lo hi t (by omega) hszm hc2 f
          rw [t2] at this
          exact this
        have HT6 : Hid _ := t6
        have hsc := same_text z
        obtain ⟨b40, b41, b42⟩ := B4.out
        clear HT2 HF1 t1 t2 t4 t5 t6
        go_wp2_with fail
        refine (HVm.out _ _ _ (hT.below hv4.out hgt) F24).mono ?_
        rintro e v5 ⟨⟨g5, c5, rfl, hg5, k5⟩, hv5'⟩
        have hv5 : Hid (Below w.heap.size w v5) := hv4.out.trans (hv5'.mono hv4.out.size)
        have B5 : Hid _ := Bx.below B4.out hv5'
        have F1e := F1d.below hv5'
        have F25 := F24.below hv5'
        clear hv5' hv4 B4 F1d F24 HVm b40 b41 b42
        obtain ⟨b50, b51, b52⟩ := B5.out
        go_wp2_with fail
        refine (HJm.out _ _ _ (hT.below hv5.out hgt) F25).mono ?_
        rintro e v6 ⟨rfl, hv6'⟩
        have hv6 : Hid (Below w.heap.size w v6) := hv5.out.trans (hv6'.mono hv5.out.size)
        have B6 : Hid _ := Bx.below B5.out hv6'
        have F1f := F1e.below hv6'
        have F26 := F25.below hv6'
        have k6 := (hv6'.cell (p := ⟨g5, 0, none⟩) hg5).trans k5
        clear hv6' hv5 B5 F1e F25 HJm b50 b51 b52 k5
        obtain ⟨b60, b61, b62⟩ := B6.out
        go_wp2_with fail
        go_quiet (fail)
        go_wp2_with fail
        go_loopw [173] (fun iv wq => ∃ j : Nat, iv = .int .i64 j ∧ j ≤ l.length ∧ Hid (Below v6.heap.size v6 wq)) (fun iv _ => l.length - (intOf iv).toNat)
        case atStart => exact ⟨0, rfl, by omega, Mrk.below_drewN v6 _⟩
        case round =>
          obtain ⟨j, rfl, hj, hbq⟩ := hrel
          clear b60 b61 b62 k6 hsc
          by_cases hlt : j < l.length
          · have hne : l ≠ [] := fun h => by rw [h] at hlt; exact absurd hlt (by simp)
            have FR := F1f.below hbq.out
            rcases F1f with h | ⟨g1, rfl, _, _, R1⟩
            · exact absurd h hne
            obtain ⟨kx1, kx2⟩ := (R1.below hbq.out).2.2 j l[j] (List.getElem?_eq_getElem hlt)
            obtain ⟨p1, p2, p3, p4⟩ := HT6.out l[j] (List.getElem_mem hlt)
            have hN := (hz l[j] (List.getElem_mem hlt)).1
            obtain ⟨N, hNe⟩ : ∃ N, N = l[j].1 := ⟨_, rfl⟩
            obtain ⟨M, hMe⟩ : ∃ M, M = l[j].2 := ⟨_, rfl⟩
            rw [← hNe] at p1 p2 p3 p4 hN kx1
            rw [← hMe] at kx2
            clear hNe hMe R1
            have hVl1 := Fvs.valsOf_len N l
            have hVl2 := Fvs.valsOf_len N m
            have HVA : Hid (∀ w lo hi, FV w (some ⟨g1, 0, none⟩) l lo hi → Calls Tryd.prog 20 #[.slice (some ⟨g1, 0, none⟩) l.length ca, .string N] w fun e w' => (∃ a' cap, e = .returned (.tuple #[.slice a' (valsOf N l).length cap, .bool true]) ∧ TV w' a' (valsOf N l) w.heap.size w'.heap.size) ∧ Below w.heap.size w w') := by
              intro w lo hi f
              refine (Fvs.specVals_any _ ca l N w lo hi (by omega) (by omega) hsz f).mono fun e w' ⟨h, hb⟩ => ⟨?_, hb⟩
              rw [p1] at h
              exact told_tv h
            have HVB : Hid (∀ w lo hi, Tab w → FV w a2 m lo hi → Calls Tryd.prog 18 #[.slice a2 m.length c2, .string N] w fun e w' => (∃ a' cap, e = .returned (.tuple #[.slice a' (valsOf N m).length cap, .bool true]) ∧ TV w' a' (valsOf N m) w.heap.size w'.heap.size) ∧ Below w.heap.size w w') := by
              intro w lo hi t f
              refine (Vof.implVals_any a2 c2 m N w lo hi t (by omega) hszm hc2 f).mono fun e w' ⟨h, hb⟩ => ⟨?_, hb⟩
              rw [p2] at h
              exact told_tv h
            have HVC : Hid (∀ w a lo hi, FV w a [(X, z)] lo hi → Calls Tryd.prog 20 #[.slice a 1 1, .string N] w fun e w' => (∃ a' cap, e = .returned (.tuple #[.slice a' (valsOf N [(X, z)]).length cap, .bool true])) ∧ Below w.heap.size w w') := by
              intro w a lo hi f
              have hs1 : SzF [(X, z)] := fun c hc => by rw [List.mem_singleton.1 hc]; exact ⟨by show X.size ≤ _; omega, by show z.size ≤ _; omega⟩
              refine (Fvs.specVals_any a 1 [(X, z)] N w lo hi (by show 1 ≤ _; omega) (by omega) hs1 f).mono fun e w' ⟨h, hb⟩ => ⟨?_, hb⟩
              rw [p3] at h
              obtain ⟨a', cap, he, _⟩ := told_tv h
              exact ⟨a', cap, he⟩
            generalize valsOf N l = A at HVA p4 hVl1
            generalize valsOf N m = Bv at HVB p4 hVl2
            generalize valsOf N [(X, z)] = Cv at HVC p4
            have hx0 : Hid (Below wr.heap.size wr (wr.alloc (.cells #[.string N, .string M] 31))) := (Below.refl _ _).alloc (Nat.le_refl _) _
            have BX : Hid _ := Bx.made wr N M 31
            have hv7 : Hid (Below w.heap.size w (wr.alloc (.cells #[.string N, .string M] 31))) := (hv6.out.trans (hbq.out.mono hv6.out.size)).trans (hx0.out.mono (hv6.out.trans (hbq.out.mono hv6.out.size)).size)
            have B7 : Hid _ := Bx.below (Bx.below B6.out hbq.out) hx0.out
            have FR7 := FR.below hx0.out
            have F27 := (F26.below hbq.out).below hx0.out
            have hbq7 : Hid (Below v6.heap.size v6 (wr.alloc (.cells #[.string N, .string M] 31))) := hbq.out.trans (hx0.out.mono hbq.out.size)
            clear p1 p2 p3 FR B6 F26 hv6 hbq
            go_wp2_with fail
            refine (HVA.out _ _ _ FR7).mono ?_
            rintro e v8 ⟨⟨a8, c8, rfl, T8⟩, hv8'⟩
            have hv8 : Hid (Below w.heap.size w v8) := hv7.out.trans (hv8'.mono hv7.out.size)
            have hbq8 : Hid (Below v6.heap.size v6 v8) := hbq7.out.trans (hv8'.mono hbq7.out.size)
            have B8 : Hid _ := Bx.below B7.out hv8'
            have BX8 : Hid _ := Bx.below BX.out hv8'
            have F28 := F27.below hv8'
            clear hv8' hv7 hbq7 B7 BX FR7 F27 HVA hx0 kx1 kx2
            obtain ⟨x80, x81, x82⟩ := BX8.out
            go_wp2_with fail
            refine (HVB.out _ _ _ (hT.below hv8.out hgt) F28).mono ?_
            rintro e v9 ⟨⟨a9, c9, rfl, T9⟩, hv9'⟩
            have hbq9 : Hid (Below v6.heap.size v6 v9) := hbq8.out.trans (hv9'.mono hbq8.out.size)
            have B9 : Hid _ := Bx.below B8.out hv9'
            have BX9 : Hid _ := Bx.below BX8.out hv9'
            have T89 := T8.below hv9'
            clear hv9' hbq8 B8 BX8 T8 F28 HVB x80 x81 x82
            obtain ⟨x90, x91, x92⟩ := BX9.out
            obtain ⟨y90, y91, y92⟩ := B9.out
            have hw0 : Below v9.heap.size v9 (v9.alloc (.cells #[.string X, .string z] 31)) := (Below.refl _ _).alloc (Nat.le_refl _) _
            have FW : Hid (FV (v9.alloc (.cells #[.string X, .string z] 31)) (some ⟨v9.heap.size, 0, none⟩) [(X, z)] v9.heap.size (v9.heap.size + 1)) := by
              refine .inr ⟨v9.heap.size, rfl, Nat.le_refl _, Nat.lt_succ_self _, by simp, fun i => World.frozen?_alloc_at _ _ _ i rfl, fun i c hc => ?_⟩
              cases i with
              | zero =>
                have : (X, z) = c := by simpa using hc
                subst this
                exact ⟨by rw [World.cell?_alloc_mark]; rfl, by rw [World.cell?_alloc_mark]; rfl⟩
              | succ i => simp at hc
            have hbq10 : Hid (Below v6.heap.size v6 (v9.alloc (.cells #[.string X, .string z] 31))) := hbq9.out.trans (hw0.mono hbq9.out.size)
            have BX10 := Bx.below BX9.out hw0
            have T8a := T89.below hw0
            have T9a := T9.below hw0
            obtain ⟨z90, z91, z92⟩ := BX10
            clear hbq9 B9 BX9 T89 T9 hw0
            go_wp2_with fail
            refine (HVC.out _ _ _ _ FW.out).mono ?_
            rintro e v11 ⟨⟨a11, c11, rfl⟩, hv11'⟩
            have hbq11 : Hid (Below v6.heap.size v6 v11) := hbq10.out.trans (hv11'.mono hbq10.out.size)
            have T8b := T8a.below hv11'
            have T9b := T9a.below hv11'
            clear hv11' hbq10 T8a T9a FW HVC x90 x91 x92 y90 y91 y92 z90 z91 z92
            by_cases hc0 : Cv = []
            · obtain rfl := p4 hc0
              subst hc0
              go_wp2_with fail
              refine (Sam2.sameT_any a8 a9 c8 c9 Bv _ _ _ _ _ (by omega) T8b T9b).mono ?_
              rintro e v12 ⟨rfl, hv12'⟩
              have hbq12 : Hid (Below v6.heap.size v6 v12) := hbq11.out.trans (hv12'.mono hbq11.out.size)
              clear hv12' hbq11 T8b T9b
              go_wp2_with fail
              refine ⟨⟨j + 1, by go_num, by omega, hbq12⟩, ?_⟩
              simp [intOf]; omega
            · have hcl : ((Cv.length : Int) == 0) = false := by
                rw [beq_eq_false_iff_ne]
                have := List.length_pos_iff.2 hc0
                omega
              go_wp2_with fail
              refine ⟨⟨j + 1, by go_num, by omega, hbq11⟩, ?_⟩
              simp [intOf]; omega
          · have hbe := hv6.out.trans (hbq.out.mono hv6.out.size)
            go_wp2_with fail
            go_ret
            exact ⟨rfl, hbe⟩

end Go.Proofs.YtaplkbkpgdpbaaaDoor.Fqw
