/-
  The walk of the law FnChoices.
-/
import Derived.Test.YtaplkbkpgdpbaaaDoorFcp
import Derived.Test.YtaplkbkpgdpbaaaDoorLpw
import Derived.Test.YtaplkbkpgdpbaaaDoorDff
import Derived.Test.YtaplkbkpgdpbaaaDoorSam2
namespace Go.Proofs.YtaplkbkpgdpbaaaDoor.Fcw
open Go.RowKit
open Go.Proofs.YtaplkbkpgdpbaaaDoor.Fbs
open Go.Proofs.YtaplkbkpgdpbaaaDoor.Fch
open Go.Proofs.YtaplkbkpgdpbaaaDoor.Mrk (TV RowT same_text below_drewN told_tv lst)
open Go.Proofs.YtaplkbkpgdpbaaaDoor.Mrc
open Go.Proofs.YtaplkbkpgdpbaaaDoor.Och (choO)
open Go.Proofs.YtaplkbkpgdpbaaaDoor.Bst
open Go.Proofs.YtaplkbkpgdpbaaaDoor.Cur

set_option maxRecDepth 20000 in
set_option maxHeartbeats 3200000 in
theorem walk (u v : Value) (n k : Nat) (m : Int) (w : World) (hU : CodeArg w u n) (hV : CodeArg w v k) (hn : n ≤ 140737488355328) (hk : k ≤ 140737488355328) (hT : Tab w) (hm : w.cell? ⟨2, 0, none⟩ = some (.int .i64 m)) :
    Calls Tryd.prog 4 #[u, v] w fun e w' => e = .returned (.bool true) ∧ Below w.heap.size w w' := by
  have hgt := hT.lt
  have hmt := World.block_lt_of_cell? _ _ hm
  have HMx : Hid (w.cell? ⟨2, 0, none⟩ = some (.int .i64 m)) := hm
  clear hm
  obtain ⟨o, cap, rfl⟩ := hU.form
  obtain ⟨o2, cap2, rfl⟩ := hV.form
  have HU : Hid (CodeArg w (.slice o n cap) n) := hU
  have HV : Hid (CodeArg w (.slice o2 k cap2) k) := hV
  clear hU hV
  by_cases hz : 1048576 < n + k
  · have hd : decide (1048576 < (n : Int) + (k : Int)) = true := decide_eq_true (by omega)
    go_enter Tryd.func4, Tryd.ntmps4
    go_wp2_with fail
    go_ret
    exact ⟨rfl, Below.refl _ _⟩
  have hd : decide (1048576 < (n : Int) + (k : Int)) = false := decide_eq_false (by omega)
  go_enter Tryd.func4, Tryd.ntmps4
  go_wp2_with fail
  refine (drawBest_any _ n _ HU.out (by omega)).mono ?_
  rintro e w1 ⟨s, a, ca, l, rfl, hs, hl, hl4, T1, hb1⟩
  have hx2 : ∀ x ∈ l, x.size ≤ 2000000 := fun x hx => Nat.le_trans (hl4 x hx) (by decide)
  have HSp : Hid _ := fun ca w lo' hi' t p c => specBest_any s a ca l m w lo' hi' t (by omega) p c hx2
  have HIm : Hid _ := fun ca w lo' hi' t p c => implBest_any s a ca l m w lo' hi' t (by omega) p c hx2
  have HI1 : Hid _ := fun a' B (hB : B.size ≤ 2000000) w lo' hi' t p c => implBest_any s a' 1 [B] m w lo' hi' t (by omega) p c (fun x hx => by rw [List.mem_singleton.1 hx]; exact hB)
  have HCs : Hid (∀ w, Tab w → w.cell? ⟨2, 0, none⟩ = some (.int .i64 m) → Calls Tryd.prog 26 #[.string s] w fun e w' => (∃ a cap, e = .returned (.tuple #[.slice a (lstC (choO s)).length cap, .bool (choO s).isSome]) ∧ CV w' a (lstC (choO s)) w.heap.size w'.heap.size) ∧ Below w.heap.size w w') := fun w t p => (Och.specChoices_any s m w t (by omega) p).mono fun e w' ⟨h, hb⟩ => ⟨told_cv h, hb⟩
  have HCi : Hid (∀ w, Tab w → w.cell? ⟨2, 0, none⟩ = some (.int .i64 m) → Calls Tryd.prog 25 #[.string s] w fun e w' => (∃ a cap, e = .returned (.tuple #[.slice a (lstC (choO s)).length cap, .bool (choO s).isSome]) ∧ CV w' a (lstC (choO s)) w.heap.size w'.heap.size) ∧ Below w.heap.size w w') := fun w t p => (Och.implChoices_any s m w t (by omega) p).mono fun e w' ⟨h, hb⟩ => ⟨told_cv h, hb⟩
  have HOff : Hid _ := @best_offered (choO s) l
  have HWf : Hid (∀ c ∈ lstC (choO s), 0 ≤ c.2 ∧ c.2 ≤ 1000) := by
    intro c hc
    cases ho : choO s with
    | none => rw [ho] at hc; cases hc
    | some r => rw [ho] at hc; exact ⟨(choO_wf ho c hc).1, (choO_wf ho c hc).2.1⟩
  have hcl := choO_len s
  generalize choO s = oo at HSp HIm HI1 HCs HCi HOff HWf hcl
  obtain ⟨C, hC⟩ : ∃ C, C = lstC oo := ⟨_, rfl⟩
  obtain ⟨is, his⟩ : ∃ is, is = oo.isSome := ⟨_, rfl⟩
  rw [← hC] at HCs HCi HWf hcl
  rw [← his] at HCs HCi
  obtain ⟨B, hB⟩ : ∃ B, B = (bestB oo l).1 := ⟨_, rfl⟩
  obtain ⟨ok, hok⟩ : ∃ ok, ok = (bestB oo l).2 := ⟨_, rfl⟩
  rw [← hB, ← hok] at HSp HIm
  have HO2 : Hid (ok = true → B ∈ l ∧ bestB oo [B] = (B, true)) := by
    intro h
    rw [hok] at h
    rw [hB]; exact HOff.out h
  have hsb := same_text B
  have hBs : B.size ≤ 2000000 ∨ ok = false := by
    cases ok
    · exact .inr rfl
    · exact .inl (hx2 B (HO2.out rfl).1)
  clear HOff hC his hx2 hB hok
  have hb1h : Hid (Below w.heap.size w w1) := hb1
  go_wp2_with fail
  refine (HIm.out _ _ _ _ (hT.below hb1h.out hgt) ((hb1h.out.cell (p := ⟨2, 0, none⟩) hmt).trans HMx.out) T1).mono ?_
  rintro e w2 ⟨rfl, hb2'⟩
  have hb2 : Hid (Below w.heap.size w w2) := hb1h.out.trans (hb2'.mono hb1h.out.size)
  have T2 := T1.below hb2'
  clear hb2' T1 hb1h hb1
  go_wp2_with fail
  refine (HSp.out _ _ _ _ (hT.below hb2.out hgt) ((hb2.out.cell (p := ⟨2, 0, none⟩) hmt).trans HMx.out) T2).mono ?_
  rintro e w3 ⟨rfl, hb3'⟩
  have hb3 : Hid (Below w.heap.size w w3) := hb2.out.trans (hb3'.mono hb2.out.size)
  have T3 := T2.below hb3'
  clear hb3' T2 hb2
  go_wp2_with fail
  refine (HCi.out _ (hT.below hb3.out hgt) ((hb3.out.cell (p := ⟨2, 0, none⟩) hmt).trans HMx.out)).mono ?_
  rintro e w4 ⟨⟨a4, c4, rfl, V4⟩, hb4'⟩
  have hb4 : Hid (Below w.heap.size w w4) := hb3.out.trans (hb4'.mono hb3.out.size)
  have T4 := T3.below hb4'
  clear hb4' T3 hb3
  go_wp2_with fail
  refine (HCs.out _ (hT.below hb4.out hgt) ((hb4.out.cell (p := ⟨2, 0, none⟩) hmt).trans HMx.out)).mono ?_
  rintro e w5 ⟨⟨a5, c5, rfl, V5⟩, hb5'⟩
  have hb5 : Hid (Below w.heap.size w w5) := hb4.out.trans (hb5'.mono hb4.out.size)
  have T5 := T4.below hb5'
  have V45 := V4.below hb5'
  clear hb5' T4 hb4 V4
  go_wp2_with fail
  go_loopw [86] (fun iv wr => ∃ j : Nat, iv = .int .i64 j ∧ j ≤ C.length ∧ Hid (Below w5.heap.size w5 wr)) (fun iv _ => C.length - (intOf iv).toNat)
  case atStart => exact ⟨0, rfl, by omega, Below.refl _ _⟩
  case round =>
    obtain ⟨j, rfl, hj, hbr⟩ := hrel
    by_cases hlt : j < C.length
    · have hne : C ≠ [] := fun h => by rw [h] at hlt; exact absurd hlt (by simp)
      rcases V45 with h | ⟨g4, rfl, _, _, R4⟩
      · exact absurd h hne
      rcases V5 with h | ⟨g5, rfl, _, _, R5⟩
      · exact absurd h hne
      obtain ⟨p1, p2⟩ := (R4.below hbr.out).2.2 j C[j] (List.getElem?_eq_getElem hlt)
      obtain ⟨q1, q2⟩ := (R5.below hbr.out).2.2 j C[j] (List.getElem?_eq_getElem hlt)
      obtain ⟨e1, e2⟩ := HWf.out C[j] (List.getElem_mem hlt)
      have hsc := same_text C[j].1
      have d1 : decide (C[j].2 < 0) = false := decide_eq_false (by omega)
      have d2 : decide (1000 < C[j].2) = false := decide_eq_false (by omega)
      clear R4 R5
      go_wp2_with fail
      go_quiet (fail)
      go_wp2_with fail
      refine ⟨⟨j + 1, by go_num, by omega, hbr.out.trans ((Mrk.below_drewN wr _).mono hbr.out.size)⟩, ?_⟩
      simp [intOf]; omega
    · obtain rfl : j = C.length := by omega
      have T6 := T5.below hbr.out
      have hb6 : Hid (Below w.heap.size w wr) := hb5.out.trans (hbr.out.mono hb5.out.size)
      clear T5 hb5 hbr V45 V5
      cases ok
      · clear HSp HIm HI1 HCs HCi HO2 HWf hBs
        go_wp2_with fail
        refine (drawList_any _ k _ (CodeArg.below HV.out (Nat.le_refl _) hb6.out) (by omega)).mono ?_
        rintro e v1 ⟨t, rfl, ht, hv1'⟩
        have hv1 : Hid (Below w.heap.size w v1) := hb6.out.trans (hv1'.mono hb6.out.size)
        have HLi : Hid (∀ w, Calls Tryd.prog 13 #[.string t] w fun e w' => (∃ a cap, e = .returned (.tuple #[.slice a (lst (Lsp.listO t)).length cap, .bool (Lsp.listO t).isSome]) ∧ TV w' a (lst (Lsp.listO t)) w.heap.size w'.heap.size) ∧ Below w.heap.size w w') :=
          fun w => (Lit.implList_any t w (by omega)).mono fun e w' ⟨h, hb⟩ => ⟨told_tv h, hb⟩
        have HLs : Hid (∀ w, Calls Tryd.prog 28 #[.string t] w fun e w' => (∃ a cap, e = .returned (.tuple #[.slice a (lst (Lsp.listO t)).length cap, .bool (Lsp.listO t).isSome]) ∧ TV w' a (lst (Lsp.listO t)) w.heap.size w'.heap.size) ∧ Below w.heap.size w w') :=
          fun w => (Lsp.specList_any t w (by omega)).mono fun e w' ⟨h, hb⟩ => ⟨told_tv h, hb⟩
        have hag := @Lpu.list_again t
        have hjb : (lst (Lsp.listO t)).length ≤ 301 ∧ Lpu.tot (Lpu.lsts (lst (Lsp.listO t))) ≤ 301 := Lpu.jn_bound t
        obtain ⟨P, hP⟩ : ∃ P, P = lst (Lsp.listO t) := ⟨_, rfl⟩
        obtain ⟨two, h2⟩ : ∃ two, two = (Lsp.listO t).isSome := ⟨_, rfl⟩
        have HAg : Hid (two = true → Lsp.listO (Lpu.jnB P) = some P) := by
          intro h
          rw [h2] at h
          obtain ⟨ps, hps⟩ := Option.isSome_iff_exists.1 h
          rw [hP, hps]
          exact hag hps
        rw [← hP, ← h2] at HLi HLs
        rw [← hP] at hjb
        have HJb : Hid _ := hjb
        clear hP h2 hag hjb hv1' hb6 T6
        go_wp2_with fail
        refine (HLi.out _).mono ?_
        rintro e v2 ⟨⟨b2, d2, rfl, X2⟩, hv2'⟩
        have hv2 : Hid (Below w.heap.size w v2) := hv1.out.trans (hv2'.mono hv1.out.size)
        clear hv2' hv1
        go_wp2_with fail
        refine (HLs.out _).mono ?_
        rintro e v3 ⟨⟨b3, d3, rfl, X3⟩, hv3'⟩
        have hv3 : Hid (Below w.heap.size w v3) := hv2.out.trans (hv3'.mono hv2.out.size)
        have X23 := X2.below hv3'
        clear hv3' hv2 X2
        go_wp2_with fail
        refine (Sam2.sameT_any b2 b3 d2 d3 P _ _ _ _ _ (by have := HJb.out.1; omega) X23 X3).mono ?_
        rintro e v4 ⟨rfl, hv4'⟩
        have hv4 : Hid (Below w.heap.size w v4) := hv3.out.trans (hv4'.mono hv3.out.size)
        have X4 := X23.below hv4'
        clear hv4' hv3 X23 X3
        go_wp2_with fail
        go_loopw [26, 170] (fun gv iv wq => ∃ j : Nat, gv = .string (Lpu.jnB (P.take j)) ∧ iv = .int .i64 j ∧ j ≤ P.length ∧ Hid (Below v4.heap.size v4 wq)) (fun _ iv _ => P.length - (intOf iv).toNat)
        case atStart => exact ⟨0, rfl, rfl, by omega, Below.refl _ _⟩
        case round =>
          obtain ⟨j, rfl, rfl, hj, hbq⟩ := hrel
          have zj := Lpu.jnB_size P j
          obtain ⟨zb1, zb2⟩ := HJb.out
          by_cases hlt : j < P.length
          · have hne : P ≠ [] := fun h => by rw [h] at hlt; exact absurd hlt (by simp)
            rcases X4 with h | ⟨g4, rfl, _, _, R4⟩
            · exact absurd h hne
            have hc := (R4.below hbq.out).2.2 j P[j] (List.getElem?_eq_getElem hlt)
            have zp := Lpu.at_size P j hlt
            clear R4
            by_cases hj0 : 0 < j
            · have hs := Lpu.jnB_step P j hlt hj0
              have zq : (Lpu.jnB (P.take j) ++ (⟨#[44]⟩ : ByteArray)).size ≤ 302 := by rw [ByteArray.size_append]; have : (⟨#[44]⟩ : ByteArray).size = 1 := rfl; omega
              have hdj : decide (0 < (j : Int)) = true := decide_eq_true (by omega)
              go_wp2_with fail
              refine ⟨⟨j + 1, rfl, by go_num, by omega, hbq⟩, ?_⟩
              simp [intOf]; omega
            · obtain rfl : j = 0 := by omega
              have HS : Hid (Lpu.jnB [] ++ P[0] = Lpu.jnB (P.take 1)) := Lpu.jnB_first P hlt
              have z0 : (Lpu.jnB []).size = 0 := rfl
              go_wp2_with fail
              refine ⟨⟨1, by rw [HS.out], rfl, by omega, hbq⟩, ?_⟩
              simp [intOf]; omega
          · obtain rfl : j = P.length := by omega
            rw [List.take_length] at *
            have hv5 : Hid (Below w.heap.size w wr) := hv4.out.trans (hbq.out.mono hv4.out.size)
            have X5 := X4.below hbq.out
            have HLj : Hid (∀ w, Calls Tryd.prog 13 #[.string (Lpu.jnB P)] w fun e w' => (∃ a cap, e = .returned (.tuple #[.slice a (lst (Lsp.listO (Lpu.jnB P))).length cap, .bool (Lsp.listO (Lpu.jnB P)).isSome]) ∧ TV w' a (lst (Lsp.listO (Lpu.jnB P))) w.heap.size w'.heap.size) ∧ Below w.heap.size w w') :=
              fun w => (Lit.implList_any _ w (by omega)).mono fun e w' ⟨h, hb⟩ => ⟨told_tv h, hb⟩
            clear hv4 hbq X4
            cases two
            · generalize lst (Lsp.listO (Lpu.jnB P)) = Q at HLj
              generalize (Lsp.listO (Lpu.jnB P)).isSome = three at HLj
              generalize Lpu.jnB P = J at HLj zj
              go_wp2_with fail
              refine (HLj.out _).mono ?_
              rintro e v6 ⟨⟨b6, d6, rfl, X6⟩, hv6'⟩
              have hv6 : Below w.heap.size w v6 := hv5.out.trans (hv6'.mono hv5.out.size)
              clear hv6' hv5 X5 X6
              go_wp2_with fail
              go_ret
              exact ⟨rfl, hv6⟩
            · rw [HAg.out rfl] at HLj
              generalize Lpu.jnB P = J at HLj zj
              have HLj' : Hid (∀ w, Calls Tryd.prog 13 #[.string J] w fun e w' => (∃ a cap, e = .returned (.tuple #[.slice a P.length cap, .bool true]) ∧ TV w' a P w.heap.size w'.heap.size) ∧ Below w.heap.size w w') := HLj
              clear HLj
              go_wp2_with fail
              refine (HLj'.out _).mono ?_
              rintro e v6 ⟨⟨b6, d6, rfl, X6⟩, hv6'⟩
              have hv6 : Hid (Below w.heap.size w v6) := hv5.out.trans (hv6'.mono hv5.out.size)
              have X56 := X5.below hv6'
              clear hv6' hv5 X5
              go_wp2_with fail
              refine (Sam2.sameT_any b6 b2 d6 d2 P _ _ _ _ _ (by omega) X6 X56).mono ?_
              rintro e v7 ⟨rfl, hv7'⟩
              have hv7 : Below w.heap.size w v7 := hv6.out.trans (hv7'.mono hv6.out.size)
              clear hv7' hv6 X6 X56
              go_wp2_with fail
              go_ret
              exact ⟨rfl, hv7⟩
      · obtain ⟨HBl, HB1⟩ := HO2.out rfl
        have hBs' : B.size ≤ 2000000 := hBs.resolve_right (by decide)
        have HB2 : Hid (∀ w a' lo' hi', Tab w → w.cell? ⟨2, 0, none⟩ = some (.int .i64 m) → TV w a' [B] lo' hi' → Calls Tryd.prog 23 #[.string s, .slice a' 1 1] w fun e w' => e = .returned (.tuple #[.string B, .bool true]) ∧ Below w.heap.size w w') := by
          intro w a' lo' hi' t p c
          have := HI1.out a' B hBs' w lo' hi' t p c
          rw [HB1] at this
          exact this
        have HBm : Hid (B ∈ l) := HBl
        clear HSp HIm HI1 HCs HCi HO2 HWf HB1 HBl hBs hBs'
        go_wp2_with fail
        go_loopw [16, 118] (fun tv iv wq => ∃ (j : Nat) (tb : Bool), tv = .bool tb ∧ iv = .int .i64 j ∧ j ≤ l.length ∧ Hid (tb = true ↔ ∃ i, ∃ hi : i < l.length, i < j ∧ l[i] = B) ∧ Hid (Below wr.heap.size wr wq)) (fun _ iv _ => l.length - (intOf iv).toNat)
        case atStart => exact ⟨0, false, rfl, rfl, by omega, ⟨fun h => (by cases h), fun ⟨i, _, h, _⟩ => absurd h (by omega)⟩, Below.refl _ _⟩
        case round =>
          obtain ⟨j, tb, rfl, rfl, hj, HTb, hbr⟩ := hrel
          by_cases hlt : j < l.length
          · have hne : l ≠ [] := fun h => by rw [h] at hlt; exact absurd hlt (by simp)
            rcases T6 with h | ⟨g6, rfl, _, _, R6⟩
            · exact absurd h hne
            have hc := (R6.below hbr.out).2.2 j l[j] (List.getElem?_eq_getElem hlt)
            have hcmp := text_cmp l[j] B
            clear R6
            cases tb
            · by_cases e : l[j] = B
              · rw [decide_eq_true e] at hcmp
                have HT' : Hid (true = true ↔ ∃ i, ∃ hi : i < l.length, i < j + 1 ∧ l[i] = B) := ⟨fun _ => ⟨j, hlt, by omega, e⟩, fun _ => rfl⟩
                clear e HTb
                go_wp2_with fail
                refine ⟨⟨j + 1, true, rfl, by go_num, by omega, HT', hbr⟩, ?_⟩
                simp [intOf]; omega
              · rw [decide_eq_false e] at hcmp
                have HT' : Hid (false = true ↔ ∃ i, ∃ hi : i < l.length, i < j + 1 ∧ l[i] = B) := by
                  refine ⟨fun h => (by cases h), fun ⟨i, hi, h, h'⟩ => ?_⟩
                  by_cases e2 : i = j
                  · subst e2; exact absurd h' e
                  · exact HTb.out.2 ⟨i, hi, by omega, h'⟩
                clear e HTb
                go_wp2_with fail
                refine ⟨⟨j + 1, false, rfl, by go_num, by omega, HT', hbr⟩, ?_⟩
                simp [intOf]; omega
            · have HT' : Hid (true = true ↔ ∃ i, ∃ hi : i < l.length, i < j + 1 ∧ l[i] = B) := ⟨fun _ => by obtain ⟨i, hi, h, h'⟩ := HTb.out.1 rfl; exact ⟨i, hi, by omega, h'⟩, fun _ => rfl⟩
              clear HTb hcmp
              go_wp2_with fail
              refine ⟨⟨j + 1, true, rfl, by go_num, by omega, HT', hbr⟩, ?_⟩
              simp [intOf]; omega
          · obtain rfl : j = l.length := by omega
            obtain rfl : tb = true := HTb.out.2 (by
              obtain ⟨i, hi, h⟩ := List.getElem_of_mem HBm.out
              exact ⟨i, hi, hi, h⟩)
            have hb7 : Hid (Below w.heap.size w wr) := hb6.out.trans (hbr.out.mono hb6.out.size)
            have hb8 : Hid (Below w.heap.size w (wr.alloc (.cells #[.string B] 9))) := hb7.out.alloc hb7.out.size _
            have T8 : Hid (TV (wr.alloc (.cells #[.string B] 9)) (some ⟨wr.heap.size, 0, none⟩) [B] wr.heap.size (wr.heap.size + 1)) := by
              refine .inr ⟨wr.heap.size, rfl, Nat.le_refl _, Nat.lt_succ_self _, by simp, fun i => World.frozen?_alloc_at _ _ _ i rfl, fun i x hx => ?_⟩
              rw [World.cell?_alloc_mark]
              cases i with
              | zero => have : B = x := by simpa using hx
                        subst this; rfl
              | succ i => simp at hx
            clear HTb hb6 hb7 hbr T6 HBm
            go_wp2_with fail
            refine (HB2.out _ _ _ _ (hT.below hb8.out hgt) ((hb8.out.cell (p := ⟨2, 0, none⟩) hmt).trans HMx.out) T8.out).mono ?_
            rintro e w9 ⟨rfl, hb9'⟩
            have hb9 : Hid (Below w.heap.size w w9) := hb8.out.trans (hb9'.mono hb8.out.size)
            clear hb9' hb8 T8 HB2
            go_wp2_with fail
            refine (drawList_any _ k _ (CodeArg.below HV.out (Nat.le_refl _) hb9.out) (by omega)).mono ?_
            rintro e v1 ⟨t, rfl, ht, hv1'⟩
            have hv1 : Hid (Below w.heap.size w v1) := hb9.out.trans (hv1'.mono hb9.out.size)
            have HLi : Hid (∀ w, Calls Tryd.prog 13 #[.string t] w fun e w' => (∃ a cap, e = .returned (.tuple #[.slice a (lst (Lsp.listO t)).length cap, .bool (Lsp.listO t).isSome]) ∧ TV w' a (lst (Lsp.listO t)) w.heap.size w'.heap.size) ∧ Below w.heap.size w w') :=
              fun w => (Lit.implList_any t w (by omega)).mono fun e w' ⟨h, hb⟩ => ⟨told_tv h, hb⟩
            have HLs : Hid (∀ w, Calls Tryd.prog 28 #[.string t] w fun e w' => (∃ a cap, e = .returned (.tuple #[.slice a (lst (Lsp.listO t)).length cap, .bool (Lsp.listO t).isSome]) ∧ TV w' a (lst (Lsp.listO t)) w.heap.size w'.heap.size) ∧ Below w.heap.size w w') :=
              fun w => (Lsp.specList_any t w (by omega)).mono fun e w' ⟨h, hb⟩ => ⟨told_tv h, hb⟩
            have hag := @Lpu.list_again t
            have hjb : (lst (Lsp.listO t)).length ≤ 301 ∧ Lpu.tot (Lpu.lsts (lst (Lsp.listO t))) ≤ 301 := Lpu.jn_bound t
            obtain ⟨P, hP⟩ : ∃ P, P = lst (Lsp.listO t) := ⟨_, rfl⟩
            obtain ⟨two, h2⟩ : ∃ two, two = (Lsp.listO t).isSome := ⟨_, rfl⟩
            have HAg : Hid (two = true → Lsp.listO (Lpu.jnB P) = some P) := by
              intro h
              rw [h2] at h
              obtain ⟨ps, hps⟩ := Option.isSome_iff_exists.1 h
              rw [hP, hps]
              exact hag hps
            rw [← hP, ← h2] at HLi HLs
            rw [← hP] at hjb
            have HJb : Hid _ := hjb
            clear hP h2 hag hjb hv1' hb9
            go_wp2_with fail
            refine (HLi.out _).mono ?_
            rintro e v2 ⟨⟨b2, d2, rfl, X2⟩, hv2'⟩
            have hv2 : Hid (Below w.heap.size w v2) := hv1.out.trans (hv2'.mono hv1.out.size)
            clear hv2' hv1
            go_wp2_with fail
            refine (HLs.out _).mono ?_
            rintro e v3 ⟨⟨b3, d3, rfl, X3⟩, hv3'⟩
            have hv3 : Hid (Below w.heap.size w v3) := hv2.out.trans (hv3'.mono hv2.out.size)
            have X23 := X2.below hv3'
            clear hv3' hv2 X2
            go_wp2_with fail
            refine (Sam2.sameT_any b2 b3 d2 d3 P _ _ _ _ _ (by have := HJb.out.1; omega) X23 X3).mono ?_
            rintro e v4 ⟨rfl, hv4'⟩
            have hv4 : Hid (Below w.heap.size w v4) := hv3.out.trans (hv4'.mono hv3.out.size)
            have X4 := X23.below hv4'
            clear hv4' hv3 X23 X3
            go_wp2_with fail
            go_loopw [26, 170] (fun gv iv wq => ∃ j : Nat, gv = .string (Lpu.jnB (P.take j)) ∧ iv = .int .i64 j ∧ j ≤ P.length ∧ Hid (Below v4.heap.size v4 wq)) (fun _ iv _ => P.length - (intOf iv).toNat)
            case atStart => exact ⟨0, rfl, rfl, by omega, Below.refl _ _⟩
            case round =>
              obtain ⟨j, rfl, rfl, hj, hbq⟩ := hrel
              have zj := Lpu.jnB_size P j
              obtain ⟨zb1, zb2⟩ := HJb.out
              by_cases hlt : j < P.length
              · have hne : P ≠ [] := fun h => by rw [h] at hlt; exact absurd hlt (by simp)
                rcases X4 with h | ⟨g4, rfl, _, _, R4⟩
                · exact absurd h hne
                have hc := (R4.below hbq.out).2.2 j P[j] (List.getElem?_eq_getElem hlt)
                have zp := Lpu.at_size P j hlt
                clear R4
                by_cases hj0 : 0 < j
                · have hs := Lpu.jnB_step P j hlt hj0
                  have zq : (Lpu.jnB (P.take j) ++ (⟨#[44]⟩ : ByteArray)).size ≤ 302 := by rw [ByteArray.size_append]; have : (⟨#[44]⟩ : ByteArray).size = 1 := rfl; omega
                  have hdj : decide (0 < (j : Int)) = true := decide_eq_true (by omega)
                  go_wp2_with fail
                  refine ⟨⟨j + 1, rfl, by go_num, by omega, hbq⟩, ?_⟩
                  simp [intOf]; omega
                · obtain rfl : j = 0 := by omega
                  have HS : Hid (Lpu.jnB [] ++ P[0] = Lpu.jnB (P.take 1)) := Lpu.jnB_first P hlt
                  have z0 : (Lpu.jnB []).size = 0 := rfl
                  go_wp2_with fail
                  refine ⟨⟨1, by rw [HS.out], rfl, by omega, hbq⟩, ?_⟩
                  simp [intOf]; omega
              · obtain rfl : j = P.length := by omega
                rw [List.take_length] at *
                have hv5 : Hid (Below w.heap.size w wr) := hv4.out.trans (hbq.out.mono hv4.out.size)
                have X5 := X4.below hbq.out
                have HLj : Hid (∀ w, Calls Tryd.prog 13 #[.string (Lpu.jnB P)] w fun e w' => (∃ a cap, e = .returned (.tuple #[.slice a (lst (Lsp.listO (Lpu.jnB P))).length cap, .bool (Lsp.listO (Lpu.jnB P)).isSome]) ∧ TV w' a (lst (Lsp.listO (Lpu.jnB P))) w.heap.size w'.heap.size) ∧ Below w.heap.size w w') :=
                  fun w => (Lit.implList_any _ w (by omega)).mono fun e w' ⟨h, hb⟩ => ⟨told_tv h, hb⟩
                clear hv4 hbq X4
                cases two
                · generalize lst (Lsp.listO (Lpu.jnB P)) = Q at HLj
                  generalize (Lsp.listO (Lpu.jnB P)).isSome = three at HLj
                  generalize Lpu.jnB P = J at HLj zj
                  go_wp2_with fail
                  refine (HLj.out _).mono ?_
                  rintro e v6 ⟨⟨b6, d6, rfl, X6⟩, hv6'⟩
                  have hv6 : Below w.heap.size w v6 := hv5.out.trans (hv6'.mono hv5.out.size)
                  clear hv6' hv5 X5 X6
                  go_wp2_with fail
                  go_ret
                  exact ⟨rfl, hv6⟩
                · rw [HAg.out rfl] at HLj
                  generalize Lpu.jnB P = J at HLj zj
                  have HLj' : Hid (∀ w, Calls Tryd.prog 13 #[.string J] w fun e w' => (∃ a cap, e = .returned (.tuple #[.slice a P.length cap, .bool true]) ∧ TV w' a P w.heap.size w'.heap.size) ∧ Below w.heap.size w w') := HLj
                  clear HLj
                  go_wp2_with fail
                  refine (HLj'.out _).mono ?_
                  rintro e v6 ⟨⟨b6, d6, rfl, X6⟩, hv6'⟩
                  have hv6 : Hid (Below w.heap.size w v6) := hv5.out.trans (hv6'.mono hv5.out.size)
                  have X56 := X5.below hv6'
                  clear hv6' hv5 X5
                  go_wp2_with fail
                  refine (Sam2.sameT_any b6 b2 d6 d2 P _ _ _ _ _ (by omega) X6 X56).mono ?_
                  rintro e v7 ⟨rfl, hv7'⟩
                  have hv7 : Below w.heap.size w v7 := hv6.out.trans (hv7'.mono hv6.out.size)
                  clear hv7' hv6 X6 X56
                  go_wp2_with fail
                  go_ret
                  exact ⟨rfl, hv7⟩

end Go.Proofs.YtaplkbkpgdpbaaaDoor.Fcw
