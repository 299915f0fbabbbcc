/-
  Walks: spec.l3Is, l3Values, ValuesOf.
  Walks: spec.l4Length, spec.LengthOf.
  Messages: their heads, what is good; walks: spec's l4Target, l4Method, l4Reason, l4Framed, l4Head.
  The head of a message: what both programs tell; walk: spec.l4Head.
  A request comes back from its bytes, and of a cut one nothing is taken.
  errors.Is by its contracts, for what the program hands it: the sentinel itself, and a fault of a message.
-/
import Derived.Test.YtaplkbkpgdpbaaaGreatDoorMg3
import Derived.Test.YtaplkbkpgdpbaaaGreatDoorMg1
import Derived.Test.YtaplkbkpgdpbaaaGreatDoorMg5
import Derived.Test.YtaplkbkpgdpbaaaGreatDoorProg
import Derived.WalkKit
import Derived.LaidEql
import Derived.Stop.Asserts
import Derived.RowKitTokens
namespace Go.Proofs.YtaplkbkpgdpbaaaGreatDoor.Fvs
open Go.RowKit
open Go.Proofs.YtaplkbkpgdpbaaaGreatDoor.Fbs
open Go.Proofs.YtaplkbkpgdpbaaaGreatDoor.Fch
open Go.Proofs.YtaplkbkpgdpbaaaGreatDoor.Ows
open Go.Proofs.YtaplkbkpgdpbaaaGreatDoor.Lof (lowB lowS specLow_any implLow_any lowS_size)
open Go.Proofs.YtaplkbkpgdpbaaaGreatDoor.Kls (text_cmp)
open Go.Proofs.YtaplkbkpgdpbaaaGreatDoor.Fdb

theorem tbase {w : World} {B B' : Nat} {v : Value} {l : List ByteArray} (h : textsIn w B v l) (hB : B' ≤ B) : textsIn w B' v l := by
  refine ⟨h.1, ?_⟩
  rcases h.2 with hn | ⟨g, cap, cur, rfl, hbg, rest⟩
  · exact .inl hn
  · exact .inr ⟨g, cap, cur, rfl, Nat.le_trans hB hbg, rest⟩

set_option maxHeartbeats 800000 in
theorem l3Is_any (X V n : ByteArray) (w : World) (hX : X.size ≤ 2000000) (hn : n.size ≤ 2000000) :
    Calls Tryz.prog 106 #[.agg #[.string X, .string V], .string n] w fun e w' => e = .returned (.bool (isN n (X, V))) ∧ Below w.heap.size w w' := by
  have H1 : Hid _ := fun w => specLow_any X w hX
  have H2 : Hid _ := fun w => specLow_any n w hn
  have hc : ((lowS X).toList == (lowS n).toList) = isN n (X, V) := text_cmp _ _
  generalize lowS X = x at H1 hc
  generalize lowS n = y at H2 hc
  generalize isN n (X, V) = b at hc ⊢
  have hbox : Below w.heap.size w (w.alloc (.cells #[.string X, .string V] 102)) := (Below.refl _ _).alloc (Nat.le_refl _) _
  go_enter Tryz.func106, Tryz.ntmps106
  go_wp2_with fail
  refine (H1.out _).mono ?_
  rintro e w1 ⟨rfl, hb1⟩
  have hb01 := hbox.trans (hb1.mono (by simp))
  go_wp2_with fail
  refine (H2.out _).mono ?_
  rintro e w2 ⟨rfl, hb2⟩
  have hb02 := hb01.trans (hb2.mono hb01.size)
  go_wp2_with fail
  go_ret
  exact ⟨rfl, hb02⟩

set_option maxHeartbeats 800000 in
theorem l3Values_any (a : Option Addr) (ca : Nat) (l : List (ByteArray × ByteArray)) (n : ByteArray) (w : World) (lo hi : Nat) (hl : l.length ≤ 2000000) (hn : n.size ≤ 2000000) (hz : SzF l) (ha : FV w a l lo hi) :
    Calls Tryz.prog 77 #[.slice a l.length ca, .string n] w fun e w' => (∃ v, e = .returned v ∧ textsIn w' w.heap.size v (valsOf n l)) ∧ Below w.heap.size w w' := by
  by_cases h0 : l = []
  · subst h0
    go_enter Tryz.func77, Tryz.ntmps77
    go_wp2_with fail
    go_loop [5, 10] (fun v i => v = .slice none 0 0 ∧ i = .int .i64 0) (fun _ _ => 0)
    case atStart => exact ⟨rfl, rfl⟩
    case round =>
      obtain ⟨rfl, rfl⟩ := hrel
      go_wp2_with fail
      go_ret
      exact ⟨⟨_, rfl, World.ownsRow_nil _ _ _ _⟩, Below.refl _ _⟩
  rcases ha with ha | ⟨g, rfl, _, _, ga⟩
  · exact absurd ha h0
  have GA : Hid (RowF w g l) := ga
  clear ga
  go_enter Tryz.func77, Tryz.ntmps77
  go_wp2_with fail
  go_loopw [5, 10] (fun v i wr => ∃ k : Nat, k ≤ l.length ∧ i = .int .i64 k ∧ Below w.heap.size w wr ∧ textsIn wr w.heap.size v (valsOf n (l.take k))) (fun _ i _ => l.length - (intOf i).toNat)
  case atStart => exact ⟨0, by omega, rfl, Below.refl _ _, World.ownsRow_nil _ _ _ _⟩
  case round =>
    obtain ⟨k, hk, rfl, hbel, hown⟩ := hrel
    by_cases hlt : k < l.length
    · obtain ⟨k1, k2⟩ := (GA.out.below hbel).2.2 k l[k] (List.getElem?_eq_getElem hlt)
      obtain ⟨hs1, hs2⟩ := hz l[k] (List.getElem_mem hlt)
      have htk : l.take (k + 1) = l.take k ++ [l[k]] := List.take_succ_eq_append_getElem hlt
      have hlen : (valsOf n (l.take k)).length ≤ k := Nat.le_trans (valsOf_len n _) (by rw [List.length_take]; omega)
      have HI := fun w => l3Is_any l[k].1 l[k].2 n w hs1 hn
      clear hs1 hs2
      have hB := hbel.size
      cases hi : isN n l[k]
      · have HI1 : Hid (∀ w, Calls Tryz.prog 106 #[.agg #[.string l[k].1, .string l[k].2], .string n] w fun e w' => e = .returned (.bool false) ∧ Below w.heap.size w w') := by
          intro w; have := HI w; rwa [show (l[k].1, l[k].2) = l[k] from rfl, hi] at this
        have HV : Hid (valsOf n (l.take (k + 1)) = valsOf n (l.take k)) := by show _ = _; rw [htk, valsOf_no hi]
        clear HI hi htk
        generalize valsOf n (l.take k) = acc at *
        go_wp2_with fail
        refine (HI1.out _).mono ?_
        rintro e w2 ⟨rfl, hb2⟩
        have hbx := hbel.alloc hB (.cells #[.string l[k].1, .string l[k].2] 102)
        have hbel2 := hbx.trans (hb2.mono hbx.size)
        have hown2 := (hown.alloc (.cells #[.string l[k].1, .string l[k].2] 102)).below hb2
        clear hown hbx hb2 hbel k1 k2
        go_wp2_with fail
        go_roundw
        case rel => exact ⟨k + 1, by omega, by go_num, hbel2, by rw [HV.out]; exact hown2⟩
        case measure => simp [intOf]; omega
      · have HI1 : Hid (∀ w, Calls Tryz.prog 106 #[.agg #[.string l[k].1, .string l[k].2], .string n] w fun e w' => e = .returned (.bool true) ∧ Below w.heap.size w w') := by
          intro w; have := HI w; rwa [show (l[k].1, l[k].2) = l[k] from rfl, hi] at this
        have HV : Hid (valsOf n (l.take (k + 1)) = valsOf n (l.take k) ++ [l[k].2]) := by show _ = _; rw [htk, valsOf_yes hi]
        clear HI hi htk
        generalize valsOf n (l.take k) = acc at *
        go_wp2_with fail
        refine (HI1.out _).mono ?_
        rintro e w2 ⟨rfl, hb2⟩
        have hbx := hbel.alloc hB (.cells #[.string l[k].1, .string l[k].2] 102)
        have hbel2 := hbx.trans (hb2.mono hbx.size)
        have hown2 := (hown.alloc (.cells #[.string l[k].1, .string l[k].2] 102)).below hb2
        have hc2 : w2.cell? ⟨wr.heap.size, 1, none⟩ = some (.string l[k].2) := (hb2.cell (p := ⟨wr.heap.size, 1, none⟩) (by simp)).trans (by simp [go_sem])
        have hB2 := hbel2.size
        clear hown hbx hb2 hbel k1 k2
        go_wp2_with (at_builtin; refine wpList_append_text w2 rfl _ _ rfl w.heap.size _ acc (by rfl) hown2 _ _ rfl ?q3 hB2 w.heap.size (Nat.le_refl _) w hbel2 ?_)
        case q3 => omega
        intro v' w3 hown3 hbel3
        clear hown2 hbel2 hB2 hc2
        go_wp2_with fail
        go_roundw
        case rel => exact ⟨k + 1, by omega, by go_num, hbel3, by rw [HV.out]; exact hown3⟩
        case measure => simp [intOf]; omega
    · obtain rfl : k = l.length := by omega
      rw [List.take_length] at hown
      go_wp2_with fail
      go_ret
      exact ⟨⟨_, rfl, hown⟩, hbel⟩

end Go.Proofs.YtaplkbkpgdpbaaaGreatDoor.Fvs

namespace Go.Proofs.YtaplkbkpgdpbaaaGreatDoor.Lnp
open Go.RowKit
open Go.Proofs.YtaplkbkpgdpbaaaGreatDoor.Fbs
open Go.Proofs.YtaplkbkpgdpbaaaGreatDoor.Ows
open Go.Proofs.YtaplkbkpgdpbaaaGreatDoor.Fdb
open Go.Proofs.YtaplkbkpgdpbaaaGreatDoor.Fvs
open Go.Proofs.YtaplkbkpgdpbaaaGreatDoor.Wgt (rdL ret_i)
open Go.Proofs.YtaplkbkpgdpbaaaGreatDoor.Mrk (TV RowT tv_of)
open Go.Proofs.YtaplkbkpgdpbaaaGreatDoor.Lsp (listO listL l3List_any Half)

theorem some_text {p : ByteArray} (h : p.size ≠ 0) : (p.toList == []) = false := Lsp.some_cmp h

set_option maxRecDepth 20000 in
set_option maxHeartbeats 3200000 in
theorem l4Length_any (a : Option Addr) (ca : Nat) (l : List (ByteArray × ByteArray)) (w : World) (lo hi : Nat) (hg : goodL l = true) (hz : SzF l) (ha : FV w a l lo hi) :
    Calls Tryz.prog 107 #[.slice a l.length ca] w fun e w' => e = .returned (.int .i64 (lnV l)) ∧ Below w.heap.size w w' := by
  have HV1 : Hid (Calls Tryz.prog 77 #[.slice a l.length ca, .string clen] w fun e w' => (∃ v, e = .returned v ∧ textsIn w' w.heap.size v (valsOf clen l)) ∧ Below w.heap.size w w') := l3Values_any a ca l clen w lo hi (by have := (goodL_all hg).1; omega) (by decide) hz ha
  have hlen : (valsOf clen l).length ≤ 40 := Nat.le_trans (valsOf_len clen l) (goodL_all hg).1
  have HVL : Hid _ := vals_list (n := clen) hg
  have HT : Hid (lnV l = lenV (valsOf clen l) (-1)) := rfl
  generalize lnV l = T at HT ⊢
  generalize valsOf clen l = vs at HV1 hlen HVL HT
  clear hg hz ha
  go_enter Tryz.func107, Tryz.ntmps107
  go_wp2_with fail
  refine (Calls.mono HV1.out ?_)
  rintro e w1 ⟨⟨v, rfl, hown⟩, hb1⟩
  obtain ⟨a1, c1, rfl, T1⟩ := tv_of hown
  clear hown
  go_wp2_with fail
  by_cases h0 : vs = []
  · subst h0
    have HT' : Hid (T = -1) := HT.out
    go_loop [3, 14] (fun n i => n = .int .i64 (-1) ∧ i = .int .i64 0) (fun _ _ => 0)
    case atStart => exact ⟨rfl, rfl⟩
    case round =>
      obtain ⟨rfl, rfl⟩ := hrel
      go_wp2_with fail
      go_ret
      exact ⟨ret_i HT'.out.symm, hb1⟩
  rcases T1 with T1 | ⟨g, rfl, _, _, ga⟩
  · exact absurd T1 h0
  have GA : Hid (RowT w1 g vs) := ga
  clear ga HV1
  go_loopw [3, 14] (fun n i wr => ∃ (k : Nat) (N : Int), k ≤ vs.length ∧ i = .int .i64 k ∧ n = .int .i64 N ∧ -1 ≤ N ∧ Below w1.heap.size w1 wr ∧ Hid (T = lenV (vs.drop k) N)) (fun _ i _ => vs.length - (intOf i).toNat)
  case atStart => exact ⟨0, -1, by omega, rfl, rfl, by omega, Below.refl _ _, HT⟩
  case round =>
    obtain ⟨k, N, hk, rfl, rfl, hN, hbel, HK⟩ := hrel
    have hbw := hb1.trans (hbel.mono hb1.size)
    by_cases hlt : k < vs.length
    · have hc := (GA.out.below hbel).2.2 k vs[k] (List.getElem?_eq_getElem hlt)
      obtain ⟨hlo, hs300⟩ := HVL.out vs[k] (List.getElem_mem hlt)
      have hdr : vs.drop k = vs[k] :: vs.drop (k + 1) := List.drop_eq_getElem_cons hlt
      have HK' : Hid (T = lenV (vs[k] :: vs.drop (k + 1)) N) := by show _ = _; rw [HK.out, hdr]
      have HLs : Hid _ := fun w => l3List_any vs[k] w (by omega)
      clear HK hdr
      cases ho : listO vs[k] with
      | none =>
        have HR : Hid (T = -2) := HK'.out.trans (lenV_none ho)
        rw [← hlo, ho] at HLs
        clear HK' hlo hs300 ho
        go_wp2_with fail
        refine (HLs.out _).mono ?_
        rintro e w2 ⟨⟨v, ok, rfl, hok⟩, hb2⟩
        obtain rfl : ok = false := hok
        have hbw2 := hbw.trans (hb2.mono hbw.size)
        go_wp2_with fail
        go_ret
        exact ⟨ret_i HR.out.symm, hbw2⟩
      | some ps =>
        have hcl := listO_sz ho
        have hne := listL_some (hlo.symm.trans ho)
        rw [← hlo, ho] at HLs
        by_cases hp0 : ps = []
        · subst hp0
          have HR : Hid (T = -2) := HK'.out.trans (lenV_empty ho)
          clear HK' hlo hs300 ho hcl hne
          go_wp2_with fail
          refine (HLs.out _).mono ?_
          rintro e w2 ⟨⟨v, ok, rfl, hok⟩, hb2⟩
          obtain ⟨rfl, hown⟩ := hok
          obtain ⟨a2, c2, rfl, _⟩ := tv_of hown
          have hbw2 := hbw.trans (hb2.mono hbw.size)
          clear hown
          go_wp2_with fail
          go_ret
          exact ⟨ret_i HR.out.symm, hbw2⟩
        · have HB : Hid (lenF ps N = -2 → T = -2) := fun h => HK'.out.trans (lenV_bad ho h)
          have HG : Hid (lenF ps N ≠ -2 → T = lenV (vs.drop (k + 1)) (lenF ps N)) := fun h => HK'.out.trans (lenV_go ho hp0 h)
          have hp1 := List.length_pos_iff.2 hp0
          have hpz : ((ps.length : Int) == 0) = false := by rw [beq_eq_false_iff_ne]; omega
          clear HK' hlo hs300 ho
          go_wp2_with fail
          refine (HLs.out _).mono ?_
          rintro e w2 ⟨⟨v, ok, rfl, hok⟩, hb2⟩
          obtain ⟨rfl, hown⟩ := hok
          have hpl : ps.length ≤ 9223372036854775807 := by
            obtain ⟨_, _, _, h1, h2, _⟩ := textsIn.form hown
            unfold maxLen at h2
            omega
          obtain ⟨a2, c2, rfl, T2⟩ := tv_of hown
          have hbel2 := hbel.trans (hb2.mono hbel.size)
          rcases T2 with T2 | ⟨g2, rfl, _, _, gb⟩
          · exact absurd T2 hp0
          have GB : Hid (RowT w2 g2 ps) := gb
          have HCL : Hid _ := hcl
          have HNE : Hid _ := hne
          clear hown gb hb2 hbw hcl hne HLs hp0 hc
          go_wp2_with fail
          go_loopw [3, 32] (fun n i wq => ∃ (j : Nat) (M : Int), j ≤ ps.length ∧ i = .int .i64 j ∧ n = .int .i64 M ∧ -1 ≤ M ∧ Below w2.heap.size w2 wq ∧ Hid (lenF ps N = lenF (ps.drop j) M)) (fun _ i _ => ps.length - (intOf i).toNat)
          case atStart => exact ⟨0, N, by omega, rfl, rfl, hN, Below.refl _ _, rfl⟩
          case round =>
            obtain ⟨j, M, hj, rfl, rfl, hM, hbq, HJ⟩ := hrel
            have hbq1 := hbel2.trans (hbq.mono hbel2.size)
            have hbq0 := hb1.trans (hbq1.mono hb1.size)
            by_cases hjt : j < ps.length
            · have hx := (GB.out.below hbq).2.2 j ps[j] (List.getElem?_eq_getElem hjt)
              have hsz := HCL.out ps[j] (List.getElem_mem hjt)
              have hnz := some_text (HNE.out ps[j] (List.getElem_mem hjt))
              have HJ' : Hid (lenF ps N = lenF (ps[j] :: ps.drop (j + 1)) M) := by show _ = _; rw [HJ.out, List.drop_eq_getElem_cons hjt]
              clear HJ
              by_cases h9 : 9 < ps[j].size
              · have hm : numS ps[j] = -1 := by unfold numS; rw [if_neg (by omega)]
                have HR : Hid (T = -2) := HB.out (HJ'.out.trans (lenF_bad (.inl (by omega))))
                have HNu : Hid _ := fun w => l2Num_long ps[j] w hsz
                have hd9 : decide (9 < (ps[j].size : Int)) = true := decide_eq_true (by omega)
                clear hm HJ' HB HG hsz
                go_wp2_with fail
                refine (HNu.out _).mono ?_
                rintro e w3 ⟨⟨v, rfl⟩, hw⟩
                obtain rfl := hw.symm
                by_cases hv : v < 0
                · have hdv : decide (v < 0) = true := decide_eq_true hv
                  go_wp2_with fail
                  go_ret
                  exact ⟨ret_i HR.out.symm, hbq0⟩
                · have hdv : decide (v < 0) = false := decide_eq_false hv
                  go_wp2_with fail
                  go_ret
                  exact ⟨ret_i HR.out.symm, hbq0⟩
              · have hm : rdL ps[j].data.toList 0 = numS ps[j] := by unfold numS; rw [if_pos (by omega)]
                have HNu : Hid _ := fun w => l2Num_small ps[j] w (by omega)
                rw [hm] at HNu
                have hd9 : decide (9 < (ps[j].size : Int)) = false := decide_eq_false (by omega)
                clear hm
                have HBAD : Hid ((numS ps[j] < 0 ∨ (0 ≤ M ∧ M ≠ numS ps[j])) → T = -2) := fun h => HB.out (HJ'.out.trans (lenF_bad h))
                have HGO : Hid (¬ (numS ps[j] < 0 ∨ (0 ≤ M ∧ M ≠ numS ps[j])) → lenF ps N = lenF (ps.drop (j + 1)) (numS ps[j])) := fun h => HJ'.out.trans (lenF_go h)
                clear HJ'
                generalize numS ps[j] = K at *
                by_cases hK : K < 0
                · have hdk : decide (K < 0) = true := decide_eq_true hK
                  have HR : Hid (T = -2) := HBAD.out (.inl hK)
                  clear HBAD HGO
                  go_wp2_with fail
                  refine (HNu.out _).mono ?_
                  rintro e w3 ⟨rfl, hw⟩
                  obtain rfl := hw.symm
                  go_wp2_with fail
                  go_ret
                  exact ⟨ret_i HR.out.symm, hbq0⟩
                · have hdk : decide (K < 0) = false := decide_eq_false hK
                  by_cases hM0 : 0 ≤ M
                  · have hdm : decide (0 ≤ M) = true := decide_eq_true hM0
                    by_cases hMK : M = K
                    · have hde : (M == K) = true := by rw [beq_iff_eq]; exact hMK
                      have HR : Hid (lenF ps N = lenF (ps.drop (j + 1)) K) := HGO.out (by omega)
                      clear HBAD HGO
                      go_wp2_with fail
                      refine (HNu.out _).mono ?_
                      rintro e w3 ⟨rfl, hw⟩
                      obtain rfl := hw.symm
                      go_wp2_with fail
                      go_roundw
                      case rel => exact ⟨j + 1, K, by omega, by go_num, rfl, by omega, hbq, HR⟩
                      case measure => simp [intOf]; omega
                    · have hde : (M == K) = false := by rw [beq_eq_false_iff_ne]; exact hMK
                      have HR : Hid (T = -2) := HBAD.out (.inr ⟨hM0, hMK⟩)
                      clear HBAD HGO
                      go_wp2_with fail
                      refine (HNu.out _).mono ?_
                      rintro e w3 ⟨rfl, hw⟩
                      obtain rfl := hw.symm
                      go_wp2_with fail
                      go_ret
                      exact ⟨ret_i HR.out.symm, hbq0⟩
                  · have hdm : decide (0 ≤ M) = false := decide_eq_false hM0
                    have HR : Hid (lenF ps N = lenF (ps.drop (j + 1)) K) := HGO.out (by omega)
                    clear HBAD HGO
                    go_wp2_with fail
                    refine (HNu.out _).mono ?_
                    rintro e w3 ⟨rfl, hw⟩
                    obtain rfl := hw.symm
                    go_wp2_with fail
                    go_roundw
                    case rel => exact ⟨j + 1, K, by omega, by go_num, rfl, by omega, hbq, HR⟩
                    case measure => simp [intOf]; omega
            · have HE : Hid (lenF ps N = M) := by
                show _ = _
                rw [HJ.out, List.drop_eq_nil_of_le (by omega)]; rfl
              have HR : Hid (T = lenV (vs.drop (k + 1)) M) := by
                show _ = _
                rw [HG.out (by rw [HE.out]; omega), HE.out]
              clear HJ HB HG
              go_wp2_with fail
              go_roundw
              case rel => exact ⟨k + 1, M, by omega, by go_num, rfl, hM, hbq1, HR⟩
              case measure => simp [intOf]; omega
    · have HR : Hid (T = N) := by
        show _ = _
        rw [HK.out, List.drop_eq_nil_of_le (by omega)]; rfl
      go_wp2_with fail
      go_ret
      exact ⟨ret_i HR.out.symm, hbw⟩

end Go.Proofs.YtaplkbkpgdpbaaaGreatDoor.Lnp

namespace Go.Proofs.YtaplkbkpgdpbaaaGreatDoor.Rqb
open Go.RowKit
open Go.Proofs.YtaplkbkpgdpbaaaGreatDoor.Fbs
open Go.Proofs.YtaplkbkpgdpbaaaGreatDoor.Fch
open Go.Proofs.YtaplkbkpgdpbaaaGreatDoor.Ows
open Go.Proofs.YtaplkbkpgdpbaaaGreatDoor.Fdb
open Go.Proofs.YtaplkbkpgdpbaaaGreatDoor.Fvs
open Go.Proofs.YtaplkbkpgdpbaaaGreatDoor.Lnp (lnV clen l4Length_any)
open Go.Proofs.YtaplkbkpgdpbaaaGreatDoor.Mrk (TV RowT tv_of)

/-- A byte that can be seen. -/
def solidB (b : Int) : Bool := decide (33 ≤ b) && decide (b ≤ 126)
def solidL (l : List UInt8) : Bool := l.all (fun c => solidB (c.toNat : Int))
def tgtB (s : ByteArray) : Bool := solidL s.data.toList && (decide ((1 : Int) ≤ (s.size : Int)) && decide ((s.size : Int) ≤ 200))
def mthB (s : ByteArray) : Bool := tokenB s.data.toList && decide ((s.size : Int) ≤ 10)
def rsnB (s : ByteArray) : Bool := plainB s.data.toList && decide ((s.size : Int) ≤ 40)

theorem l4Target_any (s : ByteArray) (w : World) (hs : s.size ≤ 2000000) :
    Calls Tryz.prog 63 #[.string s] w fun e w' => e = .returned (.bool (tgtB s)) ∧ w' = w := by
  have C := l1In_any s.size 1 200 w
  go_enter Tryz.func63, Tryz.ntmps63
  go_wp2
  go_loop [3] (fun i => ∃ k : Nat, k ≤ s.size ∧ i = .int .i64 k ∧ Hid (∀ j, j < k → solidB ((s.data.toList[j]?.getD 0).toNat : Int) = true)) (fun i => s.size - (intOf i).toNat)
  case atStart => exact ⟨0, by omega, rfl, fun j hj => absurd hj (by omega)⟩
  case round =>
    obtain ⟨k, hk, rfl, HA⟩ := hrel
    by_cases hlt : k < s.size
    · have e0 := at_list s k hlt
      by_cases hf : 33 ≤ (s[k].toNat : Int) ∧ (s[k].toNat : Int) ≤ 126
      · have HA' : Hid (∀ j, j < k + 1 → solidB ((s.data.toList[j]?.getD 0).toNat : Int) = true) := by
          intro j hj
          by_cases hjk : j = k
          · subst hjk; rw [e0]; unfold solidB; rw [decide_eq_true hf.1, decide_eq_true hf.2]; rfl
          · exact HA.out j (by omega)
        clear HA e0
        obtain ⟨f1, f2⟩ := hf
        go_wp2
        go_round
        case rel => exact ⟨k + 1, by omega, by go_num, HA'⟩
        case measure => simp [intOf]; omega
      · have HF : Hid (tgtB s = false) := by
          show _ = _
          unfold tgtB solidL
          rw [all_no (k := k) (by rw [len_list]; exact hlt) ?_, Bool.false_and]
          rw [e0]; unfold solidB
          rcases (show ¬ 33 ≤ (s[k].toNat : Int) ∨ ¬ (s[k].toNat : Int) ≤ 126 from by omega) with h | h
          · rw [decide_eq_false h]; rfl
          · rw [decide_eq_false h]; simp
        clear HA e0
        rcases (show (s[k].toNat : Int) < 33 ∨ 126 < (s[k].toNat : Int) from by omega) with h | h
        all_goals
          clear hf
          go_wp2
          go_ret
          exact ⟨ret_bool HF.out.symm, rfl⟩
    · have HF : Hid (tgtB s = (decide ((1 : Int) ≤ (s.size : Int)) && decide ((s.size : Int) ≤ 200))) := by
        show _ = _
        unfold tgtB solidL
        rw [all_yes (fun j hj => HA.out j (by rw [len_list] at hj; omega)), Bool.true_and]
      clear HA
      rw [← HF.out] at C
      clear HF
      go_wp2_with (go_at_call 67; refine C.mono ?_; rintro e w' ⟨rfl, hw⟩; obtain rfl := hw.symm)
      go_ret
      exact ⟨rfl, rfl⟩

theorem l4Method_any (s : ByteArray) (w : World) (hs : s.size ≤ 2000000) :
    Calls Tryz.prog 62 #[.string s] w fun e w' => e = .returned (.bool (mthB s)) ∧ w' = w := by
  have C := l3Token_any s w hs
  unfold mthB
  cases ht : tokenB s.data.toList
  · rw [ht] at C
    go_enter Tryz.func62, Tryz.ntmps62
    go_wp2_with (go_at_call 103; refine C.mono ?_; rintro e w' ⟨rfl, hw⟩; obtain rfl := hw.symm)
    go_ret
    exact ⟨rfl, rfl⟩
  · rw [ht] at C
    rw [Bool.true_and]
    go_enter Tryz.func62, Tryz.ntmps62
    go_wp2_with (go_at_call 103; refine C.mono ?_; rintro e w' ⟨rfl, hw⟩; obtain rfl := hw.symm)
    go_ret
    exact ⟨rfl, rfl⟩

theorem l4Reason_any (s : ByteArray) (w : World) (hs : s.size ≤ 2000000) :
    Calls Tryz.prog 68 #[.string s] w fun e w' => e = .returned (.bool (rsnB s)) ∧ w' = w := by
  have C := l3Printed_any s w hs
  unfold rsnB
  cases ht : plainB s.data.toList
  · rw [ht] at C
    go_enter Tryz.func68, Tryz.ntmps68
    go_wp2_with (go_at_call 109; refine C.mono ?_; rintro e w' ⟨rfl, hw⟩; obtain rfl := hw.symm)
    go_ret
    exact ⟨rfl, rfl⟩
  · rw [ht] at C
    rw [Bool.true_and]
    go_enter Tryz.func68, Tryz.ntmps68
    go_wp2_with (go_at_call 109; refine C.mono ?_; rintro e w' ⟨rfl, hw⟩; obtain rfl := hw.symm)
    go_ret
    exact ⟨rfl, rfl⟩

def tenc : ByteArray := ⟨#[116, 114, 97, 110, 115, 102, 101, 114, 45, 101, 110, 99, 111, 100, 105, 110, 103]⟩
/-- How long a body is told to be. -/
def lnN (l : List (ByteArray × ByteArray)) : Int := if lnV l = -1 then 0 else lnV l
/-- The first fault of fields and a body, 0 for none. -/
def fbC (l : List (ByteArray × ByteArray)) (B : ByteArray) : Int :=
  if goodL l = false then 3 else if valsOf tenc l ≠ [] then 3 else if lnV l = -2 then 4 else if 300 < lnN l then 4 else if (B.size : Int) ≠ lnN l then 1 else 0
/-- Whether a body is as fields tell. -/
def frB (l : List (ByteArray × ByteArray)) (B : ByteArray) : Bool := decide (lnN l = (B.size : Int)) && (decide ((B.size : Int) ≤ 300) && decide (valsOf tenc l = []))
theorem fr_fb (l : List (ByteArray × ByteArray)) (B : ByteArray) : (goodL l && frB l B) = decide (fbC l B = 0) := by
  unfold frB fbC
  cases hg : goodL l
  · simp
  · rw [if_neg (by simp), Bool.true_and]
    by_cases hv : valsOf tenc l = []
    · rw [if_neg (by simp [hv]), decide_eq_true hv, Bool.and_true]
      by_cases h2 : lnV l = -2
      · have e : lnN l = -2 := by unfold lnN; rw [if_neg (by omega), h2]
        rw [if_pos h2, e, decide_eq_false (by omega)]
        rfl
      · rw [if_neg h2]
        by_cases h3 : 300 < lnN l
        · rw [if_pos h3]
          by_cases h4 : lnN l = (B.size : Int)
          · rw [decide_eq_false (show ¬ (B.size : Int) ≤ 300 from by omega), Bool.and_false]; rfl
          · rw [decide_eq_false h4]; rfl
        · rw [if_neg h3]
          by_cases h4 : lnN l = (B.size : Int)
          · rw [if_neg (by omega), decide_eq_true h4, decide_eq_true (by omega)]; rfl
          · rw [if_pos (by omega), decide_eq_false h4]; rfl
    · rw [if_pos hv, decide_eq_false hv, Bool.and_false, Bool.and_false]; rfl

set_option maxHeartbeats 1600000 in
theorem l4Framed_any (a : Option Addr) (ca : Nat) (l : List (ByteArray × ByteArray)) (B : ByteArray) (w : World) (lo hi : Nat) (hg : goodL l = true) (hz : SzF l) (ha : FV w a l lo hi) :
    Calls Tryz.prog 71 #[.slice a l.length ca, .string B] w fun e w' => e = .returned (.bool (frB l B)) ∧ Below w.heap.size w w' := by
  have HL : Hid _ := fun w h => l4Length_any a ca l w lo hi hg hz h
  have HV : Hid _ := fun w h => l3Values_any a ca l tenc w lo hi (by have := (goodL_all hg).1; omega) (by decide) hz h
  have hlen : (valsOf tenc l).length ≤ 40 := Nat.le_trans (valsOf_len tenc l) (goodL_all hg).1
  have HA : Hid (∀ w', Below w.heap.size w w' → FV w' a l lo hi) := fun _ h => ha.below h
  have HF : Hid (frB l B = (decide (lnN l = (B.size : Int)) && (decide ((B.size : Int) ≤ 300) && decide (valsOf tenc l = [])))) := rfl
  generalize frB l B = F at HF ⊢
  generalize valsOf tenc l = vs at HV hlen HF
  have hb0 : B.size ≤ 300 ∨ 300 < B.size := by omega
  rcases (show (lnV l = -1 ∧ lnN l = 0) ∨ (lnV l ≠ -1 ∧ lnN l = lnV l) from by unfold lnN; by_cases h : lnV l = -1 <;> simp [h]) with ⟨h1, hN⟩ | ⟨h1, hN⟩
  · rw [h1] at HL
    rw [hN] at HF
    clear h1 hN hg hz
    by_cases hq : (0 : Int) = (B.size : Int)
    · have he : ((0 : Int) == (B.size : Int)) = true := by rw [beq_iff_eq]; exact hq
      have hB : decide ((B.size : Int) ≤ 300) = true := decide_eq_true (by omega)
      have HR : Hid (F = decide (vs = [])) := HF.out.trans (by rw [decide_eq_true hq, hB]; rfl)
      clear HF hq
      go_enter Tryz.func71, Tryz.ntmps71
      go_wp2_with fail
      refine (HL.out _ ha).mono ?_
      rintro e w1 ⟨rfl, hb1⟩
      have ha1 := HA.out _ hb1
      go_wp2_with fail
      refine (HV.out _ ha1).mono ?_
      rintro e w2 ⟨⟨v, rfl, hown⟩, hb2⟩
      obtain ⟨a2, c2, rfl, _⟩ := tv_of hown
      have hb12 := hb1.trans (hb2.mono hb1.size)
      have hv : ((vs.length : Int) == 0) = decide (vs = []) := by
        rw [Bool.eq_iff_iff, beq_iff_eq, decide_eq_true_eq, ← List.length_eq_zero_iff]; omega
      go_wp2_with fail
      go_ret
      exact ⟨ret_bool (by first | exact HR.out.symm | exact hv.trans HR.out.symm), hb12⟩
    · have he : ((0 : Int) == (B.size : Int)) = false := by rw [beq_eq_false_iff_ne]; exact hq
      have HR : Hid (F = false) := HF.out.trans (by rw [decide_eq_false hq]; rfl)
      clear HF
      go_enter Tryz.func71, Tryz.ntmps71
      go_wp2_with fail
      refine (HL.out _ ha).mono ?_
      rintro e w1 ⟨rfl, hb1⟩
      go_wp2_with fail
      go_ret
      exact ⟨ret_bool HR.out.symm, hb1⟩
  · rw [hN] at HF
    have hq1 : (lnV l == -1) = false := by rw [beq_eq_false_iff_ne]; exact h1
    clear h1 hN hg hz
    generalize lnV l = T at HL HF hq1
    by_cases hq : T = (B.size : Int)
    · have he : (T == (B.size : Int)) = true := by rw [beq_iff_eq]; exact hq
      by_cases h3 : (B.size : Int) ≤ 300
      · have hB : decide ((B.size : Int) ≤ 300) = true := decide_eq_true h3
        have HR : Hid (F = decide (vs = [])) := HF.out.trans (by rw [decide_eq_true hq, hB]; rfl)
        clear HF
        go_enter Tryz.func71, Tryz.ntmps71
        go_wp2_with fail
        refine (HL.out _ ha).mono ?_
        rintro e w1 ⟨rfl, hb1⟩
        have ha1 := HA.out _ hb1
        go_wp2_with fail
        refine (HV.out _ ha1).mono ?_
        rintro e w2 ⟨⟨v, rfl, hown⟩, hb2⟩
        obtain ⟨a2, c2, rfl, _⟩ := tv_of hown
        have hb12 := hb1.trans (hb2.mono hb1.size)
        have hv : ((vs.length : Int) == 0) = decide (vs = []) := by
          rw [Bool.eq_iff_iff, beq_iff_eq, decide_eq_true_eq, ← List.length_eq_zero_iff]; omega
        go_wp2_with fail
        go_ret
        exact ⟨ret_bool (by first | exact HR.out.symm | exact hv.trans HR.out.symm), hb12⟩
      · have hB : decide ((B.size : Int) ≤ 300) = false := decide_eq_false h3
        have HR : Hid (F = false) := HF.out.trans (by rw [decide_eq_true hq, hB]; rfl)
        clear HF
        go_enter Tryz.func71, Tryz.ntmps71
        go_wp2_with fail
        refine (HL.out _ ha).mono ?_
        rintro e w1 ⟨rfl, hb1⟩
        go_wp2_with fail
        go_ret
        exact ⟨ret_bool HR.out.symm, hb1⟩
    · have he : (T == (B.size : Int)) = false := by rw [beq_eq_false_iff_ne]; exact hq
      have HR : Hid (F = false) := HF.out.trans (by rw [decide_eq_false hq]; rfl)
      clear HF
      go_enter Tryz.func71, Tryz.ntmps71
      go_wp2_with fail
      refine (HL.out _ ha).mono ?_
      rintro e w1 ⟨rfl, hb1⟩
      go_wp2_with fail
      go_ret
      exact ⟨ret_bool HR.out.symm, hb1⟩

end Go.Proofs.YtaplkbkpgdpbaaaGreatDoor.Rqb

namespace Go.Proofs.YtaplkbkpgdpbaaaGreatDoor.Rqb
open Go.RowKit
open Go.Proofs.YtaplkbkpgdpbaaaGreatDoor.Fbs
open Go.Proofs.YtaplkbkpgdpbaaaGreatDoor.Fdb
open Go.Proofs.YtaplkbkpgdpbaaaGreatDoor.Fvs

def crlf : ByteArray := ⟨#[13, 10]⟩
def colon : ByteArray := ⟨#[58, 32]⟩
/-- A field's line. -/
def lineS (c : ByteArray × ByteArray) : ByteArray := c.1 ++ colon ++ c.2
def rowsS (f : ByteArray) (l : List (ByteArray × ByteArray)) : ByteArray := l.foldl (fun s c => s ++ (lineS c ++ crlf)) (f ++ crlf)
/-- A head: its first line, its fields' lines, an empty one. -/
def headS (f : ByteArray) (l : List (ByteArray × ByteArray)) : ByteArray := rowsS f l ++ crlf
theorem rows_snoc (f : ByteArray) (l : List (ByteArray × ByteArray)) (c : ByteArray × ByteArray) : rowsS f (l ++ [c]) = rowsS f l ++ (lineS c ++ crlf) := by
  unfold rowsS; rw [List.foldl_append]; rfl
theorem bapp_assoc (a b c : ByteArray) : a ++ b ++ c = a ++ (b ++ c) := by apply ByteArray.ext; simp [Array.append_assoc]
theorem rows_tail : ∀ (l : List (ByteArray × ByteArray)) (s : ByteArray), (l.foldl (fun s c => s ++ (lineS c ++ crlf)) (s ++ crlf)).data.toList = s.data.toList ++ Lib.joinTail crlf.data.toList (l.map fun c => (lineS c).data.toList) ++ crlf.data.toList
  | [], s => by simp [Lib.joinTail]
  | c :: r, s => by
    rw [List.foldl_cons, show s ++ crlf ++ (lineS c ++ crlf) = (s ++ crlf ++ lineS c) ++ crlf from by simp only [bapp_assoc], rows_tail r]
    simp [Lib.joinTail, List.append_assoc]
/-- The lines joined, as the program tells them. -/
theorem head_join (f : ByteArray) (l : List (ByteArray × ByteArray)) : (⟨(Lib.join ((f :: l.map lineS).map (·.data.toList)) crlf.data.toList).toArray⟩ : ByteArray) ++ crlf ++ crlf = headS f l := by
  unfold headS
  congr 1
  apply ByteArray.ext
  apply Array.ext'
  have h := rows_tail l f
  unfold rowsS
  rw [h, List.map_cons, Lib.join_cons, List.map_map]
  simp [Function.comp_def]

set_option maxHeartbeats 1600000 in
theorem l4Head_any (f : ByteArray) (a : Option Addr) (ca : Nat) (l : List (ByteArray × ByteArray)) (w : World) (lo hi : Nat) (hf : f.size ≤ 8000000) (hl : l.length ≤ 40) (hz : SzF l) (ha : FV w a l lo hi) :
    Calls Tryz.prog 46 #[.string f, .slice a l.length ca] w fun e w' => e = .returned (.string (headS f l)) ∧ Below w.heap.size w w' := by
  have c2 : (⟨#[13, 10]⟩ : ByteArray).size = 2 := rfl
  have c3 : (⟨#[58, 32]⟩ : ByteArray).size = 2 := rfl
  have hs0 : ¬ 9223372036854775807 < f.size + (⟨#[13, 10]⟩ : ByteArray).size := by rw [c2]; omega
  have hs1 : (f ++ (⟨#[13, 10]⟩ : ByteArray)).size = f.size + 2 := by rw [ByteArray.size_append, c2]
  by_cases h0 : l = []
  · subst h0
    have hs2 : ¬ 9223372036854775807 < (f ++ (⟨#[13, 10]⟩ : ByteArray)).size + (⟨#[13, 10]⟩ : ByteArray).size := by rw [hs1, c2]; omega
    go_enter Tryz.func46, Tryz.ntmps46
    go_wp2_with fail
    go_loop [5, 12] (fun o i => o = .string (f ++ ⟨#[13, 10]⟩) ∧ i = .int .i64 0) (fun _ _ => 0)
    case atStart => exact ⟨rfl, rfl⟩
    case round =>
      obtain ⟨rfl, rfl⟩ := hrel
      go_wp2_with fail
      go_ret
      exact ⟨rfl, Below.refl _ _⟩
  rcases ha with ha | ⟨g, rfl, _, _, ga⟩
  · exact absurd ha h0
  have GA : Hid (RowF w g l) := ga
  clear ga
  go_enter Tryz.func46, Tryz.ntmps46
  go_wp2_with fail
  go_loopw [5, 12] (fun o i wr => ∃ (k : Nat) (S : ByteArray), k ≤ l.length ∧ i = .int .i64 k ∧ o = .string S ∧ S.size ≤ 8000002 + k * 4000004 ∧ Below w.heap.size w wr ∧ Hid (S = rowsS f (l.take k))) (fun _ i _ => l.length - (intOf i).toNat)
  case atStart => exact ⟨0, _, by omega, rfl, rfl, by omega, Below.refl _ _, rfl⟩
  case round =>
    obtain ⟨k, S, hk, rfl, rfl, hS, hbel, HB⟩ := hrel
    by_cases hlt : k < l.length
    · obtain ⟨k1, k2⟩ := (GA.out.below hbel).2.2 k l[k] (List.getElem?_eq_getElem hlt)
      obtain ⟨z1, z2⟩ := hz l[k] (List.getElem_mem hlt)
      have HB' : Hid (S ++ (lineS l[k] ++ crlf) = rowsS f (l.take (k + 1))) := by
        show _ = _
        rw [List.take_succ_eq_append_getElem hlt, rows_snoc, ← HB.out]
      unfold lineS colon crlf at HB'
      generalize l[k] = c at *
      obtain ⟨X, Y⟩ := c
      dsimp only at k1 k2 z1 z2 HB'
      have q1 : ¬ 9223372036854775807 < X.size + (⟨#[58, 32]⟩ : ByteArray).size := by rw [c3]; omega
      have e1 : (X ++ (⟨#[58, 32]⟩ : ByteArray)).size = X.size + 2 := by rw [ByteArray.size_append, c3]
      have q2 : ¬ 9223372036854775807 < (X ++ (⟨#[58, 32]⟩ : ByteArray)).size + Y.size := by rw [e1]; omega
      have e2 : (X ++ (⟨#[58, 32]⟩ : ByteArray) ++ Y).size = X.size + 2 + Y.size := by rw [ByteArray.size_append, e1]
      have q3 : ¬ 9223372036854775807 < (X ++ (⟨#[58, 32]⟩ : ByteArray) ++ Y).size + (⟨#[13, 10]⟩ : ByteArray).size := by rw [e2, c2]; omega
      have e3 : (X ++ (⟨#[58, 32]⟩ : ByteArray) ++ Y ++ (⟨#[13, 10]⟩ : ByteArray)).size = X.size + 2 + Y.size + 2 := by rw [ByteArray.size_append, e2, c2]
      have q4 : ¬ 9223372036854775807 < S.size + (X ++ (⟨#[58, 32]⟩ : ByteArray) ++ Y ++ (⟨#[13, 10]⟩ : ByteArray)).size := by rw [e3]; omega
      have e4 : (S ++ (X ++ (⟨#[58, 32]⟩ : ByteArray) ++ Y ++ (⟨#[13, 10]⟩ : ByteArray))).size ≤ 8000002 + (k + 1) * 4000004 := by rw [ByteArray.size_append, e3]; omega
      clear HB e1 e2 e3 hs0 hs1
      go_wp2_with fail
      go_roundw
      case rel => exact ⟨k + 1, _, by omega, by go_num, rfl, e4, hbel.alloc hbel.size _, HB'⟩
      case measure => simp [intOf]; omega
    · obtain rfl : k = l.length := by omega
      have HB' : Hid (S ++ (⟨#[13, 10]⟩ : ByteArray) = headS f l) := by
        show _ = _
        rw [HB.out, List.take_length]; rfl
      clear HB
      have q5 : ¬ 9223372036854775807 < S.size + (⟨#[13, 10]⟩ : ByteArray).size := by rw [c2]; omega
      go_wp2_with fail
      go_ret
      exact ⟨ret_str HB'.out, hbel⟩

end Go.Proofs.YtaplkbkpgdpbaaaGreatDoor.Rqb

namespace Go.Proofs.YtaplkbkpgdpbaaaGreatDoor.Tor
open Go.RowKit
open Go.Lib
open Go.Proofs.YtaplkbkpgdpbaaaGreatDoor.Hdl
open Go.Proofs.YtaplkbkpgdpbaaaGreatDoor.Rqb

theorem idx_line : ∀ (L r : List UInt8), (∀ c ∈ L, c ≠ 13) → index (L ++ 13 :: 10 :: r) C = L.length
  | [], r, _ => by
    show index (13 :: 10 :: r) C = 0
    unfold index
    rw [if_pos (by simp [C])]
  | c :: L, r, h => by
    have ih := idx_line L r (fun x hx => h x (by simp [hx]))
    have hc := h c (by simp)
    show index (c :: (L ++ 13 :: 10 :: r)) C = _
    unfold index
    have hp : C.isPrefixOf (c :: (L ++ 13 :: 10 :: r)) = false := by
      show ((13 : UInt8) == c && _) = false
      rw [show ((13 : UInt8) == c) = false from beq_eq_false_iff_ne.2 (fun e => hc e.symm)]
      rfl
    rw [if_neg (by rw [hp]; decide), ih, if_neg (by simp)]
    simp

/-- Lines, each with its end. -/
def fl (Ls : List (List UInt8)) : List UInt8 := Ls.flatMap (fun L => L ++ [13, 10])
theorem fl_cons (L : List UInt8) (Ls : List (List UInt8)) (r : List UInt8) : fl (L :: Ls) ++ r = L ++ 13 :: 10 :: (fl Ls ++ r) := by simp [fl]
theorem head_rest : ∀ (Ls : List (List UInt8)) (r : List UInt8) (f : Nat), (∀ L ∈ Ls, L ≠ [] ∧ ∀ c ∈ L, c ≠ 13) → Ls.length < f → headL f (fl Ls ++ 13 :: 10 :: r) false = some (Ls, (fl Ls).length + 2)
  | [], r, f, _, hf => by
    obtain ⟨f, rfl⟩ : ∃ f', f = f' + 1 := ⟨f - 1, by simp at hf; omega⟩
    have h0 := idx_line [] r (by simp)
    show headL (f + 1) (13 :: 10 :: r) false = _
    have h0 : index (13 :: 10 :: r) C = 0 := h0
    unfold headL
    rw [h0, if_neg (by decide), if_pos ⟨rfl, rfl⟩]
    rfl
  | L :: Ls, r, f, h, hf => by
    obtain ⟨f, rfl⟩ : ∃ f', f = f' + 1 := ⟨f - 1, by simp at hf; omega⟩
    obtain ⟨hn, hc⟩ := h L (by simp)
    have hi := idx_line L (fl Ls ++ 13 :: 10 :: r) hc
    have ih := head_rest Ls r f (fun x hx => h x (by simp [hx])) (by simp at hf; omega)
    have hp := List.length_pos_iff.2 hn
    rw [fl_cons]
    unfold headL
    rw [hi, if_neg (by omega), if_neg (by omega), Int.toNat_natCast]
    have e1 : (L ++ 13 :: 10 :: (fl Ls ++ 13 :: 10 :: r)).drop (L.length + 2) = fl Ls ++ 13 :: 10 :: r := by
      rw [← List.drop_drop, List.drop_left]; rfl
    have e2 : (L ++ 13 :: 10 :: (fl Ls ++ 13 :: 10 :: r)).take L.length = L := List.take_left
    rw [e1, e2, ih]
    simp [fl]; omega
theorem head_all (L0 : List UInt8) (Ls : List (List UInt8)) (r : List UInt8) (h0 : ∀ c ∈ L0, c ≠ 13) (h : ∀ L ∈ Ls, L ≠ [] ∧ ∀ c ∈ L, c ≠ 13) :
    headF (fl (L0 :: Ls) ++ 13 :: 10 :: r) = some (L0 :: Ls, (fl (L0 :: Ls)).length + 2) := by
  have hlen : ∀ Ls : List (List UInt8), Ls.length ≤ (fl Ls).length := by
    intro Ls
    induction Ls with
    | nil => exact Nat.zero_le _
    | cons L Ls ih =>
      have : fl (L :: Ls) = L ++ [13, 10] ++ fl Ls := by simp [fl]
      rw [this]; simp; omega
  have hi := idx_line L0 (fl Ls ++ 13 :: 10 :: r) h0
  rw [← head_same ((fl (L0 :: Ls) ++ 13 :: 10 :: r).length + 1) _ (Nat.lt_succ_self _)]
  have hl := hlen Ls
  have ih := head_rest Ls r (fl (L0 :: Ls) ++ 13 :: 10 :: r).length h (by rw [fl_cons]; simp; omega)
  rw [fl_cons] at ih ⊢
  unfold headL
  rw [hi, if_neg (by omega), if_neg (by simp), Int.toNat_natCast]
  have e1 : (L0 ++ 13 :: 10 :: (fl Ls ++ 13 :: 10 :: r)).drop (L0.length + 2) = fl Ls ++ 13 :: 10 :: r := by
    rw [← List.drop_drop, List.drop_left]; rfl
  have e2 : (L0 ++ 13 :: 10 :: (fl Ls ++ 13 :: 10 :: r)).take L0.length = L0 := List.take_left
  rw [e1, e2, ih]
  simp [fl]; omega

/-- The bytes of a head. -/
theorem head_data (f : ByteArray) (l : List (ByteArray × ByteArray)) : (headS f l).data.toList = fl (f.data.toList :: l.map fun c => (lineS c).data.toList) ++ [13, 10] := by
  have h := rows_tail l f
  unfold headS rowsS
  rw [ByteArray.data_append, Array.toList_append, h]
  have hj : ∀ Ls : List (List UInt8), joinTail [13, 10] Ls ++ [13, 10] = [13, 10] ++ fl Ls := by
    intro Ls
    induction Ls with
    | nil => rfl
    | cons L Ls ih =>
      have : joinTail [13, 10] (L :: Ls) = [13, 10] ++ L ++ joinTail [13, 10] Ls := by simp [joinTail]
      rw [this, List.append_assoc, ih]
      simp [fl]
  have hj := hj (l.map fun c => (lineS c).data.toList)
  have e : crlf.data.toList = [13, 10] := rfl
  have h5 : f.data.toList ++ joinTail [13, 10] (l.map fun c => (lineS c).data.toList) ++ [13, 10] = f.data.toList ++ ([13, 10] ++ fl (l.map fun c => (lineS c).data.toList)) := by
    rw [List.append_assoc, hj]
  rw [e, h5]
  simp [fl]

/-- The head of a message, whatever stands behind it. -/
theorem cut_head (f : ByteArray) (l : List (ByteArray × ByteArray)) (s : ByteArray) (r : List UInt8) (hs : s.data.toList = (headS f l).data.toList ++ r) (h0 : ∀ c ∈ f.data.toList, c ≠ 13) (h : ∀ x ∈ l, ∀ c ∈ (lineS x).data.toList, c ≠ 13) (hz : (headS f l).size ≤ 2000) :
    cutO s = some (f :: l.map lineS, (headS f l).size) ∧ index s.data.toList CC + 4 = (headS f l).size := by
  have hd := head_data f l
  have hl : (headS f l).data.toList.length = (headS f l).size := by simp
  have hne : ∀ L ∈ l.map (fun c => (lineS c).data.toList), L ≠ [] ∧ ∀ c ∈ L, c ≠ 13 := by
    intro L hL
    obtain ⟨x, hx, rfl⟩ := List.mem_map.1 hL
    refine ⟨?_, h x hx⟩
    intro e
    have : (lineS x).data.toList.length = 0 := by rw [e]; rfl
    unfold lineS colon at this
    simp at this
  have ha := head_all f.data.toList _ r h0 hne
  have hu : s.data.toList = fl (f.data.toList :: l.map fun c => (lineS c).data.toList) ++ 13 :: 10 :: r := by rw [hs, hd]; simp
  rw [← hu] at ha
  unfold headF at ha
  split at ha
  · cases ha
  · rename_i hi
    have h1 := congrArg Prod.fst (Option.some.inj ha)
    have h2 := congrArg Prod.snd (Option.some.inj ha)
    have h1 : split (s.data.toList.take (index s.data.toList CC).toNat) C = f.data.toList :: l.map fun c => (lineS c).data.toList := h1
    have h2 : (index s.data.toList CC).toNat + 4 = (fl (f.data.toList :: l.map fun c => (lineS c).data.toList)).length + 2 := h2
    have hge := index_ge s.data.toList CC
    rw [hd, List.length_append] at hl
    have hl2 : ([13, 10] : List UInt8).length = 2 := rfl
    obtain ⟨p, hp⟩ : ∃ p : Nat, index s.data.toList CC = p := ⟨(index s.data.toList CC).toNat, by omega⟩
    rw [hp, Int.toNat_natCast] at h1 h2
    refine ⟨?_, by omega⟩
    rw [cut_some hp (by omega), h1]
    have e : ((f.data.toList :: l.map fun c => (lineS c).data.toList).map mkB) = f :: l.map lineS := by
      rw [List.map_cons, mkB_list, List.map_map]
      congr 1
    rw [e, show p + 4 = (headS f l).size by omega]

end Go.Proofs.YtaplkbkpgdpbaaaGreatDoor.Tor

namespace Go.Proofs.YtaplkbkpgdpbaaaGreatDoor.Ers
open Go.RowKit Go.Extern.Stop Go.Stop Go.Extern

theorem isTypeOf (v : Value) (w : World) : (Extern.ReflectliteType.typeOf #[.iface 228 v]).run Tryz.prog w = .ok (.iface 158 (.agg #[.pointer (some ⟨9, 228, none⟩)])) w := by kernel_rfl
theorem isComparable (w : World) : ((Extern.ReflectliteType.method fun t => do Go.Extern.Rtype.noPackHeld "Comparable" t; (fun a => Value.bool a.comparable) <$> typeInfo t) #[.agg #[.pointer (some ⟨9, 228, none⟩)]]).run Tryz.prog w = .ok (.bool true) w := by kernel_rfl
theorem isMethodComparable (v : Value) (w : World) : (Go.method 357 158 v "Comparable").run Tryz.prog w = .ok (222, v) w := by kernel_rfl
theorem isComp : (Tryz.prog.info? 228).map (·.comparable) = some true := by kernel_rfl
theorem isSize : (Tryz.prog.info? 246).map (·.size) = some 1 := by kernel_rfl
theorem noIsF (v : Value) (xT : TypeId) (w : World) : (Instr.typeAssert (.iface 104 v) xT 160 true).run Tryz.prog w = .ok (.tuple #[.nilIface, .bool false]) w := run_typeAssert_lacksB Tryz.underlying160 (by kernel_rfl) (by kernel_rfl) v xT w
theorem noUnwrapF (v : Value) (xT : TypeId) (w : World) : (Instr.typeAssert (.iface 104 v) xT 163 true).run Tryz.prog w = .ok (.tuple #[.nilIface, .bool false]) w := run_typeAssert_lacksB Tryz.underlying163 (by kernel_rfl) (by kernel_rfl) v xT w
theorem noUnwrapsF (v : Value) (xT : TypeId) (w : World) : (Instr.typeAssert (.iface 104 v) xT 165 true).run Tryz.prog w = .ok (.tuple #[.nilIface, .bool false]) w := run_typeAssert_lacksB Tryz.underlying165 (by kernel_rfl) (by kernel_rfl) v xT w

set_option maxRecDepth 20000 in
set_option maxHeartbeats 1600000 in
/-- errors.Is(x, x), x a pointer to an errors.errorString. -/
theorem is_same (a : Addr) (w : World) :
    Calls Tryz.prog 52 #[.iface 228 (.pointer (some a)), .iface 228 (.pointer (some a))] w fun e w' => e = .returned (.bool true) ∧ w' = w := by
  obtain ⟨i, hi, hcmp⟩ := Option.map_eq_some_iff.1 isComp
  obtain ⟨j, hj, hjs⟩ := Option.map_eq_some_iff.1 isSize
  have h8 := @run_callFunc_extern Tryz.prog 91 _ Extern.ReflectliteType.typeOf Tryz.func91 (by kernel_rfl) (by kernel_rfl) (by kernel_rfl) (by kernel_rfl)
  have h32 := @run_callFunc_extern Tryz.prog 222 _ (Extern.ReflectliteType.method fun t => do Go.Extern.Rtype.noPackHeld "Comparable" t; pure (.bool (← typeInfo t).comparable)) Tryz.func222 (by kernel_rfl) (by kernel_rfl) (by kernel_rfl) (by kernel_rfl)
  have tT := isTypeOf
  have cT := isComparable
  have mR := isMethodComparable
  have heq := run_eql_iface_ptr_same (P := Tryz.prog) w a Tryz.underlying63 Tryz.underlying228 hi hcmp hj
  go_enter Tryz.func52, Tryz.ntmps52
  go_wp2
  refine wp_loop_rounds 1 ?_
  rw [rounds_succ]
  go_wp2
  go_ret
  exact ⟨rfl, rfl⟩

set_option maxRecDepth 20000 in
set_option maxHeartbeats 1600000 in
/-- errors.Is(f, x), f a fault of a message, x a pointer to an errors.errorString. -/
theorem is_fault (c : Int) (b : Addr) (w : World) :
    Calls Tryz.prog 52 #[.iface 104 (.agg #[.int .i64 c]), .iface 228 (.pointer (some b))] w fun e w' => e = .returned (.bool false) ∧ w' = w := by
  have h8 := @run_callFunc_extern Tryz.prog 91 _ Extern.ReflectliteType.typeOf Tryz.func91 (by kernel_rfl) (by kernel_rfl) (by kernel_rfl) (by kernel_rfl)
  have h32 := @run_callFunc_extern Tryz.prog 222 _ (Extern.ReflectliteType.method fun t => do Go.Extern.Rtype.noPackHeld "Comparable" t; pure (.bool (← typeInfo t).comparable)) Tryz.func222 (by kernel_rfl) (by kernel_rfl) (by kernel_rfl) (by kernel_rfl)
  have tT := isTypeOf
  have cT := isComparable
  have mR := isMethodComparable
  have nE := noIsF
  have uE := noUnwrapF
  have vE := noUnwrapsF
  have heq := run_eql_iface_types (P := Tryz.prog) 104 228 (.agg #[.int .i64 c]) (.pointer (some b)) Tryz.underlying63 (by decide) w
  go_enter Tryz.func52, Tryz.ntmps52
  go_wp2
  refine wp_loop_rounds 1 ?_
  rw [rounds_succ]
  go_wp2
  go_ret
  exact ⟨rfl, rfl⟩

end Go.Proofs.YtaplkbkpgdpbaaaGreatDoor.Ers

