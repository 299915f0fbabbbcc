/-
  Walks: spec.l4Length, spec.LengthOf.
-/
import Derived.Test.YtfgcgnhffljiaaaGreatDoorLnq
import Derived.Test.YtfgcgnhffljiaaaGreatDoorVsp
namespace Go.Proofs.YtfgcgnhffljiaaaGreatDoor.Lnp
open Go.RowKit
open Go.Proofs.YtfgcgnhffljiaaaGreatDoor.Fbs
open Go.Proofs.YtfgcgnhffljiaaaGreatDoor.Ows
open Go.Proofs.YtfgcgnhffljiaaaGreatDoor.Fdb
open Go.Proofs.YtfgcgnhffljiaaaGreatDoor.Fvs
open Go.Proofs.YtfgcgnhffljiaaaGreatDoor.Wgt (rdL ret_i)
open Go.Proofs.YtfgcgnhffljiaaaGreatDoor.Mrk (TV RowT tv_of)
open Go.Proofs.YtfgcgnhffljiaaaGreatDoor.Lsp (listO listL l3List_any Half)

theorem some_text {p : ByteArray} (h : p.size ≠ 0) : (p.toList == []) = false := Lsp.some_cmp h

set_option maxRecDepth 20000 in
set_option maxHeartbeats 3200000 in
theorem l4Length_any (a : Option Addr) (ca : Nat) (l : List (ByteArray × ByteArray)) (w : World) (lo hi : Nat) (hg : goodL l = true) (hz : SzF l) (ha : FV w a l lo hi) :
    Calls Tryz.prog 104 #[.slice a l.length ca] w fun e w' => e = .returned (.int .i64 (lnV l)) ∧ Below w.heap.size w w' := by
  have HV1 : Hid (Calls Tryz.prog 105 #[.slice a l.length ca, .string clen] w fun e w' => (∃ v, e = .returned v ∧ textsIn w' w.heap.size v (valsOf clen l)) ∧ Below w.heap.size w w') := l3Values_any a ca l clen w lo hi (by have := (goodL_all hg).1; omega) (by decide) hz ha
  have hlen : (valsOf clen l).length ≤ 40 := Nat.le_trans (valsOf_len clen l) (goodL_all hg).1
  have HVL : Hid _ := vals_list (n := clen) hg
  have HT : Hid (lnV l = lenV (valsOf clen l) (-1)) := rfl
  generalize lnV l = T at HT ⊢
  generalize valsOf clen l = vs at HV1 hlen HVL HT
  clear hg hz ha
  go_enter Tryz.func104, Tryz.ntmps104
  go_wp2_with fail
  refine (Calls.mono HV1.out ?_)
  rintro e w1 ⟨⟨v, rfl, hown⟩, hb1⟩
  obtain ⟨a1, c1, rfl, T1⟩ := tv_of hown
  clear hown
  go_wp2_with fail
  by_cases h0 : vs = []
  · subst h0
    have HT' : Hid (T = -1) := HT.out
    go_loop [3, 14] (fun n i => n = .int .i64 (-1) ∧ i = .int .i64 0) (fun _ _ => 0)
    case atStart => exact ⟨rfl, rfl⟩
    case round =>
      obtain ⟨rfl, rfl⟩ := hrel
      go_wp2_with fail
      go_ret
      exact ⟨ret_i HT'.out.symm, hb1⟩
  rcases T1 with T1 | ⟨g, rfl, _, _, ga⟩
  · exact absurd T1 h0
  have GA : Hid (RowT w1 g vs) := ga
  clear ga HV1
  go_loopw [3, 14] (fun n i wr => ∃ (k : Nat) (N : Int), k ≤ vs.length ∧ i = .int .i64 k ∧ n = .int .i64 N ∧ -1 ≤ N ∧ Below w1.heap.size w1 wr ∧ Hid (T = lenV (vs.drop k) N)) (fun _ i _ => vs.length - (intOf i).toNat)
  case atStart => exact ⟨0, -1, by omega, rfl, rfl, by omega, Below.refl _ _, HT⟩
  case round =>
    obtain ⟨k, N, hk, rfl, rfl, hN, hbel, HK⟩ := hrel
    have hbw := hb1.trans (hbel.mono hb1.size)
    by_cases hlt : k < vs.length
    · have hc := (GA.out.below hbel).2.2 k vs[k] (List.getElem?_eq_getElem hlt)
      obtain ⟨hlo, hs300⟩ := HVL.out vs[k] (List.getElem_mem hlt)
      have hdr : vs.drop k = vs[k] :: vs.drop (k + 1) := List.drop_eq_getElem_cons hlt
      have HK' : Hid (T = lenV (vs[k] :: vs.drop (k + 1)) N) := by show _ = _; rw [HK.out, hdr]
      have HLs : Hid _ := fun w => l3List_any vs[k] w (by omega)
      clear HK hdr
      cases ho : listO vs[k] with
      | none =>
        have HR : Hid (T = -2) := HK'.out.trans (lenV_none ho)
        rw [← hlo, ho] at HLs
        clear HK' hlo hs300 ho
        go_wp2_with fail
        refine (HLs.out _).mono ?_
        rintro e w2 ⟨⟨v, ok, rfl, hok⟩, hb2⟩
        obtain rfl : ok = false := hok
        have hbw2 := hbw.trans (hb2.mono hbw.size)
        go_wp2_with fail
        go_ret
        exact ⟨ret_i HR.out.symm, hbw2⟩
      | some ps =>
        have hcl := listO_sz ho
        have hne := listL_some (hlo.symm.trans ho)
        rw [← hlo, ho] at HLs
        by_cases hp0 : ps = []
        · subst hp0
          have HR : Hid (T = -2) := HK'.out.trans (lenV_empty ho)
          clear HK' hlo hs300 ho hcl hne
          go_wp2_with fail
          refine (HLs.out _).mono ?_
          rintro e w2 ⟨⟨v, ok, rfl, hok⟩, hb2⟩
          obtain ⟨rfl, hown⟩ := hok
          obtain ⟨a2, c2, rfl, _⟩ := tv_of hown
          have hbw2 := hbw.trans (hb2.mono hbw.size)
          clear hown
          go_wp2_with fail
          go_ret
          exact ⟨ret_i HR.out.symm, hbw2⟩
        · have HB : Hid (lenF ps N = -2 → T = -2) := fun h => HK'.out.trans (lenV_bad ho h)
          have HG : Hid (lenF ps N ≠ -2 → T = lenV (vs.drop (k + 1)) (lenF ps N)) := fun h => HK'.out.trans (lenV_go ho hp0 h)
          have hp1 := List.length_pos_iff.2 hp0
          have hpz : ((ps.length : Int) == 0) = false := by rw [beq_eq_false_iff_ne]; omega
          clear HK' hlo hs300 ho
          go_wp2_with fail
          refine (HLs.out _).mono ?_
          rintro e w2 ⟨⟨v, ok, rfl, hok⟩, hb2⟩
          obtain ⟨rfl, hown⟩ := hok
          have hpl : ps.length ≤ 9223372036854775807 := by
            obtain ⟨_, _, _, h1, h2, _⟩ := textsIn.form hown
            unfold maxLen at h2
            omega
          obtain ⟨a2, c2, rfl, T2⟩ := tv_of hown
          have hbel2 := hbel.trans (hb2.mono hbel.size)
          rcases T2 with T2 | ⟨g2, rfl, _, _, gb⟩
          · exact absurd T2 hp0
          have GB : Hid (RowT w2 g2 ps) := gb
          have HCL : Hid _ := hcl
          have HNE : Hid _ := hne
          clear hown gb hb2 hbw hcl hne HLs hp0 hc
          go_wp2_with fail
          go_loopw [3, 32] (fun n i wq => ∃ (j : Nat) (M : Int), j ≤ ps.length ∧ i = .int .i64 j ∧ n = .int .i64 M ∧ -1 ≤ M ∧ Below w2.heap.size w2 wq ∧ Hid (lenF ps N = lenF (ps.drop j) M)) (fun _ i _ => ps.length - (intOf i).toNat)
          case atStart => exact ⟨0, N, by omega, rfl, rfl, hN, Below.refl _ _, rfl⟩
          case round =>
            obtain ⟨j, M, hj, rfl, rfl, hM, hbq, HJ⟩ := hrel
            have hbq1 := hbel2.trans (hbq.mono hbel2.size)
            have hbq0 := hb1.trans (hbq1.mono hb1.size)
            by_cases hjt : j < ps.length
            · have hx := (GB.out.below hbq).2.2 j ps[j] (List.getElem?_eq_getElem hjt)
              have hsz := HCL.out ps[j] (List.getElem_mem hjt)
              have hnz := some_text (HNE.out ps[j] (List.getElem_mem hjt))
              have HJ' : Hid (lenF ps N = lenF (ps[j] :: ps.drop (j + 1)) M) := by show _ = _; rw [HJ.out, List.drop_eq_getElem_cons hjt]
              clear HJ
              by_cases h9 : 9 < ps[j].size
              · have hm : numS ps[j] = -1 := by unfold numS; rw [if_neg (by omega)]
                have HR : Hid (T = -2) := HB.out (HJ'.out.trans (lenF_bad (.inl (by omega))))
                have HNu : Hid _ := fun w => l2Num_long ps[j] w hsz
                have hd9 : decide (9 < (ps[j].size : Int)) = true := decide_eq_true (by omega)
                clear hm HJ' HB HG hsz
                go_wp2_with fail
                refine (HNu.out _).mono ?_
                rintro e w3 ⟨⟨v, rfl⟩, hw⟩
                obtain rfl := hw.symm
                by_cases hv : v < 0
                · have hdv : decide (v < 0) = true := decide_eq_true hv
                  go_wp2_with fail
                  go_ret
                  exact ⟨ret_i HR.out.symm, hbq0⟩
                · have hdv : decide (v < 0) = false := decide_eq_false hv
                  go_wp2_with fail
                  go_ret
                  exact ⟨ret_i HR.out.symm, hbq0⟩
              · have hm : rdL ps[j].data.toList 0 = numS ps[j] := by unfold numS; rw [if_pos (by omega)]
                have HNu : Hid _ := fun w => l2Num_small ps[j] w (by omega)
                rw [hm] at HNu
                have hd9 : decide (9 < (ps[j].size : Int)) = false := decide_eq_false (by omega)
                clear hm
                have HBAD : Hid ((numS ps[j] < 0 ∨ (0 ≤ M ∧ M ≠ numS ps[j])) → T = -2) := fun h => HB.out (HJ'.out.trans (lenF_bad h))
                have HGO : Hid (¬ (numS ps[j] < 0 ∨ (0 ≤ M ∧ M ≠ numS ps[j])) → lenF ps N = lenF (ps.drop (j + 1)) (numS ps[j])) := fun h => HJ'.out.trans (lenF_go h)
                clear HJ'
                generalize numS ps[j] = K at *
                by_cases hK : K < 0
                · have hdk : decide (K < 0) = true := decide_eq_true hK
                  have HR : Hid (T = -2) := HBAD.out (.inl hK)
                  clear HBAD HGO
                  go_wp2_with fail
                  refine (HNu.out _).mono ?_
                  rintro e w3 ⟨rfl, hw⟩
                  obtain rfl := hw.symm
                  go_wp2_with fail
                  go_ret
                  exact ⟨ret_i HR.out.symm, hbq0⟩
                · have hdk : decide (K < 0) = false := decide_eq_false hK
                  by_cases hM0 : 0 ≤ M
                  · have hdm : decide (0 ≤ M) = true := decide_eq_true hM0
                    by_cases hMK : M = K
                    · have hde : (M == K) = true := by rw [beq_iff_eq]; exact hMK
                      have HR : Hid (lenF ps N = lenF (ps.drop (j + 1)) K) := HGO.out (by omega)
                      clear HBAD HGO
                      go_wp2_with fail
                      refine (HNu.out _).mono ?_
                      rintro e w3 ⟨rfl, hw⟩
                      obtain rfl := hw.symm
                      go_wp2_with fail
                      go_roundw
                      case rel => exact ⟨j + 1, K, by omega, by go_num, rfl, by omega, hbq, HR⟩
                      case measure => simp [intOf]; omega
                    · have hde : (M == K) = false := by rw [beq_eq_false_iff_ne]; exact hMK
                      have HR : Hid (T = -2) := HBAD.out (.inr ⟨hM0, hMK⟩)
                      clear HBAD HGO
                      go_wp2_with fail
                      refine (HNu.out _).mono ?_
                      rintro e w3 ⟨rfl, hw⟩
                      obtain rfl := hw.symm
                      go_wp2_with fail
                      go_ret
                      exact ⟨ret_i HR.out.symm, hbq0⟩
                  · have hdm : decide (0 ≤ M) = false := decide_eq_false hM0
                    have HR : Hid (lenF ps N = lenF (ps.drop (j + 1)) K) := HGO.out (by omega)
                    clear HBAD HGO
                    go_wp2_with fail
                    refine (HNu.out _).mono ?_
                    rintro e w3 ⟨rfl, hw⟩
                    obtain rfl := hw.symm
                    go_wp2_with fail
                    go_roundw
                    case rel => exact ⟨j + 1, K, by omega, by go_num, rfl, by omega, hbq, HR⟩
                    case measure => simp [intOf]; omega
            · have HE : Hid (lenF ps N = M) := by
                show _ = _
                rw [HJ.out, List.drop_eq_nil_of_le (by omega)]; rfl
              have HR : Hid (T = lenV (vs.drop (k + 1)) M) := by
                show _ = _
                rw [HG.out (by rw [HE.out]; omega), HE.out]
              clear HJ HB HG
              go_wp2_with fail
              go_roundw
              case rel => exact ⟨k + 1, M, by omega, by go_num, rfl, hM, hbq1, HR⟩
              case measure => simp [intOf]; omega
    · have HR : Hid (T = N) := by
        show _ = _
        rw [HK.out, List.drop_eq_nil_of_le (by omega)]; rfl
      go_wp2_with fail
      go_ret
      exact ⟨ret_i HR.out.symm, hbw⟩

end Go.Proofs.YtfgcgnhffljiaaaGreatDoor.Lnp
