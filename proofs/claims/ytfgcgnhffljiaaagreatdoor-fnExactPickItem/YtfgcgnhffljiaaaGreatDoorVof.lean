/-
  Walks: impl.ValuesOf.
-/
import Derived.Test.YtfgcgnhffljiaaaGreatDoorFpl
import Derived.Test.YtfgcgnhffljiaaaGreatDoorLit
namespace Go.Proofs.YtfgcgnhffljiaaaGreatDoor.Vof
open Go.RowKit Go.Maps Go.WideMaps
open Go.Proofs.YtfgcgnhffljiaaaGreatDoor.Fbs
open Go.Proofs.YtfgcgnhffljiaaaGreatDoor.Fch
open Go.Proofs.YtfgcgnhffljiaaaGreatDoor.Ows
open Go.Proofs.YtfgcgnhffljiaaaGreatDoor.Fdb
open Go.Proofs.YtfgcgnhffljiaaaGreatDoor.Fvs
open Go.Proofs.YtfgcgnhffljiaaaGreatDoor.Fpl
open Go.Proofs.YtfgcgnhffljiaaaGreatDoor.Lof (lowB lowS specLow_any implLow_any lowS_size)
open Go.Proofs.YtfgcgnhffljiaaaGreatDoor.Kls (skey zeroI kl kl_ne)

theorem valO_bad {l : List (ByteArray × ByteArray)} {n : ByteArray} (h : goodL l = false) : valO l n = none := by unfold valO; rw [if_neg (by simp [h])]
theorem valO_name {l : List (ByteArray × ByteArray)} {n : ByteArray} (h : tokenB n.data.toList = false) : valO l n = none := by unfold valO; rw [if_neg (by simp [h])]
theorem valO_is {l : List (ByteArray × ByteArray)} {n : ByteArray} (h : goodL l = true) (h2 : tokenB n.data.toList = true) : valO l n = some (valsOf n l) := by unfold valO; rw [if_pos ⟨h, h2⟩]
theorem vals_none {n : ByteArray} {l : List (ByteArray × ByteArray)} (h : hasL (lowS n) l = false) : valsOf n l = [] := by
  unfold valsOf
  rw [List.map_eq_nil_iff, List.filter_eq_nil_iff]
  intro c hc
  unfold hasL at h
  rw [List.any_eq_false] at h
  exact h c hc
theorem vals_before {n : ByteArray} {l : List (ByteArray × ByteArray)} : valsOf n (l.take (idxL (lowS n) l)) = [] := by
  unfold valsOf
  rw [List.map_eq_nil_iff, List.filter_eq_nil_iff]
  intro c hc
  obtain ⟨j, hj, rfl⟩ := List.getElem_of_mem hc
  rw [List.length_take] at hj
  rw [List.getElem_take]
  have := idx_not (x := lowS n) (l := l) (j := j) (by omega) (by omega)
  unfold isN
  simpa using this
theorem pos_same {n : ByteArray} {l : List (ByteArray × ByteArray)} {j : Nat} (hj : j < l.length) (hn : hasL (lowS n) l = true) : (posL (lowS l[j].1) l == (idxL (lowS n) l : Int)) = isN n l[j] := by
  have hh : hasL (lowS l[j].1) l = true := by
    unfold hasL
    rw [List.any_eq_true]
    exact ⟨l[j], List.getElem_mem hj, by simp⟩
  unfold posL isN
  rw [if_pos hh]
  by_cases h : lowS l[j].1 = lowS n
  · rw [h, decide_eq_true rfl]; simp
  · rw [decide_eq_false h, beq_eq_false_iff_ne]
    intro e
    have e' : idxL (lowS l[j].1) l = idxL (lowS n) l := by omega
    have h1 := idx_low (has_idx hh)
    have h2 := idx_low (has_idx hn)
    apply h
    rw [← h1, ← h2]
    simp only [e']
theorem has_mem {l : List (ByteArray × ByteArray)} {j : Nat} (hj : j < l.length) : hasL (lowS l[j].1) l = true := by
  unfold hasL
  rw [List.any_eq_true]
  exact ⟨l[j], List.getElem_mem hj, by simp⟩

theorem texts_made (w : World) (B : Nat) (h : B ≤ w.heap.size) : textsIn (w.alloc (.cells #[] 9)) B (.slice (some ⟨w.heap.size, 0, none⟩) 0 0) [] :=
  ⟨rfl, .inr ⟨w.heap.size, 0, #[], rfl, h, by show (w.heap.push _)[w.heap.size]? = _; simp, Nat.le_refl _, by decide, rfl, rfl⟩⟩
theorem tbase {w : World} {B B' : Nat} {v : Value} {l : List ByteArray} (h : textsIn w B v l) (hB : B' ≤ B) : textsIn w B' v l := by
  refine ⟨h.1, ?_⟩
  rcases h.2 with hn | ⟨g, cap, cur, rfl, hbg, rest⟩
  · exact .inl hn
  · exact .inr ⟨g, cap, cur, rfl, Nat.le_trans hB hbg, rest⟩

set_option maxRecDepth 20000 in
set_option maxHeartbeats 3200000 in
theorem implVals_any (a : Option Addr) (ca : Nat) (l : List (ByteArray × ByteArray)) (n : ByteArray) (w : World) (lo hi : Nat) (hT : Tab w) (hn : n.size ≤ 2000000) (hz : SzF l) (hca : l.length ≤ ca) (ha : FV w a l lo hi) :
    Calls Tryz.prog 82 #[.slice a l.length ca, .string n] w fun e w' => Lsp.Told w' w.heap.size e (valO l n) ∧ Below w.heap.size w w' := by
  have hgt := hT.lt
  have HA : Hid _ := fun w t f => areFields_any a ca l w lo hi t hz f
  cases hg : goodL l
  · rw [hg] at HA
    rw [valO_bad hg]
    go_enter Tryz.func82, Tryz.ntmps82
    go_wp2_with fail
    refine (HA.out _ hT ha).mono ?_
    rintro e w1 ⟨rfl, hb1⟩
    go_wp2_with fail
    go_ret2
    exact ⟨rfl, hb1⟩
  rw [hg] at HA
  have HTk : Hid _ := fun w t => isToken_any n w t
  cases ht : tokenB n.data.toList
  · rw [ht] at HTk
    rw [valO_name ht]
    go_enter Tryz.func82, Tryz.ntmps82
    go_wp2_with fail
    refine (HA.out _ hT ha).mono ?_
    rintro e w1 ⟨rfl, hb1⟩
    go_wp2_with fail
    refine (HTk.out _ (hT.below hb1 hgt)).mono ?_
    rintro e w2 ⟨rfl, hw⟩
    obtain rfl := hw.symm
    go_wp2_with fail
    go_ret2
    exact ⟨rfl, hb1⟩
  rw [ht] at HTk
  obtain ⟨h40, hgf⟩ := goodL_all hg
  have HV : Hid (valO l n = some (valsOf n l)) := valO_is hg ht
  have HP : Hid _ := fun w f => firstPlaces_any a ca l w lo hi (by omega) hz f
  have HL : Hid _ := fun w => implLow_any n w hn
  have hksz : (lowS n).size ≤ maxLen := by rw [lowS_size]; unfold maxLen; omega
  have hkey : keyOf Tryz.prog 9 (.string (lowS n)) = some (kl (lowS n)) := keyOf_string_mk Tryz.underlying9 hksz
  clear hg ht hgf hksz
  go_enter Tryz.func82, Tryz.ntmps82
  go_wp2_with fail
  refine (HA.out _ hT ha).mono ?_
  rintro e w1 ⟨rfl, hb1⟩
  have ha1 := ha.below hb1
  go_wp2_with fail
  refine (HTk.out _ (hT.below hb1 hgt)).mono ?_
  rintro e w2 ⟨rfl, hw⟩
  obtain rfl := hw.symm
  go_wp2_with fail
  refine (HP.out _ ha1).mono ?_
  rintro e w3 ⟨b, D, rfl, hbb, hown, hMP, hb3⟩
  have HMP : Hid _ := hMP
  have hb13 := hb1.trans (hb3.mono hb1.size)
  have ha3 := ha1.below hb3
  clear hMP
  go_wp2_with fail
  refine (HL.out _).mono ?_
  rintro e w4 ⟨rfl, hb4⟩
  have hb14 := hb13.trans (hb4.mono hb13.size)
  have ha4 := ha3.below hb4
  have hown4 := hown.kept (Mrk.grown_of none hb4) (by simp)
  clear hown ha3 ha1 ha
  obtain ⟨v, ps, hrun, hv⟩ := hown4.look_ok skey Tryz.underlying142 (zeroI _) (plainElem_int Tryz.underlying3 (by decide)) hkey
  obtain ⟨cc, rfl, hcc, _⟩ := plainElem_int_inv Tryz.underlying3 hv
  have e1 := (congrArg Prod.fst hcc).symm.trans (HMP.out.2 (lowS n)).1
  injection e1 with e1; injection e1 with _ e1
  rw [(HMP.out.2 (lowS n)).2] at hrun
  clear hv hcc hkey
  cases hh : hasL (lowS n) l
  · rw [hh] at hrun
    have HR : Hid (valO l n = some []) := HV.out.trans (by rw [vals_none hh])
    clear hh e1
    go_wp2_with fail
    go_ret2
    exact ⟨by rw [HR.out]; exact ⟨_, rfl, rfl, .inl ⟨rfl, rfl⟩⟩, hb14⟩
  · rw [hh] at hrun
    have hpos : posL (lowS n) l = (idxL (lowS n) l : Int) := if_pos hh
    have hlt0 := has_idx hh
    rw [hpos] at e1
    subst e1
    have HPS : Hid (∀ j, (hj : j < l.length) → (posL (lowS l[j].1) l == (idxL (lowS n) l : Int)) = isN n l[j]) := fun j hj => pos_same hj hh
    have HB0 : Hid (valsOf n (l.take (idxL (lowS n) l)) = []) := vals_before
    clear hh hpos
    generalize idxL (lowS n) l = p at *
    have h0 : l ≠ [] := fun e => by subst e; simp at hlt0
    rcases ha4 with ha4 | ⟨g, rfl, _, _, ga⟩
    · exact absurd ha4 h0
    have GA : Hid (RowF w4 g l) := ga
    have HOW : Hid (w4.ownsMap Tryz.prog 9 (plainElem Tryz.prog 3) b l.length D) := hown4
    clear ga hown4 HTk HL
    go_wp2_with fail
    go_loopw [9, 36] (fun v i wr => ∃ j : Nat, j ≤ l.length - p ∧ i = .int .i64 j ∧ textsIn wr w4.heap.size v (valsOf n (l.take (p + j))) ∧ Below w4.heap.size w4 wr) (fun _ i _ => l.length - p - (intOf i).toNat)
    case atStart => exact ⟨0, Nat.zero_le _, rfl, by rw [Nat.add_zero, HB0.out]; exact texts_made w4 _ (Nat.le_refl _), (Below.refl _ _).alloc (Nat.le_refl _) _⟩
    case round =>
      obtain ⟨j, hj, rfl, hown, hbel⟩ := hrel
      by_cases hlt : j < l.length - p
      · have hpj : p + j < l.length := by omega
        obtain ⟨k1, k2⟩ := (GA.out.below hbel).2.2 (p + j) l[p + j] (List.getElem?_eq_getElem hpj)
        rw [Nat.add_mul] at k1 k2
        obtain ⟨hs1, hs2⟩ := hz l[p + j] (List.getElem_mem hpj)
        have htk : l.take (p + (j + 1)) = l.take (p + j) ++ [l[p + j]] := by rw [← Nat.add_assoc]; exact List.take_succ_eq_append_getElem hpj
        have hps := HPS.out (p + j) hpj
        have hlen : (valsOf n (l.take (p + j))).length ≤ 40 := Nat.le_trans (valsOf_len n _) (by rw [List.length_take]; omega)
        generalize l[p + j] = c at *
        obtain ⟨X, Y⟩ := c
        dsimp only at k1 k2 hs1 hs2 hps
        have HLow : Hid _ := fun w => implLow_any X w hs1
        have hown1 := hown.alloc (.cells #[.string X, .string Y] 108)
        have hbel1 := hbel.alloc hbel.size (.cells #[.string X, .string Y] 108)
        have hksz : (lowS X).size ≤ maxLen := by rw [lowS_size]; unfold maxLen; omega
        have hkey : keyOf Tryz.prog 9 (.string (lowS X)) = some (kl (lowS X)) := keyOf_string_mk Tryz.underlying9 hksz
        clear hown hbel
        go_wp2_with fail
        refine (HLow.out _).mono ?_
        rintro e w5 ⟨rfl, hb5⟩
        have hown5 := hown1.below hb5
        have hbel5 := hbel1.trans (hb5.mono hbel1.size)
        have hc5 : w5.cell? ⟨wr.heap.size, 1, none⟩ = some (.string Y) := (hb5.cell (p := ⟨wr.heap.size, 1, none⟩) (by simp)).trans (by simp [go_sem])
        obtain ⟨c2, hrun2, hat2, _⟩ := (World.ownsMap.kept HOW.out (Mrk.grown_of none hbel5) (by simp)).lookup_int skey Tryz.underlying142 Tryz.underlying3 (zeroI _) hkey
        have e2 := hat2.symm.trans (HMP.out.2 (lowS X)).1
        injection e2 with e2; injection e2 with _ e2
        rw [← e2] at hps
        have hB5 := hbel5.size
        clear e2 hat2 hb5 hown1 hbel1 k1 k2 hkey
        cases hi : isN n (X, Y)
        · rw [hi] at hps
          have HV : Hid (valsOf n (l.take (p + (j + 1))) = valsOf n (l.take (p + j))) := by show _ = _; rw [htk, valsOf_no hi]
          clear hi htk
          go_wp2_with fail
          go_roundw
          case rel => exact ⟨j + 1, by omega, by go_num, by rw [HV.out]; exact hown5, hbel5⟩
          case measure => simp [intOf]; omega
        · rw [hi] at hps
          have HV : Hid (valsOf n (l.take (p + (j + 1))) = valsOf n (l.take (p + j)) ++ [Y]) := by show _ = _; rw [htk, valsOf_yes hi]
          clear hi htk
          generalize valsOf n (l.take (p + j)) = acc at *
          go_wp2_with (at_builtin; refine wpList_append_text w5 rfl _ _ rfl w4.heap.size _ acc (by rfl) hown5 _ _ rfl ?q3 hB5 w4.heap.size (Nat.le_refl _) w4 hbel5 ?_)
          case q3 => omega
          intro v' w6 hown6 hbel6
          clear hown5 hbel5 hB5 hrun2 hc5
          go_wp2_with fail
          go_roundw
          case rel => exact ⟨j + 1, by omega, by go_num, by rw [HV.out]; exact hown6, hbel6⟩
          case measure => simp [intOf]; omega
      · obtain rfl : j = l.length - p := by omega
        rw [show p + (l.length - p) = l.length from by omega, List.take_length] at hown
        have hb15 := hb14.trans (hbel.mono hb14.size)
        go_wp2_with fail
        go_ret2
        exact ⟨by rw [HV.out]; exact ⟨_, rfl, tbase hown hb14.size⟩, hb15⟩

end Go.Proofs.YtfgcgnhffljiaaaGreatDoor.Vof
