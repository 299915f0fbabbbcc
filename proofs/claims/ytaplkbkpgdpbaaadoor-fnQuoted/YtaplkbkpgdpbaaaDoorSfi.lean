/-
  Walks: SetField of both programs.
-/
import Derived.Test.YtaplkbkpgdpbaaaDoorSfs
namespace Go.Proofs.YtaplkbkpgdpbaaaDoor.Stf
open Go.RowKit Go.Maps Go.WideMaps
open Go.Proofs.YtaplkbkpgdpbaaaDoor.Fbs
open Go.Proofs.YtaplkbkpgdpbaaaDoor.Fch
open Go.Proofs.YtaplkbkpgdpbaaaDoor.Fdb
open Go.Proofs.YtaplkbkpgdpbaaaDoor.Fgd (goodF implGoodF_any specGoodF_any)
open Go.Proofs.YtaplkbkpgdpbaaaDoor.Fvs
open Go.Proofs.YtaplkbkpgdpbaaaDoor.Fpl
open Go.Proofs.YtaplkbkpgdpbaaaDoor.Lof (lowB lowS specLow_any implLow_any lowS_size)
open Go.Proofs.YtaplkbkpgdpbaaaDoor.Kls (skey zeroI kl kl_ne)

theorem setO_bad {S V : ByteArray} {l : List (ByteArray × ByteArray)} (h : goodL l = false) : setO S V l = none := by unfold setO; rw [if_neg (by simp [h])]
theorem setO_name {S V : ByteArray} {l : List (ByteArray × ByteArray)} (h : goodF S V = false) : setO S V l = none := by unfold setO; rw [if_neg (by simp [h])]
theorem setO_many {S V : ByteArray} {l : List (ByteArray × ByteArray)} (h : 40 < (setL S V l).length) : setO S V l = none := by
  unfold setO; split
  · rfl
  · rfl
theorem setO_is {S V : ByteArray} {l : List (ByteArray × ByteArray)} (h : goodL l = true) (h2 : goodF S V = true) (h3 : ¬ 40 < (setL S V l).length) : setO S V l = some (setL S V l) := by
  unfold setO; rw [if_pos ⟨h, h2⟩, if_neg h3]

set_option maxHeartbeats 1600000 in
theorem specSet_any (a : Option Addr) (ca : Nat) (l : List (ByteArray × ByteArray)) (S V : ByteArray) (w : World) (lo hi : Nat) (hl : l.length ≤ 2000000) (hS : S.size ≤ 2000000) (hV : V.size ≤ 2000000) (hz : SzF l) (ha : FV w a l lo hi) :
    Calls Tryd.prog 16 #[.slice a l.length ca, .agg #[.string S, .string V]] w fun e w' => ToldF w' w.heap.size e (setO S V l) ∧ Below w.heap.size w w' := by
  have hbox : Below w.heap.size w (w.alloc (.cells #[.string S, .string V] 31)) := (Below.refl _ _).alloc (Nat.le_refl _) _
  have ha0 := ha.below hbox
  have hS0 : (w.alloc (.cells #[.string S, .string V] 31)).cell? ⟨w.heap.size, 0, none⟩ = some (.string S) := by simp [go_sem]
  have hV0 : (w.alloc (.cells #[.string S, .string V] 31)).cell? ⟨w.heap.size, 1, none⟩ = some (.string V) := by simp [go_sem]
  have hp0 : w.heap.size < (w.alloc (.cells #[.string S, .string V] 31)).heap.size := by simp
  have HF := fun w h => l3Fields_any a ca l w lo hi hl hz h
  have HG := fun w => specGoodF_any S V w hS hV
  have HR : Hid (setO S V l = setO S V l) := rfl
  cases hg : goodL l
  · rw [hg] at HF
    rw [setO_bad hg]
    have HF1 : Hid _ := HF
    clear HF HG
    go_enter Tryd.func16, Tryd.ntmps16
    go_wp2_with fail
    refine (HF1.out _ ha0).mono ?_
    rintro e w1 ⟨rfl, hb1⟩
    have hb01 := hbox.trans (hb1.mono hbox.size)
    go_wp2_with fail
    go_ret2
    exact ⟨rfl, hb01⟩
  have h40 := (goodL_all hg).1
  cases ht : goodF S V
  · rw [hg] at HF; rw [ht] at HG
    rw [setO_name ht]
    have HF1 : Hid _ := HF
    have HG1 : Hid _ := HG
    clear HF HG
    go_enter Tryd.func16, Tryd.ntmps16
    go_wp2_with fail
    refine (HF1.out _ ha0).mono ?_
    rintro e w1 ⟨rfl, hb1⟩
    have hb01 := hbox.trans (hb1.mono hbox.size)
    have hc0 := (hb1.cell (p := ⟨w.heap.size, 0, none⟩) hp0).trans hS0
    have hc1 := (hb1.cell (p := ⟨w.heap.size, 1, none⟩) hp0).trans hV0
    go_wp2_with fail
    refine (HG1.out _).mono ?_
    rintro e w2 ⟨rfl, hb2⟩
    have hb02 := hb01.trans (hb2.mono hb01.size)
    go_wp2_with fail
    go_ret2
    exact ⟨rfl, hb02⟩
  rw [hg] at HF; rw [ht] at HG
  have HF1 : Hid _ := HF
  have HG1 : Hid _ := HG
  have HL : Hid _ := fun w h => l3Set_any a ca l S V w lo hi (by omega) hS hz h
  have HM : Hid (40 < (setL S V l).length → setO S V l = none) := setO_many
  have HI : Hid (¬ 40 < (setL S V l).length → setO S V l = some (setL S V l)) := setO_is hg ht
  clear HF HG hg ht hz HR
  generalize setL S V l = r at HL HM HI
  generalize setO S V l = o at HM HI ⊢
  go_enter Tryd.func16, Tryd.ntmps16
  go_wp2_with fail
  refine (HF1.out _ ha0).mono ?_
  rintro e w1 ⟨rfl, hb1⟩
  have hb01 := hbox.trans (hb1.mono hbox.size)
  have ha1 := ha0.below hb1
  have hc0 := (hb1.cell (p := ⟨w.heap.size, 0, none⟩) hp0).trans hS0
  have hc1 := (hb1.cell (p := ⟨w.heap.size, 1, none⟩) hp0).trans hV0
  have hp1 := Nat.lt_of_lt_of_le hp0 hb1.size
  go_wp2_with fail
  refine (HG1.out _).mono ?_
  rintro e w2 ⟨rfl, hb2⟩
  have hb02 := hb01.trans (hb2.mono hb01.size)
  have ha2 := ha1.below hb2
  have hd0 := (hb2.cell (p := ⟨w.heap.size, 0, none⟩) hp1).trans hc0
  have hd1 := (hb2.cell (p := ⟨w.heap.size, 1, none⟩) hp1).trans hc1
  clear hc0 hc1
  go_wp2_with fail
  refine (HL.out _ ha2).mono ?_
  rintro e w3 ⟨⟨v, rfl, hown⟩, hb3⟩
  obtain ⟨a3, c3, rfl, _⟩ := fv_of hown
  have hb03 := hb02.trans (hb3.mono hb02.size)
  by_cases hm : 40 < r.length
  · have hd : decide (40 < (r.length : Int)) = true := decide_eq_true (by omega)
    have HO : Hid (o = none) := HM.out hm
    clear hm HM HI
    go_wp2_with fail
    go_ret2
    exact ⟨by rw [HO.out]; rfl, hb03⟩
  · have hd : decide (40 < (r.length : Int)) = false := decide_eq_false (by omega)
    have HO : Hid (o = some r) := HI.out hm
    clear hm HM HI
    go_wp2_with fail
    go_ret2
    exact ⟨by rw [HO.out]; exact ⟨_, rfl, hown.base hb02.size⟩, hb03⟩

theorem has_take {x : ByteArray} {l : List (ByteArray × ByteArray)} {k : Nat} (hk : k ≤ l.length) (h : hasL x l = true) : hasL x (l.take k) = decide (idxL x l < k) := by
  by_cases hp : idxL x l < k
  · rw [decide_eq_true hp]
    unfold hasL
    rw [List.any_eq_true]
    have hlt := has_idx h
    refine ⟨l[idxL x l], ?_, by rw [decide_eq_true_iff]; exact idx_low hlt⟩
    rw [List.mem_iff_getElem]
    exact ⟨idxL x l, by rw [List.length_take]; omega, by rw [List.getElem_take]⟩
  · rw [decide_eq_false hp]
    unfold hasL
    rw [List.any_eq_false]
    intro c hc
    obtain ⟨j, hj, rfl⟩ := List.getElem_of_mem hc
    rw [List.length_take] at hj
    rw [List.getElem_take]
    have := idx_not (x := x) (l := l) (j := j) (by omega) (by omega)
    simpa using this
theorem isN_no {S : ByteArray} {l : List (ByteArray × ByteArray)} (h : hasL (lowS S) l = false) {j : Nat} (hj : j < l.length) : isN S l[j] = false := by
  unfold hasL at h
  rw [List.any_eq_false] at h
  unfold isN
  simpa using h l[j] (List.getElem_mem hj)
theorem isN_at {S : ByteArray} {l : List (ByteArray × ByteArray)} (hj : idxL (lowS S) l < l.length) : isN S l[idxL (lowS S) l] = true := by
  unfold isN
  rw [decide_eq_true_iff]
  exact idx_low hj

set_option maxRecDepth 20000 in
set_option maxHeartbeats 3200000 in
theorem implSet_any (a : Option Addr) (ca : Nat) (l : List (ByteArray × ByteArray)) (S V : ByteArray) (w : World) (lo hi : Nat) (hT : Tab w) (hS : S.size ≤ 2000000) (hV : V.size ≤ 2000000) (hz : SzF l) (ha : FV w a l lo hi) :
    Calls Tryd.prog 15 #[.slice a l.length ca, .agg #[.string S, .string V]] w fun e w' => ToldF w' w.heap.size e (setO S V l) ∧ Below w.heap.size w w' := by
  have hgt := hT.lt
  have hbox : Below w.heap.size w (w.alloc (.cells #[.string S, .string V] 31)) := (Below.refl _ _).alloc (Nat.le_refl _) _
  have ha0 := ha.below hbox
  have hT0 := hT.below hbox hgt
  have hS0 : (w.alloc (.cells #[.string S, .string V] 31)).cell? ⟨w.heap.size, 0, none⟩ = some (.string S) := by simp [go_sem]
  have hV0 : (w.alloc (.cells #[.string S, .string V] 31)).cell? ⟨w.heap.size, 1, none⟩ = some (.string V) := by simp [go_sem]
  have hp0 : w.heap.size < (w.alloc (.cells #[.string S, .string V] 31)).heap.size := by simp
  have HF := fun w t h => areFields_any a ca l w lo hi t hz h
  have HG := fun w t => implGoodF_any S V w t hV
  cases hg : goodL l
  · rw [hg] at HF
    rw [setO_bad hg]
    have HF1 : Hid _ := HF
    clear HF HG
    go_enter Tryd.func15, Tryd.ntmps15
    go_wp2_with fail
    refine (HF1.out _ hT0 ha0).mono ?_
    rintro e w1 ⟨rfl, hb1⟩
    have hb01 := hbox.trans (hb1.mono hbox.size)
    go_wp2_with fail
    go_ret2
    exact ⟨rfl, hb01⟩
  have h40 := (goodL_all hg).1
  cases ht : goodF S V
  · rw [hg] at HF; rw [ht] at HG
    rw [setO_name ht]
    have HF1 : Hid _ := HF
    have HG1 : Hid _ := HG
    clear HF HG
    go_enter Tryd.func15, Tryd.ntmps15
    go_wp2_with fail
    refine (HF1.out _ hT0 ha0).mono ?_
    rintro e w1 ⟨rfl, hb1⟩
    have hb01 := hbox.trans (hb1.mono hbox.size)
    have hc0 := (hb1.cell (p := ⟨w.heap.size, 0, none⟩) hp0).trans hS0
    have hc1 := (hb1.cell (p := ⟨w.heap.size, 1, none⟩) hp0).trans hV0
    go_wp2_with fail
    refine (HG1.out _ (hT.below hb01 hgt)).mono ?_
    rintro e w2 ⟨rfl, hb2⟩
    have hb02 := hb01.trans (hb2.mono hb01.size)
    go_wp2_with fail
    go_ret2
    exact ⟨rfl, hb02⟩
  rw [hg] at HF; rw [ht] at HG
  have HF1 : Hid _ := HF
  have HG1 : Hid _ := HG
  have HM : Hid (40 < (setL S V l).length → setO S V l = none) := setO_many
  have HI : Hid (¬ 40 < (setL S V l).length → setO S V l = some (setL S V l)) := setO_is hg ht
  have HLL : Hid (setL S V l = if (setP S V l).2 = true then (setP S V l).1 else (setP S V l).1 ++ [(S, V)]) := rfl
  have HPP : Hid ((setP S V l).2 = hasL (lowS S) l) := setP_put S V l
  have hslen := setP_len S V l
  have HP : Hid _ := fun w f => firstPlaces_any a ca l w lo hi (by omega) hz f
  have HL : Hid _ := fun w => implLow_any S w hS
  have hksz : (lowS S).size ≤ maxLen := by rw [lowS_size]; unfold maxLen; omega
  have hkey : keyOf Tryd.prog 9 (.string (lowS S)) = some (kl (lowS S)) := keyOf_string_mk Tryd.underlying9 hksz
  clear HF HG hg ht hksz
  go_enter Tryd.func15, Tryd.ntmps15
  go_wp2_with fail
  refine (HF1.out _ hT0 ha0).mono ?_
  rintro e w1 ⟨rfl, hb1⟩
  have hb01 := hbox.trans (hb1.mono hbox.size)
  have ha1 := ha0.below hb1
  have hc0 := (hb1.cell (p := ⟨w.heap.size, 0, none⟩) hp0).trans hS0
  have hc1 := (hb1.cell (p := ⟨w.heap.size, 1, none⟩) hp0).trans hV0
  have hp1 := Nat.lt_of_lt_of_le hp0 hb1.size
  clear hS0 hV0 ha0 hb1
  go_wp2_with fail
  refine (HG1.out _ (hT.below hb01 hgt)).mono ?_
  rintro e w2 ⟨rfl, hb2⟩
  have hb02 := hb01.trans (hb2.mono hb01.size)
  have ha2 := ha1.below hb2
  have hd0 := (hb2.cell (p := ⟨w.heap.size, 0, none⟩) hp1).trans hc0
  have hd1 := (hb2.cell (p := ⟨w.heap.size, 1, none⟩) hp1).trans hc1
  have hp2 := Nat.lt_of_lt_of_le hp1 hb2.size
  clear hc0 hc1 ha1 hb2 hb01
  go_wp2_with fail
  refine (HP.out _ ha2).mono ?_
  rintro e w3 ⟨b, D, rfl, hbb, hown, hMP, hb3⟩
  have HMP : Hid (MP D l) := hMP
  have hb03 := hb02.trans (hb3.mono hb02.size)
  have ha3 := ha2.below hb3
  have he0 := (hb3.cell (p := ⟨w.heap.size, 0, none⟩) hp2).trans hd0
  have he1 := (hb3.cell (p := ⟨w.heap.size, 1, none⟩) hp2).trans hd1
  have hp3 := Nat.lt_of_lt_of_le hp2 hb3.size
  clear hMP hd0 hd1 ha2 hb3 hb02
  go_wp2_with fail
  refine (HL.out _).mono ?_
  rintro e w4 ⟨rfl, hb4⟩
  have hb04 := hb03.trans (hb4.mono hb03.size)
  have ha4 := ha3.below hb4
  have hown4 := hown.kept (Mrk.grown_of none hb4) (by simp)
  have hf0 := (hb4.cell (p := ⟨w.heap.size, 0, none⟩) hp3).trans he0
  have hf1 := (hb4.cell (p := ⟨w.heap.size, 1, none⟩) hp3).trans he1
  have hp4 := Nat.lt_of_lt_of_le hp3 hb4.size
  clear hown ha3 ha he0 he1 hb4 hb03
  obtain ⟨v, ps, hrun, hv⟩ := hown4.look_ok skey Tryd.underlying74 (zeroI _) (plainElem_int Tryd.underlying3 (by decide)) hkey
  obtain ⟨cc, rfl, hcc, _⟩ := plainElem_int_inv Tryd.underlying3 hv
  have e1 := (congrArg Prod.fst hcc).symm.trans (HMP.out.2 (lowS S)).1
  injection e1 with e1; injection e1 with _ e1
  rw [(HMP.out.2 (lowS S)).2] at hrun
  clear hv hcc hkey
  by_cases h0 : l = []
  · subst h0
    have hh : hasL (lowS S) [] = false := rfl
    have HLn : Hid (setL S V [] = [] ++ [(S, V)]) := rfl
    have hcc : cc = 0 := e1
    subst hcc
    rw [hh] at hrun
    clear HLL HPP hslen
    go_wp2_with fail
    go_loop [9, 33] (fun v i => v = .slice (some ⟨w4.heap.size, 0, none⟩) 0 0 ∧ i = .int .i64 0) (fun _ _ => 0)
    case atStart => exact ⟨rfl, rfl⟩
    case round =>
      obtain ⟨rfl, rfl⟩ := hrel
      have hm0 := fieldsIn.made w4 w4.heap.size (Nat.le_refl _)
      have hbm : Below w4.heap.size w4 (w4.alloc (.cells #[] 31)) := (Below.refl _ _).alloc (Nat.le_refl _) _
      go_wp2_with (at_builtin; go_loud (refine wpList_append_field _ rfl _ _ rfl w4.heap.size _ [] (by rfl) hm0 S V 1 (by rw [World.size_alloc]; rfl) (by decide) hbm.size w4.heap.size (Nat.le_refl _) w4 hbm ?_))
      intro v' w5 hown5 hbel5
      obtain ⟨a5, c5, rfl, _⟩ := fv_of hown5
      have hb05 := hb04.trans (hbel5.mono hb04.size)
      have HO : Hid (setO S V [] = some ([] ++ [(S, V)])) := by show _ = _; rw [HI.out (by rw [HLn.out]; show ¬ 40 < 1; decide), HLn.out]
      go_wp2_with fail
      go_ret2
      exact ⟨by rw [HO.out]; exact ⟨_, rfl, hown5.base hb04.size⟩, hb05⟩
  rcases ha4 with ha4 | ⟨g, rfl, _, _, ga⟩
  · exact absurd ha4 h0
  have GA : Hid (RowF w4 g l) := ga
  have HOW : Hid (w4.ownsMap Tryd.prog 9 (plainElem Tryd.prog 3) b l.length D) := hown4
  clear ga hown4
  cases hh : hasL (lowS S) l
  · rw [hh] at hrun
    have hcc : cc = 0 := e1.trans (posL_not hh)
    subst hcc
    have HN : Hid (∀ j, (hj : j < l.length) → isN S l[j] = false) := fun j hj => isN_no hh hj
    have HLn : Hid (setL S V l = (setP S V l).1 ++ [(S, V)]) := by show _ = _; rw [HLL.out, HPP.out, hh]; rfl
    clear HLL HPP hh e1
    go_wp2_with fail
    clear hrun
    go_loopw [9, 33] (fun v i wr => ∃ k : Nat, k ≤ l.length ∧ i = .int .i64 k ∧ Below w4.heap.size w4 wr ∧ fieldsIn wr w4.heap.size v (setP S V (l.take k)).1) (fun _ i _ => l.length - (intOf i).toNat)
    case atStart => exact ⟨0, by omega, rfl, (Below.refl _ _).alloc (Nat.le_refl _) _, fieldsIn.made w4 _ (Nat.le_refl _)⟩
    case round =>
      obtain ⟨k, hk, rfl, hbel, hown⟩ := hrel
      have hB := hbel.size
      by_cases hlt : k < l.length
      · obtain ⟨k1, k2⟩ := (GA.out.below hbel).2.2 k l[k] (List.getElem?_eq_getElem hlt)
        have htk : l.take (k + 1) = l.take k ++ [l[k]] := List.take_succ_eq_append_getElem hlt
        have HST : Hid (setP S V (l.take (k + 1)) = stepS S V (setP S V (l.take k)) l[k]) := by show _ = _; rw [htk]; exact setP_snoc S V _ _
        have hlen2 : (setP S V (l.take k)).1.length ≤ k := Nat.le_trans (setP_len S V _) (by rw [List.length_take]; omega)
        have hin := HN.out k hlt
        generalize l[k] = c at *
        obtain ⟨X, Y⟩ := c
        dsimp only at k1 k2
        generalize setP S V (l.take k) = st at *
        obtain ⟨acc, pb⟩ := st
        dsimp only at hown hlen2
        have HS' : Hid (setP S V (l.take (k + 1)) = (acc ++ [(X, Y)], pb)) := by show _ = _; rw [HST.out, step_no hin]
        have hx := hbel.alloc hB (.cells #[.string X, .string Y] 31)
        have hown1 := hown.alloc (.cells #[.string X, .string Y] 31)
        have hBx := hx.size
        clear htk HST hin hown hbel
        go_wp2_with (at_builtin; go_loud (refine wpList_append_field _ rfl _ _ rfl w4.heap.size _ acc (by rfl) hown1 X Y 1 (by rw [World.size_alloc]; rfl) ?q3 hBx w4.heap.size (Nat.le_refl _) w4 hx ?_))
        case q3 => omega
        intro v' w5 hown5 hbel5
        clear hown1 hx hBx k1 k2
        go_wp2_with fail
        go_roundw
        case rel => exact ⟨k + 1, by omega, by go_num, hbel5, by rw [HS'.out]; exact hown5⟩
        case measure => simp [intOf]; omega
      · obtain rfl : k = l.length := by omega
        rw [List.take_length] at hown
        have hg0 := (hbel.cell (p := ⟨w.heap.size, 0, none⟩) hp4).trans hf0
        have hg1 := (hbel.cell (p := ⟨w.heap.size, 1, none⟩) hp4).trans hf1
        generalize hst : (setP S V l).1 = acc at *
        go_wp2_with (at_builtin; go_loud (refine wpList_append_field wr rfl _ _ rfl w4.heap.size _ acc (by rfl) hown S V 1 rfl ?q3 hB w4.heap.size (Nat.le_refl _) w4 hbel ?_))
        case q3 => omega
        intro v' w5 hown5 hbel5
        obtain ⟨a5, c5, rfl, _⟩ := fv_of hown5
        have hb05 := hb04.trans (hbel5.mono hb04.size)
        have HLn' : Hid (setL S V l = acc ++ [(S, V)]) := HLn.out
        clear hg0 hg1 hown hbel
        generalize acc ++ [(S, V)] = r at *
        by_cases hm : 40 < r.length
        · have hd : decide (40 < (r.length : Int)) = true := decide_eq_true (by omega)
          have HO : Hid (setO S V l = none) := HM.out (by rw [HLn'.out]; exact hm)
          clear hm
          go_wp2_with fail
          go_ret2
          exact ⟨by rw [HO.out]; rfl, hb05⟩
        · have hd : decide (40 < (r.length : Int)) = false := decide_eq_false (by omega)
          have HO : Hid (setO S V l = some r) := by show _ = _; rw [HI.out (by rw [HLn'.out]; exact hm), HLn'.out]
          clear hm
          go_wp2_with fail
          go_ret2
          exact ⟨by rw [HO.out]; exact ⟨_, rfl, hown5.base hb04.size⟩, hb05⟩
  · rw [hh] at hrun
    have hpos : posL (lowS S) l = (idxL (lowS S) l : Int) := if_pos hh
    have hlt0 := has_idx hh
    rw [hpos] at e1
    subst e1
    have HPS : Hid (∀ j, (hj : j < l.length) → (posL (lowS l[j].1) l == (idxL (lowS S) l : Int)) = isN S l[j]) := fun j hj => Vof.pos_same hj hh
    have HAT : Hid (isN S l[idxL (lowS S) l] = true) := isN_at hlt0
    have HTK : Hid (∀ k, k ≤ l.length → (setP S V (l.take k)).2 = decide (idxL (lowS S) l < k)) := fun k hk => (setP_put S V _).trans (has_take hk hh)
    have HBF : Hid (∀ j, (hj : j < l.length) → j < idxL (lowS S) l → isN S l[j] = false) := fun j hj h => by
      have := idx_not h hj
      unfold isN
      simpa using this
    have HLn : Hid (setL S V l = (setP S V l).1) := by show _ = _; rw [HLL.out, HPP.out, hh]; rfl
    clear HLL HPP hh hpos
    generalize idxL (lowS S) l = p at *
    go_wp2_with fail
    clear hrun
    go_loopw [9, 33] (fun v i wr => ∃ k : Nat, k ≤ l.length ∧ i = .int .i64 k ∧ Below w4.heap.size w4 wr ∧ fieldsIn wr w4.heap.size v (setP S V (l.take k)).1) (fun _ i _ => l.length - (intOf i).toNat)
    case atStart => exact ⟨0, by omega, rfl, (Below.refl _ _).alloc (Nat.le_refl _) _, fieldsIn.made w4 _ (Nat.le_refl _)⟩
    case round =>
      obtain ⟨k, hk, rfl, hbel, hown⟩ := hrel
      have hB := hbel.size
      by_cases hlt : k < l.length
      · obtain ⟨k1, k2⟩ := (GA.out.below hbel).2.2 k l[k] (List.getElem?_eq_getElem hlt)
        obtain ⟨hs1, hs2⟩ := hz l[k] (List.getElem_mem hlt)
        have htk : l.take (k + 1) = l.take k ++ [l[k]] := List.take_succ_eq_append_getElem hlt
        have HST : Hid (setP S V (l.take (k + 1)) = stepS S V (setP S V (l.take k)) l[k]) := by show _ = _; rw [htk]; exact setP_snoc S V _ _
        have hlen2 : (setP S V (l.take k)).1.length ≤ k := Nat.le_trans (setP_len S V _) (by rw [List.length_take]; omega)
        have hpb := HTK.out k hk
        have hps := HPS.out k hlt
        have hat : k = p → isN S l[k] = true := fun e => by subst e; exact HAT.out
        have hbf : k < p → isN S l[k] = false := fun e => HBF.out k hlt e
        have hg1 := (hbel.cell (p := ⟨w.heap.size, 1, none⟩) hp4).trans hf1
        generalize l[k] = c at *
        obtain ⟨X, Y⟩ := c
        dsimp only at k1 k2 hs1 hs2 hps
        generalize setP S V (l.take k) = st at *
        obtain ⟨acc, pb⟩ := st
        dsimp only at hown hlen2 hpb
        have hx := hbel.alloc hB (.cells #[.string X, .string Y] 31)
        have hown1 := hown.alloc (.cells #[.string X, .string Y] 31)
        have hBx := hx.size
        by_cases hkp : k = p
        · subst hkp
          have hin := hat rfl
          rw [decide_eq_false (Nat.lt_irrefl _)] at hpb
          subst hpb
          have HS' : Hid (setP S V (l.take (k + 1)) = (acc ++ [(X, V)], true)) := by show _ = _; rw [HST.out, step_new hin]
          have hpr : w.heap.size < wr.heap.size := Nat.lt_of_lt_of_le hp4 hB
          clear htk HST hin hown hbel hat hbf hps
          go_wp2_with (at_builtin; go_loud (refine wpList_append_field _ rfl _ _ rfl w4.heap.size _ acc (by rfl) hown1 X V 1 (by rw [World.size_alloc]; rfl) ?q3 hBx w4.heap.size (Nat.le_refl _) w4 hx ?_))
          case q3 => omega
          intro v' w5 hown5 hbel5
          clear hown1 hx hBx k1 k2 hg1
          go_wp2_with fail
          go_roundw
          case rel => exact ⟨k + 1, by omega, by go_num, hbel5, by rw [HS'.out]; exact hown5⟩
          case measure => simp [intOf]; omega
        · have hkd : ((k : Int) == (p : Int)) = false := by rw [beq_eq_false_iff_ne]; omega
          have HLow : Hid _ := fun w => implLow_any X w hs1
          have hksz : (lowS X).size ≤ maxLen := by rw [lowS_size]; unfold maxLen; omega
          have hkey : keyOf Tryd.prog 9 (.string (lowS X)) = some (kl (lowS X)) := keyOf_string_mk Tryd.underlying9 hksz
          have hown0 := hown
          clear htk hat hg1 hown hs1 hs2 hksz
          go_wp2_with fail
          refine (HLow.out _).mono ?_
          rintro e w5 ⟨rfl, hb5⟩
          have hbel5 := hx.trans (hb5.mono hx.size)
          have hown5 := hown1.below hb5
          have hx0 : w5.cell? ⟨wr.heap.size, 0, none⟩ = some (.string X) := (hb5.cell (p := ⟨wr.heap.size, 0, none⟩) (by simp)).trans (by simp [go_sem])
          have hx1 : w5.cell? ⟨wr.heap.size, 1, none⟩ = some (.string Y) := (hb5.cell (p := ⟨wr.heap.size, 1, none⟩) (by simp)).trans (by simp [go_sem])
          obtain ⟨c2, hrun2, hat2, _⟩ := (World.ownsMap.kept HOW.out (Mrk.grown_of none hbel5) (by simp)).lookup_int skey Tryd.underlying74 Tryd.underlying3 (zeroI _) hkey
          have e2 := hat2.symm.trans (HMP.out.2 (lowS X)).1
          injection e2 with e2; injection e2 with _ e2
          rw [← e2] at hps
          have hB5 := hbel5.size
          clear e2 hat2 hb5 hown1 hx hBx k1 k2 hkey hown0 hbel
          cases hi : isN S (X, Y)
          · rw [hi] at hps
            have HS' : Hid (setP S V (l.take (k + 1)) = (acc ++ [(X, Y)], pb)) := by show _ = _; rw [HST.out, step_no hi]
            clear hi HST hbf hpb
            go_wp2_with (at_builtin; go_loud (refine wpList_append_field w5 rfl _ _ rfl w4.heap.size _ acc (by rfl) hown5 X Y 1 rfl ?q3 hB5 w4.heap.size (Nat.le_refl _) w4 hbel5 ?_))
            case q3 => omega
            intro v' w6 hown6 hbel6
            clear hown5 hbel5 hB5 hx0 hx1 hrun2
            go_wp2_with fail
            go_roundw
            case rel => exact ⟨k + 1, by omega, by go_num, hbel6, by rw [HS'.out]; exact hown6⟩
            case measure => simp [intOf]; omega
          · rw [hi] at hps
            have hpk : p < k := by
              rcases Nat.lt_or_ge k p with h | h
              · rw [hbf h] at hi; cases hi
              · omega
            rw [decide_eq_true hpk] at hpb
            subst hpb
            have HS' : Hid (setP S V (l.take (k + 1)) = (acc, true)) := by show _ = _; rw [HST.out, step_old hi]
            clear hi HST hbf hpk
            go_wp2_with fail
            go_roundw
            case rel => exact ⟨k + 1, by omega, by go_num, hbel5, by rw [HS'.out]; exact hown5⟩
            case measure => simp [intOf]; omega
      · obtain rfl : k = l.length := by omega
        rw [List.take_length] at hown
        have HLn' : Hid (setL S V l = (setP S V l).1) := HLn.out
        generalize (setP S V l).1 = r at *
        obtain ⟨a5, c5, rfl, _⟩ := fv_of hown
        have hb05 := hb04.trans (hbel.mono hb04.size)
        have hm : ¬ 40 < r.length := by omega
        have hd : decide (40 < (r.length : Int)) = false := decide_eq_false (by omega)
        have HO : Hid (setO S V l = some r) := by show _ = _; rw [HI.out (by rw [HLn'.out]; exact hm), HLn'.out]
        clear hm
        go_wp2_with fail
        go_ret2
        exact ⟨by rw [HO.out]; exact ⟨_, rfl, hown.base hb04.size⟩, hb05⟩

end Go.Proofs.YtaplkbkpgdpbaaaDoor.Stf
