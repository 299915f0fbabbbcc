/-
  Walks: impl.lengthOf.
-/
import Derived.Test.YtfgcgnhffljiaaaGreatDoorLns
import Derived.Test.YtfgcgnhffljiaaaGreatDoorErs
namespace Go.Proofs.YtfgcgnhffljiaaaGreatDoor.Lnp
open Go.RowKit
open Go.Proofs.YtfgcgnhffljiaaaGreatDoor.Byt
open Go.Proofs.YtfgcgnhffljiaaaGreatDoor.Fbs
open Go.Proofs.YtfgcgnhffljiaaaGreatDoor.Fch
open Go.Proofs.YtfgcgnhffljiaaaGreatDoor.Ows
open Go.Proofs.YtfgcgnhffljiaaaGreatDoor.Fdb
open Go.Proofs.YtfgcgnhffljiaaaGreatDoor.Fvs
open Go.Proofs.YtfgcgnhffljiaaaGreatDoor.Wgt (rdL ret_i)
open Go.Proofs.YtfgcgnhffljiaaaGreatDoor.Mrk (TV RowT tv_of lst told_tv)
open Go.Proofs.YtfgcgnhffljiaaaGreatDoor.Lsp (listO listL)

/-- 'append(v, l...)' of texts, for the walk. -/
theorem wpList_append_texts (w : World) {ops : Array Oper} {rest : List Oper} {o : Oper} {a : Act} {Q : Exit → Act → World → Prop} (hgd : o.guard = none) (s x : Operand)
    (ho : o.op = .call { callee := .builtin .append, args := #[s, x], argTypes := #[26, 26] })
    (B : Nat) (v : Value) (l : List ByteArray) (hs : a.eval s = v) (hown : textsIn w B v l)
    (g m c : Nat) (news : List ByteArray) (hx : a.eval x = .slice (some ⟨g, 0, none⟩) m c) (hl : news.length = m)
    (hnews : ∀ j X, news[j]? = some X → w.cell? ⟨g, j, none⟩ = some (.string X))
    (hb : l.length + m ≤ 8796093022208) (hbase : B ≤ w.heap.size) (B0 : Nat) (hB0 : B0 ≤ B) (W : World) (hbel : Below B0 W w)
    (h : ∀ v' w', textsIn w' B v' (l ++ news) → Below B0 W w' → wpList Tryz.prog ops Q rest (a.put o.dst v') w') : wpList Tryz.prog ops Q (o :: rest) a w := by
  obtain ⟨i0, hi, hz0, hz1, hz2⟩ := info_parts info9
  refine wpList_append_own w hgd s x 26 ho B 9 i0 (.string ⟨#[]⟩) 1 16 Tryz.underlying26 hi hz0 hz1 hz2 rfl (by decide) v l.length _ hs hown ⟨g, 0, none⟩ m c (news.map Value.string) hx (by simp [hl]) ?_ ?_
    (by unfold maxLen; omega) (by omega) hbase ?_
  · intro j u hj
    rw [List.getElem?_map] at hj
    cases hn : news[j]? with
    | none => rw [hn] at hj; cases hj
    | some X =>
      rw [hn] at hj
      have : Value.string X = u := Option.some.inj hj
      subst this
      rw [Addr.add_lit, Nat.zero_add]
      exact hnews j X hn
  · intro u hu
    obtain ⟨_, _, rfl⟩ := List.mem_map.1 hu
    rfl
  · intro v' w' hown' hg _
    refine h v' w' ?_ (hbel.grown hg (Nat.le_trans hB0 hbase) (fun k hk => Nat.le_trans hB0 (World.ownsRow.lt hown k hk).1))
    unfold textsIn
    rw [List.length_append, List.map_append, hl]
    exact hown'

theorem lenF_all : ∀ (l : List ByteArray) (n : Int), 0 ≤ n → (∀ x ∈ l, numS x = n) → lenF l n = n
  | [], _, _, _ => rfl
  | p :: r, n, hn, h => by
    have hp := h p (by simp)
    rw [lenF_go (by omega), hp]
    exact lenF_all r n hn (fun x hx => h x (by simp [hx]))
theorem lenF_other : ∀ (l : List ByteArray) (n : Int), 0 ≤ n → (∃ x ∈ l, numS x ≠ n) → lenF l n = -2
  | [], _, _, h => by obtain ⟨_, h, _⟩ := h; cases h
  | p :: r, n, hn, h => by
    by_cases hp : numS p = n
    · rw [lenF_go (by omega), hp]
      refine lenF_other r n hn ?_
      obtain ⟨x, hx, hne⟩ := h
      rcases List.mem_cons.1 hx with rfl | hx
      · exact absurd hp hne
      · exact ⟨x, hx, hne⟩
    · exact lenF_bad (.inr ⟨hn, fun e => hp e.symm⟩)
theorem told_bad {q : List ByteArray} (h0 : 0 < q.length) {j : Nat} (hj : j < q.length) (h : numS q[j] < 0 ∨ numS q[j] ≠ numS q[0]) : lenF q (-1) = -2 := by
  cases q with
  | nil => simp at h0
  | cons p r =>
    by_cases hp : numS p < 0
    · exact lenF_bad (.inl hp)
    · rw [lenF_go (by omega)]
      cases j with
      | zero => rcases h with h | h
                · exact absurd h hp
                · exact absurd rfl h
      | succ j =>
        refine lenF_other r _ (by omega) ⟨r[j]'(by simpa using hj), List.getElem_mem _, ?_⟩
        have h' : numS (r[j]'(by simpa using hj)) < 0 ∨ numS (r[j]'(by simpa using hj)) ≠ numS p := h
        omega
theorem told_good {q : List ByteArray} (h0 : 0 < q.length) (h : ∀ j, (hj : j < q.length) → ¬ (numS q[j] < 0 ∨ numS q[j] ≠ numS q[0])) : lenF q (-1) = numS q[0] := by
  cases q with
  | nil => simp at h0
  | cons p r =>
    have hp := h 0 h0
    have hp' : ¬ (numS p < 0 ∨ numS p ≠ numS p) := hp
    rw [lenF_go (by omega)]
    refine lenF_all r _ (by omega) (fun x hx => ?_)
    obtain ⟨j, hj, rfl⟩ := List.getElem_of_mem hx
    have := h (j + 1) (by simpa using hj)
    have this : ¬ (numS r[j] < 0 ∨ numS r[j] ≠ numS p) := this
    omega
theorem lnV_parts (l : List (ByteArray × ByteArray)) : lnV l = match partsV (valsOf clen l) with | none => -2 | some q => lenF q (-1) := lenV_parts _ _ (by decide)
theorem parts_none {v : ByteArray} {r : List ByteArray} (h : listO v = none ∨ listO v = some []) : partsV (v :: r) = none := by
  rw [partsV]
  rcases h with h | h <;> rw [h]
theorem parts_some {v : ByteArray} {r ps : List ByteArray} (h : listO v = some ps) (h0 : ps ≠ []) : partsV (v :: r) = (partsV r).map (fun q => ps ++ q) := by
  rw [partsV, h]
  cases ps with
  | nil => exact absurd rfl h0
  | cons p ps => rfl
theorem list_len {s : ByteArray} {ps : List ByteArray} (h : listO s = some ps) : ps.length ≤ 400 := by
  unfold listO at h
  split at h
  · rename_i hh
    rw [Lit.list_pairs] at h
    have := Lit.pairF_len s (s.size + 2) 0 0 false
    split at h
    · have e : ps = (Lit.pairL s).map (·.1) := (Option.some.inj h).symm
      rw [e, List.length_map]; unfold Lit.pairL; omega
    · cases h
  · cases h

def fault (c : Int) : Value := .iface 139 (.agg #[.int .i64 c])
def sent (b : Addr) : Value := .iface 237 (.pointer (some b))
/-- What lengthOf answers. -/
def lnE (b : Addr) (l : List (ByteArray × ByteArray)) : Int × Value :=
  if goodL l = true then (if valsOf clen l = [] then (0, sent b) else if lnV l = -2 then (0, fault 4) else (lnV l, .nilIface)) else (0, fault 3)
theorem lnE_bad {b : Addr} {l : List (ByteArray × ByteArray)} (h : goodL l = false) : lnE b l = (0, fault 3) := by unfold lnE; rw [if_neg (by simp [h])]
theorem lnE_none {b : Addr} {l : List (ByteArray × ByteArray)} (hg : goodL l = true) (h : valsOf clen l = []) : lnE b l = (0, sent b) := by unfold lnE; rw [if_pos hg, if_pos h]
theorem lnE_wrong {b : Addr} {l : List (ByteArray × ByteArray)} (hg : goodL l = true) (h : valsOf clen l ≠ []) (h2 : lnV l = -2) : lnE b l = (0, fault 4) := by unfold lnE; rw [if_pos hg, if_neg h, if_pos h2]
theorem lnE_is {b : Addr} {l : List (ByteArray × ByteArray)} (hg : goodL l = true) (h : valsOf clen l ≠ []) (h2 : lnV l ≠ -2) : lnE b l = (lnV l, .nilIface) := by unfold lnE; rw [if_pos hg, if_neg h, if_neg h2]
theorem ret_lnE {a : Int} {v : Value} {r : Int × Value} (h : r = (a, v)) : Ending.returned (.tuple #[.int .i64 a, v]) = .returned (.tuple #[.int .i64 r.1, r.2]) := by rw [h]

set_option maxRecDepth 20000 in
set_option maxHeartbeats 3200000 in
theorem lengthOf_any (a : Option Addr) (ca : Nat) (l : List (ByteArray × ByteArray)) (b : Addr) (w : World) (lo hi : Nat) (hT : Tab w) (hE : w.cell? ⟨1, 0, none⟩ = some (sent b)) (hz : SzF l) (hca : l.length ≤ ca) (ha : FV w a l lo hi) :
    Calls Tryz.prog 140 #[.slice a l.length ca] w fun e w' => e = .returned (.tuple #[.int .i64 (lnE b l).1, (lnE b l).2]) ∧ Below w.heap.size w w' := by
  have hgt := hT.lt
  have het := World.block_lt_of_cell? _ _ hE
  have HEE : Hid (w.cell? ⟨1, 0, none⟩ = some (sent b)) := hE
  have HV : Calls Tryz.prog 82 #[.slice a l.length ca, .string clen] w fun e w' => Lsp.Told w' w.heap.size e (valO l clen) ∧ Below w.heap.size w w' := Vof.implVals_any a ca l clen w lo hi hT (by decide) hz hca ha
  clear hE
  have htk : tokenB clen.data.toList = true := by decide
  cases hg : goodL l
  · have HR : Hid (lnE b l = (0, fault 3)) := lnE_bad hg
    rw [Vof.valO_bad hg] at HV
    have HV1 : Hid _ := HV
    clear HV hg htk
    go_enter Tryz.func140, Tryz.ntmps140
    go_wp2_with fail
    refine (Calls.mono HV1.out ?_)
    rintro e w1 ⟨rfl, hb1⟩
    go_wp2_with fail
    go_ret2
    exact ⟨ret_lnE HR.out, hb1⟩
  rw [Vof.valO_is hg htk] at HV
  have HV1 : Hid _ := HV
  clear HV htk
  have hlen : (valsOf clen l).length ≤ 40 := Nat.le_trans (valsOf_len clen l) (goodL_all hg).1
  have HVL : Hid _ := vals_list (n := clen) hg
  have HN : Hid (valsOf clen l = [] → lnE b l = (0, sent b)) := lnE_none hg
  have HW : Hid (valsOf clen l ≠ [] → lnV l = -2 → lnE b l = (0, fault 4)) := lnE_wrong hg
  have HI : Hid (valsOf clen l ≠ [] → lnV l ≠ -2 → lnE b l = (lnV l, .nilIface)) := lnE_is hg
  have HP : Hid (lnV l = match partsV (valsOf clen l) with | none => -2 | some q => lenF q (-1)) := lnV_parts l
  generalize lnV l = T at HW HI HP
  generalize lnE b l = R at HN HW HI ⊢
  generalize valsOf clen l = vs at HV1 hlen HVL HN HW HI HP
  clear hg hz ha hca
  go_enter Tryz.func140, Tryz.ntmps140
  go_wp2_with fail
  refine (Calls.mono HV1.out ?_)
  rintro e w1 ⟨⟨v, rfl, hown⟩, hb1⟩
  obtain ⟨a1, c1, rfl, T1⟩ := tv_of hown
  clear hown
  by_cases h0 : vs = []
  · subst h0
    have HR : Hid (R = (0, sent b)) := HN.out rfl
    have hE1 : w1.cell? ⟨1, 0, none⟩ = some (.iface 237 (.pointer (some b))) := (hb1.cell (p := ⟨1, 0, none⟩) het).trans HEE.out
    clear HN HW HI HP
    go_wp2_with fail
    go_region
    all_goals
      go_wp2_with fail
      go_ret2
      exact ⟨ret_lnE HR.out, hb1.drew⟩
  have hp1 := List.length_pos_iff.2 h0
  have hpz : ((vs.length : Int) == 0) = false := by rw [beq_eq_false_iff_ne]; omega
  have HW' : Hid (T = -2 → R = (0, fault 4)) := HW.out h0
  have HI' : Hid (T ≠ -2 → R = (T, .nilIface)) := HI.out h0
  rcases T1 with T1 | ⟨g, rfl, _, _, ga⟩
  · exact absurd T1 h0
  have GA : Hid (RowT w1 g vs) := ga
  clear ga HV1 HN HW HI
  go_wp2_with fail
  go_loopw [6, 31] (fun v i wr => ∃ (k : Nat) (acc : List ByteArray), k ≤ vs.length ∧ i = .int .i64 k ∧ textsIn wr w1.heap.size v acc ∧ acc.length ≤ k * 400 ∧ (0 < k → acc ≠ []) ∧ Below w1.heap.size w1 wr ∧ Hid (partsV vs = (partsV (vs.drop k)).map fun q => acc ++ q)) (fun _ i _ => vs.length - (intOf i).toNat)
  case atStart => exact ⟨0, [], by omega, rfl, Vof.texts_made w1 _ (Nat.le_refl _), Nat.zero_le _, fun h => absurd h (by omega), (Below.refl _ _).alloc (Nat.le_refl _) _, by show _ = _; simp⟩
  case round =>
    obtain ⟨k, acc, hk, rfl, hown, hacc, hne, hbel, HK⟩ := hrel
    have hbw := hb1.trans (hbel.mono hb1.size)
    have hB := hbel.size
    by_cases hlt : k < vs.length
    · have hc := (GA.out.below hbel).2.2 k vs[k] (List.getElem?_eq_getElem hlt)
      obtain ⟨_, hs300⟩ := HVL.out vs[k] (List.getElem_mem hlt)
      have hdr : vs.drop k = vs[k] :: vs.drop (k + 1) := List.drop_eq_getElem_cons hlt
      rw [hdr] at HK
      have HLi : Hid _ := fun w => Lit.implList_any vs[k] w (by omega)
      clear hdr
      by_cases hbad : listO vs[k] = none ∨ listO vs[k] = some []
      · have HPN : Hid (partsV vs = none) := by show _ = _; rw [HK.out, parts_none hbad]; rfl
        have HR : Hid (R = (0, fault 4)) := HW'.out (by rw [HP.out, HPN.out])
        clear HPN HK HP
        rcases hbad with ho | ho
        · rw [ho] at HLi
          clear ho
          go_wp2_with fail
          refine (HLi.out _).mono ?_
          rintro e w2 ⟨rfl, hb2⟩
          have hbw2 := hbw.trans (hb2.mono hbw.size)
          go_wp2_with fail
          go_ret2
          exact ⟨ret_lnE HR.out, hbw2⟩
        · rw [ho] at HLi
          clear ho
          go_wp2_with fail
          refine (HLi.out _).mono ?_
          rintro e w2 ⟨⟨v, rfl, hown2⟩, hb2⟩
          obtain ⟨a2, c2, rfl, _⟩ := tv_of hown2
          have hbw2 := hbw.trans (hb2.mono hbw.size)
          clear hown2
          go_wp2_with fail
          go_ret2
          exact ⟨ret_lnE HR.out, hbw2⟩
      · cases ho : listO vs[k] with
        | none => exact absurd (.inl ho) hbad
        | some ps =>
          have hps0 : ps ≠ [] := fun e => hbad (.inr (by rw [ho, e]))
          have hpl := list_len ho
          have HK' : Hid (partsV vs = (partsV (vs.drop (k + 1))).map fun q => (acc ++ ps) ++ q) := by
            show _ = _
            rw [HK.out, parts_some ho hps0, Option.map_map]
            congr 1
            funext q
            simp [List.append_assoc]
          rw [ho] at HLi
          have hpp := List.length_pos_iff.2 hps0
          have hppz : ((ps.length : Int) == 0) = false := by rw [beq_eq_false_iff_ne]; omega
          clear HK ho hbad hs300
          go_wp2_with fail
          refine (HLi.out _).mono ?_
          rintro e w2 ⟨⟨v, rfl, hown2⟩, hb2⟩
          obtain ⟨a2, c2, rfl, T2⟩ := tv_of hown2
          rcases T2 with T2 | ⟨g2, rfl, _, _, gb⟩
          · exact absurd T2 hps0
          have hbel2 := hbel.trans (hb2.mono hB)
          have hown3 := hown.below hb2
          have hB2 := hbel2.size
          have hcells := gb.2.2
          have hap : acc ++ ps ≠ [] := by simp [hps0]
          clear hown hown2 gb hb2 hbw hbel hc hps0 hne
          go_wp2_with (at_builtin; go_loud (refine wpList_append_texts w2 rfl _ _ rfl w1.heap.size _ acc (by rfl) hown3 g2 ps.length c2 ps rfl rfl hcells ?q3 hB2 w1.heap.size (Nat.le_refl _) w1 hbel2 ?_))
          case q3 => omega
          intro v' w3 hown4 hbel4
          clear hown3 hbel2 hB2 hcells
          go_wp2_with fail
          go_roundw
          case rel => exact ⟨k + 1, _, by omega, by go_num, hown4, by rw [List.length_append]; omega, fun _ => hap, hbel4, HK'⟩
          case measure => simp [intOf]; omega
    · have HQ : Hid (T = lenF acc (-1)) := by
        show _ = _
        rw [HP.out, HK.out, List.drop_eq_nil_of_le (by omega)]
        simp [partsV]
      have ha0 : acc ≠ [] := hne (by omega)
      obtain ⟨a3, c3, rfl, T3⟩ := tv_of hown
      rcases T3 with T3 | ⟨g3, rfl, _, _, gc⟩
      · exact absurd T3 ha0
      have GC : Hid (RowT wr g3 acc) := gc
      have hap := List.length_pos_iff.2 ha0
      have hc0 := gc.2.2 0 acc[0] (List.getElem?_eq_getElem hap)
      have HN0 : Hid _ := fun w t => readLength_any acc[0] w t
      have hTr := hT.below hbw hgt
      have hgtr := hTr.lt
      have HTr : Hid (Tab wr) := hTr
      have HBD : Hid (∀ j, (hj : j < acc.length) → (numS acc[j] < 0 ∨ numS acc[j] ≠ numS acc[0]) → R = (0, fault 4)) := fun j hj h => HW'.out (HQ.out.trans (told_bad hap hj h))
      have HGD : Hid ((∀ j, (hj : j < acc.length) → ¬ (numS acc[j] < 0 ∨ numS acc[j] ≠ numS acc[0])) → R = (numS acc[0], .nilIface)) := fun h => by
        have e := HQ.out.trans (told_good hap h)
        have h0 := h 0 hap
        rw [HI'.out (by omega), e]
      have HN : Hid _ := fun j (hj : j < acc.length) w t => readLength_any acc[j] w t
      clear gc hown hne HK HQ HP
      obtain ⟨L, hL⟩ : ∃ L, L = numS acc[0] := ⟨_, rfl⟩
      rw [← hL] at HN0 HBD HGD
      clear hL
      go_wp2_with fail
      refine (HN0.out _ HTr.out).mono ?_
      rintro e w2 ⟨rfl, hw⟩
      obtain rfl := hw.symm
      go_wp2_with fail
      go_loopw [59] (fun i wq => ∃ (j : Nat), j ≤ acc.length ∧ i = .int .i64 j ∧ wq = wr ∧ Hid (∀ j', (hj : j' < acc.length) → j' < j → ¬ (numS acc[j'] < 0 ∨ numS acc[j'] ≠ L))) (fun i _ => acc.length - (intOf i).toNat)
      case atStart => exact ⟨0, by omega, rfl, rfl, fun _ _ h => absurd h (by omega)⟩
      case round =>
        obtain ⟨j, hj, rfl, rfl, HJ⟩ := hrel
        by_cases hjt : j < acc.length
        · have hx := GC.out.2.2 j acc[j] (List.getElem?_eq_getElem hjt)
          have HNj : Hid _ := fun w t => HN.out j hjt w t
          have HBj : Hid ((numS acc[j] < 0 ∨ numS acc[j] ≠ L) → R = (0, fault 4)) := HBD.out j hjt
          have HJ' : Hid (¬ (numS acc[j] < 0 ∨ numS acc[j] ≠ L) → ∀ j', (hj : j' < acc.length) → j' < j + 1 → ¬ (numS acc[j'] < 0 ∨ numS acc[j'] ≠ L)) := by
            intro h j' hj' hlt'
            by_cases e : j' = j
            · subst e; exact h
            · exact HJ.out j' hj' (by omega)
          clear HJ
          generalize numS acc[j] = K at HNj HBj HJ'
          by_cases hK : K < 0
          · have hd : decide (K < 0) = true := decide_eq_true hK
            have HR : Hid (R = (0, fault 4)) := HBj.out (.inl hK)
            clear HBj HJ'
            go_wp2_with fail
            refine (HNj.out _ HTr.out).mono ?_
            rintro e w2 ⟨rfl, hw⟩
            obtain rfl := hw.symm
            go_wp2_with fail
            go_ret2
            exact ⟨ret_lnE HR.out, hbw⟩
          · have hd : decide (K < 0) = false := decide_eq_false hK
            by_cases hKL : K = L
            · have hde : (K == L) = true := by rw [beq_iff_eq]; exact hKL
              have HJn : Hid _ := HJ'.out (by omega)
              clear HBj HJ'
              go_wp2_with fail
              refine (HNj.out _ HTr.out).mono ?_
              rintro e w2 ⟨rfl, hw⟩
              obtain rfl := hw.symm
              go_wp2_with fail
              go_roundw
              case rel => exact ⟨j + 1, by omega, by go_num, by trivial, HJn⟩
              case measure => simp [intOf]; omega
            · have hde : (K == L) = false := by rw [beq_eq_false_iff_ne]; exact hKL
              have HR : Hid (R = (0, fault 4)) := HBj.out (.inr hKL)
              clear HBj HJ'
              go_wp2_with fail
              refine (HNj.out _ HTr.out).mono ?_
              rintro e w2 ⟨rfl, hw⟩
              obtain rfl := hw.symm
              go_wp2_with fail
              go_ret2
              exact ⟨ret_lnE HR.out, hbw⟩
        · have HR : Hid (R = (L, .nilIface)) := HGD.out (fun j' hj' => HJ.out j' hj' (by omega))
          go_wp2_with fail
          go_ret2
          exact ⟨ret_lnE HR.out, hbw⟩

end Go.Proofs.YtfgcgnhffljiaaaGreatDoor.Lnp
