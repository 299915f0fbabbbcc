/-
  Walk: impl.VaryOf.
-/
import Derived.Test.YtfgcgnhffljiaaaGreatDoorVrs
import Derived.Test.YtfgcgnhffljiaaaGreatDoorRsk
import Derived.Test.YtfgcgnhffljiaaaGreatDoorLit
import Derived.Test.YtfgcgnhffljiaaaGreatDoorShelf
import Derived.Sort.OwnSorted
import Derived.Lib.OwnBridge
import Derived.Deep.RegionHeld3
namespace Go.Proofs.YtfgcgnhffljiaaaGreatDoor.Vrp
open Go.RowKit
open Go.Sort (Holds grow putRow)
open Go.Proofs.YtfgcgnhffljiaaaGreatDoor.Fbs
open Go.Proofs.YtfgcgnhffljiaaaGreatDoor.Fch (Tab tokenB isToken_any)
open Go.Proofs.YtfgcgnhffljiaaaGreatDoor.Fdb (FV)
open Go.Proofs.YtfgcgnhffljiaaaGreatDoor.Fvs
open Go.Proofs.YtfgcgnhffljiaaaGreatDoor.Jnd
open Go.Proofs.YtfgcgnhffljiaaaGreatDoor.Rsb
open Go.Proofs.YtfgcgnhffljiaaaGreatDoor.Ows
open Go.Proofs.YtfgcgnhffljiaaaGreatDoor.Lof (lowS implLow_any)
open Go.Proofs.YtfgcgnhffljiaaaGreatDoor.Lsp (listL)
open Go.Proofs.YtfgcgnhffljiaaaGreatDoor.Mrk (TV RowT tv_of)
open Go.Proofs.YtfgcgnhffljiaaaGreatDoor.Num (tab_below tab_lt)
open Go.Proofs.YtfgcgnhffljiaaaGreatDoor.Lnp (sent)

/-- Behind the sort and what strikes the same out: the names, rising, each once. -/
theorem left_of {B : Nat} {w w1 : World} {g cap n nn q : Nat} {os : Array Obj} {ss : List (List UInt8)} (hown : w1.ownsRow B 9 1 (.slice (some ⟨g, 0, none⟩) n cap) n (ss.map encStr)) (hbel : Below B w w1) (hB : B ≤ w1.heap.size) (hbg : B ≤ g) (hlen : ss.length = n) :
    textsIn (putRow encStr (Sort.ahead (grow (putRow encStr (Sort.ahead w1 nn) g 0 (ss.mergeSort fun x y => decide (x ≤ y)).toArray) os) q) g 0 (Lib.compact (ss.mergeSort fun x y => decide (x ≤ y)) ++ List.replicate (n - (Lib.compact (ss.mergeSort fun x y => decide (x ≤ y))).length) []).toArray) B (.slice (some ⟨g, 0, none⟩) (Lib.compact (ss.mergeSort fun x y => decide (x ≤ y))).length cap) ((risT ss).map txt) ∧
    Below B w (putRow encStr (Sort.ahead (grow (putRow encStr (Sort.ahead w1 nn) g 0 (ss.mergeSort fun x y => decide (x ≤ y)).toArray) os) q) g 0 (Lib.compact (ss.mergeSort fun x y => decide (x ≤ y)) ++ List.replicate (n - (Lib.compact (ss.mergeSort fun x y => decide (x ≤ y))).length) []).toArray) := by
  have hl2 : (ss.mergeSort fun x y => decide (x ≤ y)).length = ss.length := List.length_mergeSort ss
  have hle := Lib.compact_length_le (ss.mergeSort fun x y => decide (x ≤ y))
  subst hlen
  rcases hown.2 with ⟨h0, _⟩ | ⟨g', cap', cur, hv, hbase, hb, h1, h2, h3, h4⟩
  · cases h0
  cases hv
  have hs := ownsRow_sorted (n := nn) (os := os) (ts := ss.mergeSort fun x y => decide (x ≤ y)) hl2 hbase hb h1 h2 h3
  have hc := Lib.ownsRow_putRow (q := q) (k := (Lib.compact (ss.mergeSort fun x y => decide (x ≤ y))).length) (ys := Lib.compact (ss.mergeSort fun x y => decide (x ≤ y)) ++ List.replicate (ss.length - (Lib.compact (ss.mergeSort fun x y => decide (x ≤ y))).length) []) hs (by simp; omega) (by omega)
  rw [List.take_left] at hc
  refine ⟨?_, Lib.below_putRow (hbel.grown (grownBy_sorted _) hB (fun j hj => by cases hj; exact hbase)) hbg⟩
  have e : ((risT ss).map txt).length = (Lib.compact (ss.mergeSort fun x y => decide (x ≤ y))).length := by rw [List.length_map, ris_eq]
  have e2 : ((risT ss).map txt).map Value.string = (Lib.compact (ss.mergeSort fun x y => decide (x ≤ y))).map encStr := by rw [List.map_map, ris_eq]; rfl
  unfold textsIn
  rw [e, e2]
  exact hc
theorem texts_made (w : World) (B : Nat) (h : B ≤ w.heap.size) : textsIn (w.alloc (.cells #[] 9)) B (.slice (some ⟨w.heap.size, 0, none⟩) 0 0) [] := by
  unfold textsIn
  exact World.ownsRow_made w #[] 0 h (by decide) rfl
theorem row_base {w : World} {B B' : Nat} {e : TypeId} {n : Nat} {v : Value} {xs : List Value} (h : w.ownsRow B e 1 v n xs) (hb : B' ≤ B) : w.ownsRow B' e 1 v n xs := by
  refine ⟨h.1, ?_⟩
  rcases h.2 with hn | ⟨g, cap, cur, rfl, hbg, rest⟩
  · exact .inl hn
  · exact .inr ⟨g, cap, cur, rfl, Nat.le_trans hb hbg, rest⟩
theorem jn_good {l : List (ByteArray × ByteArray)} (h : goodL l = true) : jnO l cVary = (joinS (valsOf cVary l), decide (0 < (valsOf cVary l).length)) := by
  unfold jnO valO
  rw [if_pos ⟨h, by decide +kernel⟩]

set_option maxRecDepth 20000 in
set_option maxHeartbeats 3200000 in
theorem implVary_any (S : Int) (R B : ByteArray) (a : Option Addr) (ca : Nat) (l : List (ByteArray × ByteArray)) (b : Addr) (w : World) (lo hi : Nat) (hT : Tab w) (hP : PowT w) (hE : w.cell? ⟨1, 0, none⟩ = some (sent b)) (hR : R.size ≤ 2000000) (hz : SzF l) (hca : l.length ≤ ca) (ha : FV w a l lo hi) :
    Calls Tryz.prog 11 #[.agg #[.int .i64 S, .string R, .slice a l.length ca, .string B]] w fun e w' => VaryT w' w.heap.size e (varyO S R l B) ∧ Below w.heap.size w w' := by
  obtain ⟨W0, hW0⟩ : ∃ W, W = w.alloc (.cells #[.int .i64 S, .string R, .slice a l.length ca, .string B] 31) := ⟨_, rfl⟩
  have hb0 : Below w.heap.size w W0 := by rw [hW0]; exact (Below.refl _ _).alloc (Nat.le_refl _) _
  have hgt := hT.lt
  have HX0 : Hid (BoxP W0 w.heap.size S R a l.length ca B) := by show BoxP _ _ _ _ _ _ _ _; rw [hW0]; exact BoxP.made w S R a l.length ca B _
  have HG : Hid (Calls Tryz.prog 41 #[.agg #[.int .i64 S, .string R, .slice a l.length ca, .string B]] W0 fun e w' => e = .returned (.bool (rsB S R l B)) ∧ Below W0.heap.size W0 w') := implGoodP_any S R B a ca l b W0 lo hi (hT.below hb0 hgt) (tab_below hP hb0 (tab_lt hP)) ((hb0.cell (p := ⟨1, 0, none⟩) (World.block_lt_of_cell? _ _ hE)).trans hE) hR hz hca (ha.below hb0)
  have HTb : Hid (∀ wx, Below w.heap.size w wx → Tab wx) := fun wx h => hT.below h hgt
  have HJ : Hid (rsB S R l B = true → ∀ wx, Below w.heap.size w wx → Calls Tryz.prog 42 #[.slice a l.length ca, .string ⟨#[118, 97, 114, 121]⟩] wx fun e w' => e = .returned (.tuple #[.string (joinS (valsOf cVary l)), .bool (decide (0 < (valsOf cVary l).length))]) ∧ Below wx.heap.size wx w') := fun hg wx hb => by
    have := implJoined_any a ca l cVary wx lo hi (hT.below hb hgt) (by decide) hz hca (ha.below hb)
    rw [jn_good (good_resp hg)] at this
    exact this
  have HJz : Hid (rsB S R l B = true → (joinS (valsOf cVary l)).size ≤ 20000) := fun hg => join_low (good_resp hg) cVary
  have HV : Hid (rsB S R l B = true → varyO S R l B = varyP (listL (joinS (valsOf cVary l)))) := fun hg => by unfold varyO; rw [if_pos hg]; rfl
  have HN : Hid (rsB S R l B = false → varyO S R l B = none) := fun h => by unfold varyO; rw [if_neg (by rw [h]; decide)]
  have HB0 : Hid (Below w.heap.size w W0) := hb0
  generalize varyO S R l B = oo at *
  generalize decide (0 < (valsOf cVary l).length) = t at HJ
  generalize joinS (valsOf cVary l) = J at *
  generalize rsB S R l B = r at *
  clear ha hb0 hT hP hE hgt hz hR
  go_enter Tryz.func11, Tryz.ntmps11
  go_wp2_with fail
  rw [← hW0]
  clear hW0
  refine Calls.mono HG.out ?_
  rintro e w1 ⟨rfl, hb1⟩
  have HX1 : Hid (BoxP w1 w.heap.size S R a l.length ca B) := HX0.out.below hb1
  have HB1 : Hid (Below w.heap.size w w1) := HB0.out.trans (hb1.mono HB0.out.size)
  obtain ⟨x0, x1, x2, x3⟩ := HX1.out
  clear hb1 HX0 HB0 HG HX1
  cases r
  · have HN' : Hid (oo = none) := HN.out rfl
    clear HV HN HJ HJz
    go_wp2_with fail
    exact bodyPost_ret (v := .tuple #[.slice none 0 0, .bool false, .bool false]) (by simp [results, Tryz.results11, go_sem]) rfl ⟨by rw [HN'.out]; rfl, HB1.out⟩
  have HJ' : Hid _ := HJ.out rfl
  have hJz := HJz.out rfl
  have HVo : Hid (oo = varyP (listL J)) := HV.out rfl
  have HL : Hid (∀ wx, Calls Tryz.prog 43 #[.string J] wx fun e w' => Lsp.Told w' wx.heap.size e (listL J) ∧ Below wx.heap.size wx w') := fun wx => Lit.partsOf_any J wx (by omega)
  have HZ : Hid (∀ l, listL J = some l → l.length ≤ 20001 ∧ ∀ x ∈ l, x.size ≤ 20000) := fun l h => ⟨by have := (list_sz h).1; omega, fun x hx => by have := (list_sz h).2 x hx; omega⟩
  generalize listL J = o at HL HZ HVo
  clear HV HN HJ HJz hJz
  go_wp2_with fail
  refine Calls.mono (HJ'.out w1 HB1.out) ?_
  rintro e w2 ⟨rfl, hb2⟩
  have HB2 : Hid (Below w.heap.size w w2) := HB1.out.trans (hb2.mono HB1.out.size)
  clear hb2 HJ' HB1 x0 x1 x2 x3
  go_wp2_with fail
  refine (HL.out _).mono ?_
  rintro e wz ⟨hto, hb3⟩
  have HB3 : Hid (Below w.heap.size w wz) := HB2.out.trans (hb3.mono HB2.out.size)
  have hno : o = none → e = .returned (.tuple #[.slice none 0 0, .bool false]) := fun h => by rw [h] at hto; exact hto
  have hso : ∀ l, o = some l → ∃ v, e = .returned (.tuple #[v, .bool true]) ∧ textsIn wz w2.heap.size v l := fun l h => by rw [h] at hto; exact hto
  clear hto hb3 HL
  cases o with
  | none =>
    obtain rfl := hno rfl
    clear hno hso HZ HB2
    go_wp2_with fail
    exact bodyPost_ret (v := .tuple #[.slice none 0 0, .bool false, .bool false]) (by simp [results, Tryz.results11, go_sem]) rfl ⟨by rw [HVo.out]; exact varyT_bad (fun l h => by cases h), HB3.out⟩
  | some l =>
    obtain ⟨pv, rfl, hv⟩ := hso l rfl
    obtain ⟨aP, cP, rfl, hTV⟩ := tv_of hv
    obtain ⟨hl1, hl2⟩ := HZ.out l rfl
    have HP2 : Hid (TV wz aP l w2.heap.size wz.heap.size) := hTV
    have HPz : Hid (∀ x ∈ l, x.size ≤ 20000) := hl2
    have HM0 : Hid (textsIn (wz.alloc (.cells #[] 9)) wz.heap.size (.slice (some ⟨wz.heap.size, 0, none⟩) 0 0) []) := texts_made wz _ (Nat.le_refl _)
    have HMB : Hid (Below wz.heap.size wz (wz.alloc (.cells #[] 9))) := (Below.refl _ _).alloc (Nat.le_refl _) _
    clear hv hTV HB2 HZ hl2 hno hso
    go_wp2_with fail
    go_loopw [9, 10, 32] (fun sv st c wr => ∃ i : Nat, i ≤ l.length ∧ c = .int .i64 i ∧ Hid (st = .bool (anyV (l.take i))) ∧ Hid (textsIn wr wz.heap.size sv ((nmV (l.take i)).map txt) ∧ sv ≠ .slice none 0 0) ∧ Hid (Below wz.heap.size wz wr) ∧ Hid (∀ j, (hj : j < l.length) → j < i → tokenB l[j].data.toList = true)) (fun _ _ c _ => l.length - (intOf c).toNat)
    case atStart => exact ⟨0, by omega, rfl, rfl, ⟨HM0.out, fun h => by cases h⟩, HMB, fun j _ h => absurd h (by omega)⟩
    case round =>
      obtain ⟨i, hi, rfl, HSt, HS, HB, HTk⟩ := hrel
      clear HM0 HMB
      by_cases hlt : i < l.length
      · obtain ⟨gp, rfl, hgl, hc⟩ := row_at (HP2.out.below HB.out) hlt
        have hxz := HPz.out _ (List.getElem_mem hlt)
        have HBw : Hid (Below w.heap.size w wr) := HB3.out.trans (HB.out.mono HB3.out.size)
        have HTok : Hid (∀ wx, Below w.heap.size w wx → Calls Tryz.prog 44 #[.string l[i]] wx fun e w' => e = .returned (.bool (tokenB l[i].data.toList)) ∧ w' = wx) := fun wx h => isToken_any l[i] wx (HTb.out wx h)
        have HLow : Hid (∀ wx, Calls Tryz.prog 45 #[.string l[i]] wx fun e w' => e = .returned (.string (lowS l[i])) ∧ Below wx.heap.size wx w') := fun wx => implLow_any l[i] wx (by omega)
        have hstep := any_step hlt
        have hns := @nm_star l i hlt
        have hnn := @nm_name l i hlt
        have hbad := @ok_no l i hlt
        have htk' : tokenB l[i].data.toList = true → ∀ j, (hj : j < l.length) → j < i + 1 → tokenB l[j].data.toList = true := by
          intro h j hj hji
          by_cases e : j = i
          · subst e; exact h
          · exact HTk.out j hj (by omega)
        have hnl := nm_len (l.take i)
        rw [List.length_take] at hnl
        cases htk : tokenB l[i].data.toList
        · have HK : Hid (∀ l', some l = some l' → okV l' = false) := fun l' e => by cases e; exact hbad htk
          rw [htk] at HTok
          clear HS HSt HTk HLow hstep hns hnn hbad htk' hnl htk
          generalize l[i] = X at hc hxz HTok
          go_wp2_with (go_at_call 44; refine (HTok.out _ HBw.out).mono ?_; rintro e w' ⟨rfl, hw⟩; obtain rfl := hw.symm)
          exact bodyPost_ret (v := .tuple #[.slice none 0 0, .bool false, .bool false]) (by simp [results, Tryz.results11, go_sem]) rfl ⟨by rw [HVo.out]; exact varyT_bad HK.out, HBw.out⟩
        · have HTk' : Hid (∀ j, (hj : j < l.length) → j < i + 1 → tokenB l[j].data.toList = true) := htk' htk
          rw [htk] at HTok
          cases hst : starT l[i]
          rotate_left
          · have hsx : (l[i].toList == [42]) = true := hst
            have HS' : Hid (textsIn wr wz.heap.size u9 ((nmV (l.take (i + 1))).map txt) ∧ u9 ≠ .slice none 0 0) := by show _ ∧ _; rw [hns hst]; exact HS.out
            have HAn : Hid (Value.bool true = .bool (anyV (l.take (i + 1)))) := by show _ = _; rw [hstep, hst, Bool.or_true]
            clear HS HSt HTk HLow hstep hns hnn hbad htk' hst hnl htk
            generalize l[i] = X at hc hsx hxz HTok
            go_wp2_with (go_at_call 44; refine (HTok.out _ HBw.out).mono ?_; rintro e w' ⟨rfl, hw⟩; obtain rfl := hw.symm)
            go_roundw
            case rel => exact ⟨i + 1, by omega, by go_num, HAn, HS', HB, HTk'⟩
            case measure => simp [intOf]; omega
          · have hsx : (l[i].toList == [42]) = false := hst
            have HAn : Hid (u10 = .bool (anyV (l.take (i + 1)))) := by show _ = _; rw [hstep, hst, Bool.or_false]; exact HSt.out
            have HNm : Hid ((nmV (l.take (i + 1))).map txt = (nmV (l.take i)).map txt ++ [lowS l[i]]) := by show _ = _; rw [hnn hst, List.map_append, List.map_cons, txt_data]; rfl
            have hml : ((nmV (l.take i)).map txt).length ≤ 20001 := by rw [List.length_map]; omega
            clear HSt HTk hstep hns hnn hbad htk' hst hnl htk
            generalize (nmV (l.take i)).map txt = acc at HS HNm hml
            generalize lowS l[i] = Pn at HNm HLow
            generalize l[i] = X at hc hsx hxz HTok HLow
            go_wp2_with (go_at_call 44; refine (HTok.out _ HBw.out).mono ?_; rintro e w' ⟨rfl, hw⟩; obtain rfl := hw.symm)
            refine (HLow.out _).mono ?_
            rintro e w4 ⟨rfl, hb4⟩
            have hS4 : textsIn w4 wz.heap.size u9 acc := HS.out.1.below hb4
            have HB4 : Hid (Below wz.heap.size wz w4) := HB.out.trans (hb4.mono HB.out.size)
            have hz4 := HB4.out.size
            clear hb4 HS HB HTok HLow
            go_wp2_with (at_builtin; refine wpList_append_text w4 rfl _ _ rfl wz.heap.size _ acc (by rfl) hS4 Pn _ rfl (by omega) hz4 wz.heap.size (Nat.le_refl _) w4 (Below.refl _ _) ?_)
            intro v5 w5 hown5 hb5
            have HS5 : Hid (textsIn w5 wz.heap.size v5 ((nmV (l.take (i + 1))).map txt) ∧ v5 ≠ .slice none 0 0) := by
              show _ ∧ _
              rw [HNm.out]
              refine ⟨hown5, fun h => ?_⟩
              rcases texts_form hown5 with ⟨_, h0⟩ | ⟨g5, c5, h5, _⟩
              · simp at h0
              · rw [h5] at h; cases h
            have HB5 : Hid (Below wz.heap.size wz w5) := HB4.out.trans hb5
            clear hown5 hb5 hS4 hz4 HB4 HNm
            go_wp2_with fail
            go_roundw
            case rel => exact ⟨i + 1, by omega, by go_num, HAn, HS5, HB5, HTk'⟩
            case measure => simp [intOf]; omega
      · obtain rfl : i = l.length := by omega
        rw [List.take_length] at HS HSt
        have HK : Hid (okV l = true) := ok_yes (fun j hj => HTk.out j hj hj)
        have hnl := nm_len l
        have hst := HSt.out
        subst hst
        have hown : wr.ownsRow wz.heap.size 9 1 u9 (nmV l).length ((nmV l).map encStr) := by
          have h := HS.out.1
          unfold textsIn at h
          rw [List.length_map, List.map_map] at h
          exact h
        obtain ⟨g, cap, rfl, hbg, hgl, hncap, hcm, hlen, hH⟩ := Lib.holds_of_ownsRow hown HS.out.2
        have HBw : Hid (Below w.heap.size w wr) := HB3.out.trans (HB.out.mono HB3.out.size)
        have hsw : wz.heap.size ≤ wr.heap.size := HB.out.size
        have hzw : w.heap.size ≤ wz.heap.size := HB3.out.size
        have hris : risV l = (risT (nmV l)).map txt := rfl
        generalize nmV l = ss at *
        have HSo : Hid (Calls Tryz.prog 46 #[.slice (some ⟨g, 0, none⟩) ss.length cap] wr fun e w' => e = .returned (.tuple #[]) ∧ ∃ n os, w' = grow (putRow encStr (Sort.ahead wr n) g 0 (ss.mergeSort fun x y => decide (x ≤ y)).toArray) os) := Tryz.slices_Sort_string g 0 cap ss wr hH hgl (by omega)
        have HO : Hid (wr.ownsRow wz.heap.size 9 1 (.slice (some ⟨g, 0, none⟩) ss.length cap) ss.length (ss.map encStr)) := hown
        have HHd : Hid (Holds encStr wr g 0 ss.toArray) := hH
        have HRi : Hid (risV l = (risT ss).map txt) := hris
        have hz1 : (ss.mergeSort fun x y => decide (x ≤ y)).length ≤ 9223372036854775807 := by rw [List.length_mergeSort]; omega
        have hz2 : (ss.mergeSort fun x y => decide (x ≤ y)).length ≤ cap := by rw [List.length_mergeSort]; omega
        clear hown HS HSt HTk hH hlen hris hnl HB3
        go_wp2_with fail
        refine Calls.mono HSo.out ?_
        rintro e w4 ⟨rfl, nn, os, rfl⟩
        have hl2 : (ss.mergeSort fun x y => decide (x ≤ y)).length = ss.length := List.length_mergeSort ss
        have hH2 : Holds encStr (grow (putRow encStr (Sort.ahead wr nn) g 0 (ss.mergeSort fun x y => decide (x ≤ y)).toArray) os) g 0 (ss.mergeSort fun x y => decide (x ≤ y)).toArray :=
          Sort.holds_grow encStr _ os g 0 _ (by simpa [putRow, Sort.mapBlock, Sort.ahead] using hgl) (Sort.holds_putRow encStr _ g 0 _ _ (Sort.holds_ahead encStr wr nn g 0 _ HHd.out) (by simp))
        have hcomp := Tryz.slices_Compact_string g 0 cap (ss.mergeSort fun x y => decide (x ≤ y)) _ hH2 hz1 hz2
        rw [hl2] at hcomp
        have HCo : Hid _ := hcomp
        clear hH2 HSo hcomp hl2 hz1 hz2
        go_wp2_with fail
        refine Calls.mono HCo.out ?_
        rintro e w5 ⟨rfl, q, hw5⟩
        have hlo := left_of (w := w) (nn := nn) (os := os) (q := q) (row_base HO.out hzw) HBw.out (by omega) (by omega) rfl
        rw [← hw5] at hlo
        obtain ⟨hT5, hB5⟩ := hlo
        have HT5 : Hid (textsIn w5 w.heap.size (.slice (some ⟨g, 0, none⟩) (Lib.compact (ss.mergeSort fun x y => decide (x ≤ y))).length cap) (risV l)) := by show textsIn _ _ _ _; rw [HRi.out]; exact hT5
        have HB5 : Hid (Below w.heap.size w w5) := hB5
        clear hT5 hB5 hw5
        generalize (Lib.compact (ss.mergeSort fun x y => decide (x ≤ y))).length = m5 at HT5 ⊢
        go_wp2_with fail
        exact bodyPost_ret (v := .tuple #[.slice (some ⟨g, 0, none⟩) m5 cap, .bool (anyV l), .bool true]) (by simp [results, Tryz.results11, go_sem]) rfl ⟨by rw [HVo.out]; exact varyT_ok HK.out HT5.out, HB5.out⟩

end Go.Proofs.YtfgcgnhffljiaaaGreatDoor.Vrp
