/-
  Pure: the same choice. Walks: impl.saidOf, the two sameAs, impl.isSameChoice; spec.l9Same.
  Walks: impl.isItem, impl.Matches; spec.l9Same, l9Item, l9Matches, Matches. (tools/laws/gen_mtb.py)
  Walks: spec.l9Matches, spec.Matches, impl.Matches.
  Walks: laws' toItem, eqItem. (tools/laws/gen_itn.py)
  Walk: the law FnExactMatches.
-/
import Derived.Test.YtfgcgnhffljiaaaGreatDoorVri
import Derived.Test.YtfgcgnhffljiaaaGreatDoorMg1
import Derived.Deep.RegionHeld3
import Derived.Test.YtfgcgnhffljiaaaGreatDoorKka
import Derived.Test.YtfgcgnhffljiaaaGreatDoorRqk
import Derived.Test.YtfgcgnhffljiaaaGreatDoorRqs
namespace Go.Proofs.YtfgcgnhffljiaaaGreatDoor.Mta
open Go.RowKit
open Go.Proofs.YtfgcgnhffljiaaaGreatDoor.Fbs
open Go.Proofs.YtfgcgnhffljiaaaGreatDoor.Fch (Tab tokenB)
open Go.Proofs.YtfgcgnhffljiaaaGreatDoor.Fdb (FV)
open Go.Proofs.YtfgcgnhffljiaaaGreatDoor.Fvs
open Go.Proofs.YtfgcgnhffljiaaaGreatDoor.Jnd
open Go.Proofs.YtfgcgnhffljiaaaGreatDoor.Rsb
open Go.Proofs.YtfgcgnhffljiaaaGreatDoor.Ows
open Go.Proofs.YtfgcgnhffljiaaaGreatDoor.Vrp
open Go.Proofs.YtfgcgnhffljiaaaGreatDoor.Lof (lowS)
open Go.Proofs.YtfgcgnhffljiaaaGreatDoor.Lsp (listL)
open Go.Proofs.YtfgcgnhffljiaaaGreatDoor.Mrk (TV RowT tv_of)
open Go.Proofs.YtfgcgnhffljiaaaGreatDoor.Num (tab_below tab_lt)
open Go.Proofs.YtfgcgnhffljiaaaGreatDoor.Lnp (sent)
open Go.Proofs.YtfgcgnhffljiaaaGreatDoor.Itm

/-- What fields say by one name. -/
def sdO (l : List (ByteArray × ByteArray)) (n : ByteArray) : Option ByteArray := if 0 < (valsOf n l).length then some (joinS (valsOf n l)) else none
def saidV : Option ByteArray → Value
  | none => .iface 167 (.agg #[])
  | some t => .iface 168 (.string t)
def eqO : Option ByteArray → Option ByteArray → Bool
  | none, none => true
  | some a, some b => a.toList == b.toList
  | _, _ => false
/-- The same choice for names. -/
def sameN (A F : List (ByteArray × ByteArray)) (ns : List ByteArray) : Bool := ns.all fun n => eqO (sdO A n) (sdO F n)

/-! Names are tokens. -/
theorem tok_low (x : ByteArray) (h : tokenB x.data.toList = true) : tokenB (lowS x).data.toList = true := by
  have all : ∀ n : Nat, n < 256 → Fch.tokB ((UInt8.ofNat n).toNat : Int) = true → Fch.tokB ((Lof.lowB (UInt8.ofNat n)).toNat : Int) = true := by decide +kernel
  have one : ∀ c : UInt8, Fch.tokB (c.toNat : Int) = true → Fch.tokB ((Lof.lowB c).toNat : Int) = true := by
    intro c hc
    have e : UInt8.ofNat c.toNat = c := by simp
    have := all c.toNat c.toNat_lt
    rw [e] at this
    exact this hc
  unfold tokenB at h ⊢
  rw [Bool.and_eq_true] at h ⊢
  obtain ⟨h1, h2⟩ := h
  have e : (lowS x).data.toList = x.data.toList.map Lof.lowB := by simp [lowS]
  rw [e, List.length_map]
  refine ⟨h1, ?_⟩
  rw [List.all_eq_true] at h2 ⊢
  intro c hc
  obtain ⟨d, hd, rfl⟩ := List.mem_map.1 hc
  exact one d (h2 d hd)
theorem vary_tok {l : List (ByteArray × ByteArray)} {ns : List ByteArray} {st : Bool} (h : varyL l = some (ns, st)) : (∀ n ∈ ns, tokenB n.data.toList = true) ∧ ns.length ≤ (joinS (valsOf cVary l)).size + 1 := by
  unfold varyL at h
  cases hl : listL (joinS (valsOf cVary l)) with
  | none => rw [hl] at h; cases h
  | some ps =>
    rw [hl] at h
    have h' : (if okV ps then some ((risT (nmV ps)).map txt, anyV ps) else none) = some (ns, st) := h
    by_cases ho : okV ps = true
    · rw [if_pos ho] at h'
      injection h' with h'
      injection h' with h1 _
      subst h1
      constructor
      · intro n hn
        obtain ⟨q, hq, rfl⟩ := List.mem_map.1 hn
        unfold risT at hq
        rcases (fold_mem q (nmV ps) []).1 hq with hq | hq
        · cases hq
        · unfold nmV at hq
          obtain ⟨x, hx, rfl⟩ := List.mem_map.1 hq
          rw [txt_data]
          unfold okV at ho
          rw [List.all_eq_true] at ho
          exact tok_low x (ho x (List.mem_filter.1 hx).1)
      · have h1 := risV_len ps
        have h2 := (list_sz hl).1
        show (risV ps).length ≤ _
        omega
    · rw [if_neg ho] at h'; cases h'
theorem tok_size {n : ByteArray} (h : tokenB n.data.toList = true) : n.size ≤ 60 := by
  unfold tokenB at h
  rw [Bool.and_eq_true] at h
  have := of_decide_eq_true h.1
  simp at this
  omega
theorem jn_said {l : List (ByteArray × ByteArray)} {n : ByteArray} (h : goodL l = true) (ht : tokenB n.data.toList = true) : jnO l n = (joinS (valsOf n l), decide (0 < (valsOf n l).length)) := by
  unfold jnO valO
  rw [if_pos ⟨h, ht⟩]

set_option maxHeartbeats 800000 in
theorem saidOf_any (a : Option Addr) (ca : Nat) (l : List (ByteArray × ByteArray)) (n : ByteArray) (w : World) (lo hi : Nat) (hT : Tab w) (hg : goodL l = true) (hn : tokenB n.data.toList = true) (hz : SzF l) (hca : l.length ≤ ca) (ha : FV w a l lo hi) :
    Calls Tryz.prog 99 #[.slice a l.length ca, .string n] w fun e w' => e = .returned (saidV (sdO l n)) ∧ Below w.heap.size w w' := by
  have HJ : Hid (Calls Tryz.prog 42 #[.slice a l.length ca, .string n] w fun e w' => e = .returned (.tuple #[.string (joinS (valsOf n l)), .bool (decide (0 < (valsOf n l).length))]) ∧ Below w.heap.size w w') := by
    have := implJoined_any a ca l n w lo hi hT (by have := tok_size hn; omega) hz hca ha
    rw [jn_said hg hn] at this
    exact this
  unfold sdO
  generalize joinS (valsOf n l) = J at HJ ⊢
  by_cases h : 0 < (valsOf n l).length
  · rw [decide_eq_true h] at HJ
    rw [if_pos h]
    clear h ha hT
    go_enter Tryz.func99, Tryz.ntmps99
    go_wp2_with fail
    refine Calls.mono HJ.out ?_
    rintro e w1 ⟨rfl, hb1⟩
    go_wp2_with fail
    go_ret
    exact ⟨rfl, hb1⟩
  · rw [decide_eq_false h] at HJ
    rw [if_neg h]
    clear h ha hT
    go_enter Tryz.func99, Tryz.ntmps99
    go_wp2_with fail
    refine Calls.mono HJ.out ?_
    rintro e w1 ⟨rfl, hb1⟩
    go_wp2_with fail
    go_ret
    exact ⟨rfl, hb1⟩

theorem as_tt (v : Value) (w : World) : (Instr.typeAssert (.iface 168 v) 130 168 true).run Tryz.prog w = .ok (.tuple #[v, .bool true]) w := by kernel_rfl
theorem as_nt (v : Value) (w : World) : (Instr.typeAssert (.iface 167 v) 130 168 true).run Tryz.prog w = .ok (.tuple #[.string ⟨#[]⟩, .bool false]) w := by kernel_rfl
theorem as_tn (v : Value) (w : World) : (Instr.typeAssert (.iface 168 v) 130 167 true).run Tryz.prog w = .ok (.tuple #[.agg #[], .bool false]) w := by kernel_rfl
theorem as_nn (v : Value) (w : World) : (Instr.typeAssert (.iface 167 v) 130 167 true).run Tryz.prog w = .ok (.tuple #[v, .bool true]) w := by kernel_rfl
theorem methT (v : Value) (w : World) : (Go.method 372 168 v "loop.example/g00256/impl.sameAs").run Tryz.prog w = .ok (213, v) w := by kernel_rfl
theorem methN (v : Value) (w : World) : (Go.method 372 167 v "loop.example/g00256/impl.sameAs").run Tryz.prog w = .ok (212, v) w := by kernel_rfl

theorem nahT (v : Value) (w : World) : (Go.nilAhead 372 168 v "loop.example/g00256/impl.sameAs").run Tryz.prog w = .ok (some false) w := by kernel_rfl
theorem nahN (v : Value) (w : World) : (Go.nilAhead 372 167 v "loop.example/g00256/impl.sameAs").run Tryz.prog w = .ok (some false) w := by kernel_rfl

theorem sameT_any (s : ByteArray) (o : Option ByteArray) (w : World) :
    Calls Tryz.prog 213 #[.string s, saidV o] w fun e w' => e = .returned (.bool (eqO (some s) o)) ∧ Below w.heap.size w w' := by
  have h1 := as_tt
  have h2 := as_nt
  cases o with
  | none =>
    show Calls Tryz.prog 213 #[.string s, .iface 167 (.agg #[])] w fun e w' => e = .returned (.bool false) ∧ Below w.heap.size w w'
    go_enter Tryz.func213, Tryz.ntmps213
    go_wp2_with fail
    go_ret
    exact ⟨rfl, by first | exact Below.refl _ _ | exact (Below.refl _ _).alloc (Nat.le_refl _) _ | exact ((Below.refl _ _).alloc (Nat.le_refl _) _).alloc (by simp) _⟩
  | some t =>
    show Calls Tryz.prog 213 #[.string s, .iface 168 (.string t)] w fun e w' => e = .returned (.bool (s.toList == t.toList)) ∧ Below w.heap.size w w'
    go_enter Tryz.func213, Tryz.ntmps213
    go_wp2_with fail
    go_ret
    exact ⟨by first | rfl | (congr 2; simp [Bool.beq_comm]) | simp [Bool.beq_comm], by first | exact Below.refl _ _ | exact (Below.refl _ _).alloc (Nat.le_refl _) _⟩
theorem sameNo_any (o : Option ByteArray) (w : World) :
    Calls Tryz.prog 212 #[.agg #[], saidV o] w fun e w' => e = .returned (.bool (eqO none o)) ∧ Below w.heap.size w w' := by
  have h1 := as_tn
  have h2 := as_nn
  cases o with
  | none =>
    show Calls Tryz.prog 212 #[.agg #[], .iface 167 (.agg #[])] w fun e w' => e = .returned (.bool true) ∧ Below w.heap.size w w'
    go_enter Tryz.func212, Tryz.ntmps212
    go_wp2_with fail
    go_ret
    exact ⟨rfl, by first | exact Below.refl _ _ | exact (Below.refl _ _).alloc (Nat.le_refl _) _ | exact ((Below.refl _ _).alloc (Nat.le_refl _) _).alloc (by simp) _⟩
  | some t =>
    show Calls Tryz.prog 212 #[.agg #[], .iface 168 (.string t)] w fun e w' => e = .returned (.bool false) ∧ Below w.heap.size w w'
    go_enter Tryz.func212, Tryz.ntmps212
    go_wp2_with fail
    go_ret
    exact ⟨rfl, by first | exact Below.refl _ _ | exact (Below.refl _ _).alloc (Nat.le_refl _) _ | exact ((Below.refl _ _).alloc (Nat.le_refl _) _).alloc (by simp) _⟩

set_option maxRecDepth 20000 in
set_option maxHeartbeats 3200000 in
theorem sameChoice_any (K : ByteArray) (x : Option Addr) (cx : Nat) (A : List (ByteArray × ByteArray)) (S : Int) (R B : ByteArray) (a : Option Addr) (ca : Nat) (l : List (ByteArray × ByteArray)) (q m : Int) (y : Option Addr) (cy : Nat) (F : List (ByteArray × ByteArray)) (ns : List ByteArray) (b : Addr) (w : World) (lo hi lo1 hi1 lo2 hi2 : Nat)
    (hT : Tab w) (hP : PowT w) (hE : w.cell? ⟨1, 0, none⟩ = some (sent b)) (hR : R.size ≤ 2000000) (hz : SzF l) (hca : l.length ≤ ca) (ha : FV w a l lo hi)
    (hv : varyO S R l B = some (ns, false)) (hgA : goodL A = true) (hzA : SzF A) (hcx : A.length ≤ cx) (hx : FV w x A lo1 hi1) (hgF : goodL F = true) (hzF : SzF F) (hcy : F.length ≤ cy) (hy : FV w y F lo2 hi2) :
    Calls Tryz.prog 58 #[itV K (.slice x A.length cx) S R (.slice a l.length ca) B q m, .slice y F.length cy] w fun e w' => e = .returned (.bool (sameN A F ns)) ∧ Below w.heap.size w w' := by
  have hgt := hT.lt
  obtain ⟨W0, hW0⟩ : ∃ W, W = w.alloc (.cells #[.string K, .slice x A.length cx, .int .i64 S, .string R, .slice a l.length ca, .string B, .int .i64 q, .int .i64 m] 51) := ⟨_, rfl⟩
  have hb0 : Below w.heap.size w W0 := by rw [hW0]; exact (Below.refl _ _).alloc (Nat.le_refl _) _
  have HX0 : Hid (EightAt W0 w.heap.size (.string K) (.slice x A.length cx) (.int .i64 S) (.string R) (.slice a l.length ca) (.string B) (.int .i64 q) (.int .i64 m)) := by show EightAt _ _ _ _ _ _ _ _ _ _; rw [hW0]; exact EightAt.made w _ _ _ _ _ _ _ _ _
  have HB0 : Hid (Below w.heap.size w W0) := hb0
  have HV : Hid (Calls Tryz.prog 11 #[.agg #[.int .i64 S, .string R, .slice a l.length ca, .string B]] W0 fun e w' => (∃ v, e = .returned (.tuple #[v, .bool false, .bool true]) ∧ textsIn w' W0.heap.size v ns) ∧ Below W0.heap.size W0 w') := by
    refine (implVary_any S R B a ca l b W0 lo hi (hT.below hb0 hgt) (tab_below hP hb0 (tab_lt hP)) ((hb0.cell (p := ⟨1, 0, none⟩) (World.block_lt_of_cell? _ _ hE)).trans hE) hR hz hca (ha.below hb0)).mono ?_
    rintro e w' ⟨h, hb⟩
    rw [hv] at h
    exact ⟨h, hb⟩
  have hvl : varyL l = some (ns, false) := by
    unfold varyO at hv
    split at hv
    · exact hv
    · cases hv
  have hgl : goodL l = true := by
    unfold varyO at hv
    split at hv
    · next h => exact good_resp h
    · cases hv
  have htk := (vary_tok hvl).1
  have hnl : ns.length ≤ 20001 := by have h1 := (vary_tok hvl).2; have h2 := join_low hgl cVary; omega
  have HSA : Hid (∀ n ∈ ns, ∀ wx, Below w.heap.size w wx → Calls Tryz.prog 99 #[.slice x A.length cx, .string n] wx fun e w' => e = .returned (saidV (sdO A n)) ∧ Below wx.heap.size wx w') := fun n hn wx hb => saidOf_any x cx A n wx lo1 hi1 (hT.below hb hgt) hgA (htk n hn) hzA hcx (hx.below hb)
  have HSF : Hid (∀ n ∈ ns, ∀ wx, Below w.heap.size w wx → Calls Tryz.prog 99 #[.slice y F.length cy, .string n] wx fun e w' => e = .returned (saidV (sdO F n)) ∧ Below wx.heap.size wx w') := fun n hn wx hb => saidOf_any y cy F n wx lo2 hi2 (hT.below hb hgt) hgF (htk n hn) hzF hcy (hy.below hb)
  obtain ⟨x_, x0, x1, x2, x3, x4, x5, x6, x7⟩ := HX0.out
  clear ha hx hy hT hP hE hb0 hz hzA hzF hv hvl htk hgl hR hca hcx hcy
  go_enter Tryz.func58, Tryz.ntmps58
  go_wp2_with fail
  rw [← hW0]
  clear hW0
  go_wp2_with fail
  refine Calls.mono HV.out ?_
  rintro e w1 ⟨⟨v, rfl, hvt⟩, hb1⟩
  obtain ⟨aP, cP, rfl, hTV⟩ := tv_of hvt
  have HX1 : Hid (EightAt w1 w.heap.size (.string K) (.slice x A.length cx) (.int .i64 S) (.string R) (.slice a l.length ca) (.string B) (.int .i64 q) (.int .i64 m)) := HX0.out.below hb1
  have HB1 : Hid (Below w.heap.size w w1) := HB0.out.trans (hb1.mono HB0.out.size)
  have HP1 : Hid (TV w1 aP ns W0.heap.size w1.heap.size) := hTV
  clear x_ x0 x1 x2 x3 x4 x5 x6 x7 hvt hTV hb1 HX0 HB0 HV
  go_wp2_with fail
  go_loopw [20] (fun c wr => ∃ i : Nat, i ≤ ns.length ∧ c = .int .i64 i ∧ Hid (Below w1.heap.size w1 wr) ∧ Hid (∀ j, (hj : j < ns.length) → j < i → eqO (sdO A ns[j]) (sdO F ns[j]) = true)) (fun c _ => ns.length - (intOf c).toNat)
  case atStart => exact ⟨0, by omega, rfl, Below.refl _ _, fun j _ h => absurd h (by omega)⟩
  case round =>
    obtain ⟨i, hi, rfl, HB, HA⟩ := hrel
    have HBw : Hid (Below w.heap.size w wr) := HB1.out.trans (HB.out.mono HB1.out.size)
    by_cases hlt : i < ns.length
    · obtain ⟨gp, rfl, hgl, hc⟩ := row_at (HP1.out.below HB.out) hlt
      obtain ⟨x_, x0, x1, x2, x3, x4, x5, x6, x7⟩ := HX1.out.below HB.out
      have hSA := HSA.out ns[i] (List.getElem_mem hlt)
      have hSF := HSF.out ns[i] (List.getElem_mem hlt)
      have HQA : Hid (∀ wx, Below w.heap.size w wx → Calls Tryz.prog 99 #[.slice x A.length cx, .string ns[i]] wx fun e w' => e = .returned (saidV (sdO A ns[i])) ∧ Below wx.heap.size wx w') := hSA
      have HQF : Hid (∀ wx, Below w.heap.size w wx → Calls Tryz.prog 99 #[.slice y F.length cy, .string ns[i]] wx fun e w' => e = .returned (saidV (sdO F ns[i])) ∧ Below wx.heap.size wx w') := hSF
      have hT1 := methT
      have hN1 := methN
      have hT2 := nahT
      have hN2 := nahN
      have HCT : Hid _ := sameT_any
      have HCN : Hid _ := sameNo_any
      have hbad : eqO (sdO A ns[i]) (sdO F ns[i]) = false → sameN A F ns = false := fun h => by
        unfold sameN; rw [List.all_eq_false]; exact ⟨ns[i], List.getElem_mem hlt, by simp [h]⟩
      have HBad : Hid _ := hbad
      have hA2 : eqO (sdO A ns[i]) (sdO F ns[i]) = true → ∀ j, (hj : j < ns.length) → j < i + 1 → eqO (sdO A ns[j]) (sdO F ns[j]) = true := by
        intro h j hj hji
        by_cases e : j = i
        · subst e; exact h
        · exact HA.out j hj (by omega)
      have HA2 : Hid _ := hA2
      clear hSA hSF HA hbad hA2
      generalize sdO A ns[i] = oA at *
      generalize sdO F ns[i] = oF at *
      generalize ns[i] = n at *
      obtain ⟨r, hr⟩ : ∃ r, r = eqO oA oF := ⟨_, rfl⟩
      have HCm : Hid (∀ wx, Calls Tryz.prog 213 #[.string (oA.getD ⟨#[]⟩), saidV oF] wx fun e w' => (oA ≠ none → e = .returned (.bool r)) ∧ Below wx.heap.size wx w') := fun wx => (HCT.out _ _ wx).mono fun e w' ⟨h, hb⟩ => ⟨fun hn => by
        cases oA with
        | none => exact absurd rfl hn
        | some t => rw [h, hr]; rfl, hb⟩
      have HCn : Hid (∀ wx, Calls Tryz.prog 212 #[.agg #[], saidV oF] wx fun e w' => (oA = none → e = .returned (.bool r)) ∧ Below wx.heap.size wx w') := fun wx => (HCN.out _ wx).mono fun e w' ⟨h, hb⟩ => ⟨fun hn => by rw [h, hr, hn], hb⟩
      rw [← hr] at HBad HA2
      clear hr HCT HCN
      generalize hoF : saidV oF = vF at *
      clear hoF
      cases oA with
      | none =>
        have HC : Hid (∀ wx, Calls Tryz.prog 212 #[.agg #[], vF] wx fun e w' => e = .returned (.bool r) ∧ Below wx.heap.size wx w') := fun wx => (HCn.out wx).mono fun e w' ⟨h, hb⟩ => ⟨h rfl, hb⟩
        have HQ : Hid (∀ wx, Below w.heap.size w wx → Calls Tryz.prog 99 #[.slice x A.length cx, .string n] wx fun e w' => e = .returned (.iface 167 (.agg #[])) ∧ Below wx.heap.size wx w') := HQA.out
        clear HQA HCm HCn
        cases r
        · go_wp2_with fail
          go_region_with (first
            | (go_at_call 99; refine (HQF.out _ hB3).mono ?_; rintro e w4 ⟨rfl, hb4'⟩; have hb4 : Below wr.heap.size wr w4 := hb3.trans (hb4'.mono hb3.size); have hB4 : Below w.heap.size w w4 := hB3.trans (hb4'.mono hB3.size))
            | (go_at_call 99; refine (HQ.out _ (by first | exact HBw.out.drew | exact HBw.out)).mono ?_; rintro e w3 ⟨rfl, hb3'⟩; have hb3 : Below wr.heap.size wr w3 := (by first | exact hb3' | exact (Below.refl _ _).drew.trans hb3'); have hB3 : Below w.heap.size w w3 := HBw.out.trans (hb3.mono HBw.out.size))
            | (go_at_call 212; refine (HC.out _).mono ?_; rintro e w5 ⟨rfl, hb5'⟩; have hb5 : Below wr.heap.size wr w5 := hb4.trans (hb5'.mono hb4.size); have hB5 : Below w.heap.size w w5 := hB4.trans (hb5'.mono hB4.size)))
          all_goals
            go_wp2_with fail
            go_ret
            exact ⟨ret_bool (HBad.out (by first | trivial | rfl)).symm, hB5⟩
        · go_wp2_with fail
          go_region_with (first
            | (go_at_call 99; refine (HQF.out _ hB3).mono ?_; rintro e w4 ⟨rfl, hb4'⟩; have hb4 : Below wr.heap.size wr w4 := hb3.trans (hb4'.mono hb3.size); have hB4 : Below w.heap.size w w4 := hB3.trans (hb4'.mono hB3.size))
            | (go_at_call 99; refine (HQ.out _ (by first | exact HBw.out.drew | exact HBw.out)).mono ?_; rintro e w3 ⟨rfl, hb3'⟩; have hb3 : Below wr.heap.size wr w3 := (by first | exact hb3' | exact (Below.refl _ _).drew.trans hb3'); have hB3 : Below w.heap.size w w3 := HBw.out.trans (hb3.mono HBw.out.size))
            | (go_at_call 212; refine (HC.out _).mono ?_; rintro e w5 ⟨rfl, hb5'⟩; have hb5 : Below wr.heap.size wr w5 := hb4.trans (hb5'.mono hb4.size); have hB5 : Below w.heap.size w w5 := hB4.trans (hb5'.mono hB4.size)))
          all_goals
            have hb6 : Below w1.heap.size w1 w5 := HB.out.trans (hb5.mono HB.out.size)
            go_wp2_with fail
            go_roundw
            case rel => exact ⟨i + 1, by omega, by go_num, hb6, HA2.out (by first | trivial | rfl)⟩
            case measure => simp [intOf]; omega
      | some t =>
        have HC : Hid (∀ wx, Calls Tryz.prog 213 #[.string t, vF] wx fun e w' => e = .returned (.bool r) ∧ Below wx.heap.size wx w') := fun wx => (HCm.out wx).mono fun e w' ⟨h, hb⟩ => ⟨h (by simp), hb⟩
        have HQ : Hid (∀ wx, Below w.heap.size w wx → Calls Tryz.prog 99 #[.slice x A.length cx, .string n] wx fun e w' => e = .returned (.iface 168 (.string t)) ∧ Below wx.heap.size wx w') := HQA.out
        clear HQA HCm HCn
        cases r
        · go_wp2_with fail
          go_region_with (first
            | (go_at_call 99; refine (HQF.out _ hB3).mono ?_; rintro e w4 ⟨rfl, hb4'⟩; have hb4 : Below wr.heap.size wr w4 := hb3.trans (hb4'.mono hb3.size); have hB4 : Below w.heap.size w w4 := hB3.trans (hb4'.mono hB3.size))
            | (go_at_call 99; refine (HQ.out _ (by first | exact HBw.out.drew | exact HBw.out)).mono ?_; rintro e w3 ⟨rfl, hb3'⟩; have hb3 : Below wr.heap.size wr w3 := (by first | exact hb3' | exact (Below.refl _ _).drew.trans hb3'); have hB3 : Below w.heap.size w w3 := HBw.out.trans (hb3.mono HBw.out.size))
            | (go_at_call 213; refine (HC.out _).mono ?_; rintro e w5 ⟨rfl, hb5'⟩; have hb5 : Below wr.heap.size wr w5 := hb4.trans (hb5'.mono hb4.size); have hB5 : Below w.heap.size w w5 := hB4.trans (hb5'.mono hB4.size)))
          all_goals
            go_wp2_with fail
            go_ret
            exact ⟨ret_bool (HBad.out (by first | trivial | rfl)).symm, hB5⟩
        · go_wp2_with fail
          go_region_with (first
            | (go_at_call 99; refine (HQF.out _ hB3).mono ?_; rintro e w4 ⟨rfl, hb4'⟩; have hb4 : Below wr.heap.size wr w4 := hb3.trans (hb4'.mono hb3.size); have hB4 : Below w.heap.size w w4 := hB3.trans (hb4'.mono hB3.size))
            | (go_at_call 99; refine (HQ.out _ (by first | exact HBw.out.drew | exact HBw.out)).mono ?_; rintro e w3 ⟨rfl, hb3'⟩; have hb3 : Below wr.heap.size wr w3 := (by first | exact hb3' | exact (Below.refl _ _).drew.trans hb3'); have hB3 : Below w.heap.size w w3 := HBw.out.trans (hb3.mono HBw.out.size))
            | (go_at_call 213; refine (HC.out _).mono ?_; rintro e w5 ⟨rfl, hb5'⟩; have hb5 : Below wr.heap.size wr w5 := hb4.trans (hb5'.mono hb4.size); have hB5 : Below w.heap.size w w5 := hB4.trans (hb5'.mono hB4.size)))
          all_goals
            have hb6 : Below w1.heap.size w1 w5 := HB.out.trans (hb5.mono HB.out.size)
            go_wp2_with fail
            go_roundw
            case rel => exact ⟨i + 1, by omega, by go_num, hb6, HA2.out (by first | trivial | rfl)⟩
            case measure => simp [intOf]; omega
    · obtain rfl : i = ns.length := by omega
      have HR : Hid (sameN A F ns = true) := by
        show _ = _
        unfold sameN
        rw [List.all_eq_true]
        intro n hn
        obtain ⟨j, hj, rfl⟩ := List.getElem_of_mem hn
        exact HA.out j hj hj
      clear HA
      go_wp2_with fail
      go_ret
      exact ⟨ret_bool HR.out.symm, HBw.out⟩

end Go.Proofs.YtfgcgnhffljiaaaGreatDoor.Mta

namespace Go.Proofs.YtfgcgnhffljiaaaGreatDoor.Mta
open Go.RowKit
open Go.Proofs.YtfgcgnhffljiaaaGreatDoor.Fbs
open Go.Proofs.YtfgcgnhffljiaaaGreatDoor.Fch (Tab tokenB)
open Go.Proofs.YtfgcgnhffljiaaaGreatDoor.Fdb (FV)
open Go.Proofs.YtfgcgnhffljiaaaGreatDoor.Fvs
open Go.Proofs.YtfgcgnhffljiaaaGreatDoor.Jnd
open Go.Proofs.YtfgcgnhffljiaaaGreatDoor.Rsb
open Go.Proofs.YtfgcgnhffljiaaaGreatDoor.Ows
open Go.Proofs.YtfgcgnhffljiaaaGreatDoor.Vrp
open Go.Proofs.YtfgcgnhffljiaaaGreatDoor.Kka (keptB implKept_any specKept_any SixAt)
open Go.Proofs.YtfgcgnhffljiaaaGreatDoor.Rqb (rqB implGoodR_any specGoodR_any)
open Go.Proofs.YtfgcgnhffljiaaaGreatDoor.Mrk (TV RowT tv_of)
open Go.Proofs.YtfgcgnhffljiaaaGreatDoor.Num (tab_below tab_lt)
open Go.Proofs.YtfgcgnhffljiaaaGreatDoor.Lnp (sent)
open Go.Proofs.YtfgcgnhffljiaaaGreatDoor.Itm

theorem eq_said (A F : List (ByteArray × ByteArray)) (n : ByteArray) : eqO (sdO A n) (sdO F n) = ((decide (0 < (valsOf n A).length) == decide (0 < (valsOf n F).length)) && ((joinS (valsOf n A)).toList == (joinS (valsOf n F)).toList)) := by
  unfold sdO
  by_cases h1 : 0 < (valsOf n A).length
  · by_cases h2 : 0 < (valsOf n F).length
    · rw [if_pos h1, if_pos h2, decide_eq_true h1, decide_eq_true h2]; rfl
    · rw [if_pos h1, if_neg h2, decide_eq_true h1, decide_eq_false h2]; rfl
  · by_cases h2 : 0 < (valsOf n F).length
    · rw [if_neg h1, if_pos h2, decide_eq_false h1, decide_eq_true h2]; rfl
    · rw [if_neg h1, if_neg h2, decide_eq_false h1, decide_eq_false h2]
      have e1 : valsOf n A = [] := List.length_eq_zero_iff.1 (by omega)
      have e2 : valsOf n F = [] := List.length_eq_zero_iff.1 (by omega)
      rw [e1, e2]; simp [eqO]

set_option maxRecDepth 20000 in
set_option maxHeartbeats 1600000 in
theorem l9Same_any (v : Option Addr) (cv : Nat) (ns : List ByteArray) (x : Option Addr) (cx : Nat) (A : List (ByteArray × ByteArray)) (y : Option Addr) (cy : Nat) (F : List (ByteArray × ByteArray)) (w : World) (lo hi lo1 hi1 lo2 hi2 : Nat)
    (hnl : ns.length ≤ 4000000) (hnz : ∀ n ∈ ns, n.size ≤ 2000000) (hv : TV w v ns lo hi) (hlA : A.length ≤ 2000000) (hzA : SzF A) (hx : FV w x A lo1 hi1) (hlF : F.length ≤ 2000000) (hzF : SzF F) (hy : FV w y F lo2 hi2) :
    Calls Tryz.prog 95 #[.slice v ns.length cv, .slice x A.length cx, .slice y F.length cy] w fun e w' => e = .returned (.bool (sameN A F ns)) ∧ Below w.heap.size w w' := by
  have HSA : Hid (∀ n ∈ ns, ∀ wx, Below w.heap.size w wx → Calls Tryz.prog 76 #[.slice x A.length cx, .string n] wx fun e w' => e = .returned (.tuple #[.string (joinS (valsOf n A)), .bool (decide (0 < (valsOf n A).length))]) ∧ Below wx.heap.size wx w') := fun n hn wx hb => l3Joined_any x cx A n wx lo1 hi1 hlA (hnz n hn) hzA (hx.below hb)
  have HSF : Hid (∀ n ∈ ns, ∀ wx, Below w.heap.size w wx → Calls Tryz.prog 76 #[.slice y F.length cy, .string n] wx fun e w' => e = .returned (.tuple #[.string (joinS (valsOf n F)), .bool (decide (0 < (valsOf n F).length))]) ∧ Below wx.heap.size wx w') := fun n hn wx hb => l3Joined_any y cy F n wx lo2 hi2 hlF (hnz n hn) hzF (hy.below hb)
  have HP : Hid (TV w v ns lo hi) := hv
  clear hx hy hzA hzF hv hnz
  go_enter Tryz.func95, Tryz.ntmps95
  go_wp2_with fail
  go_loopw [15] (fun c wr => ∃ i : Nat, i ≤ ns.length ∧ c = .int .i64 i ∧ Hid (Below w.heap.size w wr) ∧ Hid (∀ j, (hj : j < ns.length) → j < i → eqO (sdO A ns[j]) (sdO F ns[j]) = true)) (fun c _ => ns.length - (intOf c).toNat)
  case atStart => exact ⟨0, by omega, rfl, Below.refl _ _, fun j _ h => absurd h (by omega)⟩
  case round =>
    obtain ⟨i, hi, rfl, HB, HA⟩ := hrel
    by_cases hlt : i < ns.length
    · obtain ⟨gp, rfl, hgl, hc⟩ := row_at (HP.out.below HB.out) hlt
      have HQA : Hid (∀ wx, Below w.heap.size w wx → Calls Tryz.prog 76 #[.slice x A.length cx, .string ns[i]] wx fun e w' => e = .returned (.tuple #[.string (joinS (valsOf ns[i] A)), .bool (decide (0 < (valsOf ns[i] A).length))]) ∧ Below wx.heap.size wx w') := HSA.out ns[i] (List.getElem_mem hlt)
      have HQF : Hid (∀ wx, Below w.heap.size w wx → Calls Tryz.prog 76 #[.slice y F.length cy, .string ns[i]] wx fun e w' => e = .returned (.tuple #[.string (joinS (valsOf ns[i] F)), .bool (decide (0 < (valsOf ns[i] F).length))]) ∧ Below wx.heap.size wx w') := HSF.out ns[i] (List.getElem_mem hlt)
      have HBad : Hid (eqO (sdO A ns[i]) (sdO F ns[i]) = false → sameN A F ns = false) := fun h => by
        unfold sameN; rw [List.all_eq_false]; exact ⟨ns[i], List.getElem_mem hlt, by simp [h]⟩
      have HA2 : Hid (eqO (sdO A ns[i]) (sdO F ns[i]) = true → ∀ j, (hj : j < ns.length) → j < i + 1 → eqO (sdO A ns[j]) (sdO F ns[j]) = true) := by
        intro h j hj hji
        by_cases e : j = i
        · subst e; exact h
        · exact HA.out j hj (by omega)
      have he := eq_said A F ns[i]
      rw [he] at HBad HA2
      clear HA he
      generalize joinS (valsOf ns[i] A) = J1 at *
      generalize joinS (valsOf ns[i] F) = J2 at *
      generalize decide (0 < (valsOf ns[i] A).length) = p1 at *
      generalize decide (0 < (valsOf ns[i] F).length) = p2 at *
      generalize ns[i] = n at hc HQA HQF
      cases hq : (J1.toList == J2.toList)
      · have HR : Hid (sameN A F ns = false) := HBad.out (by rw [hq, Bool.and_false])
        clear HBad HA2
        go_wp2_with fail
        refine Calls.mono (HQA.out _ HB.out) ?_
        rintro e w3 ⟨rfl, hb3⟩
        have HB3 : Hid (Below w.heap.size w w3) := HB.out.trans (hb3.mono HB.out.size)
        clear hb3 HQA
        go_wp2_with fail
        refine Calls.mono (HQF.out _ HB3.out) ?_
        rintro e w4 ⟨rfl, hb4⟩
        have HB4 : Hid (Below w.heap.size w w4) := HB3.out.trans (hb4.mono HB3.out.size)
        clear hb4 HQF HB3 hc
        cases p1 <;> cases p2
        all_goals
          go_wp2_with fail
          go_ret
          exact ⟨ret_bool HR.out.symm, HB4.out⟩
      · cases hp : (p1 == p2)
        · have HR : Hid (sameN A F ns = false) := HBad.out (by rw [hp, Bool.false_and])
          clear HBad HA2
          go_wp2_with fail
          refine Calls.mono (HQA.out _ HB.out) ?_
          rintro e w3 ⟨rfl, hb3⟩
          have HB3 : Hid (Below w.heap.size w w3) := HB.out.trans (hb3.mono HB.out.size)
          clear hb3 HQA
          go_wp2_with fail
          refine Calls.mono (HQF.out _ HB3.out) ?_
          rintro e w4 ⟨rfl, hb4⟩
          have HB4 : Hid (Below w.heap.size w w4) := HB3.out.trans (hb4.mono HB3.out.size)
          clear hb4 HQF HB3 hc
          cases p1 <;> cases p2
          all_goals first
            | (exact absurd hp (by decide))
            | (go_wp2_with fail
               go_ret
               exact ⟨ret_bool HR.out.symm, HB4.out⟩)
        · have HA3 : Hid (∀ j, (hj : j < ns.length) → j < i + 1 → eqO (sdO A ns[j]) (sdO F ns[j]) = true) := HA2.out (by rw [hp, hq]; rfl)
          clear HBad HA2
          go_wp2_with fail
          refine Calls.mono (HQA.out _ HB.out) ?_
          rintro e w3 ⟨rfl, hb3⟩
          have HB3 : Hid (Below w.heap.size w w3) := HB.out.trans (hb3.mono HB.out.size)
          clear hb3 HQA
          go_wp2_with fail
          refine Calls.mono (HQF.out _ HB3.out) ?_
          rintro e w4 ⟨rfl, hb4⟩
          have HB4 : Hid (Below w.heap.size w w4) := HB3.out.trans (hb4.mono HB3.out.size)
          clear hb4 HQF HB3 hc
          cases p1 <;> cases p2
          all_goals first
            | (exact absurd hp (by decide))
            | (go_wp2_with fail
               go_roundw
               case rel => exact ⟨i + 1, by omega, by go_num, HB4, HA3⟩
               case measure => simp [intOf]; omega)
    · obtain rfl : i = ns.length := by omega
      have HR : Hid (sameN A F ns = true) := by
        show _ = _
        unfold sameN
        rw [List.all_eq_true]
        intro n hn
        obtain ⟨j, hj, rfl⟩ := List.getElem_of_mem hn
        exact HA.out j hj hj
      clear HA
      go_wp2_with fail
      go_ret
      exact ⟨ret_bool HR.out.symm, HB.out⟩

def stA (o : Option (List ByteArray × Bool)) : Bool := match o with | none => false | some x => x.2
/-- A good item. -/
def itO (K : ByteArray) (A : List (ByteArray × ByteArray)) (kb : Bool) (o : Option (List ByteArray × Bool)) : Bool := decide ((K.size : Int) ≤ 200) && (goodL A && (kb && (o.isSome && !(stA o))))
def itB (K : ByteArray) (A : List (ByteArray × ByteArray)) (S : Int) (R : ByteArray) (l : List (ByteArray × ByteArray)) (B : ByteArray) (q m : Int) : Bool := itO K A (keptB S R l B q m) (varyL l)
theorem kept_resp {S : Int} {R B : ByteArray} {l : List (ByteArray × ByteArray)} {q m : Int} (h : keptB S R l B q m = true) : rsB S R l B = true := by
  unfold keptB at h
  rw [Bool.and_eq_true] at h
  exact h.1
theorem itO_impl (K : ByteArray) (A : List (ByteArray × ByteArray)) (S : Int) (R : ByteArray) (l : List (ByteArray × ByteArray)) (B : ByteArray) (q m : Int) : itO K A (keptB S R l B q m) (varyO S R l B) = itB K A S R l B q m := by
  unfold itB
  cases h : keptB S R l B q m
  · unfold itO; rw [Bool.false_and, Bool.false_and]
  · unfold varyO; rw [if_pos (kept_resp h)]
theorem VaryT.any {w : World} {B : Nat} {e : Ending} {o : Option (List ByteArray × Bool)} (h : VaryT w B e o) : ∃ v, e = .returned (.tuple #[v, .bool (stA o), .bool o.isSome]) := by
  cases o with
  | none => exact ⟨_, h⟩
  | some x => obtain ⟨v, h1, _⟩ := h; exact ⟨v, h1⟩

def itO' (K : ByteArray) (ga kb ok st : Bool) : Bool := decide ((K.size : Int) ≤ 200) && (ga && (kb && (ok && !st)))

set_option maxRecDepth 20000 in
set_option maxHeartbeats 3200000 in
theorem isItem_walk (K : ByteArray) (x : Option Addr) (cx : Nat) (A : List (ByteArray × ByteArray)) (S : Int) (R B : ByteArray) (a : Option Addr) (ca : Nat) (l : List (ByteArray × ByteArray)) (q m : Int) (b : Addr) (w : World) (lo hi lo1 hi1 : Nat) (hT : Tab w) (hP : PowT w) (hE : w.cell? ⟨1, 0, none⟩ = some (sent b)) (hR : R.size ≤ 2000000) (hz : SzF l) (hca : l.length ≤ ca) (ha : FV w a l lo hi) (hzA : SzF A) (hx : FV w x A lo1 hi1) (ok st : Bool) (hok : ok = (varyO S R l B).isSome) (hst : st = (stA (varyO S R l B))) :
    Calls Tryz.prog 56 #[itV K (.slice x A.length cx) S R (.slice a l.length ca) B q m] w fun e w' => e = .returned (.bool (itO' K (goodL A) (keptB S R l B q m) ok st)) ∧ Below w.heap.size w w' := by
  obtain ⟨W0, hW0⟩ : ∃ W, W = w.alloc (.cells #[.string K, .slice x A.length cx, .int .i64 S, .string R, .slice a l.length ca, .string B, .int .i64 q, .int .i64 m] 51) := ⟨_, rfl⟩
  have hb0 : Below w.heap.size w W0 := by rw [hW0]; exact (Below.refl _ _).alloc (Nat.le_refl _) _
  have HX0 : Hid (EightAt W0 w.heap.size (.string K) (.slice x A.length cx) (.int .i64 S) (.string R) (.slice a l.length ca) (.string B) (.int .i64 q) (.int .i64 m)) := by show EightAt _ _ _ _ _ _ _ _ _ _; rw [hW0]; exact EightAt.made w _ _ _ _ _ _ _ _ _
  have HB0 : Hid (Below w.heap.size w W0) := hb0
  have hgt := hT.lt
  have hE' : ∀ wx, Below w.heap.size w wx → wx.cell? ⟨1, 0, none⟩ = some (sent b) := fun wx h => (h.cell (p := ⟨1, 0, none⟩) (World.block_lt_of_cell? _ _ hE)).trans hE
  have HV : Hid (Calls Tryz.prog 11 #[.agg #[.int .i64 S, .string R, .slice a l.length ca, .string B]] W0 fun e w' => (∃ v, e = .returned (.tuple #[v, .bool st, .bool ok])) ∧ Below W0.heap.size W0 w') := by
    rw [hok, hst]
    exact (implVary_any S R B a ca l b W0 lo hi (hT.below hb0 hgt) (tab_below hP hb0 (tab_lt hP)) (hE' _ hb0) hR hz hca (ha.below hb0)).mono fun e w' ⟨h, hb⟩ => ⟨VaryT.any h, hb⟩
  have HA : Hid (∀ wx, Below w.heap.size w wx → Calls Tryz.prog 96 #[.slice x A.length cx] wx fun e w' => e = .returned (.bool (goodL A)) ∧ Below wx.heap.size wx w') := fun wx hb => areFields_any x cx A wx lo1 hi1 (hT.below hb hgt) hzA (hx.below hb)
  have HG : Hid (∀ wx, Below w.heap.size w wx → Calls Tryz.prog 97 #[.agg #[.int .i64 S, .string R, .slice a l.length ca, .string B, .int .i64 q, .int .i64 m]] wx fun e w' => e = .returned (.bool (keptB S R l B q m)) ∧ Below wx.heap.size wx w') := fun wx hb => implKept_any S R B a ca l q m b wx lo hi (hT.below hb hgt) (tab_below hP hb (tab_lt hP)) (hE' _ hb) hR hz hca (ha.below hb)
  clear hE' hok hst
  generalize keptB S R l B q m = kb at *
  generalize goodL A = ga at *
  obtain ⟨hd, hKd⟩ : ∃ d, d = decide ((K.size : Int) ≤ 200) := ⟨_, rfl⟩
  obtain ⟨x_, x0, x1, x2, x3, x4, x5, x6, x7⟩ := HX0.out
  clear ha hx hb0
  try clear hT hP hE hgt
  go_enter Tryz.func56, Tryz.ntmps56
  go_wp2_with fail
  rw [← hW0]
  clear hW0
  go_wp2_with fail
  refine Calls.mono HV.out ?_
  rintro e w1 ⟨⟨v, rfl⟩, hb1⟩
  have HX1 : Hid (EightAt w1 w.heap.size (.string K) (.slice x A.length cx) (.int .i64 S) (.string R) (.slice a l.length ca) (.string B) (.int .i64 q) (.int .i64 m)) := HX0.out.below hb1
  have HB1 : Hid (Below w.heap.size w w1) := HB0.out.trans (hb1.mono HB0.out.size)
  clear x_ x0 x1 x2 x3 x4 x5 x6 x7 hb1 HX0 HB0 HV
  obtain ⟨x_, x0, x1, x2, x3, x4, x5, x6, x7⟩ := HX1.out
  by_cases hK : (K.size : Int) ≤ 200
  rotate_left
  · have hd0 : decide ((K.size : Int) ≤ 200) = false := decide_eq_false hK
    have HR : Hid (itO' K ga kb ok st = false) := by show _ = _; unfold itO'; rw [hd0, Bool.false_and]
    clear HA HG hKd
    go_wp2_with fail
    go_ret
    exact ⟨ret_bool HR.out.symm, HB1.out⟩
  have hd0 : decide ((K.size : Int) ≤ 200) = true := decide_eq_true hK
  cases ga
  · have HR : Hid (itO' K false kb ok st = false) := by show _ = _; unfold itO'; rw [Bool.false_and, Bool.and_false]
    go_wp2_with fail
    refine Calls.mono (HA.out w1 HB1.out) ?_
    rintro e w2 ⟨rfl, hb2⟩
    have HB2 : Hid (Below w.heap.size w w2) := HB1.out.trans (hb2.mono HB1.out.size)
    clear hb2 HA HG x_ x0 x1 x2 x3 x4 x5 x6 x7
    go_wp2_with fail
    go_ret
    exact ⟨ret_bool HR.out.symm, HB2.out⟩
  cases kb
  · have HR : Hid (itO' K true false ok st = false) := by show _ = _; unfold itO'; rw [Bool.false_and, Bool.and_false, Bool.and_false]
    go_wp2_with fail
    refine Calls.mono (HA.out w1 HB1.out) ?_
    rintro e w2 ⟨rfl, hb2⟩
    have HX2 := HX1.out.below hb2
    have HB2 : Hid (Below w.heap.size w w2) := HB1.out.trans (hb2.mono HB1.out.size)
    clear hb2 HA x_ x0 x1 x2 x3 x4 x5 x6 x7
    obtain ⟨x_, x0, x1, x2, x3, x4, x5, x6, x7⟩ := HX2
    go_wp2_with fail
    refine Calls.mono (HG.out w2 HB2.out) ?_
    rintro e w3 ⟨rfl, hb3⟩
    have HB3 : Hid (Below w.heap.size w w3) := HB2.out.trans (hb3.mono HB2.out.size)
    clear hb3 HG x_ x0 x1 x2 x3 x4 x5 x6 x7
    go_wp2_with fail
    go_ret
    exact ⟨ret_bool HR.out.symm, HB3.out⟩
  have HR : Hid (itO' K true true ok st = (ok && !st)) := by show _ = _; unfold itO'; rw [hd0]; rfl
  go_wp2_with fail
  refine Calls.mono (HA.out w1 HB1.out) ?_
  rintro e w2 ⟨rfl, hb2⟩
  have HX2 := HX1.out.below hb2
  have HB2 : Hid (Below w.heap.size w w2) := HB1.out.trans (hb2.mono HB1.out.size)
  clear hb2 HA x_ x0 x1 x2 x3 x4 x5 x6 x7
  obtain ⟨x_, x0, x1, x2, x3, x4, x5, x6, x7⟩ := HX2
  go_wp2_with fail
  refine Calls.mono (HG.out w2 HB2.out) ?_
  rintro e w3 ⟨rfl, hb3⟩
  have HB3 : Hid (Below w.heap.size w w3) := HB2.out.trans (hb3.mono HB2.out.size)
  clear hb3 HG x_ x0 x1 x2 x3 x4 x5 x6 x7
  cases ok <;> cases st
  all_goals
    go_wp2_with fail
    go_ret
    exact ⟨ret_bool HR.out.symm, HB3.out⟩

set_option maxRecDepth 20000 in
set_option maxHeartbeats 3200000 in
theorem l9Item_walk (K : ByteArray) (x : Option Addr) (cx : Nat) (A : List (ByteArray × ByteArray)) (S : Int) (R B : ByteArray) (a : Option Addr) (ca : Nat) (l : List (ByteArray × ByteArray)) (q m : Int) (w : World) (lo hi lo1 hi1 : Nat) (hR : R.size ≤ 2000000) (hl : l.length ≤ 2000000) (hz : SzF l) (hJ : (joinS (valsOf cVary l)).size ≤ 2000000) (ha : FV w a l lo hi) (hlA : A.length ≤ 2000000) (hzA : SzF A) (hx : FV w x A lo1 hi1) (ok st : Bool) (hok : ok = (varyL l).isSome) (hst : st = (stA (varyL l))) :
    Calls Tryz.prog 52 #[itV K (.slice x A.length cx) S R (.slice a l.length ca) B q m] w fun e w' => e = .returned (.bool (itO' K (goodL A) (keptB S R l B q m) ok st)) ∧ Below w.heap.size w w' := by
  obtain ⟨W0, hW0⟩ : ∃ W, W = w.alloc (.cells #[.string K, .slice x A.length cx, .int .i64 S, .string R, .slice a l.length ca, .string B, .int .i64 q, .int .i64 m] 51) := ⟨_, rfl⟩
  have hb0 : Below w.heap.size w W0 := by rw [hW0]; exact (Below.refl _ _).alloc (Nat.le_refl _) _
  have HX0 : Hid (EightAt W0 w.heap.size (.string K) (.slice x A.length cx) (.int .i64 S) (.string R) (.slice a l.length ca) (.string B) (.int .i64 q) (.int .i64 m)) := by show EightAt _ _ _ _ _ _ _ _ _ _; rw [hW0]; exact EightAt.made w _ _ _ _ _ _ _ _ _
  have HB0 : Hid (Below w.heap.size w W0) := hb0
  have HV : Hid (Calls Tryz.prog 39 #[.agg #[.int .i64 S, .string R, .slice a l.length ca, .string B]] W0 fun e w' => (∃ v, e = .returned (.tuple #[v, .bool st, .bool ok])) ∧ Below W0.heap.size W0 w') := by
    rw [hok, hst]
    exact (l9Vary_any S R B a ca l W0 lo hi hl hz hJ (ha.below hb0)).mono fun e w' ⟨h, hb⟩ => ⟨VaryT.any h, hb⟩
  have HA : Hid (∀ wx, Below w.heap.size w wx → Calls Tryz.prog 72 #[.slice x A.length cx] wx fun e w' => e = .returned (.bool (goodL A)) ∧ Below wx.heap.size wx w') := fun wx hb => l3Fields_any x cx A wx lo1 hi1 hlA hzA (hx.below hb)
  have HG : Hid (∀ wx, Below w.heap.size w wx → Calls Tryz.prog 91 #[.agg #[.int .i64 S, .string R, .slice a l.length ca, .string B, .int .i64 q, .int .i64 m]] wx fun e w' => e = .returned (.bool (keptB S R l B q m)) ∧ Below wx.heap.size wx w') := fun wx hb => specKept_any S R B a ca l q m wx lo hi hR hl hz (ha.below hb)
  clear hok hst
  generalize keptB S R l B q m = kb at *
  generalize goodL A = ga at *
  obtain ⟨hd, hKd⟩ : ∃ d, d = decide ((K.size : Int) ≤ 200) := ⟨_, rfl⟩
  obtain ⟨x_, x0, x1, x2, x3, x4, x5, x6, x7⟩ := HX0.out
  clear ha hx hb0
  try clear hT hP hE hgt
  go_enter Tryz.func52, Tryz.ntmps52
  go_wp2_with fail
  rw [← hW0]
  clear hW0
  go_wp2_with fail
  refine Calls.mono HV.out ?_
  rintro e w1 ⟨⟨v, rfl⟩, hb1⟩
  have HX1 : Hid (EightAt w1 w.heap.size (.string K) (.slice x A.length cx) (.int .i64 S) (.string R) (.slice a l.length ca) (.string B) (.int .i64 q) (.int .i64 m)) := HX0.out.below hb1
  have HB1 : Hid (Below w.heap.size w w1) := HB0.out.trans (hb1.mono HB0.out.size)
  clear x_ x0 x1 x2 x3 x4 x5 x6 x7 hb1 HX0 HB0 HV
  obtain ⟨x_, x0, x1, x2, x3, x4, x5, x6, x7⟩ := HX1.out
  by_cases hK : (K.size : Int) ≤ 200
  rotate_left
  · have hd0 : decide ((K.size : Int) ≤ 200) = false := decide_eq_false hK
    have HR : Hid (itO' K ga kb ok st = false) := by show _ = _; unfold itO'; rw [hd0, Bool.false_and]
    clear HA HG hKd
    go_wp2_with fail
    go_ret
    exact ⟨ret_bool HR.out.symm, HB1.out⟩
  have hd0 : decide ((K.size : Int) ≤ 200) = true := decide_eq_true hK
  cases ga
  · have HR : Hid (itO' K false kb ok st = false) := by show _ = _; unfold itO'; rw [Bool.false_and, Bool.and_false]
    go_wp2_with fail
    refine Calls.mono (HA.out w1 HB1.out) ?_
    rintro e w2 ⟨rfl, hb2⟩
    have HB2 : Hid (Below w.heap.size w w2) := HB1.out.trans (hb2.mono HB1.out.size)
    clear hb2 HA HG x_ x0 x1 x2 x3 x4 x5 x6 x7
    go_wp2_with fail
    go_ret
    exact ⟨ret_bool HR.out.symm, HB2.out⟩
  cases kb
  · have HR : Hid (itO' K true false ok st = false) := by show _ = _; unfold itO'; rw [Bool.false_and, Bool.and_false, Bool.and_false]
    go_wp2_with fail
    refine Calls.mono (HA.out w1 HB1.out) ?_
    rintro e w2 ⟨rfl, hb2⟩
    have HX2 := HX1.out.below hb2
    have HB2 : Hid (Below w.heap.size w w2) := HB1.out.trans (hb2.mono HB1.out.size)
    clear hb2 HA x_ x0 x1 x2 x3 x4 x5 x6 x7
    obtain ⟨x_, x0, x1, x2, x3, x4, x5, x6, x7⟩ := HX2
    go_wp2_with fail
    refine Calls.mono (HG.out w2 HB2.out) ?_
    rintro e w3 ⟨rfl, hb3⟩
    have HB3 : Hid (Below w.heap.size w w3) := HB2.out.trans (hb3.mono HB2.out.size)
    clear hb3 HG x_ x0 x1 x2 x3 x4 x5 x6 x7
    go_wp2_with fail
    go_ret
    exact ⟨ret_bool HR.out.symm, HB3.out⟩
  have HR : Hid (itO' K true true ok st = (ok && !st)) := by show _ = _; unfold itO'; rw [hd0]; rfl
  go_wp2_with fail
  refine Calls.mono (HA.out w1 HB1.out) ?_
  rintro e w2 ⟨rfl, hb2⟩
  have HX2 := HX1.out.below hb2
  have HB2 : Hid (Below w.heap.size w w2) := HB1.out.trans (hb2.mono HB1.out.size)
  clear hb2 HA x_ x0 x1 x2 x3 x4 x5 x6 x7
  obtain ⟨x_, x0, x1, x2, x3, x4, x5, x6, x7⟩ := HX2
  go_wp2_with fail
  refine Calls.mono (HG.out w2 HB2.out) ?_
  rintro e w3 ⟨rfl, hb3⟩
  have HB3 : Hid (Below w.heap.size w w3) := HB2.out.trans (hb3.mono HB2.out.size)
  clear hb3 HG x_ x0 x1 x2 x3 x4 x5 x6 x7
  cases ok <;> cases st
  all_goals
    go_wp2_with fail
    go_ret
    exact ⟨ret_bool HR.out.symm, HB3.out⟩

theorem isItem_any (K : ByteArray) (x : Option Addr) (cx : Nat) (A : List (ByteArray × ByteArray)) (S : Int) (R B : ByteArray) (a : Option Addr) (ca : Nat) (l : List (ByteArray × ByteArray)) (q m : Int) (b : Addr) (w : World) (lo hi lo1 hi1 : Nat) (hT : Tab w) (hP : PowT w) (hE : w.cell? ⟨1, 0, none⟩ = some (sent b)) (hR : R.size ≤ 2000000) (hz : SzF l) (hca : l.length ≤ ca) (ha : FV w a l lo hi) (hzA : SzF A) (hx : FV w x A lo1 hi1) :
    Calls Tryz.prog 56 #[itV K (.slice x A.length cx) S R (.slice a l.length ca) B q m] w fun e w' => e = .returned (.bool (itB K A S R l B q m)) ∧ Below w.heap.size w w' := by
  have h := isItem_walk K x cx A S R B a ca l q m b w lo hi lo1 hi1 hT hP hE hR hz hca ha hzA hx _ _ rfl rfl
  rw [← itO_impl]
  exact h
theorem l9Item_any (K : ByteArray) (x : Option Addr) (cx : Nat) (A : List (ByteArray × ByteArray)) (S : Int) (R B : ByteArray) (a : Option Addr) (ca : Nat) (l : List (ByteArray × ByteArray)) (q m : Int) (w : World) (lo hi lo1 hi1 : Nat) (hR : R.size ≤ 2000000) (hl : l.length ≤ 2000000) (hz : SzF l) (hJ : (joinS (valsOf cVary l)).size ≤ 2000000) (ha : FV w a l lo hi) (hlA : A.length ≤ 2000000) (hzA : SzF A) (hx : FV w x A lo1 hi1) :
    Calls Tryz.prog 52 #[itV K (.slice x A.length cx) S R (.slice a l.length ca) B q m] w fun e w' => e = .returned (.bool (itB K A S R l B q m)) ∧ Below w.heap.size w w' :=
  l9Item_walk K x cx A S R B a ca l q m w lo hi lo1 hi1 hR hl hz hJ ha hlA hzA hx _ _ rfl rfl

end Go.Proofs.YtfgcgnhffljiaaaGreatDoor.Mta

namespace Go.Proofs.YtfgcgnhffljiaaaGreatDoor.Mta
open Go.RowKit
open Go.Proofs.YtfgcgnhffljiaaaGreatDoor.Fbs
open Go.Proofs.YtfgcgnhffljiaaaGreatDoor.Fch (Tab tokenB)
open Go.Proofs.YtfgcgnhffljiaaaGreatDoor.Fdb (FV)
open Go.Proofs.YtfgcgnhffljiaaaGreatDoor.Fvs
open Go.Proofs.YtfgcgnhffljiaaaGreatDoor.Jnd
open Go.Proofs.YtfgcgnhffljiaaaGreatDoor.Rsb
open Go.Proofs.YtfgcgnhffljiaaaGreatDoor.Ows
open Go.Proofs.YtfgcgnhffljiaaaGreatDoor.Vrp
open Go.Proofs.YtfgcgnhffljiaaaGreatDoor.Kka (keptB)
open Go.Proofs.YtfgcgnhffljiaaaGreatDoor.Rqb (rqB implGoodR_any specGoodR_any)
open Go.Proofs.YtfgcgnhffljiaaaGreatDoor.Mrk (TV RowT tv_of)
open Go.Proofs.YtfgcgnhffljiaaaGreatDoor.Num (tab_below tab_lt)
open Go.Proofs.YtfgcgnhffljiaaaGreatDoor.Lnp (sent)
open Go.Proofs.YtfgcgnhffljiaaaGreatDoor.Itm

def nsA (o : Option (List ByteArray × Bool)) : List ByteArray := match o with | none => [] | some x => x.1
/-- What a good item is. -/
theorem it_parts {K : ByteArray} {A : List (ByteArray × ByteArray)} {S : Int} {R : ByteArray} {l : List (ByteArray × ByteArray)} {B : ByteArray} {q m : Int} (h : itB K A S R l B q m = true) : K.size ≤ 200 ∧ goodL A = true ∧ keptB S R l B q m = true ∧ varyL l = some (nsA (varyL l), false) ∧ goodL l = true ∧ varyO S R l B = some (nsA (varyL l), false) := by
  unfold itB itO at h
  simp only [Bool.and_eq_true] at h
  obtain ⟨h1, h2, h3, h4, h5⟩ := h
  have hv : varyL l = some (nsA (varyL l), false) := by
    cases hl : varyL l with
    | none => rw [hl] at h4; cases h4
    | some x =>
      rw [hl] at h5
      have : x.2 = false := by simpa [stA] using h5
      obtain ⟨a, b⟩ := x
      have hb : b = false := this
      subst hb
      rfl
  have hr := kept_resp h3
  have hK := of_decide_eq_true h1
  refine ⟨by omega, h2, h3, hv, good_resp hr, ?_⟩
  unfold varyO
  rw [if_pos hr]
  exact hv
theorem rq_fields {M T : ByteArray} {l : List (ByteArray × ByteArray)} {B : ByteArray} (h : rqB M T l B = true) : goodL l = true := by
  unfold rqB at h
  simp only [Bool.and_eq_true] at h
  exact h.2.2.1

set_option maxRecDepth 20000 in
set_option maxHeartbeats 1600000 in
theorem l9Matches_any (K : ByteArray) (x : Option Addr) (cx : Nat) (A : List (ByteArray × ByteArray)) (S : Int) (R B : ByteArray) (a : Option Addr) (ca : Nat) (l : List (ByteArray × ByteArray)) (q m : Int) (y : Option Addr) (cy : Nat) (F : List (ByteArray × ByteArray)) (w : World) (lo hi lo1 hi1 lo2 hi2 : Nat)
    (hit : itB K A S R l B q m = true) (hl : l.length ≤ 2000000) (hz : SzF l) (ha : FV w a l lo hi) (hlA : A.length ≤ 2000000) (hzA : SzF A) (hx : FV w x A lo1 hi1) (hlF : F.length ≤ 2000000) (hzF : SzF F) (hy : FV w y F lo2 hi2) :
    Calls Tryz.prog 54 #[itV K (.slice x A.length cx) S R (.slice a l.length ca) B q m, .slice y F.length cy] w fun e w' => e = .returned (.bool (sameN A F (nsA (varyL l)))) ∧ Below w.heap.size w w' := by
  obtain ⟨_, _, _, hv, hgl, _⟩ := it_parts hit
  have htk := (vary_tok hv).1
  have hnl : (nsA (varyL l)).length ≤ 20001 := by have h1 := (vary_tok hv).2; have h2 := join_low hgl cVary; omega
  obtain ⟨W0, hW0⟩ : ∃ W, W = w.alloc (.cells #[.string K, .slice x A.length cx, .int .i64 S, .string R, .slice a l.length ca, .string B, .int .i64 q, .int .i64 m] 51) := ⟨_, rfl⟩
  have hb0 : Below w.heap.size w W0 := by rw [hW0]; exact (Below.refl _ _).alloc (Nat.le_refl _) _
  have HX0 : Hid (EightAt W0 w.heap.size (.string K) (.slice x A.length cx) (.int .i64 S) (.string R) (.slice a l.length ca) (.string B) (.int .i64 q) (.int .i64 m)) := by show EightAt _ _ _ _ _ _ _ _ _ _; rw [hW0]; exact EightAt.made w _ _ _ _ _ _ _ _ _
  have HB0 : Hid (Below w.heap.size w W0) := hb0
  have HV : Hid (Calls Tryz.prog 39 #[.agg #[.int .i64 S, .string R, .slice a l.length ca, .string B]] W0 fun e w' => (∃ v, e = .returned (.tuple #[v, .bool false, .bool true]) ∧ textsIn w' W0.heap.size v (nsA (varyL l))) ∧ Below W0.heap.size W0 w') := by
    refine (l9Vary_any S R B a ca l W0 lo hi hl hz (by have := join_low hgl cVary; omega) (ha.below hb0)).mono ?_
    rintro e w' ⟨h, hb⟩
    rw [hv] at h
    exact ⟨h, hb⟩
  generalize nsA (varyL l) = ns at *
  have HS : Hid (∀ v cv wx lo hi, Below w.heap.size w wx → TV wx v ns lo hi → Calls Tryz.prog 95 #[.slice v ns.length cv, .slice x A.length cx, .slice y F.length cy] wx fun e w' => e = .returned (.bool (sameN A F ns)) ∧ Below wx.heap.size wx w') := fun v cv wx lo hi hb h => l9Same_any v cv ns x cx A y cy F wx lo hi lo1 hi1 lo2 hi2 (by omega) (fun n hn => by have := tok_size (htk n hn); omega) h hlA hzA (hx.below hb) hlF hzF (hy.below hb)
  obtain ⟨x_, x0, x1, x2, x3, x4, x5, x6, x7⟩ := HX0.out
  clear ha hx hy hb0 hz hzA hzF htk hgl hv
  go_enter Tryz.func54, Tryz.ntmps54
  go_wp2_with fail
  rw [← hW0]
  clear hW0
  go_wp2_with fail
  refine Calls.mono HV.out ?_
  rintro e w1 ⟨⟨v, rfl, hvt⟩, hb1⟩
  obtain ⟨aP, cP, rfl, hTV⟩ := tv_of hvt
  have HX1 := HX0.out.below hb1
  have HB1 : Hid (Below w.heap.size w w1) := HB0.out.trans (hb1.mono HB0.out.size)
  clear x_ x0 x1 x2 x3 x4 x5 x6 x7 hb1 HX0 HB0 HV hvt
  obtain ⟨x_, x0, x1, x2, x3, x4, x5, x6, x7⟩ := HX1
  have HT1 : Hid (TV w1 aP ns W0.heap.size w1.heap.size) := hTV
  clear hTV
  go_wp2_with fail
  refine Calls.mono (HS.out _ _ w1 _ _ HB1.out HT1.out) ?_
  rintro e w2 ⟨rfl, hb2⟩
  have HB2 : Hid (Below w.heap.size w w2) := HB1.out.trans (hb2.mono HB1.out.size)
  clear hb2 HS x_ x0 x1 x2 x3 x4 x5 x6 x7
  go_wp2_with fail
  go_ret
  exact ⟨rfl, HB2.out⟩

theorem ret_pair {p r : Bool} {x : Bool × Bool} (h : x = (p, r)) : Ending.returned (.tuple #[.bool p, .bool r]) = .returned (.tuple #[.bool x.1, .bool x.2]) := by rw [h]
/-- What Matches answers. -/
def mtR (K : ByteArray) (A : List (ByteArray × ByteArray)) (S : Int) (R : ByteArray) (l : List (ByteArray × ByteArray)) (B : ByteArray) (q m : Int) (M T : ByteArray) (F : List (ByteArray × ByteArray)) (Bd : ByteArray) : Bool × Bool := if itB K A S R l B q m = true ∧ rqB M T F Bd = true then (sameN A F (nsA (varyL l)), true) else (false, false)

set_option maxRecDepth 20000 in
set_option maxHeartbeats 1600000 in
theorem implMatches_any (K : ByteArray) (x : Option Addr) (A : List (ByteArray × ByteArray)) (S : Int) (R B : ByteArray) (a : Option Addr) (l : List (ByteArray × ByteArray)) (q m : Int) (M T Bd : ByteArray) (y : Option Addr) (F : List (ByteArray × ByteArray)) (b : Addr) (w : World) (lo hi lo1 hi1 lo2 hi2 : Nat) (hT : Tab w) (hP : PowT w) (hE : w.cell? ⟨1, 0, none⟩ = some (sent b)) (hR : R.size ≤ 2000000) (hz : SzF l) (ha : FV w a l lo hi) (hzA : SzF A) (hx : FV w x A lo1 hi1) (hM : M.size ≤ 2000000) (hTs : T.size ≤ 2000000) (hzF : SzF F) (hy : FV w y F lo2 hi2) :
    Calls Tryz.prog 22 #[itV K (.slice x A.length A.length) S R (.slice a l.length l.length) B q m, .agg #[.string M, .string T, .slice y F.length F.length, .string Bd]] w fun e w' => e = .returned (.tuple #[.bool (mtR K A S R l B q m M T F Bd).1, .bool (mtR K A S R l B q m M T F Bd).2]) ∧ Below w.heap.size w w' := by
  obtain ⟨W1, hW1⟩ : ∃ W, W = w.alloc (.cells #[.string K, .slice x A.length A.length, .int .i64 S, .string R, .slice a l.length l.length, .string B, .int .i64 q, .int .i64 m] 51) := ⟨_, rfl⟩
  have hs1 : W1.heap.size = w.heap.size + 1 := by rw [hW1]; simp
  have hb1 : Below w.heap.size w W1 := by rw [hW1]; exact (Below.refl _ _).alloc (Nat.le_refl _) _
  have X1 : EightAt W1 w.heap.size (.string K) (.slice x A.length A.length) (.int .i64 S) (.string R) (.slice a l.length l.length) (.string B) (.int .i64 q) (.int .i64 m) := by rw [hW1]; exact EightAt.made w _ _ _ _ _ _ _ _ _
  obtain ⟨W0, hW0⟩ : ∃ W, W = W1.alloc (.cells #[.string M, .string T, .slice y F.length F.length, .string Bd] 54) := ⟨_, rfl⟩
  have hb01 : Below W1.heap.size W1 W0 := by rw [hW0]; exact (Below.refl _ _).alloc (Nat.le_refl _) _
  have hb0 : Below w.heap.size w W0 := hb1.trans (hb01.mono hb1.size)
  have HX0 : Hid (EightAt W0 w.heap.size (.string K) (.slice x A.length A.length) (.int .i64 S) (.string R) (.slice a l.length l.length) (.string B) (.int .i64 q) (.int .i64 m)) := X1.below hb01
  have HY0 : Hid (∀ wx, Below W0.heap.size W0 wx → wx.cell? ⟨w.heap.size + 1, 0, none⟩ = some (.string M) ∧ wx.cell? ⟨w.heap.size + 1, 1, none⟩ = some (.string T) ∧ wx.cell? ⟨w.heap.size + 1, 2, none⟩ = some (.slice y F.length F.length) ∧ wx.cell? ⟨w.heap.size + 1, 3, none⟩ = some (.string Bd)) := by
    intro wx hb
    have hlt : w.heap.size + 1 < W0.heap.size := by rw [hW0, World.size_alloc, hs1]; omega
    have e : ∀ i, wx.cell? ⟨w.heap.size + 1, i, none⟩ = W0.cell? ⟨w.heap.size + 1, i, none⟩ := fun i => hb.cell (p := ⟨w.heap.size + 1, i, none⟩) hlt
    rw [e, e, e, e, hW0, ← hs1]
    refine ⟨?_, ?_, ?_, ?_⟩ <;> (rw [World.cell?_alloc_mark]; rfl)
  have HB0 : Hid (Below w.heap.size w W0) := hb0
  have hgt := hT.lt
  have hE' : ∀ wx, Below w.heap.size w wx → wx.cell? ⟨1, 0, none⟩ = some (sent b) := fun wx h => (h.cell (p := ⟨1, 0, none⟩) (World.block_lt_of_cell? _ _ hE)).trans hE
  have HI : Hid (∀ wx, Below w.heap.size w wx → Calls Tryz.prog 56 #[itV K (.slice x A.length A.length) S R (.slice a l.length l.length) B q m] wx fun e w' => e = .returned (.bool (itB K A S R l B q m)) ∧ Below wx.heap.size wx w') := fun wx hb => isItem_any K x A.length A S R B a l.length l q m b wx lo hi lo1 hi1 (hT.below hb hgt) (tab_below hP hb (tab_lt hP)) (hE' _ hb) hR hz (Nat.le_refl _) (ha.below hb) hzA (hx.below hb)
  have HRq : Hid (∀ wx, Below w.heap.size w wx → Calls Tryz.prog 57 #[.agg #[.string M, .string T, .slice y F.length F.length, .string Bd]] wx fun e w' => e = .returned (.bool (rqB M T F Bd)) ∧ Below wx.heap.size wx w') := fun wx hb => implGoodR_any M T Bd y F.length F b wx lo2 hi2 (hT.below hb hgt) (hE' _ hb) hM hTs hzF (Nat.le_refl _) (hy.below hb)
  have HMt : Hid (itB K A S R l B q m = true → rqB M T F Bd = true → ∀ wx, Below w.heap.size w wx → Calls Tryz.prog 58 #[itV K (.slice x A.length A.length) S R (.slice a l.length l.length) B q m, .slice y F.length F.length] wx fun e w' => e = .returned (.bool (sameN A F (nsA (varyL l)))) ∧ Below wx.heap.size wx w') := fun h1 h2 wx hb => by
    obtain ⟨_, hgA, _, _, _, hvo⟩ := it_parts h1
    exact sameChoice_any K x A.length A S R B a l.length l q m y F.length F _ b wx lo hi lo1 hi1 lo2 hi2 (hT.below hb hgt) (tab_below hP hb (tab_lt hP)) (hE' _ hb) hR hz (Nat.le_refl _) (ha.below hb) hvo hgA hzA (Nat.le_refl _) (hx.below hb) (rq_fields h2) hzF (Nat.le_refl _) (hy.below hb)
  clear hE' 
  have hmt : mtR K A S R l B q m M T F Bd = if itB K A S R l B q m = true ∧ rqB M T F Bd = true then (sameN A F (nsA (varyL l)), true) else (false, false) := rfl
  generalize mtR K A S R l B q m M T F Bd = mr at *
  have hne1 : itB K A S R l B q m = false → mr = (false, false) := fun h => by rw [hmt, if_neg (by rintro ⟨h1, _⟩; rw [h] at h1; cases h1)]
  have hne2 : rqB M T F Bd = false → mr = (false, false) := fun h => by rw [hmt, if_neg (by rintro ⟨_, h1⟩; rw [h] at h1; cases h1)]
  have hye : itB K A S R l B q m = true → rqB M T F Bd = true → mr = (sameN A F (nsA (varyL l)), true) := fun h1 h2 => by rw [hmt, if_pos ⟨h1, h2⟩]
  have HN1 : Hid _ := hne1
  have HN2 : Hid _ := hne2
  have HYe : Hid _ := hye
  clear hmt hne1 hne2 hye
  generalize itB K A S R l B q m = ib at *
  generalize rqB M T F Bd = rb at *
  generalize sameN A F (nsA (varyL l)) = sb at *
  obtain ⟨x_, x0, x1, x2, x3, x4, x5, x6, x7⟩ := HX0.out
  obtain ⟨y0, y1, y2, y3⟩ := HY0.out W0 (Below.refl _ _)
  clear hx ha hy hb0 hb1 hb01 X1 hs1
  try clear hT hP hE hgt
  go_enter Tryz.func22, Tryz.ntmps22
  go_wp2_with fail
  rw [← hW1, ← hW0]
  clear hW1 hW0
  go_wp2_with fail
  refine Calls.mono (HI.out W0 HB0.out) ?_
  rintro e w1 ⟨rfl, hb1⟩
  have HX1 : Hid (EightAt w1 w.heap.size (.string K) (.slice x A.length A.length) (.int .i64 S) (.string R) (.slice a l.length l.length) (.string B) (.int .i64 q) (.int .i64 m)) := HX0.out.below hb1
  have HB1 : Hid (Below w.heap.size w w1) := HB0.out.trans (hb1.mono HB0.out.size)
  have HC1 : Hid (Below W0.heap.size W0 w1) := hb1
  clear x_ x0 x1 x2 x3 x4 x5 x6 x7 y0 y1 y2 y3 hb1 HX0 HB0 HI
  obtain ⟨y0, y1, y2, y3⟩ := HY0.out w1 HC1.out
  cases ib
  · have HR : Hid (mr = (false, false)) := HN1.out (by first | trivial | rfl)
    clear HRq HMt HN1 HN2 HYe
    go_wp2_with fail
    go_ret2
    exact ⟨ret_pair HR.out, HB1.out⟩
  go_wp2_with fail
  refine Calls.mono (HRq.out w1 HB1.out) ?_
  rintro e w2 ⟨rfl, hb2⟩
  have HX2 := HX1.out.below hb2
  have HB2 : Hid (Below w.heap.size w w2) := HB1.out.trans (hb2.mono HB1.out.size)
  have HC2 : Hid (Below W0.heap.size W0 w2) := HC1.out.trans (hb2.mono HC1.out.size)
  clear y0 y1 y2 y3 hb2 HX1 HB1 HC1 HRq
  obtain ⟨y0, y1, y2, y3⟩ := HY0.out w2 HC2.out
  obtain ⟨x_, x0, x1, x2, x3, x4, x5, x6, x7⟩ := HX2
  cases rb
  · have HR : Hid (mr = (false, false)) := HN2.out (by first | trivial | rfl)
    clear HMt HN1 HN2 HYe
    go_wp2_with fail
    go_ret2
    exact ⟨ret_pair HR.out, HB2.out⟩
  have HR : Hid (mr = (sb, true)) := HYe.out (by first | trivial | rfl) (by first | trivial | rfl)
  have HM : Hid _ := HMt.out (by first | trivial | rfl) (by first | trivial | rfl)
  clear HMt HN1 HN2 HYe
  go_wp2_with fail
  refine Calls.mono (HM.out w2 HB2.out) ?_
  rintro e w3 ⟨rfl, hb3⟩
  have HB3 : Hid (Below w.heap.size w w3) := HB2.out.trans (hb3.mono HB2.out.size)
  clear x_ x0 x1 x2 x3 x4 x5 x6 x7 y0 y1 y2 y3 hb3 HM HB2 HC2
  go_wp2_with fail
  go_ret2
  exact ⟨ret_pair HR.out, HB3.out⟩

set_option maxRecDepth 20000 in
set_option maxHeartbeats 1600000 in
theorem specMatches_any (K : ByteArray) (x : Option Addr) (A : List (ByteArray × ByteArray)) (S : Int) (R B : ByteArray) (a : Option Addr) (l : List (ByteArray × ByteArray)) (q m : Int) (M T Bd : ByteArray) (y : Option Addr) (F : List (ByteArray × ByteArray)) (w : World) (lo hi lo1 hi1 lo2 hi2 : Nat) (hR : R.size ≤ 2000000) (hl : l.length ≤ 2000000) (hz : SzF l) (hJ : (joinS (valsOf cVary l)).size ≤ 2000000) (ha : FV w a l lo hi) (hlA : A.length ≤ 2000000) (hzA : SzF A) (hx : FV w x A lo1 hi1) (hM : M.size ≤ 2000000) (hTs : T.size ≤ 2000000) (hlF : F.length ≤ 2000000) (hzF : SzF F) (hy : FV w y F lo2 hi2) :
    Calls Tryz.prog 19 #[itV K (.slice x A.length A.length) S R (.slice a l.length l.length) B q m, .agg #[.string M, .string T, .slice y F.length F.length, .string Bd]] w fun e w' => e = .returned (.tuple #[.bool (mtR K A S R l B q m M T F Bd).1, .bool (mtR K A S R l B q m M T F Bd).2]) ∧ Below w.heap.size w w' := by
  obtain ⟨W1, hW1⟩ : ∃ W, W = w.alloc (.cells #[.string K, .slice x A.length A.length, .int .i64 S, .string R, .slice a l.length l.length, .string B, .int .i64 q, .int .i64 m] 51) := ⟨_, rfl⟩
  have hs1 : W1.heap.size = w.heap.size + 1 := by rw [hW1]; simp
  have hb1 : Below w.heap.size w W1 := by rw [hW1]; exact (Below.refl _ _).alloc (Nat.le_refl _) _
  have X1 : EightAt W1 w.heap.size (.string K) (.slice x A.length A.length) (.int .i64 S) (.string R) (.slice a l.length l.length) (.string B) (.int .i64 q) (.int .i64 m) := by rw [hW1]; exact EightAt.made w _ _ _ _ _ _ _ _ _
  obtain ⟨W0, hW0⟩ : ∃ W, W = W1.alloc (.cells #[.string M, .string T, .slice y F.length F.length, .string Bd] 54) := ⟨_, rfl⟩
  have hb01 : Below W1.heap.size W1 W0 := by rw [hW0]; exact (Below.refl _ _).alloc (Nat.le_refl _) _
  have hb0 : Below w.heap.size w W0 := hb1.trans (hb01.mono hb1.size)
  have HX0 : Hid (EightAt W0 w.heap.size (.string K) (.slice x A.length A.length) (.int .i64 S) (.string R) (.slice a l.length l.length) (.string B) (.int .i64 q) (.int .i64 m)) := X1.below hb01
  have HY0 : Hid (∀ wx, Below W0.heap.size W0 wx → wx.cell? ⟨w.heap.size + 1, 0, none⟩ = some (.string M) ∧ wx.cell? ⟨w.heap.size + 1, 1, none⟩ = some (.string T) ∧ wx.cell? ⟨w.heap.size + 1, 2, none⟩ = some (.slice y F.length F.length) ∧ wx.cell? ⟨w.heap.size + 1, 3, none⟩ = some (.string Bd)) := by
    intro wx hb
    have hlt : w.heap.size + 1 < W0.heap.size := by rw [hW0, World.size_alloc, hs1]; omega
    have e : ∀ i, wx.cell? ⟨w.heap.size + 1, i, none⟩ = W0.cell? ⟨w.heap.size + 1, i, none⟩ := fun i => hb.cell (p := ⟨w.heap.size + 1, i, none⟩) hlt
    rw [e, e, e, e, hW0, ← hs1]
    refine ⟨?_, ?_, ?_, ?_⟩ <;> (rw [World.cell?_alloc_mark]; rfl)
  have HB0 : Hid (Below w.heap.size w W0) := hb0
  have HI : Hid (∀ wx, Below w.heap.size w wx → Calls Tryz.prog 52 #[itV K (.slice x A.length A.length) S R (.slice a l.length l.length) B q m] wx fun e w' => e = .returned (.bool (itB K A S R l B q m)) ∧ Below wx.heap.size wx w') := fun wx hb => l9Item_any K x A.length A S R B a l.length l q m wx lo hi lo1 hi1 hR hl hz hJ (ha.below hb) hlA hzA (hx.below hb)
  have HRq : Hid (∀ wx, Below w.heap.size w wx → Calls Tryz.prog 53 #[.agg #[.string M, .string T, .slice y F.length F.length, .string Bd]] wx fun e w' => e = .returned (.bool (rqB M T F Bd)) ∧ Below wx.heap.size wx w') := fun wx hb => specGoodR_any M T Bd y F.length F wx lo2 hi2 hM hTs hlF hzF (hy.below hb)
  have HMt : Hid (itB K A S R l B q m = true → rqB M T F Bd = true → ∀ wx, Below w.heap.size w wx → Calls Tryz.prog 54 #[itV K (.slice x A.length A.length) S R (.slice a l.length l.length) B q m, .slice y F.length F.length] wx fun e w' => e = .returned (.bool (sameN A F (nsA (varyL l)))) ∧ Below wx.heap.size wx w') := fun h1 h2 wx hb => l9Matches_any K x A.length A S R B a l.length l q m y F.length F wx lo hi lo1 hi1 lo2 hi2 h1 hl hz (ha.below hb) hlA hzA (hx.below hb) hlF hzF (hy.below hb)
  have hmt : mtR K A S R l B q m M T F Bd = if itB K A S R l B q m = true ∧ rqB M T F Bd = true then (sameN A F (nsA (varyL l)), true) else (false, false) := rfl
  generalize mtR K A S R l B q m M T F Bd = mr at *
  have hne1 : itB K A S R l B q m = false → mr = (false, false) := fun h => by rw [hmt, if_neg (by rintro ⟨h1, _⟩; rw [h] at h1; cases h1)]
  have hne2 : rqB M T F Bd = false → mr = (false, false) := fun h => by rw [hmt, if_neg (by rintro ⟨_, h1⟩; rw [h] at h1; cases h1)]
  have hye : itB K A S R l B q m = true → rqB M T F Bd = true → mr = (sameN A F (nsA (varyL l)), true) := fun h1 h2 => by rw [hmt, if_pos ⟨h1, h2⟩]
  have HN1 : Hid _ := hne1
  have HN2 : Hid _ := hne2
  have HYe : Hid _ := hye
  clear hmt hne1 hne2 hye
  generalize itB K A S R l B q m = ib at *
  generalize rqB M T F Bd = rb at *
  generalize sameN A F (nsA (varyL l)) = sb at *
  obtain ⟨x_, x0, x1, x2, x3, x4, x5, x6, x7⟩ := HX0.out
  obtain ⟨y0, y1, y2, y3⟩ := HY0.out W0 (Below.refl _ _)
  clear hx ha hy hb0 hb1 hb01 X1 hs1
  try clear hT hP hE hgt
  go_enter Tryz.func19, Tryz.ntmps19
  go_wp2_with fail
  rw [← hW1, ← hW0]
  clear hW1 hW0
  go_wp2_with fail
  refine Calls.mono (HI.out W0 HB0.out) ?_
  rintro e w1 ⟨rfl, hb1⟩
  have HX1 : Hid (EightAt w1 w.heap.size (.string K) (.slice x A.length A.length) (.int .i64 S) (.string R) (.slice a l.length l.length) (.string B) (.int .i64 q) (.int .i64 m)) := HX0.out.below hb1
  have HB1 : Hid (Below w.heap.size w w1) := HB0.out.trans (hb1.mono HB0.out.size)
  have HC1 : Hid (Below W0.heap.size W0 w1) := hb1
  clear x_ x0 x1 x2 x3 x4 x5 x6 x7 y0 y1 y2 y3 hb1 HX0 HB0 HI
  obtain ⟨y0, y1, y2, y3⟩ := HY0.out w1 HC1.out
  cases ib
  · have HR : Hid (mr = (false, false)) := HN1.out (by first | trivial | rfl)
    clear HRq HMt HN1 HN2 HYe
    go_wp2_with fail
    go_ret2
    exact ⟨ret_pair HR.out, HB1.out⟩
  go_wp2_with fail
  refine Calls.mono (HRq.out w1 HB1.out) ?_
  rintro e w2 ⟨rfl, hb2⟩
  have HX2 := HX1.out.below hb2
  have HB2 : Hid (Below w.heap.size w w2) := HB1.out.trans (hb2.mono HB1.out.size)
  have HC2 : Hid (Below W0.heap.size W0 w2) := HC1.out.trans (hb2.mono HC1.out.size)
  clear y0 y1 y2 y3 hb2 HX1 HB1 HC1 HRq
  obtain ⟨y0, y1, y2, y3⟩ := HY0.out w2 HC2.out
  obtain ⟨x_, x0, x1, x2, x3, x4, x5, x6, x7⟩ := HX2
  cases rb
  · have HR : Hid (mr = (false, false)) := HN2.out (by first | trivial | rfl)
    clear HMt HN1 HN2 HYe
    go_wp2_with fail
    go_ret2
    exact ⟨ret_pair HR.out, HB2.out⟩
  have HR : Hid (mr = (sb, true)) := HYe.out (by first | trivial | rfl) (by first | trivial | rfl)
  have HM : Hid _ := HMt.out (by first | trivial | rfl) (by first | trivial | rfl)
  clear HMt HN1 HN2 HYe
  go_wp2_with fail
  refine Calls.mono (HM.out w2 HB2.out) ?_
  rintro e w3 ⟨rfl, hb3⟩
  have HB3 : Hid (Below w.heap.size w w3) := HB2.out.trans (hb3.mono HB2.out.size)
  clear x_ x0 x1 x2 x3 x4 x5 x6 x7 y0 y1 y2 y3 hb3 HM HB2 HC2
  go_wp2_with fail
  go_ret2
  exact ⟨ret_pair HR.out, HB3.out⟩

end Go.Proofs.YtfgcgnhffljiaaaGreatDoor.Mta

namespace Go.Proofs.YtfgcgnhffljiaaaGreatDoor.Itm
open Go.RowKit
open Go.Proofs.YtfgcgnhffljiaaaGreatDoor.Fbs
open Go.Proofs.YtfgcgnhffljiaaaGreatDoor.Fdb
open Go.Proofs.YtfgcgnhffljiaaaGreatDoor.Fds
open Go.Proofs.YtfgcgnhffljiaaaGreatDoor.Szv
open Go.Proofs.YtfgcgnhffljiaaaGreatDoor.Rqb (fv_set)
open Go.Proofs.YtfgcgnhffljiaaaGreatDoor.Mrk (same_text)
open Go.Proofs.YtfgcgnhffljiaaaGreatDoor.Kka (toKept_any eqKept_any)

def OwnE (w : World) (b : Nat) (v0 v1 v2 v3 v4 v5 v6 v7 : Value) : Prop := (∀ i, w.frozen? ⟨b, i, none⟩ = false) ∧ EightAt w b v0 v1 v2 v3 v4 v5 v6 v7
theorem OwnE.made (w : World) (v0 v1 v2 v3 v4 v5 v6 v7 : Value) (t : TypeId) : OwnE (w.alloc (.cells #[v0, v1, v2, v3, v4, v5, v6, v7] t)) w.heap.size v0 v1 v2 v3 v4 v5 v6 v7 :=
  ⟨fun i => by simp [go_sem], EightAt.made w v0 v1 v2 v3 v4 v5 v6 v7 t⟩
theorem OwnE.below {w w' : World} {b : Nat} {v0 v1 v2 v3 v4 v5 v6 v7 : Value} (h : OwnE w b v0 v1 v2 v3 v4 v5 v6 v7) (hb : Below w.heap.size w w') : OwnE w' b v0 v1 v2 v3 v4 v5 v6 v7 :=
  ⟨fun i => (hb.frozen (p := ⟨b, i, none⟩) h.2.1).trans (h.1 i), h.2.below hb⟩
theorem OwnE.set1 {w : World} {b : Nat} {v0 v1 v2 v3 v4 v5 v6 v7 : Value} (h : OwnE w b v0 v1 v2 v3 v4 v5 v6 v7) (u : Value) : OwnE (w.setCell ⟨b, 1, none⟩ u) b v0 u v2 v3 v4 v5 v6 v7 := by
  obtain ⟨f, h0, c0, c1, c2, c3, c4, c5, c6, c7⟩ := h
  refine ⟨fun i => by simpa [go_sem] using f i, by simpa [World.setCell] using h0, ?_, ?_, ?_, ?_, ?_, ?_, ?_, ?_⟩ <;> simp [go_sem, c0, c1, c2, c3, c4, c5, c6, c7]
theorem OwnE.other {w : World} {b b' j : Nat} {v0 v1 v2 v3 v4 v5 v6 v7 : Value} (h : OwnE w b v0 v1 v2 v3 v4 v5 v6 v7) (hb : b ≠ b') (u : Value) : OwnE (w.setCell ⟨b', j, none⟩ u) b v0 v1 v2 v3 v4 v5 v6 v7 := by
  obtain ⟨f, h0, c0, c1, c2, c3, c4, c5, c6, c7⟩ := h
  have hc : ∀ i, (w.setCell ⟨b', j, none⟩ u).cell? ⟨b, i, none⟩ = w.cell? ⟨b, i, none⟩ := fun i => World.cell?_of_block (Below.heap_setCell _ _ _ _ (by simpa using fun e => hb e))
  have hf : ∀ i, (w.setCell ⟨b', j, none⟩ u).frozen? ⟨b, i, none⟩ = w.frozen? ⟨b, i, none⟩ := fun i => World.frozen?_of_block (Below.heap_setCell _ _ _ _ (by simpa using fun e => hb e))
  exact ⟨fun i => (hf i).trans (f i), by simpa [World.setCell] using h0, (hc 0).trans c0, (hc 1).trans c1, (hc 2).trans c2, (hc 3).trans c3, (hc 4).trans c4, (hc 5).trans c5, (hc 6).trans c6, (hc 7).trans c7⟩

set_option maxRecDepth 20000 in
set_option maxHeartbeats 6400000 in
theorem toItem_any (K : ByteArray) (x : Option Addr) (cx : Nat) (A : List (ByteArray × ByteArray)) (S : Int) (R B : ByteArray) (a : Option Addr) (ca : Nat) (l : List (ByteArray × ByteArray)) (q m : Int) (w : World) (hAl : A.length ≤ 1048576) (hl : l.length ≤ 1048576) (hA : AF w x A) (ha : AF w a l) :
    Calls Tryz.prog 20 #[itV K (.slice x A.length cx) S R (.slice a l.length ca) B q m] w fun e w' => (∃ g g', e = .returned (itV K (.slice (some ⟨g, 0, none⟩) A.length A.length) S R (.slice (some ⟨g', 0, none⟩) l.length l.length) B q m) ∧ ∃ mid, w.heap.size ≤ mid ∧ mid ≤ w'.heap.size ∧ FV w' (some ⟨g, 0, none⟩) A w.heap.size mid ∧ FV w' (some ⟨g', 0, none⟩) l mid w'.heap.size) ∧ Below w.heap.size w w' := by
  obtain ⟨w1, hw1⟩ : ∃ w1, w1 = w.alloc (.cells #[.string K, .slice x A.length cx, .int .i64 S, .string R, .slice a l.length ca, .string B, .int .i64 q, .int .i64 m] 41) := ⟨_, rfl⟩
  have hs1 : w1.heap.size = w.heap.size + 1 := by rw [hw1]; simp
  have hb1 : Below w.heap.size w w1 := by rw [hw1]; exact (Below.refl _ _).alloc (Nat.le_refl _) _
  have X1 : OwnE w1 w.heap.size (.string K) (.slice x A.length cx) (.int .i64 S) (.string R) (.slice a l.length ca) (.string B) (.int .i64 q) (.int .i64 m) := by rw [hw1]; exact OwnE.made w _ _ _ _ _ _ _ _ _
  obtain ⟨w2, hw2⟩ : ∃ w2, w2 = w1.alloc (.cells #[.string ⟨#[]⟩, .slice none 0 0, .int .i64 0, .string ⟨#[]⟩, .slice none 0 0, .string ⟨#[]⟩, .int .i64 0, .int .i64 0] 51) := ⟨_, rfl⟩
  have hs2 : w2.heap.size = w.heap.size + 1 + 1 := by rw [hw2, World.size_alloc, hs1]
  have hb2 : Below w1.heap.size w1 w2 := by rw [hw2]; exact (Below.refl _ _).alloc (Nat.le_refl _) _
  have O2 : OwnE w2 (w.heap.size + 1) (.string ⟨#[]⟩) (.slice none 0 0) (.int .i64 0) (.string ⟨#[]⟩) (.slice none 0 0) (.string ⟨#[]⟩) (.int .i64 0) (.int .i64 0) := by rw [← hs1, hw2]; exact OwnE.made w1 _ _ _ _ _ _ _ _ _
  obtain ⟨w3, hw3⟩ : ∃ w3, w3 = w2.alloc (.cells #[.string K, .slice none 0 0, .int .i64 0, .string ⟨#[]⟩, .slice none 0 0, .string ⟨#[]⟩, .int .i64 0, .int .i64 0] 51) := ⟨_, rfl⟩
  have hs3 : w3.heap.size = w.heap.size + 1 + 1 + 1 := by rw [hw3, World.size_alloc, hs2]
  have hb3 : Below w2.heap.size w2 w3 := by rw [hw3]; exact (Below.refl _ _).alloc (Nat.le_refl _) _
  have O3 : OwnE w3 (w.heap.size + 1 + 1) (.string K) (.slice none 0 0) (.int .i64 0) (.string ⟨#[]⟩) (.slice none 0 0) (.string ⟨#[]⟩) (.int .i64 0) (.int .i64 0) := by rw [← hs2, hw3]; exact OwnE.made w2 _ _ _ _ _ _ _ _ _
  have HX3 : Hid (OwnE w3 w.heap.size (.string K) (.slice x A.length cx) (.int .i64 S) (.string R) (.slice a l.length ca) (.string B) (.int .i64 q) (.int .i64 m)) := (X1.below hb2).below hb3
  have HO2 : Hid (OwnE w3 (w.heap.size + 1) (.string ⟨#[]⟩) (.slice none 0 0) (.int .i64 0) (.string ⟨#[]⟩) (.slice none 0 0) (.string ⟨#[]⟩) (.int .i64 0) (.int .i64 0)) := O2.below hb3
  have HO3 : Hid (OwnE w3 (w.heap.size + 1 + 1) (.string K) (.slice none 0 0) (.int .i64 0) (.string ⟨#[]⟩) (.slice none 0 0) (.string ⟨#[]⟩) (.int .i64 0) (.int .i64 0)) := O3
  have hB3 : Below w.heap.size w w3 := (hb1.trans (hb2.mono hb1.size)).trans (hb3.mono (by omega))
  have HB3 : Hid (Below w.heap.size w w3) := hB3
  obtain ⟨g3, hg3⟩ : ∃ g3, g3 = w3.heap.size := ⟨_, rfl⟩
  have HTF : Hid (Calls Tryz.prog 40 #[.slice x A.length cx] w3 fun e w' => e = .returned (.slice (some ⟨g3, 0, none⟩) A.length A.length) ∧ FV w' (some ⟨g3, 0, none⟩) A w3.heap.size w'.heap.size ∧ Below w3.heap.size w3 w') := by rw [hg3]; exact toFieldS_any x cx A w3 hAl (hA.below hB3)
  clear hg3
  have HTK : Hid (∀ wx, Below w.heap.size w wx → Calls Tryz.prog 55 #[.agg #[.int .i64 S, .string R, .slice a l.length ca, .string B, .int .i64 q, .int .i64 m]] wx fun e w' => (∃ g, e = .returned (.agg #[.int .i64 S, .string R, .slice (some ⟨g, 0, none⟩) l.length l.length, .string B, .int .i64 q, .int .i64 m]) ∧ FV w' (some ⟨g, 0, none⟩) l wx.heap.size w'.heap.size) ∧ Below wx.heap.size wx w') := fun wx h => toKept_any S R B a ca l q m wx hl (ha.below h)
  obtain ⟨x_, xf, x0, x1, x2, x3, x4, x5, x6, x7⟩ := HX3.out
  clear X1 O2 O3 hb1 hb2 hb3 ha hA hB3
  go_enter Tryz.func20, Tryz.ntmps20
  go_wp2_with fail
  rw [← hw1, ← hw2, ← hw3]
  clear hw1 hw2 hw3 hs1 hs2 x_ xf x0 x1 x2 x3 x4 x5 x6 x7
  refine Calls.mono HTF.out ?_
  rintro e w4 ⟨rfl, T4, hb4⟩
  have hs4 : w.heap.size + 1 + 1 + 1 ≤ w4.heap.size := by have := hb4.size; omega
  obtain ⟨w5, hw5⟩ : ∃ w5, w5 = w4.setCell ⟨w.heap.size + 1 + 1, 1, none⟩ (.slice (some ⟨g3, 0, none⟩) A.length A.length) := ⟨_, rfl⟩
  have hs5 : w5.heap.size = w4.heap.size := by rw [hw5]; simp [World.setCell]
  have HX5 : Hid (OwnE w5 w.heap.size (.string K) (.slice x A.length cx) (.int .i64 S) (.string R) (.slice a l.length ca) (.string B) (.int .i64 q) (.int .i64 m)) := by show OwnE _ _ _ _ _ _ _ _ _ _; rw [hw5]; exact (HX3.out.below hb4).other (by omega) _
  have HP5 : Hid (OwnE w5 (w.heap.size + 1) (.string ⟨#[]⟩) (.slice none 0 0) (.int .i64 0) (.string ⟨#[]⟩) (.slice none 0 0) (.string ⟨#[]⟩) (.int .i64 0) (.int .i64 0)) := by show OwnE _ _ _ _ _ _ _ _ _ _; rw [hw5]; exact (HO2.out.below hb4).other (by omega) _
  have HQ5 : Hid (OwnE w5 (w.heap.size + 1 + 1) (.string K) (.slice (some ⟨g3, 0, none⟩) A.length A.length) (.int .i64 0) (.string ⟨#[]⟩) (.slice none 0 0) (.string ⟨#[]⟩) (.int .i64 0) (.int .i64 0)) := by show OwnE _ _ _ _ _ _ _ _ _ _; rw [hw5]; exact (HO3.out.below hb4).set1 _
  have HT5 : Hid (FV w5 (some ⟨g3, 0, none⟩) A w3.heap.size w4.heap.size) := by show FV _ _ _ _ _; rw [hw5]; exact fv_set T4 (by omega) _
  have HB5 : Hid (Below w.heap.size w w5) := by show Below _ _ _; rw [hw5]; exact (HB3.out.trans (hb4.mono HB3.out.size)).setCell (by first | omega | (dsimp only; omega)) _
  obtain ⟨x_, xf, x0, x1, x2, x3, x4, x5, x6, x7⟩ := HX5.out
  obtain ⟨f3, q_, q0, q1, q2, q3, q4, q5, q6, q7⟩ := HO3.out.below hb4
  obtain ⟨X_, Xf, X0, X1, X2, X3, X4, X5, X6, X7⟩ := HX3.out.below hb4
  clear T4 hb4 HX3 HO2 HO3 HTF HB3
  go_wp2_with fail
  rw [← hw5]
  clear hw5 q_ q0 q1 q2 q3 q4 q5 q6 q7 f3 x_ xf x0 x1 x2 x3 x4 x5 x6 x7 X_ Xf X0 X1 X2 X3 X4 X5 X6 X7
  refine Calls.mono (HTK.out w5 HB5.out) ?_
  rintro e w6 ⟨⟨g', rfl, T6⟩, hb6⟩
  have hs6 : w4.heap.size ≤ w6.heap.size := by have := hb6.size; omega
  obtain ⟨f2, p_, p0, p1, p2, p3, p4, p5, p6, p7⟩ := HP5.out.below hb6
  obtain ⟨f3, q_, q0, q1, q2, q3, q4, q5, q6, q7⟩ := HQ5.out.below hb6
  have HT6 : Hid (FV w6 (some ⟨g3, 0, none⟩) A w3.heap.size w4.heap.size) := HT5.out.below hb6
  have HU6 : Hid (FV w6 (some ⟨g', 0, none⟩) l w5.heap.size w6.heap.size) := T6
  have HB6 : Hid (Below w.heap.size w w6) := HB5.out.trans (hb6.mono HB5.out.size)
  clear T6 hb6 HX5 HP5 HQ5 HT5 HB5 HTK p_ q_
  go_wp2_with fail
  exact bodyPost_ret (v := itV K (.slice (some ⟨g3, 0, none⟩) A.length A.length) S R (.slice (some ⟨g', 0, none⟩) l.length l.length) B q m) (by simp [results, Tryz.results20, go_sem, p0, p1, p2, p3, p4, p5, p6, p7]) rfl
    ⟨⟨_, _, rfl, w4.heap.size, by omega, by simp [World.setCell]; omega, (by exact FV.wide (fv_set (fv_set (fv_set (fv_set (fv_set (fv_set (fv_set (fv_set (fv_set (fv_set (fv_set (fv_set (fv_set (fv_set (HT6.out) (by omega) _) (by omega) _) (by omega) _) (by omega) _) (by omega) _) (by omega) _) (by omega) _) (by omega) _) (by omega) _) (by omega) _) (by omega) _) (by omega) _) (by omega) _) (by omega) _) (by omega) (by omega)), (by exact FV.wide (fv_set (fv_set (fv_set (fv_set (fv_set (fv_set (fv_set (fv_set (fv_set (fv_set (fv_set (fv_set (fv_set (fv_set (HU6.out) (by omega) _) (by omega) _) (by omega) _) (by omega) _) (by omega) _) (by omega) _) (by omega) _) (by omega) _) (by omega) _) (by omega) _) (by omega) _) (by omega) _) (by omega) _) (by omega) _) (by omega) (by simp [World.setCell]))⟩,
     ((((((((((((((HB6.out).setCell (by first | omega | (dsimp only; omega) | (simp; omega) | simp) _).setCell (by first | omega | (dsimp only; omega) | (simp; omega) | simp) _).setCell (by first | omega | (dsimp only; omega) | (simp; omega) | simp) _).setCell (by first | omega | (dsimp only; omega) | (simp; omega) | simp) _).setCell (by first | omega | (dsimp only; omega) | (simp; omega) | simp) _).setCell (by first | omega | (dsimp only; omega) | (simp; omega) | simp) _).setCell (by first | omega | (dsimp only; omega) | (simp; omega) | simp) _).setCell (by first | omega | (dsimp only; omega) | (simp; omega) | simp) _).setCell (by first | omega | (dsimp only; omega) | (simp; omega) | simp) _).setCell (by first | omega | (dsimp only; omega) | (simp; omega) | simp) _).setCell (by first | omega | (dsimp only; omega) | (simp; omega) | simp) _).setCell (by first | omega | (dsimp only; omega) | (simp; omega) | simp) _).setCell (by first | omega | (dsimp only; omega) | (simp; omega) | simp) _).setCell (by first | omega | (dsimp only; omega) | (simp; omega) | simp) _⟩

set_option maxHeartbeats 3200000 in
theorem eqItem_any (K : ByteArray) (x y : Option Addr) (A : List (ByteArray × ByteArray)) (S : Int) (R B : ByteArray) (a b : Option Addr) (l : List (ByteArray × ByteArray)) (q m : Int) (w : World) (i1 i2 i3 i4 j1 j2 j3 j4 : Nat) (hAl : A.length ≤ 2000000) (hl : l.length ≤ 2000000) (hx : FV w x A i1 i2) (hy : FV w y A i3 i4) (ha : FV w a l j1 j2) (hb : FV w b l j3 j4) :
    Calls Tryz.prog 23 #[itV K (.slice x A.length A.length) S R (.slice a l.length l.length) B q m, itV K (.slice y A.length A.length) S R (.slice b l.length l.length) B q m] w fun e w' => e = .returned (.bool true) ∧ Below w.heap.size w w' := by
  obtain ⟨w1, hw1⟩ : ∃ w1, w1 = w.alloc (.cells #[.string K, .slice x A.length A.length, .int .i64 S, .string R, .slice a l.length l.length, .string B, .int .i64 q, .int .i64 m] 51) := ⟨_, rfl⟩
  have hs1 : w1.heap.size = w.heap.size + 1 := by rw [hw1]; simp
  have hb1 : Below w.heap.size w w1 := by rw [hw1]; exact (Below.refl _ _).alloc (Nat.le_refl _) _
  have X1 : EightAt w1 w.heap.size (.string K) (.slice x A.length A.length) (.int .i64 S) (.string R) (.slice a l.length l.length) (.string B) (.int .i64 q) (.int .i64 m) := by rw [hw1]; exact EightAt.made w _ _ _ _ _ _ _ _ _
  obtain ⟨w2, hw2⟩ : ∃ w2, w2 = w1.alloc (.cells #[.string K, .slice y A.length A.length, .int .i64 S, .string R, .slice b l.length l.length, .string B, .int .i64 q, .int .i64 m] 51) := ⟨_, rfl⟩
  have hb2 : Below w1.heap.size w1 w2 := by rw [hw2]; exact (Below.refl _ _).alloc (Nat.le_refl _) _
  have HO2 : Hid (EightAt w2 (w.heap.size + 1) (.string K) (.slice y A.length A.length) (.int .i64 S) (.string R) (.slice b l.length l.length) (.string B) (.int .i64 q) (.int .i64 m)) := by show EightAt _ _ _ _ _ _ _ _ _ _; rw [← hs1, hw2]; exact EightAt.made w1 _ _ _ _ _ _ _ _ _
  have HX2 : Hid (EightAt w2 w.heap.size (.string K) (.slice x A.length A.length) (.int .i64 S) (.string R) (.slice a l.length l.length) (.string B) (.int .i64 q) (.int .i64 m)) := X1.below hb2
  have hB2 : Below w.heap.size w w2 := hb1.trans (hb2.mono hb1.size)
  have HB2 : Hid (Below w.heap.size w w2) := hB2
  have HE : Hid (Calls Tryz.prog 48 #[.slice x A.length A.length, .slice y A.length A.length] w2 fun e w' => e = .returned (.bool true) ∧ Below w2.heap.size w2 w') := eqFS_any x y A.length A.length A w2 i1 i2 i3 i4 hAl (hx.below hB2) (hy.below hB2)
  have HK : Hid (∀ wx, Below w.heap.size w wx → Calls Tryz.prog 59 #[.agg #[.int .i64 S, .string R, .slice a l.length l.length, .string B, .int .i64 q, .int .i64 m], .agg #[.int .i64 S, .string R, .slice b l.length l.length, .string B, .int .i64 q, .int .i64 m]] wx fun e w' => e = .returned (.bool true) ∧ Below wx.heap.size wx w') := fun wx h => eqKept_any S R B a b l q m wx j1 j2 j3 j4 hl (ha.below h) (hb.below h)
  have s1 := same_text K
  obtain ⟨x_, x0, x1, x2, x3, x4, x5, x6, x7⟩ := HX2.out
  obtain ⟨y_, y0, y1, y2, y3, y4, y5, y6, y7⟩ := HO2.out
  clear X1 hb1 hb2 hx hy ha hb hB2 hs1
  go_enter Tryz.func23, Tryz.ntmps23
  go_wp2_with fail
  rw [← hw1, ← hw2]
  clear hw1 hw2
  go_wp2_with fail
  refine Calls.mono HE.out ?_
  rintro e w3 ⟨rfl, hb3⟩
  have HX3 := HX2.out.below hb3
  have HO3 := HO2.out.below hb3
  have HB3 : Hid (Below w.heap.size w w3) := HB2.out.trans (hb3.mono HB2.out.size)
  clear hb3 HX2 HO2 HE HB2 x_ x0 x1 x2 x3 x4 x5 x6 x7 y_ y0 y1 y2 y3 y4 y5 y6 y7
  obtain ⟨x_, x0, x1, x2, x3, x4, x5, x6, x7⟩ := HX3
  obtain ⟨y_, y0, y1, y2, y3, y4, y5, y6, y7⟩ := HO3
  go_wp2_with fail
  refine Calls.mono (HK.out w3 HB3.out) ?_
  rintro e w4 ⟨rfl, hb4⟩
  have HB4 : Hid (Below w.heap.size w w4) := HB3.out.trans (hb4.mono HB3.out.size)
  clear hb4 HK HB3 x_ x0 x1 x2 x3 x4 x5 x6 x7 y_ y0 y1 y2 y3 y4 y5 y6 y7
  go_wp2_with fail
  go_ret
  exact ⟨rfl, HB4.out⟩

end Go.Proofs.YtfgcgnhffljiaaaGreatDoor.Itm

namespace Go.Proofs.YtfgcgnhffljiaaaGreatDoor.Mtw
open Go.RowKit
open Go.Proofs.YtfgcgnhffljiaaaGreatDoor
open Go.Proofs.YtfgcgnhffljiaaaGreatDoor.Fbs
open Go.Proofs.YtfgcgnhffljiaaaGreatDoor.Fch
open Go.Proofs.YtfgcgnhffljiaaaGreatDoor.Fdb
open Go.Proofs.YtfgcgnhffljiaaaGreatDoor.Fds (AF)
open Go.Proofs.YtfgcgnhffljiaaaGreatDoor.Fvs
open Go.Proofs.YtfgcgnhffljiaaaGreatDoor.Jnd
open Go.Proofs.YtfgcgnhffljiaaaGreatDoor.Rsb (PowT)
open Go.Proofs.YtfgcgnhffljiaaaGreatDoor.Rqb (toRequest_any eqRequest_any)
open Go.Proofs.YtfgcgnhffljiaaaGreatDoor.Vrp (cVary)
open Go.Proofs.YtfgcgnhffljiaaaGreatDoor.Szv
open Go.Proofs.YtfgcgnhffljiaaaGreatDoor.Itm
open Go.Proofs.YtfgcgnhffljiaaaGreatDoor.Mta
open Go.Proofs.YtfgcgnhffljiaaaGreatDoor.Num (tab_below tab_lt)
open Go.Proofs.YtfgcgnhffljiaaaGreatDoor.Lnp (sent)

theorem hid {p : Prop} (h : p) : Hid p := h
theorem lens_w (n : ByteArray) (hn : 1 ≤ n.size) : ∀ l : List (ByteArray × ByteArray), Lib.lens ((valsOf n l).map (·.data.toList)) + 2 * (valsOf n l).length ≤ wF l
  | [] => by simp [valsOf, Lib.lens]
  | c :: l => by
    have ih := lens_w n hn l
    have hw : wF (c :: l) = 1 + c.1.size + c.2.size + wF l := by
      unfold wF wS; rw [List.map_cons, List.sum_cons, List.length_cons]; unfold wC; omega
    cases h : isN n c
    · have e : valsOf n (c :: l) = valsOf n l := by unfold valsOf; rw [List.filter_cons]; simp [h]
      rw [e, hw]; omega
    · have e : valsOf n (c :: l) = c.2 :: valsOf n l := by unfold valsOf; rw [List.filter_cons]; simp [h]
      have hs : c.1.size = n.size := by
        have h1 : Lof.lowS c.1 = Lof.lowS n := of_decide_eq_true h
        have h2 := congrArg ByteArray.size h1
        rwa [Lof.lowS_size, Lof.lowS_size] at h2
      have hl := len_list c.2
      rw [e, hw, List.map_cons, List.length_cons]
      simp only [Lib.lens, List.map_cons, List.sum_cons] at ih ⊢
      omega
theorem join_w (n : ByteArray) (hn : 1 ≤ n.size) (l : List (ByteArray × ByteArray)) : (joinS (valsOf n l)).size ≤ wF l := by
  have h := lens_w n hn l
  show (List.toArray _).size ≤ _
  rw [List.size_toArray]
  generalize valsOf n l = vs at *
  cases vs with
  | nil => simp [Lib.join_nil]
  | cons x r =>
    rw [List.map_cons, Lib.join_cons, List.length_append, Lib.joinTail_length]
    rw [List.map_cons, List.length_cons] at h
    simp only [Lib.lens, List.map_cons, List.sum_cons] at h ⊢
    rw [List.length_map]
    show _ + (2 * _ + _) ≤ _
    omega
theorem wI_parts {K : ByteArray} {A : List (ByteArray × ByteArray)} {R : ByteArray} {l : List (ByteArray × ByteArray)} {B : ByteArray} (h : wI K A R l B ≤ 1048576) : K.size ≤ 1048576 ∧ A.length ≤ 1048576 ∧ SzF A ∧ R.size ≤ 1048576 ∧ B.size ≤ 1048576 ∧ l.length ≤ 1048576 ∧ SzF l ∧ (joinS (valsOf cVary l)).size ≤ 1048576 := by
  unfold wI wP at h
  obtain ⟨h1, h2⟩ := wF_parts (l := A) (L := 1048576) (by omega)
  obtain ⟨h3, h4⟩ := wF_parts (l := l) (L := 1048576) (by omega)
  have h5 := join_w cVary (by decide) l
  refine ⟨by omega, h1, fun c hc => ?_, by omega, by omega, h3, fun c hc => ?_, by omega⟩
  · have := h2 c hc; omega
  · have := h4 c hc; omega

def BoxQ (w : World) (g : Nat) (M T : ByteArray) (v : Value) (B : ByteArray) : Prop := w.cell? ⟨g, 0, none⟩ = some (.string M) ∧ w.cell? ⟨g, 1, none⟩ = some (.string T) ∧ w.cell? ⟨g, 2, none⟩ = some v ∧ w.cell? ⟨g, 3, none⟩ = some (.string B)
theorem BoxQ.below {w w' : World} {g : Nat} {M T : ByteArray} {v : Value} {B : ByteArray} (h : BoxQ w g M T v B) (hb : Below w.heap.size w w') : BoxQ w' g M T v B := by
  have hg := World.block_lt_of_cell? _ _ h.1
  have e : ∀ i, w'.cell? ⟨g, i, none⟩ = w.cell? ⟨g, i, none⟩ := fun i => hb.cell (p := ⟨g, i, none⟩) hg
  exact ⟨(e 0).trans h.1, (e 1).trans h.2.1, (e 2).trans h.2.2.1, (e 3).trans h.2.2.2⟩
theorem BoxQ.made (w : World) (M T : ByteArray) (v : Value) (B : ByteArray) (t : TypeId) : BoxQ (w.alloc (.cells #[.string M, .string T, v, .string B] t)) w.heap.size M T v B := by
  refine ⟨?_, ?_, ?_, ?_⟩ <;> simp [go_sem]

theorem keepA {W w w' : World} {g h : Nat} {v0 v1 v2 v3 v4 v5 v6 v7 u0 u1 u2 u3 : Value} (hg : g < W.heap.size) (hh : h < W.heap.size) (H : w.cell? ⟨g, 0, none⟩ = some v0 ∧ w.cell? ⟨g, 1, none⟩ = some v1 ∧ w.cell? ⟨g, 2, none⟩ = some v2 ∧ w.cell? ⟨g, 3, none⟩ = some v3 ∧ w.cell? ⟨g, 4, none⟩ = some v4 ∧ w.cell? ⟨g, 5, none⟩ = some v5 ∧ w.cell? ⟨g, 6, none⟩ = some v6 ∧ w.cell? ⟨g, 7, none⟩ = some v7 ∧ w.cell? ⟨h, 0, none⟩ = some u0 ∧ w.cell? ⟨h, 1, none⟩ = some u1 ∧ w.cell? ⟨h, 2, none⟩ = some u2 ∧ w.cell? ⟨h, 3, none⟩ = some u3 ∧ Below W.heap.size W w) (hb : Below w.heap.size w w') : w'.cell? ⟨g, 0, none⟩ = some v0 ∧ w'.cell? ⟨g, 1, none⟩ = some v1 ∧ w'.cell? ⟨g, 2, none⟩ = some v2 ∧ w'.cell? ⟨g, 3, none⟩ = some v3 ∧ w'.cell? ⟨g, 4, none⟩ = some v4 ∧ w'.cell? ⟨g, 5, none⟩ = some v5 ∧ w'.cell? ⟨g, 6, none⟩ = some v6 ∧ w'.cell? ⟨g, 7, none⟩ = some v7 ∧ w'.cell? ⟨h, 0, none⟩ = some u0 ∧ w'.cell? ⟨h, 1, none⟩ = some u1 ∧ w'.cell? ⟨h, 2, none⟩ = some u2 ∧ w'.cell? ⟨h, 3, none⟩ = some u3 ∧ Below W.heap.size W w' := by
  obtain ⟨c0, c1, c2, c3, c4, c5, c6, c7, d0, d1, d2, d3, hb0⟩ := H
  have eg : ∀ i, w'.cell? ⟨g, i, none⟩ = w.cell? ⟨g, i, none⟩ := fun i => hb.cell (p := ⟨g, i, none⟩) (Nat.lt_of_lt_of_le hg hb0.size)
  have eh : ∀ i, w'.cell? ⟨h, i, none⟩ = w.cell? ⟨h, i, none⟩ := fun i => hb.cell (p := ⟨h, i, none⟩) (Nat.lt_of_lt_of_le hh hb0.size)
  exact ⟨(eg 0).trans c0, (eg 1).trans c1, (eg 2).trans c2, (eg 3).trans c3, (eg 4).trans c4, (eg 5).trans c5, (eg 6).trans c6, (eg 7).trans c7, (eh 0).trans d0, (eh 1).trans d1, (eh 2).trans d2, (eh 3).trans d3, hb0.trans (hb.mono hb0.size)⟩
theorem keepAL {W w : World} {g h : Nat} {v0 v1 v2 v3 v4 v5 v6 v7 u0 u1 u2 u3 : Value} (H : w.cell? ⟨g, 0, none⟩ = some v0 ∧ w.cell? ⟨g, 1, none⟩ = some v1 ∧ w.cell? ⟨g, 2, none⟩ = some v2 ∧ w.cell? ⟨g, 3, none⟩ = some v3 ∧ w.cell? ⟨g, 4, none⟩ = some v4 ∧ w.cell? ⟨g, 5, none⟩ = some v5 ∧ w.cell? ⟨g, 6, none⟩ = some v6 ∧ w.cell? ⟨g, 7, none⟩ = some v7 ∧ w.cell? ⟨h, 0, none⟩ = some u0 ∧ w.cell? ⟨h, 1, none⟩ = some u1 ∧ w.cell? ⟨h, 2, none⟩ = some u2 ∧ w.cell? ⟨h, 3, none⟩ = some u3 ∧ Below W.heap.size W w) : Below W.heap.size W w := by
  obtain ⟨c0, c1, c2, c3, c4, c5, c6, c7, d0, d1, d2, d3, hb0⟩ := H
  exact hb0
theorem keepB {W w w' : World} {g h : Nat} {v0 v1 v2 v3 v4 v5 v6 v7 u0 u1 u2 u3 u4 u5 u6 u7 : Value} (hg : g < W.heap.size) (hh : h < W.heap.size) (H : w.cell? ⟨g, 0, none⟩ = some v0 ∧ w.cell? ⟨g, 1, none⟩ = some v1 ∧ w.cell? ⟨g, 2, none⟩ = some v2 ∧ w.cell? ⟨g, 3, none⟩ = some v3 ∧ w.cell? ⟨g, 4, none⟩ = some v4 ∧ w.cell? ⟨g, 5, none⟩ = some v5 ∧ w.cell? ⟨g, 6, none⟩ = some v6 ∧ w.cell? ⟨g, 7, none⟩ = some v7 ∧ w.cell? ⟨h, 0, none⟩ = some u0 ∧ w.cell? ⟨h, 1, none⟩ = some u1 ∧ w.cell? ⟨h, 2, none⟩ = some u2 ∧ w.cell? ⟨h, 3, none⟩ = some u3 ∧ w.cell? ⟨h, 4, none⟩ = some u4 ∧ w.cell? ⟨h, 5, none⟩ = some u5 ∧ w.cell? ⟨h, 6, none⟩ = some u6 ∧ w.cell? ⟨h, 7, none⟩ = some u7 ∧ Below W.heap.size W w) (hb : Below w.heap.size w w') : w'.cell? ⟨g, 0, none⟩ = some v0 ∧ w'.cell? ⟨g, 1, none⟩ = some v1 ∧ w'.cell? ⟨g, 2, none⟩ = some v2 ∧ w'.cell? ⟨g, 3, none⟩ = some v3 ∧ w'.cell? ⟨g, 4, none⟩ = some v4 ∧ w'.cell? ⟨g, 5, none⟩ = some v5 ∧ w'.cell? ⟨g, 6, none⟩ = some v6 ∧ w'.cell? ⟨g, 7, none⟩ = some v7 ∧ w'.cell? ⟨h, 0, none⟩ = some u0 ∧ w'.cell? ⟨h, 1, none⟩ = some u1 ∧ w'.cell? ⟨h, 2, none⟩ = some u2 ∧ w'.cell? ⟨h, 3, none⟩ = some u3 ∧ w'.cell? ⟨h, 4, none⟩ = some u4 ∧ w'.cell? ⟨h, 5, none⟩ = some u5 ∧ w'.cell? ⟨h, 6, none⟩ = some u6 ∧ w'.cell? ⟨h, 7, none⟩ = some u7 ∧ Below W.heap.size W w' := by
  obtain ⟨c0, c1, c2, c3, c4, c5, c6, c7, d0, d1, d2, d3, d4, d5, d6, d7, hb0⟩ := H
  have eg : ∀ i, w'.cell? ⟨g, i, none⟩ = w.cell? ⟨g, i, none⟩ := fun i => hb.cell (p := ⟨g, i, none⟩) (Nat.lt_of_lt_of_le hg hb0.size)
  have eh : ∀ i, w'.cell? ⟨h, i, none⟩ = w.cell? ⟨h, i, none⟩ := fun i => hb.cell (p := ⟨h, i, none⟩) (Nat.lt_of_lt_of_le hh hb0.size)
  exact ⟨(eg 0).trans c0, (eg 1).trans c1, (eg 2).trans c2, (eg 3).trans c3, (eg 4).trans c4, (eg 5).trans c5, (eg 6).trans c6, (eg 7).trans c7, (eh 0).trans d0, (eh 1).trans d1, (eh 2).trans d2, (eh 3).trans d3, (eh 4).trans d4, (eh 5).trans d5, (eh 6).trans d6, (eh 7).trans d7, hb0.trans (hb.mono hb0.size)⟩
theorem keepBL {W w : World} {g h : Nat} {v0 v1 v2 v3 v4 v5 v6 v7 u0 u1 u2 u3 u4 u5 u6 u7 : Value} (H : w.cell? ⟨g, 0, none⟩ = some v0 ∧ w.cell? ⟨g, 1, none⟩ = some v1 ∧ w.cell? ⟨g, 2, none⟩ = some v2 ∧ w.cell? ⟨g, 3, none⟩ = some v3 ∧ w.cell? ⟨g, 4, none⟩ = some v4 ∧ w.cell? ⟨g, 5, none⟩ = some v5 ∧ w.cell? ⟨g, 6, none⟩ = some v6 ∧ w.cell? ⟨g, 7, none⟩ = some v7 ∧ w.cell? ⟨h, 0, none⟩ = some u0 ∧ w.cell? ⟨h, 1, none⟩ = some u1 ∧ w.cell? ⟨h, 2, none⟩ = some u2 ∧ w.cell? ⟨h, 3, none⟩ = some u3 ∧ w.cell? ⟨h, 4, none⟩ = some u4 ∧ w.cell? ⟨h, 5, none⟩ = some u5 ∧ w.cell? ⟨h, 6, none⟩ = some u6 ∧ w.cell? ⟨h, 7, none⟩ = some u7 ∧ Below W.heap.size W w) : Below W.heap.size W w := by
  obtain ⟨c0, c1, c2, c3, c4, c5, c6, c7, d0, d1, d2, d3, d4, d5, d6, d7, hb0⟩ := H
  exact hb0
theorem keepC {W w w' : World} {g h : Nat} {v0 v1 v2 v3 u0 u1 u2 u3 : Value} (hg : g < W.heap.size) (hh : h < W.heap.size) (H : w.cell? ⟨g, 0, none⟩ = some v0 ∧ w.cell? ⟨g, 1, none⟩ = some v1 ∧ w.cell? ⟨g, 2, none⟩ = some v2 ∧ w.cell? ⟨g, 3, none⟩ = some v3 ∧ w.cell? ⟨h, 0, none⟩ = some u0 ∧ w.cell? ⟨h, 1, none⟩ = some u1 ∧ w.cell? ⟨h, 2, none⟩ = some u2 ∧ w.cell? ⟨h, 3, none⟩ = some u3 ∧ Below W.heap.size W w) (hb : Below w.heap.size w w') : w'.cell? ⟨g, 0, none⟩ = some v0 ∧ w'.cell? ⟨g, 1, none⟩ = some v1 ∧ w'.cell? ⟨g, 2, none⟩ = some v2 ∧ w'.cell? ⟨g, 3, none⟩ = some v3 ∧ w'.cell? ⟨h, 0, none⟩ = some u0 ∧ w'.cell? ⟨h, 1, none⟩ = some u1 ∧ w'.cell? ⟨h, 2, none⟩ = some u2 ∧ w'.cell? ⟨h, 3, none⟩ = some u3 ∧ Below W.heap.size W w' := by
  obtain ⟨c0, c1, c2, c3, d0, d1, d2, d3, hb0⟩ := H
  have eg : ∀ i, w'.cell? ⟨g, i, none⟩ = w.cell? ⟨g, i, none⟩ := fun i => hb.cell (p := ⟨g, i, none⟩) (Nat.lt_of_lt_of_le hg hb0.size)
  have eh : ∀ i, w'.cell? ⟨h, i, none⟩ = w.cell? ⟨h, i, none⟩ := fun i => hb.cell (p := ⟨h, i, none⟩) (Nat.lt_of_lt_of_le hh hb0.size)
  exact ⟨(eg 0).trans c0, (eg 1).trans c1, (eg 2).trans c2, (eg 3).trans c3, (eh 0).trans d0, (eh 1).trans d1, (eh 2).trans d2, (eh 3).trans d3, hb0.trans (hb.mono hb0.size)⟩
theorem keepCL {W w : World} {g h : Nat} {v0 v1 v2 v3 u0 u1 u2 u3 : Value} (H : w.cell? ⟨g, 0, none⟩ = some v0 ∧ w.cell? ⟨g, 1, none⟩ = some v1 ∧ w.cell? ⟨g, 2, none⟩ = some v2 ∧ w.cell? ⟨g, 3, none⟩ = some v3 ∧ w.cell? ⟨h, 0, none⟩ = some u0 ∧ w.cell? ⟨h, 1, none⟩ = some u1 ∧ w.cell? ⟨h, 2, none⟩ = some u2 ∧ w.cell? ⟨h, 3, none⟩ = some u3 ∧ Below W.heap.size W w) : Below W.heap.size W w := by
  obtain ⟨c0, c1, c2, c3, d0, d1, d2, d3, hb0⟩ := H
  exact hb0
theorem bel_of {w w1 w2 : World} (h : Below w.heap.size w w1) (hb : Below w1.heap.size w1 w2) : Below w.heap.size w w2 := h.trans (hb.mono h.size)

set_option maxRecDepth 20000 in
set_option maxHeartbeats 6400000 in
theorem walk (K : ByteArray) (x : Option Addr) (cx : Nat) (A : List (ByteArray × ByteArray)) (S : Int) (R B : ByteArray) (a : Option Addr) (ca : Nat) (l : List (ByteArray × ByteArray)) (q m : Int) (M T Bd : ByteArray) (y : Option Addr) (cy : Nat) (F : List (ByteArray × ByteArray)) (b : Addr) (w : World)
    (hT : Tab w) (hP : PowT w) (hE : w.cell? ⟨1, 0, none⟩ = some (sent b))
    (hK : K.size ≤ maxLen) (hA : AF w x A ∧ A.length ≤ maxLen ∧ ∀ c ∈ A, c.1.size ≤ maxLen ∧ c.2.size ≤ maxLen) (hR : R.size ≤ maxLen) (hB : B.size ≤ maxLen) (ha : AF w a l) (hl : l.length ≤ maxLen) (hlx : ∀ c ∈ l, c.1.size ≤ maxLen ∧ c.2.size ≤ maxLen)
    (hM : M.size ≤ maxLen) (hTs : T.size ≤ maxLen) (hBd : Bd.size ≤ maxLen) (hF : AF w y F) (hFl : F.length ≤ maxLen) (hFx : ∀ c ∈ F, c.1.size ≤ maxLen ∧ c.2.size ≤ maxLen) :
    Calls Tryz.prog 4 #[itV K (.slice x A.length cx) S R (.slice a l.length ca) B q m, .agg #[.string M, .string T, .slice y F.length cy, .string Bd]] w fun e w' => e = .returned (.bool true) ∧ Below w.heap.size w w' := by
  have hgt := hT.lt
  have hE' : ∀ wx, Below w.heap.size w wx → wx.cell? ⟨1, 0, none⟩ = some (sent b) := fun wx h => (h.cell (p := ⟨1, 0, none⟩) (World.block_lt_of_cell? _ _ hE)).trans hE
  obtain ⟨W1, hW1⟩ : ∃ W, W = w.alloc (.cells #[.string K, .slice x A.length cx, .int .i64 S, .string R, .slice a l.length ca, .string B, .int .i64 q, .int .i64 m] 41) := ⟨_, rfl⟩
  have hs1 : W1.heap.size = w.heap.size + 1 := by rw [hW1]; simp
  have hb1 : Below w.heap.size w W1 := by rw [hW1]; exact (Below.refl _ _).alloc (Nat.le_refl _) _
  have X1 : EightAt W1 w.heap.size (.string K) (.slice x A.length cx) (.int .i64 S) (.string R) (.slice a l.length ca) (.string B) (.int .i64 q) (.int .i64 m) := by rw [hW1]; exact EightAt.made w _ _ _ _ _ _ _ _ _
  obtain ⟨W0, hW0⟩ : ∃ W, W = W1.alloc (.cells #[.string M, .string T, .slice y F.length cy, .string Bd] 43) := ⟨_, rfl⟩
  have hb01 : Below W1.heap.size W1 W0 := by rw [hW0]; exact (Below.refl _ _).alloc (Nat.le_refl _) _
  have hb0 : Below w.heap.size w W0 := hb1.trans (hb01.mono hb1.size)
  have hX0 : EightAt W0 w.heap.size (.string K) (.slice x A.length cx) (.int .i64 S) (.string R) (.slice a l.length ca) (.string B) (.int .i64 q) (.int .i64 m) := X1.below hb01
  have hY0 : BoxQ W0 (w.heap.size + 1) M T (.slice y F.length cy) Bd := by rw [hW0, ← hs1]; exact BoxQ.made W1 M T _ Bd _
  have HC : Hid (∀ wx, Below W0.heap.size W0 wx → EightAt wx w.heap.size (.string K) (.slice x A.length cx) (.int .i64 S) (.string R) (.slice a l.length ca) (.string B) (.int .i64 q) (.int .i64 m) ∧ BoxQ wx (w.heap.size + 1) M T (.slice y F.length cy) Bd) := fun wx h => ⟨hX0.below h, hY0.below h⟩
  have HB0 : Hid (Below w.heap.size w W0) := hb0
  have HZI : Hid (∀ wx, Below w.heap.size w wx → Calls Tryz.prog 17 #[itV K (.slice x A.length cx) S R (.slice a l.length ca) B q m, .int .i64 1048576] wx fun e w' => e = .returned (.int .i64 (szV 1048576 (wI K A R l B))) ∧ Below wx.heap.size wx w') := fun wx h => szItem_v K x cx A S R B a ca l q m 1048576 wx (Nat.le_refl _) hK (hA.1.below h) hA.2.1 hA.2.2 hR hB hl hlx (ha.below h)
  have HZR : Hid (∀ L : Nat, L ≤ 1048576 → ∀ wx, Below w.heap.size w wx → Calls Tryz.prog 18 #[.agg #[.string M, .string T, .slice y F.length cy, .string Bd], .int .i64 L] wx fun e w' => e = .returned (.int .i64 (szV L (wR M T F Bd))) ∧ Below wx.heap.size wx w') := fun L hL wx h => szRequest_v M T Bd y cy F L wx hL hM hTs hBd hFl hFx (hF.below h)
  have HTI : Hid (wI K A R l B ≤ 1048576 → ∀ wx, Below w.heap.size w wx → Calls Tryz.prog 20 #[itV K (.slice x A.length cx) S R (.slice a l.length ca) B q m] wx fun e w' => (∃ g g', e = .returned (itV K (.slice (some ⟨g, 0, none⟩) A.length A.length) S R (.slice (some ⟨g', 0, none⟩) l.length l.length) B q m) ∧ ∃ mid, wx.heap.size ≤ mid ∧ mid ≤ w'.heap.size ∧ FV w' (some ⟨g, 0, none⟩) A wx.heap.size mid ∧ FV w' (some ⟨g', 0, none⟩) l mid w'.heap.size) ∧ Below wx.heap.size wx w') := fun h wx hb => by
    obtain ⟨_, h2, _, _, _, h6, _, _⟩ := wI_parts h
    exact toItem_any K x cx A S R B a ca l q m wx h2 h6 (hA.1.below hb) (ha.below hb)
  have HTR : Hid (wR M T F Bd ≤ 1048576 → ∀ wx, Below w.heap.size w wx → Calls Tryz.prog 21 #[.agg #[.string M, .string T, .slice y F.length cy, .string Bd]] wx fun e w' => (∃ g, e = .returned (.agg #[.string M, .string T, .slice (some ⟨g, 0, none⟩) F.length F.length, .string Bd]) ∧ FV w' (some ⟨g, 0, none⟩) F wx.heap.size w'.heap.size) ∧ Below wx.heap.size wx w') := fun h wx hb => by
    have h2 := (wF_parts (l := F) (L := 1048576) (by unfold wR at h; omega)).1
    exact toRequest_any M T Bd y cy F wx h2 (hF.below hb)
  have hszR : wR M T F Bd ≤ 1048576 → M.size ≤ 1048576 ∧ T.size ≤ 1048576 ∧ F.length ≤ 1048576 ∧ SzF F := fun h => by
    unfold wR at h
    obtain ⟨h1, h2⟩ := wF_parts (l := F) (L := 1048576) (by omega)
    exact ⟨by omega, by omega, h1, fun c hc => by have := h2 c hc; omega⟩
  have HSp : Hid (wI K A R l B ≤ 1048576 → wR M T F Bd ≤ 1048576 → ∀ x' a' y' wx lo hi lo1 hi1 lo2 hi2, FV wx a' l lo hi → FV wx x' A lo1 hi1 → FV wx y' F lo2 hi2 → Calls Tryz.prog 19 #[itV K (.slice x' A.length A.length) S R (.slice a' l.length l.length) B q m, .agg #[.string M, .string T, .slice y' F.length F.length, .string Bd]] wx fun e w' => e = .returned (.tuple #[.bool (mtR K A S R l B q m M T F Bd).1, .bool (mtR K A S R l B q m M T F Bd).2]) ∧ Below wx.heap.size wx w') := fun h1 h2 x' a' y' wx lo hi lo1 hi1 lo2 hi2 ga gx gy => by
    obtain ⟨_, i2, i3, i4, _, i6, i7, i8⟩ := wI_parts h1
    obtain ⟨j1, j2, j3, j4⟩ := hszR h2
    exact specMatches_any K x' A S R B a' l q m M T Bd y' F wx lo hi lo1 hi1 lo2 hi2 (by omega) (by omega) i7 (by omega) ga (by omega) i3 gx (by omega) (by omega) (by omega) j4 gy
  have HIm : Hid (wI K A R l B ≤ 1048576 → wR M T F Bd ≤ 1048576 → ∀ x' a' y' wx lo hi lo1 hi1 lo2 hi2, Below w.heap.size w wx → FV wx a' l lo hi → FV wx x' A lo1 hi1 → FV wx y' F lo2 hi2 → Calls Tryz.prog 22 #[itV K (.slice x' A.length A.length) S R (.slice a' l.length l.length) B q m, .agg #[.string M, .string T, .slice y' F.length F.length, .string Bd]] wx fun e w' => e = .returned (.tuple #[.bool (mtR K A S R l B q m M T F Bd).1, .bool (mtR K A S R l B q m M T F Bd).2]) ∧ Below wx.heap.size wx w') := fun h1 h2 x' a' y' wx lo hi lo1 hi1 lo2 hi2 hb ga gx gy => by
    obtain ⟨_, i2, i3, i4, _, i6, i7, i8⟩ := wI_parts h1
    obtain ⟨j1, j2, j3, j4⟩ := hszR h2
    exact implMatches_any K x' A S R B a' l q m M T Bd y' F b wx lo hi lo1 hi1 lo2 hi2 (hT.below hb hgt) (tab_below hP hb (tab_lt hP)) (hE' _ hb) (by omega) i7 ga i3 gx (by omega) (by omega) j4 gy
  have HEI : Hid (wI K A R l B ≤ 1048576 → ∀ x1 x2 a1 a2 wx i1 i2 i3 i4 j1 j2 j3 j4, FV wx x1 A i1 i2 → FV wx x2 A i3 i4 → FV wx a1 l j1 j2 → FV wx a2 l j3 j4 → Calls Tryz.prog 23 #[itV K (.slice x1 A.length A.length) S R (.slice a1 l.length l.length) B q m, itV K (.slice x2 A.length A.length) S R (.slice a2 l.length l.length) B q m] wx fun e w' => e = .returned (.bool true) ∧ Below wx.heap.size wx w') := fun h x1 x2 a1 a2 wx i1 i2 i3 i4 j1 j2 j3 j4 g1 g2 g3 g4 => by
    obtain ⟨_, h2, _, _, _, h6, _, _⟩ := wI_parts h
    exact eqItem_any K x1 x2 A S R B a1 a2 l q m wx i1 i2 i3 i4 j1 j2 j3 j4 (by omega) (by omega) g1 g2 g3 g4
  have HER : Hid (wR M T F Bd ≤ 1048576 → ∀ a1 a2 wx j1 j2 j3 j4, FV wx a1 F j1 j2 → FV wx a2 F j3 j4 → Calls Tryz.prog 24 #[.agg #[.string M, .string T, .slice a1 F.length F.length, .string Bd], .agg #[.string M, .string T, .slice a2 F.length F.length, .string Bd]] wx fun e w' => e = .returned (.bool true) ∧ Below wx.heap.size wx w') := fun h a1 a2 wx j1 j2 j3 j4 g1 g2 => by
    obtain ⟨_, _, h3, _⟩ := hszR h
    exact eqRequest_any M T Bd a1 a2 F wx j1 j2 j3 j4 (by omega) g1 g2
  obtain ⟨⟨x_, x0, x1, x2, x3, x4, x5, x6, x7⟩, y0, y1, y2, y3⟩ := HC.out W0 (Below.refl _ _)
  clear hX0 hY0 X1 hb1 hb01 hb0 hs1 hA ha hF hT hP hE hE' hgt hlx hFx hl hFl hK hR hB hM hTs hBd hszR
  generalize mtR K A S R l B q m M T F Bd = mr at *
  obtain ⟨m1, m2⟩ := mr
  by_cases hf1 : wI K A R l B ≤ 1048576
  rotate_left
  · rw [szV_no hf1] at HZI
    have HZ1 : Hid (∀ wx, Below w.heap.size w wx → Calls Tryz.prog 17 #[itV K (.slice x A.length cx) S R (.slice a l.length ca) B q m, .int .i64 1048576] wx fun e w' => e = .returned (.int .i64 (-1)) ∧ Below wx.heap.size wx w') := HZI
    clear HZI HZR HTI HTR HSp HIm HEI HER hf1
    go_enter Tryz.func4, Tryz.ntmps4
    go_wp2_with fail
    rw [← hW1, ← hW0]
    clear hW1 hW0
    go_wp2_with fail
    refine Calls.mono (HZ1.out W0 HB0.out) ?_
    rintro e w1 ⟨rfl, hb1⟩
    have HC1 : Hid (Below W0.heap.size W0 w1) := hb1
    have HB1 : Hid (Below w.heap.size w w1) := HB0.out.trans (hb1.mono HB0.out.size)
    clear x_ x0 x1 x2 x3 x4 x5 x6 x7 y0 y1 y2 y3 hb1 HZ1
    go_wp2_with fail
    go_ret
    exact ⟨rfl, HB1.out⟩
  rw [szV_yes hf1] at HZI
  obtain ⟨L, hL⟩ : ∃ L, L = 1048576 - wI K A R l B := ⟨_, rfl⟩
  rw [← hL] at HZI
  have HZ1 : Hid (∀ wx, Below w.heap.size w wx → Calls Tryz.prog 17 #[itV K (.slice x A.length cx) S R (.slice a l.length ca) B q m, .int .i64 1048576] wx fun e w' => e = .returned (.int .i64 (L : Int)) ∧ Below wx.heap.size wx w') := HZI
  have hLle : L ≤ 1048576 := by omega
  have hd : decide ((L : Int) < 0) = false := decide_eq_false (by omega)
  have hzr := HZR.out L hLle
  by_cases hf2 : wR M T F Bd ≤ L
  rotate_left
  · rw [szV_no hf2] at hzr
    have HZ2 : Hid (∀ wx, Below w.heap.size w wx → Calls Tryz.prog 18 #[.agg #[.string M, .string T, .slice y F.length cy, .string Bd], .int .i64 L] wx fun e w' => e = .returned (.int .i64 (-1)) ∧ Below wx.heap.size wx w') := hzr
    clear HZI HZR HTI HTR HSp HIm HEI HER hf1 hf2 hzr hL
    go_enter Tryz.func4, Tryz.ntmps4
    go_wp2_with fail
    rw [← hW1, ← hW0]
    clear hW1 hW0
    go_wp2_with fail
    refine Calls.mono (HZ1.out W0 HB0.out) ?_
    rintro e w1 ⟨rfl, hb1⟩
    have HC1 : Hid (Below W0.heap.size W0 w1) := hb1
    have HB1 : Hid (Below w.heap.size w w1) := HB0.out.trans (hb1.mono HB0.out.size)
    clear x_ x0 x1 x2 x3 x4 x5 x6 x7 y0 y1 y2 y3 hb1 HZ1
    obtain ⟨⟨x_, x0, x1, x2, x3, x4, x5, x6, x7⟩, y0, y1, y2, y3⟩ := HC.out w1 HC1.out
    go_wp2_with fail
    refine Calls.mono (HZ2.out w1 HB1.out) ?_
    rintro e w2 ⟨rfl, hb2⟩
    have HC2 : Hid (Below W0.heap.size W0 w2) := HC1.out.trans (hb2.mono HC1.out.size)
    have HB2 : Hid (Below w.heap.size w w2) := HB1.out.trans (hb2.mono HB1.out.size)
    clear x_ x0 x1 x2 x3 x4 x5 x6 x7 y0 y1 y2 y3 hb2 HZ2 HC1 HB1
    go_wp2_with fail
    go_ret
    exact ⟨rfl, HB2.out⟩
  rw [szV_yes hf2] at hzr
  obtain ⟨L2, hL2⟩ : ∃ L2, L2 = L - wR M T F Bd := ⟨_, rfl⟩
  rw [← hL2] at hzr
  have HZ2 : Hid (∀ wx, Below w.heap.size w wx → Calls Tryz.prog 18 #[.agg #[.string M, .string T, .slice y F.length cy, .string Bd], .int .i64 L] wx fun e w' => e = .returned (.int .i64 (L2 : Int)) ∧ Below wx.heap.size wx w') := hzr
  have hd2 : decide ((L2 : Int) < 0) = false := decide_eq_false (by omega)
  have hf3 : wR M T F Bd ≤ 1048576 := by omega
  have HSp' := hid (HSp.out hf1 hf3)
  have HIm' := hid (HIm.out hf1 hf3)
  have HTI' := hid (HTI.out hf1)
  have HTR' := hid (HTR.out hf3)
  have HEI' := hid (HEI.out hf1)
  have HER' := hid (HER.out hf3)
  clear hf1 hf2 hf3 hL hL2 hzr hLle HZI HZR HSp HIm HTI HTR HEI HER
  go_enter Tryz.func4, Tryz.ntmps4
  go_wp2_with fail
  rw [← hW1, ← hW0]
  clear hW1 hW0
  go_wp2_with fail
  refine Calls.mono (HZ1.out W0 HB0.out) ?_
  rintro e w1 ⟨rfl, hb1⟩
  have HC1 : Hid (Below W0.heap.size W0 w1) := hb1
  have HB1 : Hid (Below w.heap.size w w1) := HB0.out.trans (hb1.mono HB0.out.size)
  clear x_ x0 x1 x2 x3 x4 x5 x6 x7 y0 y1 y2 y3 hb1 HZ1
  obtain ⟨⟨x_, x0, x1, x2, x3, x4, x5, x6, x7⟩, y0, y1, y2, y3⟩ := HC.out w1 HC1.out
  go_wp2_with fail
  refine Calls.mono (HZ2.out w1 HB1.out) ?_
  rintro e w2 ⟨rfl, hb2⟩
  have HC2 : Hid (Below W0.heap.size W0 w2) := HC1.out.trans (hb2.mono HC1.out.size)
  have HB2 : Hid (Below w.heap.size w w2) := HB1.out.trans (hb2.mono HB1.out.size)
  clear x_ x0 x1 x2 x3 x4 x5 x6 x7 y0 y1 y2 y3 hb2 HZ2 HC1 HB1
  obtain ⟨⟨x_, x0, x1, x2, x3, x4, x5, x6, x7⟩, y0, y1, y2, y3⟩ := HC.out w2 HC2.out
  have hn1 : w.heap.size < w2.heap.size := World.block_lt_of_cell? _ _ x0
  have hn2 : w.heap.size + 1 < w2.heap.size := World.block_lt_of_cell? _ _ y0
  go_wp2_with fail
  go_region_held3 (fun w' => w'.cell? ⟨w.heap.size, 0, none⟩ = some (.string K) ∧ w'.cell? ⟨w.heap.size, 1, none⟩ = some (.slice x A.length cx) ∧ w'.cell? ⟨w.heap.size, 2, none⟩ = some (.int .i64 S) ∧ w'.cell? ⟨w.heap.size, 3, none⟩ = some (.string R) ∧ w'.cell? ⟨w.heap.size, 4, none⟩ = some (.slice a l.length ca) ∧ w'.cell? ⟨w.heap.size, 5, none⟩ = some (.string B) ∧ w'.cell? ⟨w.heap.size, 6, none⟩ = some (.int .i64 q) ∧ w'.cell? ⟨w.heap.size, 7, none⟩ = some (.int .i64 m) ∧ w'.cell? ⟨w.heap.size + 1, 0, none⟩ = some (.string M) ∧ w'.cell? ⟨w.heap.size + 1, 1, none⟩ = some (.string T) ∧ w'.cell? ⟨w.heap.size + 1, 2, none⟩ = some (.slice y F.length cy) ∧ w'.cell? ⟨w.heap.size + 1, 3, none⟩ = some (.string Bd) ∧ Below w2.heap.size w2 w')
    (first
      | exact ⟨x0, x1, x2, x3, x4, x5, x6, x7, y0, y1, y2, y3, (Below.refl _ _).drew⟩
      | assumption
      | exact keepA hn1 hn2 (by assumption) (by assumption))
    (first
      | (go_at_call 20; with_reducible refine (HTI'.out _ (bel_of HB2.out (keepAL (by assumption)))).mono ?_; rintro e w3 ⟨⟨g3, g3', rfl, mid3, _, _, GA3, GL3⟩, hb3⟩)
      | (go_at_call 21; with_reducible refine (HTR'.out _ (bel_of HB2.out (keepAL (by assumption)))).mono ?_; rintro e w4 ⟨⟨g4, rfl, GF4⟩, hb4⟩)
      | (go_at_call 19; with_reducible refine (HSp'.out _ _ _ _ _ _ _ _ _ _ (GL3.below hb4) (GA3.below hb4) GF4).mono ?_; rintro e w5 ⟨rfl, hb5⟩))
  all_goals
    have hb25 : Below w2.heap.size w2 w5 := (keepAL (by assumption))
    have HB5 : Hid (Below w.heap.size w w5) := bel_of HB2.out hb25
    have HC5 : Hid (Below W0.heap.size W0 w5) := HC2.out.trans (hb25.mono HC2.out.size)
    clear hb25
    clear GA3 GL3 GF4 hb3 hb4 hb5 HB2 HC2 x_ x0 x1 x2 x3 x4 x5 x6 x7 y0 y1 y2 y3 HSp' hn1 hn2
    obtain ⟨⟨x_, x0, x1, x2, x3, x4, x5, x6, x7⟩, y0, y1, y2, y3⟩ := HC.out w5 HC5.out
    go_wp2_with fail
    refine Calls.mono (HTI'.out _ HB5.out) ?_
    rintro e w6 ⟨⟨g6, g6', rfl, mid6, _, _, GA6, GL6⟩, hb6⟩
    obtain ⟨w7, hw7⟩ : ∃ w7, w7 = w6.alloc (.cells #[.string K, .slice (some ⟨g6, 0, none⟩) A.length A.length, .int .i64 S, .string R, .slice (some ⟨g6', 0, none⟩) l.length l.length, .string B, .int .i64 q, .int .i64 m] 51) := ⟨_, rfl⟩
    have hb67 : Below w6.heap.size w6 w7 := by rw [hw7]; exact (Below.refl _ _).alloc (Nat.le_refl _) _
    have hI7 : EightAt w7 w6.heap.size (.string K) (.slice (some ⟨g6, 0, none⟩) A.length A.length) (.int .i64 S) (.string R) (.slice (some ⟨g6', 0, none⟩) l.length l.length) (.string B) (.int .i64 q) (.int .i64 m) := by rw [hw7]; exact EightAt.made w6 _ _ _ _ _ _ _ _ _
    have HB7 : Hid (Below w.heap.size w w7) := bel_of (bel_of HB5.out hb6) hb67
    have HC7 : Hid (Below W0.heap.size W0 w7) := bel_of (bel_of HC5.out hb6) hb67
    have HC6 : Hid (Below W0.heap.size W0 w6) := bel_of HC5.out hb6
    have hA7 := GA6.below hb67
    have hL7 := GL6.below hb67
    have HK7 : Hid (∀ wx, Below w7.heap.size w7 wx → EightAt wx w6.heap.size (.string K) (.slice (some ⟨g6, 0, none⟩) A.length A.length) (.int .i64 S) (.string R) (.slice (some ⟨g6', 0, none⟩) l.length l.length) (.string B) (.int .i64 q) (.int .i64 m) ∧ FV wx (some ⟨g6, 0, none⟩) A w5.heap.size mid6 ∧ FV wx (some ⟨g6', 0, none⟩) l mid6 w6.heap.size) := fun wx h => ⟨hI7.below h, hA7.below h, hL7.below h⟩
    clear GA6 GL6 hb6 hb67 hI7 hA7 hL7 HB5 HC5 x_ x0 x1 x2 x3 x4 x5 x6 x7 y0 y1 y2 y3
    obtain ⟨⟨x_, x0, x1, x2, x3, x4, x5, x6, x7⟩, y0, y1, y2, y3⟩ := HC.out w6 HC6.out
    obtain ⟨Y0, Y1, Y2, Y3⟩ := (HC.out w7 HC7.out).2
    rw [hw7] at Y0 Y1 Y2 Y3
    go_wp2_with fail
    rw [← hw7]
    clear hw7 HC6 Y0 Y1 Y2 Y3
    refine Calls.mono (HTR'.out _ HB7.out) ?_
    rintro e w8 ⟨⟨g8, rfl, GF8⟩, hb8⟩
    obtain ⟨w9, hw9⟩ : ∃ w9, w9 = w8.alloc (.cells #[.string M, .string T, .slice (some ⟨g8, 0, none⟩) F.length F.length, .string Bd] 54) := ⟨_, rfl⟩
    have hb89 : Below w8.heap.size w8 w9 := by rw [hw9]; exact (Below.refl _ _).alloc (Nat.le_refl _) _
    have hR9 : BoxQ w9 w8.heap.size M T (.slice (some ⟨g8, 0, none⟩) F.length F.length) Bd := by rw [hw9]; exact BoxQ.made w8 M T _ Bd _
    have hF9 := GF8.below hb89
    have hb79 : Below w7.heap.size w7 w9 := bel_of hb8 hb89
    have HB9 : Hid (Below w.heap.size w w9) := bel_of HB7.out hb79
    have HC9 : Hid (Below W0.heap.size W0 w9) := bel_of HC7.out hb79
    have HK9 : Hid (∀ wx, Below w9.heap.size w9 wx → EightAt wx w6.heap.size (.string K) (.slice (some ⟨g6, 0, none⟩) A.length A.length) (.int .i64 S) (.string R) (.slice (some ⟨g6', 0, none⟩) l.length l.length) (.string B) (.int .i64 q) (.int .i64 m) ∧ (FV wx (some ⟨g6, 0, none⟩) A w5.heap.size mid6 ∧ FV wx (some ⟨g6', 0, none⟩) l mid6 w6.heap.size) ∧ BoxQ wx w8.heap.size M T (.slice (some ⟨g8, 0, none⟩) F.length F.length) Bd ∧ FV wx (some ⟨g8, 0, none⟩) F w7.heap.size w8.heap.size) := fun wx h => ⟨(HK7.out wx (bel_of hb79 h)).1, (HK7.out wx (bel_of hb79 h)).2, hR9.below h, hF9.below h⟩
    obtain ⟨z_, z0, z1, z2, z3, z4, z5, z6, z7⟩ := (HK7.out w8 hb8).1
    clear GF8 hb8 hb89 hb79 hR9 hF9 HB7 HC7 HK7 x_ x0 x1 x2 x3 x4 x5 x6 x7 y0 y1 y2 y3
    obtain ⟨⟨Z_, Z0, Z1, Z2, Z3, Z4, Z5, Z6, Z7⟩, ⟨hA9, hL9⟩, _, hF9⟩ := HK9.out w9 (Below.refl _ _)
    rw [hw9] at Z0 Z1 Z2 Z3 Z4 Z5 Z6 Z7
    go_wp2_with fail
    rw [← hw9]
    clear hw9 Z_ Z0 Z1 Z2 Z3 Z4 Z5 Z6 Z7
    refine Calls.mono (HIm'.out _ _ _ _ _ _ _ _ _ _ HB9.out hL9 hA9 hF9) ?_
    rintro e w10 ⟨rfl, hb10⟩
    have HB10 : Hid (Below w.heap.size w w10) := bel_of HB9.out hb10
    have HC10 : Hid (Below W0.heap.size W0 w10) := bel_of HC9.out hb10
    have HD10 : Hid (Below w9.heap.size w9 w10) := hb10
    clear hb10 HB9 HC9 HIm' z_ z0 z1 z2 z3 z4 z5 z6 z7 hA9 hL9 hF9
    obtain ⟨⟨z_, z0, z1, z2, z3, z4, z5, z6, z7⟩, ⟨hA10, hL10⟩, ⟨q0, q1, q2, q3⟩, hF10⟩ := HK9.out w10 HD10.out
    obtain ⟨⟨x_, x0, x1, x2, x3, x4, x5, x6, x7⟩, y0, y1, y2, y3⟩ := HC.out w10 HC10.out
    have hn1 : w6.heap.size < w10.heap.size := World.block_lt_of_cell? _ _ z0
    have hn2 : w.heap.size < w10.heap.size := World.block_lt_of_cell? _ _ x0
    have hn3 : w8.heap.size < w10.heap.size := World.block_lt_of_cell? _ _ q0
    have hn4 : w.heap.size + 1 < w10.heap.size := World.block_lt_of_cell? _ _ y0
    go_wp2_with fail
    go_region_held3 (fun w' => w'.cell? ⟨w6.heap.size, 0, none⟩ = some (.string K) ∧ w'.cell? ⟨w6.heap.size, 1, none⟩ = some (.slice (some ⟨g6, 0, none⟩) A.length A.length) ∧ w'.cell? ⟨w6.heap.size, 2, none⟩ = some (.int .i64 S) ∧ w'.cell? ⟨w6.heap.size, 3, none⟩ = some (.string R) ∧ w'.cell? ⟨w6.heap.size, 4, none⟩ = some (.slice (some ⟨g6', 0, none⟩) l.length l.length) ∧ w'.cell? ⟨w6.heap.size, 5, none⟩ = some (.string B) ∧ w'.cell? ⟨w6.heap.size, 6, none⟩ = some (.int .i64 q) ∧ w'.cell? ⟨w6.heap.size, 7, none⟩ = some (.int .i64 m) ∧ w'.cell? ⟨w.heap.size, 0, none⟩ = some (.string K) ∧ w'.cell? ⟨w.heap.size, 1, none⟩ = some (.slice x A.length cx) ∧ w'.cell? ⟨w.heap.size, 2, none⟩ = some (.int .i64 S) ∧ w'.cell? ⟨w.heap.size, 3, none⟩ = some (.string R) ∧ w'.cell? ⟨w.heap.size, 4, none⟩ = some (.slice a l.length ca) ∧ w'.cell? ⟨w.heap.size, 5, none⟩ = some (.string B) ∧ w'.cell? ⟨w.heap.size, 6, none⟩ = some (.int .i64 q) ∧ w'.cell? ⟨w.heap.size, 7, none⟩ = some (.int .i64 m) ∧ Below w10.heap.size w10 w')
      (first
        | exact ⟨z0, z1, z2, z3, z4, z5, z6, z7, x0, x1, x2, x3, x4, x5, x6, x7, (Below.refl _ _).drew⟩
        | assumption
        | exact keepB hn1 hn2 (by assumption) (by assumption))
      (first
        | (go_at_call 20; with_reducible refine (HTI'.out _ (bel_of HB10.out (keepBL (by assumption)))).mono ?_; rintro e w11 ⟨⟨g11, g11', rfl, mid11, _, _, GA11, GL11⟩, hb11⟩)
        | (go_at_call 23; with_reducible refine (HEI'.out _ _ _ _ _ _ _ _ _ _ _ _ _ ((hA10.below (Below.refl _ _).drew).below hb11) GA11 ((hL10.below (Below.refl _ _).drew).below hb11) GL11).mono ?_; rintro e w12 ⟨rfl, hb12⟩))
    all_goals
      have hb1012 : Below w10.heap.size w10 w12 := (keepBL (by assumption))
      have HB12 : Hid (Below w.heap.size w w12) := bel_of HB10.out hb1012
      have HC12 : Hid (Below W0.heap.size W0 w12) := bel_of HC10.out hb1012
      have HD12 : Hid (Below w9.heap.size w9 w12) := bel_of HD10.out hb1012
      clear hb1012
      clear hn1 hn2 GA11 GL11 hb11 hb12 HB10 HC10 HD10 z_ z0 z1 z2 z3 z4 z5 z6 z7 hA10 hL10 q0 q1 q2 q3 hF10 x_ x0 x1 x2 x3 x4 x5 x6 x7 y0 y1 y2 y3 HEI' HTI' hn3 hn4
      obtain ⟨⟨z_, z0, z1, z2, z3, z4, z5, z6, z7⟩, ⟨hA10, hL10⟩, ⟨q0, q1, q2, q3⟩, hF10⟩ := HK9.out w12 HD12.out
      obtain ⟨⟨x_, x0, x1, x2, x3, x4, x5, x6, x7⟩, y0, y1, y2, y3⟩ := HC.out w12 HC12.out
      have hn3 : w8.heap.size < w12.heap.size := World.block_lt_of_cell? _ _ q0
      have hn4 : w.heap.size + 1 < w12.heap.size := World.block_lt_of_cell? _ _ y0
      go_wp2_with fail
      go_region_held3 (fun w' => w'.cell? ⟨w8.heap.size, 0, none⟩ = some (.string M) ∧ w'.cell? ⟨w8.heap.size, 1, none⟩ = some (.string T) ∧ w'.cell? ⟨w8.heap.size, 2, none⟩ = some (.slice (some ⟨g8, 0, none⟩) F.length F.length) ∧ w'.cell? ⟨w8.heap.size, 3, none⟩ = some (.string Bd) ∧ w'.cell? ⟨w.heap.size + 1, 0, none⟩ = some (.string M) ∧ w'.cell? ⟨w.heap.size + 1, 1, none⟩ = some (.string T) ∧ w'.cell? ⟨w.heap.size + 1, 2, none⟩ = some (.slice y F.length cy) ∧ w'.cell? ⟨w.heap.size + 1, 3, none⟩ = some (.string Bd) ∧ Below w12.heap.size w12 w')
        (first
          | exact ⟨q0, q1, q2, q3, y0, y1, y2, y3, (Below.refl _ _).drew⟩
          | assumption
          | exact keepC hn3 hn4 (by assumption) (by assumption))
        (first
          | (go_at_call 21; with_reducible refine (HTR'.out _ (bel_of HB12.out (keepCL (by assumption)))).mono ?_; rintro e w13 ⟨⟨g13, rfl, GF13⟩, hb13⟩)
          | (go_at_call 24; with_reducible refine (HER'.out _ _ _ _ _ _ _ ((hF10.below (Below.refl _ _).drew).below hb13) GF13).mono ?_; rintro e w14 ⟨rfl, hb14⟩))
      all_goals
        have hbe : Below w.heap.size w w14 := bel_of HB12.out (keepCL (by assumption))
        go_wp2_with fail
        go_ret
        exact ⟨rfl, hbe⟩

end Go.Proofs.YtfgcgnhffljiaaaGreatDoor.Mtw

