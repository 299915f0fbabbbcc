/-
  Walks: spec.l9Vary, spec.VaryOf. (tools/laws/gen_vrs.py)
-/
import Derived.Test.YtfgcgnhffljiaaaGreatDoorVrp
import Derived.Test.YtfgcgnhffljiaaaGreatDoorRss
import Derived.Test.YtfgcgnhffljiaaaGreatDoorMrk
import Derived.Laws.AppendOwnNone
import Derived.Deep.QuietTactic
import Derived.BigQuiet
namespace Go.Proofs.YtfgcgnhffljiaaaGreatDoor.Vrp
open Go.RowKit
open Go.Proofs.YtfgcgnhffljiaaaGreatDoor.Fbs
open Go.Proofs.YtfgcgnhffljiaaaGreatDoor.Fch (tokenB l3Token_any)
open Go.Proofs.YtfgcgnhffljiaaaGreatDoor.Fdb (FV)
open Go.Proofs.YtfgcgnhffljiaaaGreatDoor.Fvs
open Go.Proofs.YtfgcgnhffljiaaaGreatDoor.Jnd
open Go.Proofs.YtfgcgnhffljiaaaGreatDoor.Rsb
open Go.Proofs.YtfgcgnhffljiaaaGreatDoor.Ows
open Go.Proofs.YtfgcgnhffljiaaaGreatDoor.Lof (lowS specLow_any)
open Go.Proofs.YtfgcgnhffljiaaaGreatDoor.Lsp (listL Half l3List_any)
open Go.Proofs.YtfgcgnhffljiaaaGreatDoor.Mrk (TV RowT tv_of)

def risV (l : List ByteArray) : List ByteArray := (risT (nmV l)).map txt
/-- What VaryOf answers. -/
def VaryT (w : World) (B : Nat) (e : Ending) : Option (List ByteArray × Bool) → Prop
  | none => e = .returned (.tuple #[.slice none 0 0, .bool false, .bool false])
  | some x => ∃ v, e = .returned (.tuple #[v, .bool x.2, .bool true]) ∧ textsIn w B v x.1

theorem bytesLess_eq : ∀ (x y : List UInt8), Op.bytesLess x y = decide (x < y)
  | [], [] => by simp [Op.bytesLess]
  | _ :: _, [] => by simp [Op.bytesLess]
  | [], _ :: _ => by simp [Op.bytesLess]
  | a :: x, b :: y => by
    rw [Op.bytesLess, bytesLess_eq x y]
    simp only [List.cons_lt_cons_iff]
    by_cases h1 : a < b <;> by_cases h2 : a = b <;> by_cases h3 : x < y <;> simp [h1, h2, h3]
theorem risV_len (l : List ByteArray) : (risV l).length ≤ l.length := by
  unfold risV; rw [List.length_map]; exact Nat.le_trans (ris_len _) (nm_len _)
theorem risV_star {l : List ByteArray} {i : Nat} (h : i < l.length) (hs : starT l[i] = true) : risV (l.take (i + 1)) = risV (l.take i) := by unfold risV; rw [nm_star h hs]
/-- One name more. -/
theorem risV_name {l : List ByteArray} {i : Nat} (h : i < l.length) (hs : starT l[i] = false) (k : Nat) (hk : k ≤ (risV (l.take i)).length)
    (h1 : ∀ j, (hj : j < (risV (l.take i)).length) → j < k → Op.bytesLess (risV (l.take i))[j].toList (lowS l[i]).toList = true)
    (h2 : ∀ hk : k < (risV (l.take i)).length, Op.bytesLess (risV (l.take i))[k].toList (lowS l[i]).toList = false) :
    ((∃ hk : k < (risV (l.take i)).length, ((risV (l.take i))[k].toList == (lowS l[i]).toList) = true) → risV (l.take (i + 1)) = risV (l.take i)) ∧
    ((∀ hk : k < (risV (l.take i)).length, ((risV (l.take i))[k].toList == (lowS l[i]).toList) = false) → risV (l.take (i + 1)) = (risV (l.take i)).take k ++ lowS l[i] :: (risV (l.take i)).drop k) := by
  have hlen : (risV (l.take i)).length = (risT (nmV (l.take i))).length := by unfold risV; rw [List.length_map]
  have hat : ∀ j, (hj : j < (risV (l.take i)).length) → (risV (l.take i))[j].toList = (risT (nmV (l.take i)))[j]'(by omega) := by
    intro j hj
    rw [ByteArray.toList_eq]
    show ((((risT (nmV (l.take i))).map txt)[j]'(by rw [List.length_map]; omega)).data.toList) = _
    rw [List.getElem_map]; rfl
  have hP : (lowS l[i]).toList = (lowS l[i]).data.toList := ByteArray.toList_eq _
  have key := ins_at (lowS l[i]).data.toList (risT (nmV (l.take i))) k (by omega)
    (fun j hj hjk => by have := h1 j (by omega) hjk; rw [bytesLess_eq, hat j (by omega), hP] at this; exact of_decide_eq_true this)
    (fun hk' => by have := h2 (by omega); rw [bytesLess_eq, hat k (by omega), hP] at this; exact of_decide_eq_false this)
  have e : risV (l.take (i + 1)) = (insT (lowS l[i]).data.toList (risT (nmV (l.take i)))).map txt := by unfold risV; rw [nm_name h hs, ris_snoc]
  constructor
  · rintro ⟨hk', he⟩
    rw [hat k hk', hP] at he
    rw [e, key, if_pos ⟨by omega, eq_of_beq he⟩]; rfl
  · intro hno
    rw [e, key, if_neg]
    · unfold risV; rw [List.map_append, List.map_cons, List.map_take, List.map_drop, txt_data]
    · rintro ⟨hk', he⟩
      have := hno (by omega)
      rw [hat k (by omega), hP, he] at this
      simp at this

def SrcT (w : World) (x : Value) (l : List ByteArray) : Prop := (x = .slice none 0 0 ∧ l = []) ∨ ∃ ad c, x = .slice (some ad) l.length c ∧ ∀ j u, (l.map Value.string)[j]? = some u → w.cell? (ad.add j) = some u
theorem text_one' (l : List ByteArray) : ∀ u ∈ l.map Value.string, u.oneCell' = true := by
  intro u hu; obtain ⟨x, _, rfl⟩ := List.mem_map.1 hu; rfl
/-- 'append(v, l...)' of texts, for the walk. -/
theorem wpList_append_srct (wr : World) {ops : Array Oper} {rest : List Oper} {o : Oper} {a : Act} {Q : Exit → Act → World → Prop} (hgd : o.guard = none) (s x : Operand)
    (ho : o.op = .call { callee := .builtin .append, args := #[s, x], argTypes := #[26, 26] })
    (B : Nat) (v : Value) (l : List ByteArray) (hs : a.eval s = v) (hown : textsIn wr B v l) (X : Value) (l1 : List ByteArray) (hx : a.eval x = X) (h1 : SrcT wr X l1)
    (hb : l.length + l1.length ≤ 8000000) (hbase : B ≤ wr.heap.size) (W : World) (hbel : Below B W wr)
    (h : ∀ v' w', textsIn w' B v' (l ++ l1) → Below B W w' → wpList Tryz.prog ops Q rest (a.put o.dst v') w') : wpList Tryz.prog ops Q (o :: rest) a wr := by
  obtain ⟨i0, hi, hz0, hz1, hz2⟩ := info_parts info9
  rcases h1 with ⟨rfl, rfl⟩ | ⟨ad, c, rfl, hc⟩
  · refine wpList_append_own_none hgd s x 26 ho B 9 i0 1 Tryz.underlying26 hi v l.length _ hs hown hx ?_
    exact h v wr (by rw [List.append_nil]; exact hown) hbel
  · refine wpList_append_own _ hgd s x 26 ho B 9 i0 (.string ⟨#[]⟩) 1 16 Tryz.underlying26 hi hz0 hz1 hz2 rfl (by decide) v l.length _ hs hown ad l1.length c (l1.map Value.string) hx (by rw [List.length_map, Nat.mul_one])
      hc (text_one' l1) (by unfold maxLen; omega) (by omega) hbase ?_
    intro v' w' hown' hg' _
    refine h v' w' ?_ (hbel.grown hg' hbase (fun k hk => (World.ownsRow.lt hown k hk).1))
    unfold textsIn
    rw [List.length_append, List.map_append]
    exact hown'
theorem srct_take {w : World} {B g n cap : Nat} {l : List ByteArray} (h : textsIn w B (.slice (some ⟨g, 0, none⟩) n cap) l) (k : Nat) (hk : k ≤ l.length) (c : Nat) : SrcT w (.slice (some ⟨g, 0, none⟩) k c) (l.take k) := by
  refine .inr ⟨⟨g, 0, none⟩, c, by rw [List.length_take, Nat.min_eq_left hk], fun j u hj => World.ownsRow.cells h (g := g) rfl j u ?_⟩
  rw [List.map_take] at hj
  rw [← hj, List.getElem?_take_of_lt]
  have := (List.getElem?_eq_some_iff.1 hj).1
  rw [List.length_take] at this; omega
theorem srct_drop {w : World} {B g n cap : Nat} {l : List ByteArray} (h : textsIn w B (.slice (some ⟨g, 0, none⟩) n cap) l) (k : Nat) (m c : Nat) (hm : m = l.length - k) : SrcT w (.slice (some ⟨g, k, none⟩) m c) (l.drop k) := by
  refine .inr ⟨⟨g, k, none⟩, c, by rw [List.length_drop, hm], fun j u hj => ?_⟩
  rw [List.map_drop, List.getElem?_drop] at hj
  have := World.ownsRow.cells h (g := g) rfl (k + j) u hj
  rw [Addr.add_lit] at this ⊢
  rwa [Nat.zero_add] at this
theorem srct_none {l : List ByteArray} {k : Nat} (w : World) (ad : Addr) (m c : Nat) (hk : l.length ≤ k) (hm : m = l.length - k) : SrcT w (.slice (some ad) m c) (l.drop k) :=
  .inr ⟨ad, c, by rw [List.length_drop, hm], fun j u hj => by rw [List.drop_eq_nil_of_le hk] at hj; simp at hj⟩
theorem texts_nil (w : World) (B : Nat) : textsIn w B (.slice none 0 0) [] := World.ownsRow_nil _ _ _ _
theorem texts_drew {w : World} {B : Nat} {v : Value} {l : List ByteArray} (h : textsIn w B v l) (m : Nat) : textsIn (w.drewN m) B v l := by
  refine ⟨h.1, ?_⟩
  rcases h.2 with hn | ⟨g, cap, cur, rfl, hbg, hg, rest⟩
  · exact .inl hn
  · exact .inr ⟨g, cap, cur, rfl, hbg, hg, rest⟩
theorem texts_base {w : World} {B B' : Nat} {v : Value} {l : List ByteArray} (h : textsIn w B v l) (hb : B' ≤ B) : textsIn w B' v l := by
  refine ⟨h.1, ?_⟩
  rcases h.2 with hn | ⟨g, cap, cur, rfl, hbg, rest⟩
  · exact .inl hn
  · exact .inr ⟨g, cap, cur, rfl, Nat.le_trans hb hbg, rest⟩
theorem texts_form {w : World} {B : Nat} {v : Value} {l : List ByteArray} (h : textsIn w B v l) : (v = .slice none 0 0 ∧ l = []) ∨ ∃ g cap, v = .slice (some ⟨g, 0, none⟩) l.length cap ∧ B ≤ g ∧ g < w.heap.size ∧ l.length ≤ cap ∧ ∀ i, (hi : i < l.length) → w.cell? ⟨g, i, none⟩ = some (.string l[i]) := by
  have hh := h
  rcases h.2 with ⟨rfl, h0⟩ | ⟨g, cap, cur, rfl, hbg, hg, hnc, _⟩
  · exact .inl ⟨rfl, by simpa using h0⟩
  · exact .inr ⟨g, cap, rfl, hbg, (Array.getElem?_eq_some_iff.1 hg).1, hnc, fun i hi => textsIn.at hh i _ (List.getElem?_eq_getElem hi)⟩
theorem bdrewN {R : Nat} {W w : World} (h : Below R W w) (n : Nat) : Below R W (w.drewN n) := ⟨h.os, h.tape, h.output, h.size, h.block⟩
theorem row_at {w : World} {a : Option Addr} {l : List ByteArray} {lo hi i : Nat} (h : TV w a l lo hi) (hi : i < l.length) : ∃ g, a = some ⟨g, 0, none⟩ ∧ g < w.heap.size ∧ w.cell? ⟨g, i, none⟩ = some (.string l[i]) := by
  rcases h with h | ⟨g, h1, _, _, h4⟩
  · subst h; exact absurd hi (by simp)
  · exact ⟨g, h1, h4.1, h4.2.2 i _ (List.getElem?_eq_getElem hi)⟩
theorem varyT_bad {w : World} {B : Nat} {o : Option (List ByteArray)} (h : ∀ l, o = some l → okV l = false) : VaryT w B (.returned (.tuple #[.slice none 0 0, .bool false, .bool false])) (varyP o) := by
  cases o with
  | none => rfl
  | some l => show VaryT _ _ _ (if okV l then _ else _); rw [h l rfl]; rfl
theorem varyT_ok {w : World} {B : Nat} {l : List ByteArray} {v : Value} (h : okV l = true) (hv : textsIn w B v (risV l)) : VaryT w B (.returned (.tuple #[v, .bool (anyV l), .bool true])) (varyP (some l)) := by
  show VaryT _ _ _ (if okV l then _ else _); rw [h]; exact ⟨v, rfl, hv⟩
theorem varyT_base {w : World} {B B' : Nat} {e : Ending} {o : Option (List ByteArray × Bool)} (h : VaryT w B e o) (hb : B' ≤ B) : VaryT w B' e o := by
  cases o with
  | none => exact h
  | some x => obtain ⟨v, h1, h2⟩ := h; exact ⟨v, h1, texts_base h2 hb⟩

set_option maxRecDepth 20000 in
set_option maxHeartbeats 6400000 in
theorem l9Vary_any (A : Int) (R B : ByteArray) (a : Option Addr) (ca : Nat) (fl : List (ByteArray × ByteArray)) (w : World) (lo hi : Nat) (hl : fl.length ≤ 2000000) (hz : SzF fl) (hJ : (joinS (valsOf cVary fl)).size ≤ 2000000) (ha : FV w a fl lo hi) :
    Calls Tryz.prog 39 #[.agg #[.int .i64 A, .string R, .slice a fl.length ca, .string B]] w fun e w' => VaryT w' w.heap.size e (varyL fl) ∧ Below w.heap.size w w' := by
  obtain ⟨W0, hW0⟩ : ∃ W, W = w.alloc (.cells #[.int .i64 A, .string R, .slice a fl.length ca, .string B] 31) := ⟨_, rfl⟩
  have hb0 : Below w.heap.size w W0 := by rw [hW0]; exact (Below.refl _ _).alloc (Nat.le_refl _) _
  have x2 : W0.cell? ⟨w.heap.size, 2, none⟩ = some (.slice a fl.length ca) := by rw [hW0]; rw [World.cell?_alloc_mark]; rfl
  have HJ : Hid (Calls Tryz.prog 76 #[.slice a fl.length ca, .string ⟨#[118, 97, 114, 121]⟩] W0 fun e w' => e = .returned (.tuple #[.string (joinS (valsOf cVary fl)), .bool (decide (0 < (valsOf cVary fl).length))]) ∧ Below W0.heap.size W0 w') := l3Joined_any a ca fl cVary W0 lo hi hl (by decide) hz (ha.below hb0)
  have HB0 : Hid (Below w.heap.size w W0) := hb0
  unfold varyL
  generalize decide (0 < (valsOf cVary fl).length) = t at HJ
  generalize joinS (valsOf cVary fl) = J at *
  have HL : Hid (∀ wx, Calls Tryz.prog 77 #[.string J] wx fun e w' => (∃ v ok, e = .returned (.tuple #[v, .bool ok]) ∧ Half w' wx.heap.size v ok (listL J)) ∧ Below wx.heap.size wx w') := fun wx => l3List_any J wx (by omega)
  have hsz : ∀ l, listL J = some l → l.length ≤ 2000001 ∧ ∀ x ∈ l, x.size ≤ 2000000 := fun l h => ⟨by have := (list_sz h).1; omega, fun x hx => by have := (list_sz h).2 x hx; omega⟩
  have HZ : Hid (∀ l, listL J = some l → l.length ≤ 2000001 ∧ ∀ x ∈ l, x.size ≤ 2000000) := hsz
  generalize listL J = o at HL HZ ⊢
  clear ha hz hl hJ hb0 hsz
  go_enter Tryz.func39, Tryz.ntmps39
  go_wp2_with fail
  rw [← hW0]
  clear hW0
  refine Calls.mono HJ.out ?_
  rintro e w1 ⟨rfl, hb1⟩
  have HB1 : Hid (Below w.heap.size w w1) := HB0.out.trans (hb1.mono HB0.out.size)
  clear hb1 HB0 HJ x2
  go_wp2_with fail
  refine (HL.out _).mono ?_
  rintro e wz ⟨⟨pv, ok, rfl, hhalf⟩, hb2⟩
  have HB2 : Hid (Below w.heap.size w wz) := HB1.out.trans (hb2.mono HB1.out.size)
  have hno : o = none → ok = false := fun h => by rw [h] at hhalf; exact hhalf
  have hso : ∀ l, o = some l → ok = true ∧ textsIn wz w1.heap.size pv l := fun l h => by rw [h] at hhalf; exact hhalf
  clear hhalf
  cases o with
  | none =>
    obtain rfl : ok = false := hno rfl
    clear hno hso hb2 HB1 HL HZ
    go_wp2_with fail
    exact bodyPost_ret (v := .tuple #[.slice none 0 0, .bool false, .bool false]) (by simp [results, Tryz.results39, go_sem]) rfl ⟨varyT_bad (fun l h => by cases h), HB2.out⟩
  | some l =>
    obtain ⟨rfl, hv⟩ : ok = true ∧ textsIn wz w1.heap.size pv l := hso l rfl
    obtain ⟨aP, cP, rfl, hTV⟩ := tv_of hv
    obtain ⟨hl1, hl2⟩ := HZ.out l rfl
    have HP2 : Hid (TV wz aP l w1.heap.size wz.heap.size) := hTV
    have HPz : Hid (∀ x ∈ l, x.size ≤ 2000000) := hl2
    clear hv hTV hb2 HB1 HL HZ hl2 hno hso
    go_wp2_with fail
    go_loopw [9, 10, 30] (fun st sv c wr => ∃ i : Nat, i ≤ l.length ∧ c = .int .i64 i ∧ Hid (st = .bool (anyV (l.take i))) ∧ Hid (textsIn wr w.heap.size sv (risV (l.take i)) ∧ (risV (l.take i) = [] → sv = .slice none 0 0)) ∧ Hid (Below wz.heap.size wz wr ∧ Below w.heap.size w wr) ∧ Hid (∀ j, (hj : j < l.length) → j < i → tokenB l[j].data.toList = true)) (fun _ _ c _ => l.length - (intOf c).toNat)
    case atStart => exact ⟨0, by omega, rfl, rfl, ⟨texts_nil _ _, fun _ => rfl⟩, ⟨Below.refl _ _, HB2.out⟩, fun j _ h => absurd h (by omega)⟩
    case round =>
      obtain ⟨i, hi, rfl, HSt, HS, HB, HTk⟩ := hrel
      obtain ⟨W1, hW1⟩ : ∃ W1, W1 = wr := ⟨_, rfl⟩
      subst hW1
      by_cases hlt : i < l.length
      · obtain ⟨gp, rfl, hgl, hc⟩ := row_at (HP2.out.below HB.out.1) hlt
        have hxz := HPz.out _ (List.getElem_mem hlt)
        have HTok : Hid (∀ wx, Calls Tryz.prog 78 #[.string l[i]] wx fun e w' => e = .returned (.bool (tokenB l[i].data.toList)) ∧ w' = wx) := fun wx => l3Token_any l[i] wx (by omega)
        have HLow : Hid (∀ wx, Calls Tryz.prog 79 #[.string l[i]] wx fun e w' => e = .returned (.string (lowS l[i])) ∧ Below wx.heap.size wx w') := fun wx => specLow_any l[i] wx (by omega)
        have hstep := any_step hlt
        have hrs := @risV_star l i hlt
        have hrn := @risV_name l i hlt
        have hbad := @ok_no l i hlt
        have htk' : tokenB l[i].data.toList = true → ∀ j, (hj : j < l.length) → j < i + 1 → tokenB l[j].data.toList = true := by
          intro h j hj hji
          by_cases e : j = i
          · subst e; exact h
          · exact HTk.out j hj (by omega)
        have hstt := @star_tok l[i]
        have hri := risV_len (l.take i)
        rw [List.length_take] at hri
        cases hst : starT l[i]
        rotate_left
        · have hsx : (l[i].toList == [42]) = true := hst
          have HS' : Hid (textsIn W1 w.heap.size u10 (risV (l.take (i + 1))) ∧ (risV (l.take (i + 1)) = [] → u10 = .slice none 0 0)) := by show _ ∧ _; rw [hrs hst]; exact HS.out
          have HAn : Hid (Value.bool true = .bool (anyV (l.take (i + 1)))) := by show _ = _; rw [hstep, hst, Bool.or_true]
          have HTk' : Hid (∀ j, (hj : j < l.length) → j < i + 1 → tokenB l[j].data.toList = true) := htk' (hstt hst)
          clear HS HSt HTk HTok HLow hstep hrs hrn hbad htk' hstt hst hri
          generalize l[i] = X at hc hsx hxz
          go_wp2_with fail
          go_roundw
          case rel => exact ⟨i + 1, by omega, by go_num, HAn, HS', HB, HTk'⟩
          case measure => simp [intOf]; omega
        · have hsx : (l[i].toList == [42]) = false := hst
          have HAn : Hid (u9 = .bool (anyV (l.take (i + 1)))) := by show _ = _; rw [hstep, hst, Bool.or_false]; exact HSt.out
          cases htk : tokenB l[i].data.toList
          · have HK : Hid (∀ l', some l = some l' → okV l' = false) := fun l' e => by cases e; exact hbad htk
            rw [htk] at HTok
            clear HS HSt HTk HLow hstep hrs hrn hbad htk' hstt hst hri HAn htk
            generalize l[i] = X at hc hsx hxz HTok
            go_wp2_with (go_at_call 78; refine (HTok.out _).mono ?_; rintro e w' ⟨rfl, hw⟩; obtain rfl := hw.symm)
            exact bodyPost_ret (v := .tuple #[.slice none 0 0, .bool false, .bool false]) (by simp [results, Tryz.results39, go_sem]) rfl ⟨varyT_bad HK.out, HB.out.2⟩
          · have HTk' : Hid (∀ j, (hj : j < l.length) → j < i + 1 → tokenB l[j].data.toList = true) := htk' htk
            have HN : Hid (∀ k, k ≤ (risV (l.take i)).length → (∀ j, (hj : j < (risV (l.take i)).length) → j < k → Op.bytesLess (risV (l.take i))[j].toList (lowS l[i]).toList = true) → (∀ hk : k < (risV (l.take i)).length, Op.bytesLess (risV (l.take i))[k].toList (lowS l[i]).toList = false) → ((∃ hk : k < (risV (l.take i)).length, ((risV (l.take i))[k].toList == (lowS l[i]).toList) = true) → risV (l.take (i + 1)) = risV (l.take i)) ∧ ((∀ hk : k < (risV (l.take i)).length, ((risV (l.take i))[k].toList == (lowS l[i]).toList) = false) → risV (l.take (i + 1)) = (risV (l.take i)).take k ++ lowS l[i] :: (risV (l.take i)).drop k)) := fun k => hrn hst k
            rw [htk] at HTok
            clear HSt HTk hstep hrs hrn hbad htk' hstt hst htk
            generalize hQ : lowS l[i] = P at HN HLow
            clear hQ
            generalize hX : l[i] = X at hc hsx hxz HTok HLow
            clear hX
            obtain ⟨S, hSe⟩ : ∃ S, S = risV (l.take i) := ⟨_, rfl⟩
            rw [← hSe] at HS HN hri
            clear hSe
            have hl12 : S.length ≤ 2000001 := by omega
            clear hri
            have HBs : Hid (∀ w1, Below W1.heap.size W1 w1 → textsIn w1 w.heap.size u10 S ∧ Below w.heap.size w w1 ∧ Below wz.heap.size wz w1) := fun w1 h => ⟨HS.out.1.below h, HB.out.2.trans (h.mono HB.out.2.size), HB.out.1.trans (h.mono HB.out.1.size)⟩
            have HZ1 : Hid (S = [] → u10 = .slice none 0 0) := HS.out.2
            clear HS HB
            go_wp2_with (first
              | (go_at_call 78; refine (HTok.out _).mono ?_; rintro e w' ⟨rfl, hw⟩; obtain rfl := hw.symm)
              | (go_at_call 79; refine (HLow.out _).mono ?_; rintro e w1 ⟨rfl, hb1⟩; obtain ⟨hS1, hB1, hC1⟩ := HBs.out w1 hb1; have HS1 : Hid (textsIn w1 w.heap.size u10 S) := hS1; have HB1 : Hid (Below w.heap.size w w1) := hB1; have HC1 : Hid (Below wz.heap.size wz w1) := hC1; clear hb1 HBs HTok hc hsx hS1 hB1 hC1))
            rcases texts_form HS1.out with ⟨hu, hS0⟩ | ⟨gs, cap, hu, hgs, hgl1, hcap, hcells⟩
            · subst hu
              have H0 : Hid (S = []) := hS0
              have HE0 : Hid (risV (l.take (i + 1)) = S.take 0 ++ P :: S.drop 0) := (HN.out 0 (Nat.zero_le _) (fun j _ h => absurd h (by omega)) (fun hk => by rw [hS0] at hk; exact absurd hk (by simp))).2 (fun hk => by rw [hS0] at hk; exact absurd hk (by simp))
              clear hS0
              go_loopw [13] (fun kv wx => kv = .int .i64 0 ∧ wx = w1) (fun _ _ => 0)
              case atStart => exact ⟨rfl, rfl⟩
              case round =>
                obtain ⟨rfl, hwe⟩ := hrel
                obtain rfl := hwe.symm
                obtain ⟨wx, hwx⟩ : ∃ wx, wx = w1 := ⟨_, rfl⟩
                have HSx : Hid (textsIn wx w.heap.size (.slice none 0 0) S) := by show textsIn _ _ _ _; rw [hwx]; exact HS1.out
                have HBx : Hid (Below w.heap.size w wx) := by show Below _ _ _; rw [hwx]; exact HB1.out
                have HCx : Hid (Below wz.heap.size wz wx) := by show Below _ _ _; rw [hwx]; exact HC1.out
                have HE : Hid (risV (l.take (i + 1)) = S.take 0 ++ P :: S.drop 0) := by show _ = _; exact HE0.out
                rw [← hwx]
                try rw [← hwx] at c0
                clear hwx HN HS1 HB1 HC1
                go_wp2_with (at_builtin; refine wpList_append_srct wx rfl _ _ rfl wx.heap.size _ [] (by rfl) (texts_nil _ _) _ (S.take 0) (by rfl) (.inl ⟨rfl, by rw [H0.out]; rfl⟩) (by rw [List.length_nil, List.length_take]; omega) (Nat.le_refl _) wx (Below.refl _ _) ?_)
                intro v2 w2 hown2 hb2
                try rw [List.nil_append] at hown2
                have Hb2 : Hid (Below wx.heap.size wx w2) := hb2
                have hz2 := hb2.size
                clear hb2
                go_wp2_with (at_builtin; refine wpList_append_text w2 rfl _ _ rfl wx.heap.size _ (S.take 0) (by rfl) hown2 P _ rfl (by rw [List.length_take]; omega) hz2 wx.heap.size (Nat.le_refl _) w2 (Below.refl _ _) ?_)
                intro v3 w3 hown3 hb3
                have Hb3 : Hid (Below wx.heap.size wx w3) := Hb2.out.trans hb3
                have hz3 := Hb3.out.size
                clear hb3 hown2 Hb2 hz2
                go_wp2_with (at_builtin; refine wpList_append_srct w3 rfl _ _ rfl wx.heap.size _ (S.take 0 ++ [P]) (by rfl) hown3 _ (S.drop 0) (by rfl) (.inl ⟨rfl, by rw [H0.out]; rfl⟩) (by rw [List.length_append, List.length_take, List.length_drop]; simp; omega) hz3 w3 (Below.refl _ _) ?_)
                all_goals
                  intro v4 w4 hown4 hb4
                  have HS4 : Hid (textsIn w4 w.heap.size v4 (risV (l.take (i + 1))) ∧ (risV (l.take (i + 1)) = [] → v4 = .slice none 0 0)) := by
                    have hown5 : textsIn w4 wx.heap.size v4 (S.take 0 ++ P :: S.drop 0) := by first | exact hown4 | simpa using hown4
                    unfold Hid
                    rw [HE.out]
                    exact ⟨texts_base hown5 HBx.out.size, fun h => absurd h (by simp)⟩
                  have HB4 : Hid (Below wz.heap.size wz w4 ∧ Below w.heap.size w w4) := ⟨HCx.out.trans ((Hb3.out.trans hb4).mono HCx.out.size), HBx.out.trans ((Hb3.out.trans hb4).mono HBx.out.size)⟩
                  clear hb4 hown4 hown3 Hb3 HSx HBx HCx HE hz3
                  go_wp2_with fail
                  go_roundw
                  case rel => exact ⟨i + 1, by omega, by go_num, HAn, HS4, HB4, HTk'⟩
                  case measure => simp [intOf]; omega
            · subst hu
              have hcs : Hid (∀ i, (hi : i < S.length) → w1.cell? ⟨gs, i, none⟩ = some (.string S[i])) := hcells
              have hS0 : 0 < S.length := by
                rcases Nat.eq_zero_or_pos S.length with h | h
                · have := HZ1.out (List.length_eq_zero_iff.1 h); cases this
                · exact h
              have hcz : ¬ cap = 0 := by omega
              clear hcells hS0
              go_loopw [13] (fun kv wx => ∃ k : Nat, kv = .int .i64 k ∧ k ≤ S.length ∧ wx = w1 ∧ Hid (∀ j, (hj : j < S.length) → j < k → Op.bytesLess S[j].toList P.toList = true)) (fun kv _ => S.length - (intOf kv).toNat)
              case atStart => exact ⟨0, rfl, by omega, rfl, fun j _ h => absurd h (by omega)⟩
              case round =>
                obtain ⟨k, rfl, hk, hwe, HA⟩ := hrel
                obtain rfl := hwe.symm
                by_cases hkl : k < S.length
                · have c0 := hcs.out k hkl
                  cases hle : Op.bytesLess S[k].toList P.toList
                  rotate_left
                  · have HA' : Hid (∀ j, (hj : j < S.length) → j < k + 1 → Op.bytesLess S[j].toList P.toList = true) := by
                      intro j hj h
                      by_cases e : j = k
                      · subst e; exact hle
                      · exact HA.out j hj (by omega)
                    clear HA HN
                    go_wp2_with fail
                    go_roundw
                    case rel => exact ⟨k + 1, by go_num, by omega, by first | trivial | rfl, HA'⟩
                    case measure => simp [intOf]; omega
                  · have hd1 : decide ((k : Int) < (S.length : Int)) = true := decide_eq_true (by omega)
                    cases heq : (S[k].toList == P.toList)
                    rotate_left
                    · have HR : Hid (risV (l.take (i + 1)) = S) := (HN.out k hk HA.out (fun _ => hle)).1 ⟨hkl, heq⟩
                      clear HA HN
                      have HS4 : Hid (textsIn w1 w.heap.size (.slice (some ⟨gs, 0, none⟩) S.length cap) (risV (l.take (i + 1))) ∧ (risV (l.take (i + 1)) = [] → Value.slice (some ⟨gs, 0, none⟩) S.length cap = .slice none 0 0)) := by show _ ∧ _; rw [HR.out]; exact ⟨HS1.out, HZ1.out⟩
                      have HB4 : Hid (Below wz.heap.size wz w1 ∧ Below w.heap.size w w1) := ⟨HC1.out, HB1.out⟩
                      clear HR HS1 HB1 HC1
                      go_wp2_with fail
                      go_roundw
                      case rel => exact ⟨i + 1, by omega, by go_num, HAn, HS4, HB4, HTk'⟩
                      case measure => simp [intOf]; omega
                    · have HI : Hid (risV (l.take (i + 1)) = S.take k ++ P :: S.drop k) := (HN.out k hk HA.out (fun _ => hle)).2 (fun _ => heq)
                      clear HA
                      obtain ⟨wx, hwx⟩ : ∃ wx, wx = w1 := ⟨_, rfl⟩
                      have HSx : Hid (textsIn wx w.heap.size (.slice (some ⟨gs, 0, none⟩) S.length cap) S) := by show textsIn _ _ _ _; rw [hwx]; exact HS1.out
                      have HBx : Hid (Below w.heap.size w wx) := by show Below _ _ _; rw [hwx]; exact HB1.out
                      have HCx : Hid (Below wz.heap.size wz wx) := by show Below _ _ _; rw [hwx]; exact HC1.out
                      have HE : Hid (risV (l.take (i + 1)) = S.take k ++ P :: S.drop k) := by show _ = _; exact HI.out
                      rw [← hwx]
                      try rw [← hwx] at c0
                      clear hwx HN HS1 HB1 HC1
                      go_wp2_with (at_builtin; refine wpList_append_srct wx rfl _ _ rfl wx.heap.size _ [] (by rfl) (texts_nil _ _) _ (S.take k) (by rfl) (srct_take HSx.out k hk _) (by rw [List.length_nil, List.length_take]; omega) (Nat.le_refl _) wx (Below.refl _ _) ?_)
                      intro v2 w2 hown2 hb2
                      try rw [List.nil_append] at hown2
                      have Hb2 : Hid (Below wx.heap.size wx w2) := hb2
                      have hz2 := hb2.size
                      clear hb2
                      go_wp2_with (at_builtin; refine wpList_append_text w2 rfl _ _ rfl wx.heap.size _ (S.take k) (by rfl) hown2 P _ rfl (by rw [List.length_take]; omega) hz2 wx.heap.size (Nat.le_refl _) w2 (Below.refl _ _) ?_)
                      intro v3 w3 hown3 hb3
                      have Hb3 : Hid (Below wx.heap.size wx w3) := Hb2.out.trans hb3
                      have hz3 := Hb3.out.size
                      clear hb3 hown2 Hb2 hz2
                      go_wp2_with (at_builtin; refine wpList_append_srct w3 rfl _ _ rfl wx.heap.size _ (S.take k ++ [P]) (by rfl) hown3 _ (S.drop k) (by rfl) (srct_drop (HSx.out.below (Hb3.out.mono (Nat.le_refl _))) k _ _ (by omega)) (by rw [List.length_append, List.length_take, List.length_drop]; simp; omega) hz3 w3 (Below.refl _ _) ?_)
                      all_goals
                        intro v4 w4 hown4 hb4
                        have HS4 : Hid (textsIn w4 w.heap.size v4 (risV (l.take (i + 1))) ∧ (risV (l.take (i + 1)) = [] → v4 = .slice none 0 0)) := by
                          have hown5 : textsIn w4 wx.heap.size v4 (S.take k ++ P :: S.drop k) := by first | exact hown4 | simpa using hown4
                          unfold Hid
                          rw [HE.out]
                          exact ⟨texts_base hown5 HBx.out.size, fun h => absurd h (by simp)⟩
                        have HB4 : Hid (Below wz.heap.size wz w4 ∧ Below w.heap.size w w4) := ⟨HCx.out.trans ((Hb3.out.trans hb4).mono HCx.out.size), HBx.out.trans ((Hb3.out.trans hb4).mono HBx.out.size)⟩
                        clear hb4 hown4 hown3 Hb3 HSx HBx HCx HE hz3
                        go_wp2_with fail
                        go_roundw
                        case rel => exact ⟨i + 1, by omega, by go_num, HAn, HS4, HB4, HTk'⟩
                        case measure => simp [intOf]; omega
                · have hdec : decide ((k : Int) < (S.length : Int)) = false := decide_eq_false (by omega)
                  have HI : Hid (risV (l.take (i + 1)) = S.take k ++ P :: S.drop k) := (HN.out k hk HA.out (fun h => absurd h hkl)).2 (fun h => absurd h hkl)
                  clear HA
                  by_cases hck : cap = k
                  · subst hck
                    obtain ⟨wx, hwx⟩ : ∃ wx, wx = w1 := ⟨_, rfl⟩
                    have HSx : Hid (textsIn wx w.heap.size (.slice (some ⟨gs, 0, none⟩) S.length cap) S) := by show textsIn _ _ _ _; rw [hwx]; exact HS1.out
                    have HBx : Hid (Below w.heap.size w wx) := by show Below _ _ _; rw [hwx]; exact HB1.out
                    have HCx : Hid (Below wz.heap.size wz wx) := by show Below _ _ _; rw [hwx]; exact HC1.out
                    have HE : Hid (risV (l.take (i + 1)) = S.take cap ++ P :: S.drop cap) := by show _ = _; exact HI.out
                    rw [← hwx]
                    try rw [← hwx] at c0
                    clear hwx HN HS1 HB1 HC1
                    go_wp2_with (at_builtin; refine wpList_append_srct wx rfl _ _ rfl wx.heap.size _ [] (by rfl) (texts_nil _ _) _ (S.take cap) (by rfl) (srct_take HSx.out cap hk _) (by rw [List.length_nil, List.length_take]; omega) (Nat.le_refl _) wx (Below.refl _ _) ?_)
                    intro v2 w2 hown2 hb2
                    try rw [List.nil_append] at hown2
                    have Hb2 : Hid (Below wx.heap.size wx w2) := hb2
                    have hz2 := hb2.size
                    clear hb2
                    go_wp2_with (at_builtin; refine wpList_append_text w2 rfl _ _ rfl wx.heap.size _ (S.take cap) (by rfl) hown2 P _ rfl (by rw [List.length_take]; omega) hz2 wx.heap.size (Nat.le_refl _) w2 (Below.refl _ _) ?_)
                    intro v3 w3 hown3 hb3
                    have Hb3 : Hid (Below wx.heap.size wx w3) := Hb2.out.trans hb3
                    have hz3 := Hb3.out.size
                    clear hb3 hown2 Hb2 hz2
                    go_wp2_with (at_builtin; refine wpList_append_srct w3 rfl _ _ rfl wx.heap.size _ (S.take cap ++ [P]) (by rfl) hown3 _ (S.drop cap) (by rfl) (srct_none _ _ _ _ (by omega) (by omega)) (by rw [List.length_append, List.length_take, List.length_drop]; simp; omega) hz3 w3 (Below.refl _ _) ?_)
                    all_goals
                      intro v4 w4 hown4 hb4
                      have HS4 : Hid (textsIn w4 w.heap.size v4 (risV (l.take (i + 1))) ∧ (risV (l.take (i + 1)) = [] → v4 = .slice none 0 0)) := by
                        have hown5 : textsIn w4 wx.heap.size v4 (S.take cap ++ P :: S.drop cap) := by first | exact hown4 | simpa using hown4
                        unfold Hid
                        rw [HE.out]
                        exact ⟨texts_base hown5 HBx.out.size, fun h => absurd h (by simp)⟩
                      have HB4 : Hid (Below wz.heap.size wz w4 ∧ Below w.heap.size w w4) := ⟨HCx.out.trans ((Hb3.out.trans hb4).mono HCx.out.size), HBx.out.trans ((Hb3.out.trans hb4).mono HBx.out.size)⟩
                      clear hb4 hown4 hown3 Hb3 HSx HBx HCx HE hz3
                      go_wp2_with fail
                      go_roundw
                      case rel => exact ⟨i + 1, by omega, by go_num, HAn, HS4, HB4, HTk'⟩
                      case measure => simp [intOf]; omega
                  · have hcn : k < cap := by omega
                    obtain ⟨wx, hwx⟩ : ∃ wx, wx = w1 := ⟨_, rfl⟩
                    have HSx : Hid (textsIn wx w.heap.size (.slice (some ⟨gs, 0, none⟩) S.length cap) S) := by show textsIn _ _ _ _; rw [hwx]; exact HS1.out
                    have HBx : Hid (Below w.heap.size w wx) := by show Below _ _ _; rw [hwx]; exact HB1.out
                    have HCx : Hid (Below wz.heap.size wz wx) := by show Below _ _ _; rw [hwx]; exact HC1.out
                    have HE : Hid (risV (l.take (i + 1)) = S.take k ++ P :: S.drop k) := by show _ = _; exact HI.out
                    rw [← hwx]
                    try rw [← hwx] at c0
                    clear hwx HN HS1 HB1 HC1
                    go_wp2_with (at_builtin; refine wpList_append_srct wx rfl _ _ rfl wx.heap.size _ [] (by rfl) (texts_nil _ _) _ (S.take k) (by rfl) (srct_take HSx.out k hk _) (by rw [List.length_nil, List.length_take]; omega) (Nat.le_refl _) wx (Below.refl _ _) ?_)
                    intro v2 w2 hown2 hb2
                    try rw [List.nil_append] at hown2
                    have Hb2 : Hid (Below wx.heap.size wx w2) := hb2
                    have hz2 := hb2.size
                    clear hb2
                    go_wp2_with (at_builtin; refine wpList_append_text w2 rfl _ _ rfl wx.heap.size _ (S.take k) (by rfl) hown2 P _ rfl (by rw [List.length_take]; omega) hz2 wx.heap.size (Nat.le_refl _) w2 (Below.refl _ _) ?_)
                    intro v3 w3 hown3 hb3
                    have Hb3 : Hid (Below wx.heap.size wx w3) := Hb2.out.trans hb3
                    have hz3 := Hb3.out.size
                    clear hb3 hown2 Hb2 hz2
                    go_wp2_with (at_builtin; refine wpList_append_srct w3 rfl _ _ rfl wx.heap.size _ (S.take k ++ [P]) (by rfl) hown3 _ (S.drop k) (by rfl) (srct_drop (HSx.out.below (Hb3.out.mono (Nat.le_refl _))) k _ _ (by omega)) (by rw [List.length_append, List.length_take, List.length_drop]; simp; omega) hz3 w3 (Below.refl _ _) ?_)
                    all_goals
                      intro v4 w4 hown4 hb4
                      have HS4 : Hid (textsIn w4 w.heap.size v4 (risV (l.take (i + 1))) ∧ (risV (l.take (i + 1)) = [] → v4 = .slice none 0 0)) := by
                        have hown5 : textsIn w4 wx.heap.size v4 (S.take k ++ P :: S.drop k) := by first | exact hown4 | simpa using hown4
                        unfold Hid
                        rw [HE.out]
                        exact ⟨texts_base hown5 HBx.out.size, fun h => absurd h (by simp)⟩
                      have HB4 : Hid (Below wz.heap.size wz w4 ∧ Below w.heap.size w w4) := ⟨HCx.out.trans ((Hb3.out.trans hb4).mono HCx.out.size), HBx.out.trans ((Hb3.out.trans hb4).mono HBx.out.size)⟩
                      clear hb4 hown4 hown3 Hb3 HSx HBx HCx HE hz3
                      go_wp2_with fail
                      go_roundw
                      case rel => exact ⟨i + 1, by omega, by go_num, HAn, HS4, HB4, HTk'⟩
                      case measure => simp [intOf]; omega
      · obtain rfl : i = l.length := by omega
        rw [List.take_length] at HS HSt
        have HK : Hid (okV l = true) := ok_yes (fun j hj => HTk.out j hj hj)
        have hst := HSt.out
        subst hst
        go_wp2_with fail
        exact bodyPost_ret (v := .tuple #[u10, .bool (anyV l), .bool true]) (by simp [results, Tryz.results39, go_sem]) rfl ⟨varyT_ok HK.out HS.out.1, HB.out.2⟩

def varyO (S : Int) (R : ByteArray) (l : List (ByteArray × ByteArray)) (B : ByteArray) : Option (List ByteArray × Bool) := if rsB S R l B = true then varyL l else none
theorem good_resp {S : Int} {R B : ByteArray} {l : List (ByteArray × ByteArray)} (h : rsB S R l B = true) : goodL l = true := by
  unfold rsB at h
  simp only [Bool.and_eq_true] at h
  exact h.2.2.1

set_option maxHeartbeats 1600000 in
theorem specVary_any (S : Int) (R B : ByteArray) (a : Option Addr) (ca : Nat) (l : List (ByteArray × ByteArray)) (w : World) (lo hi : Nat) (hR : R.size ≤ 2000000) (hl : l.length ≤ 2000000) (hz : SzF l) (ha : FV w a l lo hi) :
    Calls Tryz.prog 9 #[.agg #[.int .i64 S, .string R, .slice a l.length ca, .string B]] w fun e w' => VaryT w' w.heap.size e (varyO S R l B) ∧ Below w.heap.size w w' := by
  obtain ⟨W0, hW0⟩ : ∃ W, W = w.alloc (.cells #[.int .i64 S, .string R, .slice a l.length ca, .string B] 31) := ⟨_, rfl⟩
  have hb0 : Below w.heap.size w W0 := by rw [hW0]; exact (Below.refl _ _).alloc (Nat.le_refl _) _
  have HX0 : Hid (BoxP W0 w.heap.size S R a l.length ca B) := by show BoxP _ _ _ _ _ _ _ _; rw [hW0]; exact BoxP.made w S R a l.length ca B _
  have HG : Hid (Calls Tryz.prog 38 #[.agg #[.int .i64 S, .string R, .slice a l.length ca, .string B]] W0 fun e w' => e = .returned (.bool (rsB S R l B)) ∧ Below W0.heap.size W0 w') := specGoodP_any S R B a ca l W0 lo hi hR hl hz (ha.below hb0)
  have HV : Hid (rsB S R l B = true → ∀ wx, Below w.heap.size w wx → Calls Tryz.prog 39 #[.agg #[.int .i64 S, .string R, .slice a l.length ca, .string B]] wx fun e w' => VaryT w' wx.heap.size e (varyO S R l B) ∧ Below wx.heap.size wx w') := fun hg wx hb => by
    have e : varyO S R l B = varyL l := by unfold varyO; rw [if_pos hg]
    rw [e]
    exact l9Vary_any S R B a ca l wx lo hi hl hz (Nat.le_trans (join_low (good_resp hg) cVary) (by decide)) (ha.below hb)
  have HN : Hid (rsB S R l B = false → varyO S R l B = none) := fun h => by unfold varyO; rw [if_neg (by rw [h]; decide)]
  have HB0 : Hid (Below w.heap.size w W0) := hb0
  generalize varyO S R l B = o at *
  generalize rsB S R l B = r at *
  clear ha hb0
  go_enter Tryz.func9, Tryz.ntmps9
  go_wp2_with fail
  rw [← hW0]
  clear hW0
  refine Calls.mono HG.out ?_
  rintro e w1 ⟨rfl, hb1⟩
  have HX1 : Hid (BoxP w1 w.heap.size S R a l.length ca B) := HX0.out.below hb1
  have HB1 : Hid (Below w.heap.size w w1) := HB0.out.trans (hb1.mono HB0.out.size)
  obtain ⟨x0, x1, x2, x3⟩ := HX1.out
  clear hb1 HX0 HB0 HG
  cases r
  · have HN' : Hid (o = none) := HN.out rfl
    clear HV HN
    go_wp2_with fail
    exact bodyPost_ret (v := .tuple #[.slice none 0 0, .bool false, .bool false]) (by simp [results, Tryz.results9, go_sem]) rfl ⟨by rw [HN'.out]; rfl, HB1.out⟩
  · have HV' : Hid _ := HV.out rfl
    clear HV HN
    go_wp2_with fail
    refine Calls.mono (HV'.out w1 HB1.out) ?_
    rintro e w3 ⟨hV, hb3⟩
    have HB3 : Hid (Below w.heap.size w w3) := HB1.out.trans (hb3.mono HB1.out.size)
    have HV3 : Hid (VaryT w3 w.heap.size e o) := varyT_base hV HB1.out.size
    clear hV hb3 HV' HB1
    cases o with
    | none =>
      obtain rfl : e = .returned (.tuple #[.slice none 0 0, .bool false, .bool false]) := HV3.out
      go_wp2_with fail
      exact bodyPost_ret (v := .tuple #[.slice none 0 0, .bool false, .bool false]) (by simp [results, Tryz.results9, go_sem]) rfl ⟨rfl, HB3.out⟩
    | some x =>
      obtain ⟨v, rfl, ht⟩ : ∃ v, e = .returned (.tuple #[v, .bool x.2, .bool true]) ∧ textsIn w3 w.heap.size v x.1 := HV3.out
      have HT : Hid (textsIn w3 w.heap.size v x.1) := ht
      clear ht HV3
      go_wp2_with fail
      exact bodyPost_ret (v := .tuple #[v, .bool x.2, .bool true]) (by simp [results, Tryz.results9, go_sem]) rfl ⟨⟨v, rfl, HT.out⟩, HB3.out⟩

end Go.Proofs.YtfgcgnhffljiaaaGreatDoor.Vrp
