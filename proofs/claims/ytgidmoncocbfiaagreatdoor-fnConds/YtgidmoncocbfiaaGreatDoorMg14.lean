/-
  Walks: spec.l3Is, l3Values, ValuesOf.
  Walks: dates of fields by name: impl.secondsTold, spec.l7Date.
  Walks: JoinedOf of both programs.
-/
import Derived.Test.YtgidmoncocbfiaaGreatDoorMg9
import Derived.Test.YtgidmoncocbfiaaGreatDoorMg1
import Derived.Test.YtgidmoncocbfiaaGreatDoorMg13
import Derived.Test.YtgidmoncocbfiaaGreatDoorMg10
import Derived.Test.YtgidmoncocbfiaaGreatDoorMg2
import Derived.Test.YtgidmoncocbfiaaGreatDoorShelf
namespace Go.Proofs.YtgidmoncocbfiaaGreatDoor.Fvs
open Go.RowKit
open Go.Proofs.YtgidmoncocbfiaaGreatDoor.Fbs
open Go.Proofs.YtgidmoncocbfiaaGreatDoor.Fch
open Go.Proofs.YtgidmoncocbfiaaGreatDoor.Ows
open Go.Proofs.YtgidmoncocbfiaaGreatDoor.Lof (lowB lowS specLow_any implLow_any lowS_size)
open Go.Proofs.YtgidmoncocbfiaaGreatDoor.Kls (text_cmp)
open Go.Proofs.YtgidmoncocbfiaaGreatDoor.Fdb

theorem tbase {w : World} {B B' : Nat} {v : Value} {l : List ByteArray} (h : textsIn w B v l) (hB : B' ≤ B) : textsIn w B' v l := by
  refine ⟨h.1, ?_⟩
  rcases h.2 with hn | ⟨g, cap, cur, rfl, hbg, rest⟩
  · exact .inl hn
  · exact .inr ⟨g, cap, cur, rfl, Nat.le_trans hB hbg, rest⟩

set_option maxHeartbeats 800000 in
theorem l3Is_any (X V n : ByteArray) (w : World) (hX : X.size ≤ 2000000) (hn : n.size ≤ 2000000) :
    Calls Tryz.prog 69 #[.agg #[.string X, .string V], .string n] w fun e w' => e = .returned (.bool (isN n (X, V))) ∧ Below w.heap.size w w' := by
  have H1 : Hid _ := fun w => specLow_any X w hX
  have H2 : Hid _ := fun w => specLow_any n w hn
  have hc : ((lowS X).toList == (lowS n).toList) = isN n (X, V) := text_cmp _ _
  generalize lowS X = x at H1 hc
  generalize lowS n = y at H2 hc
  generalize isN n (X, V) = b at hc ⊢
  have hbox : Below w.heap.size w (w.alloc (.cells #[.string X, .string V] 35)) := (Below.refl _ _).alloc (Nat.le_refl _) _
  go_enter Tryz.func69, Tryz.ntmps69
  go_wp2_with fail
  refine (H1.out _).mono ?_
  rintro e w1 ⟨rfl, hb1⟩
  have hb01 := hbox.trans (hb1.mono (by simp))
  go_wp2_with fail
  refine (H2.out _).mono ?_
  rintro e w2 ⟨rfl, hb2⟩
  have hb02 := hb01.trans (hb2.mono hb01.size)
  go_wp2_with fail
  go_ret
  exact ⟨rfl, hb02⟩

set_option maxHeartbeats 800000 in
theorem l3Values_any (a : Option Addr) (ca : Nat) (l : List (ByteArray × ByteArray)) (n : ByteArray) (w : World) (lo hi : Nat) (hl : l.length ≤ 2000000) (hn : n.size ≤ 2000000) (hz : SzF l) (ha : FV w a l lo hi) :
    Calls Tryz.prog 34 #[.slice a l.length ca, .string n] w fun e w' => (∃ v, e = .returned v ∧ textsIn w' w.heap.size v (valsOf n l)) ∧ Below w.heap.size w w' := by
  by_cases h0 : l = []
  · subst h0
    go_enter Tryz.func34, Tryz.ntmps34
    go_wp2_with fail
    go_loop [5, 10] (fun v i => v = .slice none 0 0 ∧ i = .int .i64 0) (fun _ _ => 0)
    case atStart => exact ⟨rfl, rfl⟩
    case round =>
      obtain ⟨rfl, rfl⟩ := hrel
      go_wp2_with fail
      go_ret
      exact ⟨⟨_, rfl, World.ownsRow_nil _ _ _ _⟩, Below.refl _ _⟩
  rcases ha with ha | ⟨g, rfl, _, _, ga⟩
  · exact absurd ha h0
  have GA : Hid (RowF w g l) := ga
  clear ga
  go_enter Tryz.func34, Tryz.ntmps34
  go_wp2_with fail
  go_loopw [5, 10] (fun v i wr => ∃ k : Nat, k ≤ l.length ∧ i = .int .i64 k ∧ Below w.heap.size w wr ∧ textsIn wr w.heap.size v (valsOf n (l.take k))) (fun _ i _ => l.length - (intOf i).toNat)
  case atStart => exact ⟨0, by omega, rfl, Below.refl _ _, World.ownsRow_nil _ _ _ _⟩
  case round =>
    obtain ⟨k, hk, rfl, hbel, hown⟩ := hrel
    by_cases hlt : k < l.length
    · obtain ⟨k1, k2⟩ := (GA.out.below hbel).2.2 k l[k] (List.getElem?_eq_getElem hlt)
      obtain ⟨hs1, hs2⟩ := hz l[k] (List.getElem_mem hlt)
      have htk : l.take (k + 1) = l.take k ++ [l[k]] := List.take_succ_eq_append_getElem hlt
      have hlen : (valsOf n (l.take k)).length ≤ k := Nat.le_trans (valsOf_len n _) (by rw [List.length_take]; omega)
      have HI := fun w => l3Is_any l[k].1 l[k].2 n w hs1 hn
      clear hs1 hs2
      have hB := hbel.size
      cases hi : isN n l[k]
      · have HI1 : Hid (∀ w, Calls Tryz.prog 69 #[.agg #[.string l[k].1, .string l[k].2], .string n] w fun e w' => e = .returned (.bool false) ∧ Below w.heap.size w w') := by
          intro w; have := HI w; rwa [show (l[k].1, l[k].2) = l[k] from rfl, hi] at this
        have HV : Hid (valsOf n (l.take (k + 1)) = valsOf n (l.take k)) := by show _ = _; rw [htk, valsOf_no hi]
        clear HI hi htk
        generalize valsOf n (l.take k) = acc at *
        go_wp2_with fail
        refine (HI1.out _).mono ?_
        rintro e w2 ⟨rfl, hb2⟩
        have hbx := hbel.alloc hB (.cells #[.string l[k].1, .string l[k].2] 35)
        have hbel2 := hbx.trans (hb2.mono hbx.size)
        have hown2 := (hown.alloc (.cells #[.string l[k].1, .string l[k].2] 35)).below hb2
        clear hown hbx hb2 hbel k1 k2
        go_wp2_with fail
        go_roundw
        case rel => exact ⟨k + 1, by omega, by go_num, hbel2, by rw [HV.out]; exact hown2⟩
        case measure => simp [intOf]; omega
      · have HI1 : Hid (∀ w, Calls Tryz.prog 69 #[.agg #[.string l[k].1, .string l[k].2], .string n] w fun e w' => e = .returned (.bool true) ∧ Below w.heap.size w w') := by
          intro w; have := HI w; rwa [show (l[k].1, l[k].2) = l[k] from rfl, hi] at this
        have HV : Hid (valsOf n (l.take (k + 1)) = valsOf n (l.take k) ++ [l[k].2]) := by show _ = _; rw [htk, valsOf_yes hi]
        clear HI hi htk
        generalize valsOf n (l.take k) = acc at *
        go_wp2_with fail
        refine (HI1.out _).mono ?_
        rintro e w2 ⟨rfl, hb2⟩
        have hbx := hbel.alloc hB (.cells #[.string l[k].1, .string l[k].2] 35)
        have hbel2 := hbx.trans (hb2.mono hbx.size)
        have hown2 := (hown.alloc (.cells #[.string l[k].1, .string l[k].2] 35)).below hb2
        have hc2 : w2.cell? ⟨wr.heap.size, 1, none⟩ = some (.string l[k].2) := (hb2.cell (p := ⟨wr.heap.size, 1, none⟩) (by simp)).trans (by simp [go_sem])
        have hB2 := hbel2.size
        clear hown hbx hb2 hbel k1 k2
        go_wp2_with (at_builtin; refine wpList_append_text w2 rfl _ _ rfl w.heap.size _ acc (by rfl) hown2 _ _ rfl ?q3 hB2 w.heap.size (Nat.le_refl _) w hbel2 ?_)
        case q3 => omega
        intro v' w3 hown3 hbel3
        clear hown2 hbel2 hB2 hc2
        go_wp2_with fail
        go_roundw
        case rel => exact ⟨k + 1, by omega, by go_num, hbel3, by rw [HV.out]; exact hown3⟩
        case measure => simp [intOf]; omega
    · obtain rfl : k = l.length := by omega
      rw [List.take_length] at hown
      go_wp2_with fail
      go_ret
      exact ⟨⟨_, rfl, hown⟩, hbel⟩

end Go.Proofs.YtgidmoncocbfiaaGreatDoor.Fvs

namespace Go.Proofs.YtgidmoncocbfiaaGreatDoor.Cda
open Go.RowKit
open Go.Proofs.YtgidmoncocbfiaaGreatDoor.Dua
open Go.Proofs.YtgidmoncocbfiaaGreatDoor.Num
open Go.Proofs.YtgidmoncocbfiaaGreatDoor.Nam
open Go.Proofs.YtgidmoncocbfiaaGreatDoor.Dmt
open Go.Proofs.YtgidmoncocbfiaaGreatDoor.Dwa
open Go.Proofs.YtgidmoncocbfiaaGreatDoor.Fvs
open Go.Proofs.YtgidmoncocbfiaaGreatDoor.Fdb (FV)
open Go.Proofs.YtgidmoncocbfiaaGreatDoor.Ows
open Go.Proofs.YtgidmoncocbfiaaGreatDoor.Mrk (TV tv_of)

/-- The only value of a name, as a date. -/
noncomputable def dateP (l : List (ByteArray × ByteArray)) (n : ByteArray) : Option Int := match valsOf n l with
  | [v] => dvO v
  | _ => none
theorem dateP_one {l : List (ByteArray × ByteArray)} {n v : ByteArray} (h : valsOf n l = [v]) : dateP l n = dvO v := by unfold dateP; rw [h]
theorem dateP_not {l : List (ByteArray × ByteArray)} {n : ByteArray} (h : (valsOf n l).length ≠ 1) : dateP l n = none := by
  unfold dateP
  split
  · rename_i v hv; rw [hv] at h; exact absurd rfl h
  · rfl
theorem vals_mem {l : List (ByteArray × ByteArray)} {n v : ByteArray} (h : v ∈ valsOf n l) : ∃ c ∈ l, c.2 = v := by
  unfold valsOf at h
  rw [List.mem_map] at h
  obtain ⟨c, hc, rfl⟩ := h
  exact ⟨c, (List.mem_filter.1 hc).1, rfl⟩

set_option maxRecDepth 20000 in
set_option maxHeartbeats 1600000 in
theorem secondsTold_any (a : Option Addr) (ca : Nat) (l : List (ByteArray × ByteArray)) (n : ByteArray) (now mx : Int) (w : World) (lo hi : Nat) (hW : DW mx w) (hg : goodL l = true) (ht : Fch.tokenB n.data.toList = true) (hd : ∀ c ∈ l, ∃ o, DV c.2 o) (hn : n.size ≤ 2000000) (hz : SzF l) (hca : l.length ≤ ca) (ha : FV w a l lo hi) (hnow : 0 ≤ now ∧ now ≤ 253402300799) :
    Calls Tryz.prog 56 #[.slice a l.length ca, .string n, .int .i64 now] w fun e w' => e = .returned (.tuple #[.int .i64 ((dateP l n).getD 0), .bool (dateP l n).isSome]) ∧ Below w.heap.size w w' := by
  have HV : Hid (Calls Tryz.prog 32 #[.slice a l.length ca, .string n] w fun e w' => (∃ v, e = .returned (.tuple #[v, .bool true]) ∧ textsIn w' w.heap.size v (valsOf n l)) ∧ Below w.heap.size w w') := by
    refine (Vof.implVals_any a ca l n w lo hi hW.1 hn hz hca ha).mono ?_
    rintro e w' ⟨hto, hb⟩
    rw [valO, if_pos ⟨hg, ht⟩] at hto
    exact ⟨hto, hb⟩
  have HD : Hid (∀ wx, Below w.heap.size w wx → DW mx wx) := fun wx hb => hW.below hb
  have hmem : ∀ v ∈ valsOf n l, ∃ o, DV v o := fun v hv => by
    obtain ⟨c, hc, rfl⟩ := vals_mem hv
    exact hd c hc
  obtain ⟨q, hq⟩ : ∃ q, q = valsOf n l := ⟨_, rfl⟩
  rw [← hq] at HV hmem
  by_cases h1 : q.length = 1
  · obtain ⟨v, rfl⟩ : ∃ v, q = [v] := by
      match q, h1 with
      | [x], _ => exact ⟨x, rfl⟩
    rw [dateP_one hq.symm]
    have HR : Hid (∀ wx, Below w.heap.size w wx → Calls Tryz.prog 68 #[.string v, .int .i64 now] wx fun e w' => e = .returned (.tuple #[.int .i64 ((dvO v).getD 0), .bool (dvO v).isSome]) ∧ Below wx.heap.size wx w') := fun wx hb => readSeconds_any v now mx wx (HD.out wx hb) (hmem v (by simp)) hnow
    clear hq h1 hmem hd hg ht ha hW
    generalize (dvO v).getD 0 = r at HR ⊢
    generalize (dvO v).isSome = b at HR ⊢
    go_enter Tryz.func56, Tryz.ntmps56
    go_wp2_with fail
    with_reducible refine Calls.mono HV.out ?_
    rintro e w2 ⟨⟨u, rfl, hown⟩, hb2⟩
    obtain ⟨aP, cP, rfl, hTV⟩ := tv_of hown
    obtain ⟨g, rfl, hgl, hc⟩ := Tgx.one_part hTV
    have HB2 : Hid (Below w.heap.size w w2) := hb2
    clear hown hTV hb2
    go_wp2_with fail
    with_reducible refine Calls.mono (HR.out _ HB2.out) ?_
    rintro e w3 ⟨rfl, hb3⟩
    go_wp2_with fail
    go_ret2
    exact ⟨rfl, HB2.out.trans (hb3.mono HB2.out.size)⟩
  · rw [dateP_not (by rw [← hq]; exact h1)]
    have hd1 : ((q.length : Int) != 1) = true := by simp; omega
    clear hq h1 hmem hd hg ht ha hW HD
    go_enter Tryz.func56, Tryz.ntmps56
    go_wp2_with fail
    with_reducible refine Calls.mono HV.out ?_
    rintro e w2 ⟨⟨u, rfl, hown⟩, hb2⟩
    obtain ⟨aP, cP, rfl, hTV⟩ := tv_of hown
    have HB2 : Hid (Below w.heap.size w w2) := hb2
    clear hown hTV hb2
    go_wp2_with fail
    go_ret2
    exact ⟨rfl, HB2.out⟩

set_option maxRecDepth 20000 in
set_option maxHeartbeats 1600000 in
theorem l7Date_any (a : Option Addr) (ca : Nat) (l : List (ByteArray × ByteArray)) (n : ByteArray) (now : Int) (w : World) (lo hi : Nat) (hl : l.length ≤ 2000000) (hd : ∀ c ∈ l, ∃ o, DV c.2 o) (hn : n.size ≤ 2000000) (hz : SzF l) (ha : FV w a l lo hi) (hnow : 0 ≤ now ∧ now ≤ 253402300799) :
    Calls Tryz.prog 37 #[.slice a l.length ca, .string n, .int .i64 now] w fun e w' => e = .returned (.tuple #[.int .i64 ((dateP l n).getD 0), .bool (dateP l n).isSome]) ∧ Below w.heap.size w w' := by
  have HV : Hid (Calls Tryz.prog 34 #[.slice a l.length ca, .string n] w fun e w' => (∃ v, e = .returned v ∧ textsIn w' w.heap.size v (valsOf n l)) ∧ Below w.heap.size w w') := Fvs.l3Values_any a ca l n w lo hi hl hn hz ha
  have hmem : ∀ v ∈ valsOf n l, ∃ o, DV v o := fun v hv => by
    obtain ⟨c, hc, rfl⟩ := vals_mem hv
    exact hd c hc
  obtain ⟨q, hq⟩ : ∃ q, q = valsOf n l := ⟨_, rfl⟩
  rw [← hq] at HV hmem
  by_cases h1 : q.length = 1
  rotate_left
  · rw [dateP_not (by rw [← hq]; exact h1)]
    have hd1 : ((q.length : Int) != 1) = true := by simp; omega
    clear hq h1 hmem hd ha
    go_enter Tryz.func37, Tryz.ntmps37
    go_wp2_with fail
    with_reducible refine Calls.mono HV.out ?_
    rintro e w2 ⟨⟨u, rfl, hown⟩, hb2⟩
    obtain ⟨aP, cP, rfl, hTV⟩ := tv_of hown
    have HB2 : Hid (Below w.heap.size w w2) := hb2
    clear hown hTV hb2
    go_wp2_with fail
    go_ret2
    exact ⟨rfl, HB2.out⟩
  obtain ⟨v, rfl⟩ : ∃ v, q = [v] := by
    match q, h1 with
    | [x], _ => exact ⟨x, rfl⟩
  rw [dateP_one hq.symm]
  rcases dv_is (hmem v (by simp)) with ⟨⟨s1, s2⟩, ho⟩ | ⟨k, y, d, h, i, s, m, hgd, hk, hvv, ho⟩
  · rw [ho]
    have HR : Hid (∀ wx, Calls Tryz.prog 70 #[.string v, .int .i64 now] wx fun e w' => e = .returned (.tuple #[.agg #[.int .i64 0, .int .i64 0, .int .i64 0, .int .i64 0, .int .i64 0, .int .i64 0], .bool false]) ∧ Below wx.heap.size wx w') := fun wx => specRead_short v now wx s1 s2
    clear hq h1 hmem hd ha ho
    go_enter Tryz.func37, Tryz.ntmps37
    go_wp2_with fail
    with_reducible refine Calls.mono HV.out ?_
    rintro e w2 ⟨⟨u, rfl, hown⟩, hb2⟩
    obtain ⟨aP, cP, rfl, hTV⟩ := tv_of hown
    obtain ⟨g, rfl, hgl, hc⟩ := Tgx.one_part hTV
    have HB2 : Hid (Below w.heap.size w w2) := hb2
    clear hown hTV hb2
    go_wp2_with fail
    with_reducible refine Calls.mono (HR.out _) ?_
    rintro e w3 ⟨rfl, hb3⟩
    have hB3 : Below w.heap.size w w3 := HB2.out.trans (hb3.mono HB2.out.size)
    have HB3 : Hid (Below w.heap.size w (w3.alloc (.cells #[.int .i64 0, .int .i64 0, .int .i64 0, .int .i64 0, .int .i64 0, .int .i64 0] 93))) := hB3.alloc hB3.size _
    clear hB3 hb3
    go_wp2_with fail
    go_ret2
    exact ⟨rfl, HB3.out⟩
  · rw [ho]
    have hr := fun wx => specRead_usual k y d h i s m now wx hgd hk hnow
    rw [← hvv] at hr
    have HR : Hid (∀ wx, Calls Tryz.prog 70 #[.string v, .int .i64 now] wx fun e w' => e = .returned (.tuple #[.agg #[.int .i64 y, .int .i64 m, .int .i64 d, .int .i64 h, .int .i64 i, .int .i64 s], .bool true]) ∧ Below wx.heap.size wx w') := hr
    have HS : Hid (∀ wx, Calls Tryz.prog 71 #[.agg #[.int .i64 y, .int .i64 m, .int .i64 d, .int .i64 h, .int .i64 i, .int .i64 s]] wx fun e w' => e = .returned (.int .i64 (secI y m d h i s)) ∧ Below wx.heap.size wx w') := fun wx => specSec_any y m d h i s wx hgd
    generalize secI y m d h i s = S at HS ⊢
    clear hr hvv hgd hk ho hq h1 hmem hd ha
    go_enter Tryz.func37, Tryz.ntmps37
    go_wp2_with fail
    with_reducible refine Calls.mono HV.out ?_
    rintro e w2 ⟨⟨u, rfl, hown⟩, hb2⟩
    obtain ⟨aP, cP, rfl, hTV⟩ := tv_of hown
    obtain ⟨g, rfl, hgl, hc⟩ := Tgx.one_part hTV
    have HB2 : Hid (Below w.heap.size w w2) := hb2
    clear hown hTV hb2
    go_wp2_with fail
    with_reducible refine Calls.mono (HR.out _) ?_
    rintro e w3 ⟨rfl, hb3⟩
    have hB3 : Below w.heap.size w w3 := HB2.out.trans (hb3.mono HB2.out.size)
    have HB3 : Hid (Below w.heap.size w (w3.alloc (.cells #[.int .i64 y, .int .i64 m, .int .i64 d, .int .i64 h, .int .i64 i, .int .i64 s] 93))) := hB3.alloc hB3.size _
    clear hB3 hb3
    go_wp2_with fail
    with_reducible refine Calls.mono (HS.out _) ?_
    rintro e w4 ⟨rfl, hb4⟩
    go_wp2_with fail
    go_ret2
    exact ⟨rfl, HB3.out.trans (hb4.mono HB3.out.size)⟩

end Go.Proofs.YtgidmoncocbfiaaGreatDoor.Cda

namespace Go.Proofs.YtgidmoncocbfiaaGreatDoor.Jnd
open Go.RowKit
open Go.Proofs.YtgidmoncocbfiaaGreatDoor.Fbs
open Go.Proofs.YtgidmoncocbfiaaGreatDoor.Fch
open Go.Proofs.YtgidmoncocbfiaaGreatDoor.Ows
open Go.Proofs.YtgidmoncocbfiaaGreatDoor.Fdb
open Go.Proofs.YtgidmoncocbfiaaGreatDoor.Fvs
open Go.Proofs.YtgidmoncocbfiaaGreatDoor.Fpl
open Go.Proofs.YtgidmoncocbfiaaGreatDoor.Mrk (TV RowT lst told_tv tv_of)

def joinS (l : List ByteArray) : ByteArray := ⟨(Lib.join (l.map (·.data.toList)) [44, 32]).toArray⟩
theorem join_step (xs : List (List UInt8)) (sep : List UInt8) (k : Nat) (y : List UInt8) (h : xs[k]? = some y) : Lib.join (xs.take (k + 1)) sep = if k = 0 then y else Lib.join (xs.take k) sep ++ sep ++ y := by
  cases xs with
  | nil => simp at h
  | cons x r =>
    cases k with
    | zero =>
      have : x = y := by simpa using h
      subst this
      rw [if_pos rfl]
      exact Lib.join_one _ _
    | succ k =>
      rw [if_neg (by omega), List.take_succ_cons, List.take_succ_cons, Lib.join_cons, Lib.join_cons, Lib.joinTail_take_succ sep r k y (by simpa using h)]
      simp [List.append_assoc]
theorem joinS_nil : joinS [] = ⟨#[]⟩ := rfl
theorem joinS_first {l : List ByteArray} (h : 0 < l.length) : joinS (l.take 1) = l[0] := by
  unfold joinS
  rw [List.map_take, join_step _ _ 0 l[0].data.toList (by rw [List.getElem?_map, List.getElem?_eq_getElem h]; rfl), if_pos rfl]
theorem joinS_more {l : List ByteArray} {k : Nat} (h : k < l.length) (h0 : 0 < k) : joinS (l.take (k + 1)) = joinS (l.take k) ++ ⟨#[44, 32]⟩ ++ l[k] := by
  unfold joinS
  rw [List.map_take, join_step _ _ k l[k].data.toList (by rw [List.getElem?_map, List.getElem?_eq_getElem h]; rfl), if_neg (by omega), List.map_take]
  apply ByteArray.ext
  simp
/-- What JoinedOf answers. -/
def jnO (l : List (ByteArray × ByteArray)) (n : ByteArray) : ByteArray × Bool :=
  match valO l n with
  | none => (⟨#[]⟩, false)
  | some vs => (joinS vs, decide (0 < vs.length))
theorem vals_size {n : ByteArray} {l : List (ByteArray × ByteArray)} (hz : SzF l) : ∀ x ∈ valsOf n l, x.size ≤ 2000000 := by
  intro x hx
  unfold valsOf at hx
  obtain ⟨c, hc, rfl⟩ := List.mem_map.1 hx
  exact (hz c (List.mem_filter.1 hc).1).2
theorem ret_join {A B : ByteArray} {p q : Bool} (h : A = B) (h2 : p = q) : Ending.returned (.tuple #[.string A, .bool p]) = .returned (.tuple #[.string B, .bool q]) := by rw [h, h2]

set_option maxHeartbeats 800000 in
theorem l3Joined_any (a : Option Addr) (ca : Nat) (l : List (ByteArray × ByteArray)) (n : ByteArray) (w : World) (lo hi : Nat) (hl : l.length ≤ 2000000) (hn : n.size ≤ 2000000) (hz : SzF l) (ha : FV w a l lo hi) :
    Calls Tryz.prog 60 #[.slice a l.length ca, .string n] w fun e w' => e = .returned (.tuple #[.string (joinS (valsOf n l)), .bool (decide (0 < (valsOf n l).length))]) ∧ Below w.heap.size w w' := by
  have HV := l3Values_any a ca l n w lo hi hl hn hz ha
  have hlen : (valsOf n l).length ≤ 2000000 := Nat.le_trans (valsOf_len n l) hl
  have hsz := vals_size (n := n) hz
  generalize valsOf n l = vs at HV hlen hsz ⊢
  have HV1 : Hid _ := HV
  clear HV
  go_enter Tryz.func60, Tryz.ntmps60
  go_wp2_with fail
  refine (Calls.mono HV1.out ?_)
  rintro e w1 ⟨⟨v, rfl, hown⟩, hb1⟩
  obtain ⟨a1, c1, rfl, T1⟩ := tv_of hown
  clear hown
  by_cases h0 : vs = []
  · subst h0
    go_wp2_with fail
    go_loop [6, 15] (fun o i => o = .string ⟨#[]⟩ ∧ i = .int .i64 0) (fun _ _ => 0)
    case atStart => exact ⟨rfl, rfl⟩
    case round =>
      obtain ⟨rfl, rfl⟩ := hrel
      go_wp2_with fail
      go_ret2
      exact ⟨rfl, hb1⟩
  rcases T1 with T1 | ⟨g, rfl, _, _, ga⟩
  · exact absurd T1 h0
  have GA : Hid (RowT w1 g vs) := ga
  clear ga
  go_wp2_with fail
  go_loopw [6, 15] (fun o i wr => ∃ (k : Nat) (B : ByteArray), k ≤ vs.length ∧ i = .int .i64 k ∧ o = .string B ∧ B.size ≤ k * 2000002 ∧ Below w1.heap.size w1 wr ∧ Hid (B = joinS (vs.take k))) (fun _ i _ => vs.length - (intOf i).toNat)
  case atStart => exact ⟨0, ⟨#[]⟩, by omega, rfl, rfl, Nat.le_refl _, Below.refl _ _, rfl⟩
  case round =>
    obtain ⟨k, B, hk, rfl, rfl, hB, hbel, HB⟩ := hrel
    by_cases hlt : k < vs.length
    · have hc := (GA.out.below hbel).2.2 k vs[k] (List.getElem?_eq_getElem hlt)
      have hs := hsz vs[k] (List.getElem_mem hlt)
      by_cases hk0 : k = 0
      · subst hk0
        have HB0 : B = ⟨#[]⟩ := HB.out
        subst HB0
        have HB' : Hid ((⟨#[]⟩ : ByteArray) ++ vs[0] = joinS (vs.take 1)) := by
          show _ = _
          rw [joinS_first hlt]; apply ByteArray.ext; simp
        have hs1 : ¬ 9223372036854775807 < (⟨#[]⟩ : ByteArray).size + vs[0].size := by show ¬ _ < 0 + _; omega
        have hs2 : ((⟨#[]⟩ : ByteArray) ++ vs[0]).size ≤ 1 * 2000002 := by rw [ByteArray.size_append]; show 0 + _ ≤ _; omega
        go_wp2_with fail
        go_roundw
        case rel => exact ⟨1, _, by omega, by go_num, rfl, hs2, hbel, HB'⟩
        case measure => simp [intOf]; omega
      · have hd : decide (0 < (k : Int)) = true := decide_eq_true (by omega)
        have HB' : Hid (B ++ ⟨#[44, 32]⟩ ++ vs[k] = joinS (vs.take (k + 1))) := by
          show _ = _
          rw [joinS_more hlt (by omega), ← HB.out]
        have e2 : (⟨#[44, 32]⟩ : ByteArray).size = 2 := rfl
        have hs0 : ¬ 9223372036854775807 < B.size + (⟨#[44, 32]⟩ : ByteArray).size := by rw [e2]; omega
        have hs1 : ¬ 9223372036854775807 < (B ++ ⟨#[44, 32]⟩ : ByteArray).size + vs[k].size := by rw [ByteArray.size_append, e2]; omega
        have hs2 : (B ++ ⟨#[44, 32]⟩ ++ vs[k] : ByteArray).size ≤ (k + 1) * 2000002 := by rw [ByteArray.size_append, ByteArray.size_append, e2]; omega
        clear HB
        go_wp2_with fail
        go_roundw
        case rel => exact ⟨k + 1, _, by omega, by go_num, rfl, hs2, hbel, HB'⟩
        case measure => simp [intOf]; omega
    · obtain rfl : k = vs.length := by omega
      have HB' : Hid (B = joinS vs) := by
        show _ = _
        rw [HB.out, List.take_length]
      clear HB
      have hp : 0 < vs.length := List.length_pos_iff.2 h0
      have hb2 := hb1.trans (hbel.mono hb1.size)
      go_wp2_with fail
      go_ret2
      exact ⟨ret_join HB'.out (by simp [hp]), hb2⟩

theorem lens_le : ∀ (vs : List ByteArray), (∀ x ∈ vs, x.size ≤ 2000000) → Lib.lens (vs.map (·.data.toList)) ≤ vs.length * 2000000
  | [], _ => by simp [Lib.lens]
  | x :: r, h => by
    have h1 := lens_le r (fun y hy => h y (by simp [hy]))
    have h2 := h x (by simp)
    have h3 := len_list x
    simp only [Lib.lens, List.map_cons, List.sum_cons, List.length_cons] at h1 ⊢
    omega
theorem join_len (vs : List ByteArray) (h : vs.length ≤ 1000) (hs : ∀ x ∈ vs, x.size ≤ 2000000) : (Lib.join (vs.map (·.data.toList)) (⟨#[44, 32]⟩ : ByteArray).data.toList).length ≤ 140737488355328 := by
  cases vs with
  | nil => simp [Lib.join_nil]
  | cons x r =>
    rw [List.map_cons, Lib.join_cons, List.length_append, Lib.joinTail_length]
    have h1 := lens_le r (fun y hy => hs y (by simp [hy]))
    have h2 := hs x (by simp)
    have h3 := len_list x
    rw [List.length_cons] at h
    rw [List.length_map]
    show _ + (2 * _ + _) ≤ _
    omega

set_option maxHeartbeats 800000 in
theorem implJoined_any (a : Option Addr) (ca : Nat) (l : List (ByteArray × ByteArray)) (n : ByteArray) (w : World) (lo hi : Nat) (hT : Tab w) (hn : n.size ≤ 2000000) (hz : SzF l) (hca : l.length ≤ ca) (ha : FV w a l lo hi) :
    Calls Tryz.prog 54 #[.slice a l.length ca, .string n] w fun e w' => e = .returned (.tuple #[.string (jnO l n).1, .bool (jnO l n).2]) ∧ Below w.heap.size w w' := by
  have HI := Vof.implVals_any a ca l n w lo hi hT hn hz hca ha
  have hlen : ∀ vs, valO l n = some vs → vs.length ≤ 40 ∧ ∀ x ∈ vs, x.size ≤ 2000000 := by
    intro vs h
    unfold valO at h
    split at h
    · rename_i hh
      cases h
      exact ⟨Nat.le_trans (valsOf_len n l) (goodL_all hh.1).1, vals_size hz⟩
    · cases h
  unfold jnO
  generalize valO l n = o at HI hlen ⊢
  have HN := fun (a : Option Addr) (c : Nat) => Tryz.strings_Join_none a c ⟨#[44, 32]⟩
  cases o with
  | none =>
    have HI1 : Hid _ := HI
    have HN1 : Hid _ := HN
    clear HI HN
    go_enter Tryz.func54, Tryz.ntmps54
    go_wp2_with fail
    refine (Calls.mono HI1.out ?_)
    rintro e w1 ⟨rfl, hb1⟩
    go_wp2_with fail
    refine (HN1.out _ _ _).mono ?_
    rintro e w2 ⟨rfl, hw⟩
    obtain rfl := hw.symm
    go_wp2_with fail
    go_ret2
    exact ⟨rfl, hb1⟩
  | some vs =>
    obtain ⟨h40, hsz⟩ := hlen vs rfl
    have HI1 : Hid _ := HI
    have HN1 : Hid _ := HN
    clear HI HN hlen
    by_cases h0 : vs = []
    · subst h0
      go_enter Tryz.func54, Tryz.ntmps54
      go_wp2_with fail
      refine (Calls.mono HI1.out ?_)
      rintro e w1 ⟨⟨v, rfl, hown⟩, hb1⟩
      obtain ⟨a1, c1, rfl, _⟩ := tv_of hown
      go_wp2_with fail
      refine (HN1.out _ _ _).mono ?_
      rintro e w2 ⟨rfl, hw⟩
      obtain rfl := hw.symm
      go_wp2_with fail
      go_ret2
      exact ⟨rfl, hb1⟩
    · go_enter Tryz.func54, Tryz.ntmps54
      go_wp2_with fail
      refine (Calls.mono HI1.out ?_)
      rintro e w1 ⟨⟨v, rfl, hown⟩, hb1⟩
      obtain ⟨a1, c1, rfl, hlc, _, hne⟩ := textsIn.form hown
      obtain ⟨g, rfl, _, hg⟩ := hne h0
      have hat := fun j x h => textsIn.at hown j x h
      have HJ : Hid _ := Tryz.strings_Join g 0 c1 vs ⟨#[44, 32]⟩ w1 (fun j x h => by rw [Nat.zero_add]; exact hat j x h) hg (by omega) hlc (join_len vs (by omega) hsz)
      go_wp2_with fail
      refine (Calls.mono HJ.out ?_)
      rintro e w2 ⟨rfl, hb2⟩
      have hb12 := hb1.trans (hb2.mono hb1.size)
      have hp : 0 < vs.length := List.length_pos_iff.2 h0
      go_wp2_with fail
      go_ret2
      exact ⟨ret_join rfl (by simp [hp]), hb12⟩

end Go.Proofs.YtgidmoncocbfiaaGreatDoor.Jnd

