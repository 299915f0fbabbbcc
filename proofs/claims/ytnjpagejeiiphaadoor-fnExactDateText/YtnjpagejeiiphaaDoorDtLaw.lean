/-
  The law FnExactDateText: at every date impl.DateText answers as spec.DateText. Condition: the tables of months, days and of digits read as the text lays them (tied by the card).
-/
import Derived.Test.YtnjpagejeiiphaaDoorCards
import Derived.Test.YtnjpagejeiiphaaDoorTie
import Derived.Test.YtnjpagejeiiphaaDoorDtx
import Derived.Test.YtnjpagejeiiphaaDoorLst
import Derived.Test.YtnjpagejeiiphaaDoorOpd
import Derived.WalkKit
import Derived.ProofKit
import Derived.OpenShut
import Derived.ShutString
import Derived.OpenVars
import Derived.Stop.LaidErr
import Derived.Deep.DeepHandedRow
import Derived.Lib.LaidTab
namespace Go.Proofs.YtnjpagejeiiphaaDoor.DtLaw
open Go.ChangeShapes Go.WideShapes Go.ChangeAt Go.RowKit
open Go.ChangeMaps (open_string shut_string)
open Go.Proofs.YtnjpagejeiiphaaDoor.Dmt
open Go.Proofs.YtnjpagejeiiphaaDoor.Dwa
open Go.Proofs.YtnjpagejeiiphaaDoor.Nam

theorem own : ownKnob Tryd.prog.godebug = none := by kernel_rfl
theorem laidOut : laidOutB Tryd.prog = true := by kernel_rfl
theorem vars3 {H : Type} {enc : TypeId × Value → H} {P : Program} {w : World} {spare : Nat → Bool} {n0 n1 n2 : String} {gs : List (DataW H)} {ps : List MemPlace} (h : DataW.TrodVars enc P w spare [n0, n1, n2] gs ps) : ∃ x1 x2 x3, gs = [x1, x2, x3] := by
  cases gs with
  | nil => simp [DataW.TrodVars] at h
  | cons d ds =>
    obtain ⟨g0, t0, cs0, f0, p0, q0, h1, h2, h3, h4, hs, e⟩ := h
    obtain ⟨g0, t0, cs0, f0, d0, p0, g1, t1, cs1, f1, d1, p1, rfl, _⟩ := trodVars_two hs
    exact ⟨_, _, _, rfl⟩
def tab32 : List Int := [0, 1, 28, 2, 29, 14, 24, 3, 30, 22, 20, 15, 25, 17, 4, 8, 31, 27, 13, 23, 21, 19, 16, 7, 26, 12, 18, 6, 11, 5, 10, 9]
def tab64 : List Int := [0, 1, 56, 2, 57, 49, 28, 3, 61, 58, 42, 50, 38, 29, 17, 4, 62, 47, 59, 36, 45, 43, 51, 22, 53, 39, 33, 30, 24, 18, 12, 5, 63, 55, 48, 27, 60, 41, 37, 16, 46, 35, 44, 21, 52, 32, 23, 11, 54, 26, 40, 15, 34, 20, 31, 10, 25, 14, 19, 9, 13, 8, 7, 6]
open Go.Proofs.YtnjpagejeiiphaaDoor.Num (tab_below tab_lt tab_alloc)
def tabDays : Array Value := (Nam.dnames.map fun z => Value.string z).toArray
def tabMonths : Array Value := (Nam.mbytes.map fun z => Value.int .u8 z).toArray
def mrows : List (List Int) := [[74, 97, 110], [70, 101, 98], [77, 97, 114], [65, 112, 114], [77, 97, 121], [74, 117, 110], [74, 117, 108], [65, 117, 103], [83, 101, 112], [79, 99, 116], [78, 111, 118], [68, 101, 99]]
def drows : List (List UInt8) := [[83, 117, 110, 100, 97, 121], [77, 111, 110, 100, 97, 121], [84, 117, 101, 115, 100, 97, 121], [87, 101, 100, 110, 101, 115, 100, 97, 121], [84, 104, 117, 114, 115, 100, 97, 121], [70, 114, 105, 100, 97, 121], [83, 97, 116, 117, 114, 100, 97, 121]]
theorem mrows_at : ∀ i, i < 36 → (mrows[i / 3]?.bind fun z => z[i % 3]?) = some (mbytes.getD i 0) := by decide
theorem drows_at : ∀ i, i < 7 → (drows[i]?.map fun z => (⟨z.toArray⟩ : ByteArray)) = some (dn i) := by decide
theorem pow_of {W : World} (h : laidMetH Tryd.prog Rows.fnExactDateTextRow.laid W) : Lib.TabIs Tryd.prog W "internal/strconv.uint64pow10" .u64 Lib.pow10Tab := by
  have h0 : laidMet Tryd.prog Rows.fnExactDateTextRow.laid W := h
  exact Lib.tabIs_of_head (rest := [("loop.example/g00256/impl.monthNames", Rows.laid_loop_example_g00256_impl_monthNames), ("loop.example/g00256/impl.monthDays", Rows.laid_loop_example_g00256_impl_monthDays), ("loop.example/g00256/impl.dayNames", Rows.laid_loop_example_g00256_impl_dayNames)]) Num.gPow (show (Tryd.prog.globals[3]?).map (·.type) = some 72 by kernel_rfl) Tryd.underlying72 Tryd.underlying50 (by kernel_rfl) (by kernel_rfl) h0.tail.tail
theorem tabN_of {W : World} (h : laidMetH Tryd.prog Rows.fnExactDateTextRow.laid W) : TabN W := by
  have h0 : laidMet Tryd.prog Rows.fnExactDateTextRow.laid W := h
  intro i hi
  obtain ⟨z, hz, hx⟩ := Option.bind_eq_some_iff.1 (mrows_at i hi)
  have := Lst.rows_of_head (zs := mrows) (rest := [("loop.example/g00256/impl.monthDays", Rows.laid_loop_example_g00256_impl_monthDays), ("loop.example/g00256/impl.dayNames", Rows.laid_loop_example_g00256_impl_dayNames)]) (show Tryd.prog.globalNamed "loop.example/g00256/impl.monthNames" = some 2 by kernel_rfl) (show (Tryd.prog.globals[2]?).map (·.type) = some 63 by kernel_rfl) Tryd.underlying63 Tryd.underlying62 Tryd.underlying5 (by kernel_rfl) (by kernel_rfl) h0.tail.tail.tail (i / 3) (i % 3) z _ (Nat.mod_lt _ (by omega)) hz hx
  rwa [show i / 3 * 3 + i % 3 = i from by omega] at this
theorem tab_of {W : World} (h : laidMetH Tryd.prog Rows.fnExactDateTextRow.laid W) : Tab W := by
  have h0 : laidMet Tryd.prog Rows.fnExactDateTextRow.laid W := h
  have ht : Lib.TabIs Tryd.prog W "loop.example/g00256/impl.monthDays" .i64 mdays := Lib.tabIs_of_head (rest := [("loop.example/g00256/impl.dayNames", Rows.laid_loop_example_g00256_impl_dayNames)]) (show Tryd.prog.globalNamed "loop.example/g00256/impl.monthDays" = some 0 by kernel_rfl) (show (Tryd.prog.globals[0]?).map (·.type) = some 57 by kernel_rfl) Tryd.underlying57 Tryd.underlying3 (by kernel_rfl) (by kernel_rfl) h0.tail.tail.tail.tail
  intro i hi
  exact ht.cell (by kernel_rfl) i hi
theorem tabD_of {W : World} (h : laidMetH Tryd.prog Rows.fnExactDateTextRow.laid W) : TabD W := by
  have h0 : laidMet Tryd.prog Rows.fnExactDateTextRow.laid W := h
  intro i hi
  obtain ⟨z, hz, hx⟩ := Option.map_eq_some_iff.1 (drows_at i hi)
  rw [← hx]
  exact Lst.strs_of_head (zs := drows) (rest := []) (show Tryd.prog.globalNamed "loop.example/g00256/impl.dayNames" = some 1 by kernel_rfl) (show (Tryd.prog.globals[1]?).map (·.type) = some 61 by kernel_rfl) Tryd.underlying61 Tryd.underlying9 (by kernel_rfl) h0.tail.tail.tail.tail.tail i z hz

set_option maxHeartbeats 1600000 in
theorem walk (y m d h i s : Int) (w : World) (hT : Tab w) (hD : TabD w) (hN : TabN w) (htab : Lib.TabIs Tryd.prog w "internal/strconv.uint64pow10" .u64 Lib.pow10Tab) :
    Calls Tryd.prog 8 #[.agg #[.int .i64 y, .int .i64 m, .int .i64 d, .int .i64 h, .int .i64 i, .int .i64 s]] w fun e w' => e = .returned (.bool true) ∧ Below w.heap.size w w' := by
  cases hg : goodB y m d h i s
  · have hT0 := hT.alloc (.cells #[.int .i64 y, .int .i64 m, .int .i64 d, .int .i64 h, .int .i64 i, .int .i64 s] 37)
    have hl0 := hT0.lt
    have hfin : Below w.heap.size w (w.alloc (.cells #[.int .i64 y, .int .i64 m, .int .i64 d, .int .i64 h, .int .i64 i, .int .i64 s] 37)) := (Below.refl _ _).alloc (Nat.le_refl _) _
    have hz : w.heap.size ≤ (w.alloc (.cells #[.int .i64 y, .int .i64 m, .int .i64 d, .int .i64 h, .int .i64 i, .int .i64 s] 37)).heap.size := by simp
    go_enter Tryd.func8, Tryd.ntmps8
    go_wp2_with fail
    refine (toDate_any y m d h i s _).mono ?_
    rintro e w1 ⟨rfl, hb1⟩
    obtain ⟨hc1, hf1, hz1⟩ := zcells hb1
    go_wp2_with fail
    refine (specDt_no y m d h i s _ hg).mono ?_
    rintro e w2 ⟨rfl, hb2'⟩
    have hb2 := hb1.trans (hb2'.mono hb1.size)
    obtain ⟨hc2, hf2, hz2⟩ := zcells hb2
    clear hc1 hf1
    go_wp2_with fail
    refine (toDate_any y m d h i s _).mono ?_
    rintro e w3 ⟨rfl, hb3'⟩
    have hb3 := hb2.trans (hb3'.mono hb2.size)
    clear hc2 hf2
    go_wp2_with fail
    refine (implDt_no y m d h i s _ (hT0.below hb3 hl0) hg).mono ?_
    rintro e w4 ⟨rfl, hb4'⟩
    have hb4 := hb3.trans (hb4'.mono hb3.size)
    go_wp2
    go_ret
    exact ⟨rfl, hfin.trans (hb4.mono hz)⟩
  · obtain ⟨g1, ⟨q1, q2⟩, ⟨q3, q4⟩, q5, q6⟩ := good_parts hg
    obtain ⟨⟨g3, g4⟩, ⟨g5, g6⟩, g7, g8⟩ := day_parts g1
    obtain ⟨y, rfl⟩ := Int.eq_ofNat_of_zero_le (show 0 ≤ y by omega)
    obtain ⟨d, rfl⟩ := Int.eq_ofNat_of_zero_le (show 0 ≤ d by omega)
    obtain ⟨h, rfl⟩ := Int.eq_ofNat_of_zero_le q1
    obtain ⟨i, rfl⟩ := Int.eq_ofNat_of_zero_le q3
    obtain ⟨s, rfl⟩ := Int.eq_ofNat_of_zero_le q5
    obtain ⟨k, hk⟩ := Int.eq_ofNat_of_zero_le (show 0 ≤ wdI y m d by unfold wdI; omega)
    clear g1 q1 q2 q3 q4 q5 q6 g3 g4 g5 g6 g7 g8
    have hD0 := hD.alloc (.cells #[.int .i64 y, .int .i64 m, .int .i64 d, .int .i64 h, .int .i64 i, .int .i64 s] 37)
    have hDl := hD0.lt
    have hN0 := hN.alloc (.cells #[.int .i64 y, .int .i64 m, .int .i64 d, .int .i64 h, .int .i64 i, .int .i64 s] 37)
    have hNl := hN0.lt
    have ht0 := tab_alloc htab (.cells #[.int .i64 y, .int .i64 m, .int .i64 d, .int .i64 h, .int .i64 i, .int .i64 s] 37)
    have htl := tab_lt ht0
    have hT0 := hT.alloc (.cells #[.int .i64 y, .int .i64 m, .int .i64 d, .int .i64 h, .int .i64 i, .int .i64 s] 37)
    have hl0 := hT0.lt
    have hfin : Below w.heap.size w (w.alloc (.cells #[.int .i64 y, .int .i64 m, .int .i64 d, .int .i64 h, .int .i64 i, .int .i64 s] 37)) := (Below.refl _ _).alloc (Nat.le_refl _) _
    have hz : w.heap.size ≤ (w.alloc (.cells #[.int .i64 y, .int .i64 m, .int .i64 d, .int .i64 h, .int .i64 i, .int .i64 s] 37)).heap.size := by simp
    go_enter Tryd.func8, Tryd.ntmps8
    go_wp2_with fail
    refine (toDate_any y m d h i s _).mono ?_
    rintro e w1 ⟨rfl, hb1⟩
    obtain ⟨hc1, hf1, hz1⟩ := zcells hb1
    go_wp2_with fail
    refine (specDt_yes y d h i s k m _ hg hk).mono ?_
    rintro e w2 ⟨rfl, hb2'⟩
    have hb2 := hb1.trans (hb2'.mono hb1.size)
    obtain ⟨hc2, hf2, hz2⟩ := zcells hb2
    clear hc1 hf1
    go_wp2_with fail
    refine (toDate_any y m d h i s _).mono ?_
    rintro e w3 ⟨rfl, hb3'⟩
    have hb3 := hb2.trans (hb3'.mono hb2.size)
    clear hc2 hf2
    go_wp2_with fail
    refine (implDt_yes y d h i s k m _ (hT0.below hb3 hl0) (hD0.below hb3 hDl) (hN0.below hb3 hNl) (tab_below ht0 hb3 htl) hg hk).mono ?_
    rintro e w4 ⟨rfl, hb4'⟩
    have hb4 := hb3.trans (hb4'.mono hb3.size)
    go_wp2
    go_ret
    exact ⟨rfl, hfin.trans (hb4.mono hz)⟩

set_option maxRecDepth 100000 in
theorem contract (H : Type) (enc : TypeId × Value → H) (W : World) (base : Nat) (args : Array Value) (ds gs : List (DataW H)) (before : List MemPlace)
    (hval0 : ∀ (j : Nat) t v, Tryd.f8.params[j]? = some t → args[j]? = some v → Value.okWide Tryd.prog W .any base t v)
    (hW : DataW.Whole enc Tryd.prog Tryd.f8.params.toList Rows.fnExactDateTextSpec.vars false W args.toList ds gs before) (hL : laidMetH Tryd.prog Rows.fnExactDateTextRow.laid W) (_hsh : W.ShapedOpen Tryd.prog) :
    Calls Tryd.prog 8 args W fun e W' => ∃ v, e = .returned v ∧ Rows.fnExactDateTextSpec.post enc Tryd.prog Tryd.f8 false true false false W args v W' := by
  have hval : ∀ (j : Nat) t v, Tryd.f8.params[j]? = some t → args[j]? = some v → Value.okWide Tryd.prog W .any base t v := hval0
  have hW' := hW
  obtain ⟨p, q, hA0, hV, rfl, hfz, hnd⟩ := hW
  have hA : DataW.TrodAll enc Tryd.prog W 0 (fun _ => true) true Tryd.f8.params.toList args.toList ds p := hA0
  rw [Tryd.params8] at hA hval
  obtain ⟨v0, vs0, d0, ds0, p0, q0, hargs, rfl, rfl, h0, r0⟩ := trodAll_cons hA
  obtain ⟨rfl, rfl, rfl⟩ := trodAll_nil r0
  obtain rfl : args = #[v0] := by cases args; simp_all
  obtain ⟨x1, x2, x3, hgs⟩ := vars3 hV
  have k0 := h0
  have lt0 : ∀ x ∈ p0, x.block < W.heap.size := by obtain ⟨m, hm⟩ := k0; exact DataW.trod_lt m _ _ _ hm
  obtain ⟨y0, m0, d0_, h0_, i0, s0, rfl, wy0, wm0, wd0, wh0, wi0, ws0⟩ := Opd.open_date (hval 0 37 v0 rfl rfl) h0
  clear hA0 hval0
  refine (walk y0 m0 d0_ h0_ i0 s0 W (tab_of hL) (tabD_of hL) (tabN_of hL) (pow_of hL)).mono fun e W' ⟨he, bel⟩ => ?_
  subst he
  have hvars := Below.trodVars laidOut bel (ns := Rows.fnExactDateTextSpec.vars) (by kernel_rfl) hV
  subst hgs
  exact ⟨_, rfl, _, _, _, [], _, _, hW', trodAll_mk1 (shut_bool Tryd.underlying4 _), trodAll_cons_mk (Below.trod laidOut (by kernel_rfl) (of_decide_eq_true (by kernel_rfl)) k0 bel lt0) (trodAll_mk0), hvars, bel.frame _, fun h => by cases h⟩

/-- A world for the witness: the settled one, each listed table holding what its initialiser lays. -/
def layAt (w : World) (g : Nat) (cs : Array Value) : World :=
  { w with heap := w.heap.modify g fun
      | .cells _ t frozen => .cells cs t frozen
      | o => o }
def laidWorld (P : Program) (os : Os) : World := layAt (layAt (layAt (layAt (layAt (layAt (World.holding P os ⟨#[], #[], []⟩) 4 (tab32.map fun z => Value.int .u8 z).toArray) 5 (tab64.map fun z => Value.int .u8 z).toArray) 3 (Lib.pow10Tab.map fun z => Value.int .u64 z).toArray) 2 tabMonths) 0 (Dwa.mdays.map fun z => Value.int .i64 z).toArray) 1 tabDays
theorem laid_met (os : Os) : laidMet Tryd.prog Rows.fnExactDateTextRow.laid ((laidWorld Tryd.prog os).forCall (fun _ _ => 0) ⟨#[], #[.agg #[.int .i64 0, .int .i64 0, .int .i64 0, .int .i64 0, .int .i64 0, .int .i64 0]], []⟩).memory :=
  laidMet_of_run' 8 (by kernel_rfl) (by kernel_rfl)
theorem reads (os : Os) {H : Type} (enc : TypeId × Value → H) : ∃ places, DataW.whole enc Tryd.prog ((laidWorld Tryd.prog os).forCall (fun _ _ => 0) ⟨#[], #[.agg #[.int .i64 0, .int .i64 0, .int .i64 0, .int .i64 0, .int .i64 0, .int .i64 0]], []⟩).memory Tryd.f8.params.toList Rows.fnExactDateTextSpec.vars false (#[.agg #[.int .i64 0, .int .i64 0, .int .i64 0, .int .i64 0, .int .i64 0, .int .i64 0]] : Array Value).toList 8 = some ([.agg [.lit (.int .i64 0), .lit (.int .i64 0), .lit (.int .i64 0), .lit (.int .i64 0), .lit (.int .i64 0), .lit (.int .i64 0)]], [Rows.laid_loop_example_g00256_impl_monthDays, Rows.laid_loop_example_g00256_impl_dayNames, Rows.laid_loop_example_g00256_impl_monthNames], places) :=
  ⟨MemPlace.row ⟨0, 0, none⟩ 12 ++ MemPlace.row ⟨1, 0, none⟩ 7 ++ MemPlace.row ⟨2, 0, none⟩ 36, by kernel_rfl⟩

set_option maxRecDepth 100000 in
theorem lifted (os : Os) (started : os.Started) (H : Type) (enc : TypeId × Value → H) (F : Stop.Interp) :
    ReturnsInHanded {} Tryd.checked os 8 .any ((OpenSpec.ofChange Rows.fnExactDateTextSpec).preRow enc Tryd.prog Tryd.f8 Rows.fnExactDateTextRow.domain false Rows.fnExactDateTextRow.laid) (((OpenSpec.ofChange Rows.fnExactDateTextSpec).at F).post enc Tryd.prog Tryd.f8 false true false false) := by
  obtain ⟨places, hx⟩ := reads os enc
  refine returnsInHanded_of_row (C := Tryd.checked) (s := OpenSpec.ofChange Rows.fnExactDateTextSpec) own started (by kernel_rfl) Tryd.func8
    (witness_row_at (enc := enc) (C := Tryd.checked) false (laidWorld Tryd.prog os) #[.agg #[.int .i64 0, .int .i64 0, .int .i64 0, .int .i64 0, .int .i64 0, .int .i64 0]] rfl (by kernel_rfl) (by kernel_rfl) (by kernel_rfl)
      (OpenSpec.preRow_of_cond 8 hx (by kernel_rfl) (fun k hk => by cases hk) (by kernel_rfl) (laid_met os))) ?_
  intro W base args ds gs before hval hW _ _ _ hL hsh _
  exact contract H enc W base args ds gs before hval hW hL hsh

theorem said : Rows.FnExactDateTextSaid :=
  OpenClaim.holds_of_cond 8 Tryd.f8 rfl rfl rfl rfl rfl rfl rfl ⟨rfl, rfl, rfl, rfl, rfl⟩ rfl rfl rfl rfl rfl (by kernel_rfl) Tryd.func8 (by kernel_rfl)
    (of_decide_eq_true (by kernel_rfl)) (by unfold Func.isWrapper; first | (rw [if_pos (by decide +kernel)]; kernel_rfl) | (rw [if_neg (by decide +kernel)]; exact ⟨rfl, rfl⟩))
    (fun os started H enc _ F => by rw [OpenClaim.pre_eq_preRow]; exact lifted os started H enc F)

theorem plain (f : FuncId) (fn : Func) (hf : Tryd.pinned.checked.prog.funcNamed "loop.example/g00256/laws.FnExactDateText" = some f) (hfn : Tryd.pinned.checked.prog.funcs[f]? = some fn) :
    false = Tryd.pinned.checked.prog.looks [] ∧ ∀ (j : Nat) t, fn.params[j]? = some t → Tryd.pinned.checked.prog.wantsStandIn t = false := by
  obtain rfl : f = 8 := Option.some.inj ((show Tryd.prog.funcNamed "loop.example/g00256/laws.FnExactDateText" = some 8 by kernel_rfl).symm.trans hf) |>.symm
  obtain rfl : fn = Tryd.f8 := (Option.some.inj (Tryd.func8.symm.trans hfn)).symm
  refine ⟨by kernel_rfl, fun j t ht => ?_⟩
  rw [Tryd.params8] at ht
  have hm := Array.mem_of_getElem? ht
  simp only [List.mem_toArray, List.mem_cons, List.not_mem_nil, or_false] at hm
  subst hm
  exact (show Tryd.prog.wantsStandIn 37 = false by kernel_rfl)

/-- The card. -/
theorem card : Rows.FnExactDateTextCardSaid :=
  Claim7.holds_tied_plain_at .later [] _ _ _ _ said (fun _ h => by cases h) (by kernel_rfl) (fun _ h => by cases h) fnExactDateText_row_tie rfl ⟨rfl, rfl⟩ (by kernel_rfl) rfl plain (by kernel_rfl)

end Go.Proofs.YtnjpagejeiiphaaDoor.DtLaw
