/-
  The law FnConds: without conditions it goes on, 304 is told of GET and HEAD alone, and what is there with the very tag is not asked for again, at whatever is drawn. Condition: the tables that it lists read as the program's text lays them (tied by the card).
-/
import Derived.Test.YtgidmoncocbfiaaGreatDoorCards
import Derived.Test.YtgidmoncocbfiaaGreatDoorTie
import Derived.Test.YtgidmoncocbfiaaGreatDoorFcd
import Derived.Test.YtgidmoncocbfiaaGreatDoorLst
import Derived.WalkKit
import Derived.ProofKit
import Derived.OpenShut
import Derived.ShutString
import Derived.OpenVars
import Derived.Stop.LaidErr
import Derived.Deep.DeepHandedRow
import Derived.Lib.LaidTab
namespace Go.Proofs.YtgidmoncocbfiaaGreatDoor.FcdLaw
open Go.ChangeShapes Go.WideShapes Go.ChangeAt Go.RowKit
open Go.ChangeMaps (open_string shut_string)

theorem own : ownKnob Tryz.prog.godebug = none := by kernel_rfl
theorem laidOut : laidOutB Tryz.prog = true := by kernel_rfl
theorem vars4 {H : Type} {enc : TypeId × Value → H} {P : Program} {w : World} {spare : Nat → Bool} {n0 n1 n2 n3 : String} {gs : List (DataW H)} {ps : List MemPlace} (h : DataW.TrodVars enc P w spare [n0, n1, n2, n3] gs ps) : ∃ x1 x2 x3 x4, gs = [x1, x2, x3, x4] := by
  cases gs with
  | nil => simp [DataW.TrodVars] at h
  | cons d ds =>
    obtain ⟨g0, t0, cs0, f0, p0, q0, h1, h2, h3, h4, hs, e⟩ := h
    cases ds with
    | nil => simp [DataW.TrodVars] at hs
    | cons d' ds =>
      obtain ⟨g0, t0, cs0, f0, p0, q0, h1, h2, h3, h4, hs, e⟩ := hs
      obtain ⟨g0, t0, cs0, f0, d0, p0, g1, t1, cs1, f1, d1, p1, rfl, _⟩ := trodVars_two hs
      exact ⟨_, _, _, _, rfl⟩
def tab32 : List Int := [0, 1, 28, 2, 29, 14, 24, 3, 30, 22, 20, 15, 25, 17, 4, 8, 31, 27, 13, 23, 21, 19, 16, 7, 26, 12, 18, 6, 11, 5, 10, 9]
def tab64 : List Int := [0, 1, 56, 2, 57, 49, 28, 3, 61, 58, 42, 50, 38, 29, 17, 4, 62, 47, 59, 36, 45, 43, 51, 22, 53, 39, 33, 30, 24, 18, 12, 5, 63, 55, 48, 27, 60, 41, 37, 16, 46, 35, 44, 21, 52, 32, 23, 11, 54, 26, 40, 15, 34, 20, 31, 10, 25, 14, 19, 9, 13, 8, 7, 6]
def tabAccept : List Int := [128, 191, 160, 191, 128, 159, 144, 191, 128, 143] ++ List.replicate 22 0
def tabFirst : Array Value := (Go.Pinned.utf8FirstZ.map fun (z : Nat) => Value.int .u8 (z : Int)).toArray
def tabDays : Array Value := (Nam.dnames.map fun z => Value.string z).toArray
def tabMonths : Array Value := (Nam.mbytes.map fun z => Value.int .u8 z).toArray
def mrows : List (List Int) := [[74, 97, 110], [70, 101, 98], [77, 97, 114], [65, 112, 114], [77, 97, 121], [74, 117, 110], [74, 117, 108], [65, 117, 103], [83, 101, 112], [79, 99, 116], [78, 111, 118], [68, 101, 99]]
def drows : List (List UInt8) := [[83, 117, 110, 100, 97, 121], [77, 111, 110, 100, 97, 121], [84, 117, 101, 115, 100, 97, 121], [87, 101, 100, 110, 101, 115, 100, 97, 121], [84, 104, 117, 114, 115, 100, 97, 121], [70, 114, 105, 100, 97, 121], [83, 97, 116, 117, 114, 100, 97, 121]]
theorem mrows_at : ∀ i, i < 36 → (mrows[i / 3]?.bind fun z => z[i % 3]?) = some (Nam.mbytes.getD i 0) := by decide
theorem drows_at : ∀ i, i < 7 → (drows[i]?.map fun z => (⟨z.toArray⟩ : ByteArray)) = some (Nam.dn i) := by decide
theorem pow_of {W : World} (h : laidMetH Tryz.prog Rows.fnCondsRow.laid W) : Lib.TabIs Tryz.prog W "internal/strconv.uint64pow10" .u64 Lib.pow10Tab := by
  have h0 : laidMet Tryz.prog Rows.fnCondsRow.laid W := h
  exact Lib.tabIs_of_head (rest := [("unicode/utf8.acceptRanges", Rows.laid_unicode_utf8_acceptRanges), ("loop.example/g00256/impl.byteKinds", Rows.laid_loop_example_g00256_impl_byteKinds), ("loop.example/g00256/impl.monthNames", Rows.laid_loop_example_g00256_impl_monthNames), ("loop.example/g00256/impl.monthDays", Rows.laid_loop_example_g00256_impl_monthDays), ("loop.example/g00256/impl.dayNames", Rows.laid_loop_example_g00256_impl_dayNames), ("unicode/utf8.first", Rows.laid_unicode_utf8_first)]) Num.gPow (show (Tryz.prog.globals[7]?).map (·.type) = some 190 by kernel_rfl) Tryz.underlying190 Tryz.underlying53 (by kernel_rfl) (by kernel_rfl) h0.tail.tail
theorem tabN_of {W : World} (h : laidMetH Tryz.prog Rows.fnCondsRow.laid W) : Nam.TabN W := by
  have h0 : laidMet Tryz.prog Rows.fnCondsRow.laid W := h
  intro i hi
  obtain ⟨z, hz, hx⟩ := Option.bind_eq_some_iff.1 (mrows_at i hi)
  have := Lst.rows_of_head (zs := mrows) (rest := [("loop.example/g00256/impl.monthDays", Rows.laid_loop_example_g00256_impl_monthDays), ("loop.example/g00256/impl.dayNames", Rows.laid_loop_example_g00256_impl_dayNames), ("unicode/utf8.first", Rows.laid_unicode_utf8_first)]) (show Tryz.prog.globalNamed "loop.example/g00256/impl.monthNames" = some 2 by kernel_rfl) (show (Tryz.prog.globals[2]?).map (·.type) = some 172 by kernel_rfl) Tryz.underlying172 Tryz.underlying171 Tryz.underlying5 (by kernel_rfl) (by kernel_rfl) h0.tail.tail.tail.tail.tail (i / 3) (i % 3) z _ (Nat.mod_lt _ (by omega)) hz hx
  rwa [show i / 3 * 3 + i % 3 = i from by omega] at this
theorem tabM_of {W : World} (h : laidMetH Tryz.prog Rows.fnCondsRow.laid W) : Dwa.Tab W := by
  have h0 : laidMet Tryz.prog Rows.fnCondsRow.laid W := h
  have ht : Lib.TabIs Tryz.prog W "loop.example/g00256/impl.monthDays" .i64 Dwa.mdays := Lib.tabIs_of_head (rest := [("loop.example/g00256/impl.dayNames", Rows.laid_loop_example_g00256_impl_dayNames), ("unicode/utf8.first", Rows.laid_unicode_utf8_first)]) (show Tryz.prog.globalNamed "loop.example/g00256/impl.monthDays" = some 4 by kernel_rfl) (show (Tryz.prog.globals[4]?).map (·.type) = some 175 by kernel_rfl) Tryz.underlying175 Tryz.underlying3 (by kernel_rfl) (by kernel_rfl) h0.tail.tail.tail.tail.tail.tail
  intro i hi
  exact ht.cell (by kernel_rfl) i hi
theorem tabD_of {W : World} (h : laidMetH Tryz.prog Rows.fnCondsRow.laid W) : Nam.TabD W := by
  have h0 : laidMet Tryz.prog Rows.fnCondsRow.laid W := h
  intro i hi
  obtain ⟨z, hz, hx⟩ := Option.map_eq_some_iff.1 (drows_at i hi)
  rw [← hx]
  exact Lst.strs_of_head (zs := drows) (rest := [("unicode/utf8.first", Rows.laid_unicode_utf8_first)]) (show Tryz.prog.globalNamed "loop.example/g00256/impl.dayNames" = some 3 by kernel_rfl) (show (Tryz.prog.globals[3]?).map (·.type) = some 174 by kernel_rfl) Tryz.underlying174 Tryz.underlying9 (by kernel_rfl) h0.tail.tail.tail.tail.tail.tail.tail i z hz
theorem tab_of {W : World} (h : laidMetH Tryz.prog Rows.fnCondsRow.laid W) : Fch.Tab W := by
  have h0 : laidMet Tryz.prog Rows.fnCondsRow.laid W := h
  have ht : Lib.TabIs Tryz.prog W "loop.example/g00256/impl.byteKinds" .u8 Byt.kinds := Lib.tabIs_of_head (rest := [("loop.example/g00256/impl.monthNames", Rows.laid_loop_example_g00256_impl_monthNames), ("loop.example/g00256/impl.monthDays", Rows.laid_loop_example_g00256_impl_monthDays), ("loop.example/g00256/impl.dayNames", Rows.laid_loop_example_g00256_impl_dayNames), ("unicode/utf8.first", Rows.laid_unicode_utf8_first)]) (show Tryz.prog.globalNamed "loop.example/g00256/impl.byteKinds" = some 0 by kernel_rfl) (show (Tryz.prog.globals[0]?).map (·.type) = some 121 by kernel_rfl) Tryz.underlying121 Tryz.underlying5 (by kernel_rfl) (by kernel_rfl) h0.tail.tail.tail.tail
  intro i hi
  exact ht.cell (by kernel_rfl) i hi
theorem maxLen_cell {W : World} (h : W.ShapedOpen Tryz.prog) : ∃ m, W.cell? ⟨1, 0, none⟩ = some (.int .i64 m) :=
  Go.Proofs.cell_of_shapedOpen_int (zero := #[.int .i64 0]) (t := 3) h (of_decide_eq_true (by kernel_rfl)) (by kernel_rfl) rfl (by kernel_rfl) (by kernel_rfl) Tryz.underlying3

set_option maxRecDepth 20000 in
set_option maxHeartbeats 1600000 in
theorem walk2 (u v : Value) (n k : Nat) (w : World) (hU : Cur.CodeArg w u n) (hV : Cur.CodeArg w v k) (hT : Fch.Tab w) (hM : Dwa.Tab w) (hD : Nam.TabD w) (hN : Nam.TabN w) (hP : Lib.TabIs Tryz.prog w "internal/strconv.uint64pow10" .u64 Lib.pow10Tab) (hsh : w.ShapedOpen Tryz.prog) (hn : n ≤ 140737488355328) (hk : k ≤ 140737488355328) :
    Calls Tryz.prog 3 #[u, v] w fun e w' => e = .returned (.bool true) ∧ Below w.heap.size w w' := by
  obtain ⟨m, hm⟩ := maxLen_cell hsh
  by_cases hnk : n + k ≤ 1048576
  · exact Cds.walkConds u v n k m w ⟨hT, hM, hD, hN, hP, hm⟩ hU hV hnk
  · obtain ⟨o1, c1, rfl⟩ := hU.form
    obtain ⟨o2, c2, rfl⟩ := hV.form
    have hd : decide (1048576 < (n : Int) + (k : Int)) = true := decide_eq_true (by omega)
    have hwr : IntKind.i64.wrap ((n : Int) + (k : Int)) = (n : Int) + (k : Int) := by rw [IntKind.wrap_i64]; omega
    clear hT hM hD hN hP hsh hm hU hV
    go_enter Tryz.func3, Tryz.ntmps3
    go_wp2_with fail
    go_ret
    exact ⟨rfl, Below.refl _ _⟩

set_option maxRecDepth 100000 in
theorem contract (H : Type) (enc : TypeId × Value → H) (W : World) (base : Nat) (args : Array Value) (ds gs : List (DataW H)) (before : List MemPlace)
    (hval0 : ∀ (j : Nat) t v, Tryz.f3.params[j]? = some t → args[j]? = some v → Value.okWide Tryz.prog W .any base t v)
    (hW : DataW.Whole enc Tryz.prog Tryz.f3.params.toList Rows.fnCondsSpec.vars false W args.toList ds gs before) (hL : laidMetH Tryz.prog Rows.fnCondsRow.laid W) (hsh : W.ShapedOpen Tryz.prog) (hwt : (DataW.weightsEach Tryz.prog (Tryz.f3.params.toList ++ (OpenSpec.ofChange Rows.fnCondsSpec).bare.plain.varTypes Tryz.prog) (ds ++ gs)).all (· ≤ reachBytes) = true) :
    Calls Tryz.prog 3 args W fun e W' => ∃ v, e = .returned v ∧ Rows.fnCondsSpec.post enc Tryz.prog Tryz.f3 false true false false W args v W' := by
  have hval : ∀ (j : Nat) t v, Tryz.f3.params[j]? = some t → args[j]? = some v → Value.okWide Tryz.prog W .any base t v := hval0
  have hW' := hW
  obtain ⟨p, q, hA0, hV, rfl, hfz, hnd⟩ := hW
  have hA : DataW.TrodAll enc Tryz.prog W 0 (fun _ => true) true Tryz.f3.params.toList args.toList ds p := hA0
  rw [Tryz.params3] at hA hval hwt
  obtain ⟨v0, vs0, d0, ds0, p0, q0, hargs, rfl, rfl, h0, r0⟩ := trodAll_cons hA
  obtain ⟨v1, vs1, d1, ds1, p1, q1, rfl, rfl, rfl, h1, r1⟩ := trodAll_cons r0
  obtain ⟨rfl, rfl, rfl⟩ := trodAll_nil r1
  obtain rfl : args = #[v0, v1] := by cases args; simp_all
  obtain ⟨x1, x2, x3, x4, hgs⟩ := vars4 hV
  have k0 := h0
  have lt0 : ∀ x ∈ p0, x.block < W.heap.size := by obtain ⟨m, hm⟩ := k0; exact DataW.trod_lt m _ _ _ hm
  obtain ⟨n0, hCA0, hd0⟩ := Cur.code_open (hval 0 22 v0 rfl rfl) h0
  have hn0 : n0 ≤ 140737488355328 := Nat.le_trans (Cur.code_bound hwt (j := 0) (t := 22) rfl rfl hd0) (by decide)
  have k1 := h1
  have lt1 : ∀ x ∈ p1, x.block < W.heap.size := by obtain ⟨m, hm⟩ := k1; exact DataW.trod_lt m _ _ _ hm
  obtain ⟨n1, hCA1, hd1⟩ := Cur.code_open (hval 1 22 v1 rfl rfl) h1
  have hn1 : n1 ≤ 140737488355328 := Nat.le_trans (Cur.code_bound hwt (j := 1) (t := 22) rfl rfl hd1) (by decide)
  clear hA0 hval0
  refine (walk2 v0 v1 n0 n1 W hCA0 hCA1 (tab_of hL) (tabM_of hL) (tabD_of hL) (tabN_of hL) (pow_of hL) hsh hn0 hn1).mono fun e W' ⟨he, bel⟩ => ?_
  subst he
  have hvars := Below.trodVars laidOut bel (ns := Rows.fnCondsSpec.vars) (by kernel_rfl) hV
  subst hgs
  exact ⟨_, rfl, _, _, _, [], _, _, hW', trodAll_mk1 (shut_bool Tryz.underlying4 _), trodAll_cons_mk (Below.trod laidOut (by kernel_rfl) (of_decide_eq_true (by kernel_rfl)) k0 bel lt0) (trodAll_cons_mk (Below.trod laidOut (by kernel_rfl) (of_decide_eq_true (by kernel_rfl)) k1 bel lt1) (trodAll_mk0)), hvars, bel.frame _, fun h => by cases h⟩

/-- A world for the witness: the settled one, each listed table holding what its initialiser lays. -/
def layAt (w : World) (g : Nat) (cs : Array Value) : World :=
  { w with heap := w.heap.modify g fun
      | .cells _ t frozen => .cells cs t frozen
      | o => o }
def laidWorld (P : Program) (os : Os) : World := layAt (layAt (layAt (layAt (layAt (layAt (layAt (layAt (layAt (World.holding P os ⟨#[], #[], []⟩) 8 (tab32.map fun z => Value.int .u8 z).toArray) 9 (tab64.map fun z => Value.int .u8 z).toArray) 7 (Lib.pow10Tab.map fun z => Value.int .u64 z).toArray) 6 (tabAccept.map fun z => Value.int .u8 z).toArray) 0 (Byt.kinds.map fun z => Value.int .u8 z).toArray) 2 tabMonths) 4 (Dwa.mdays.map fun z => Value.int .i64 z).toArray) 3 tabDays) 5 tabFirst
theorem laid_met (os : Os) : laidMet Tryz.prog Rows.fnCondsRow.laid ((laidWorld Tryz.prog os).forCall (fun _ _ => 0) ⟨#[], #[.slice none 0 0, .slice none 0 0], []⟩).memory :=
  laidMet_of_run' 8 (by kernel_rfl) (by kernel_rfl)
theorem reads (os : Os) {H : Type} (enc : TypeId × Value → H) : ∃ places, DataW.whole enc Tryz.prog ((laidWorld Tryz.prog os).forCall (fun _ _ => 0) ⟨#[], #[.slice none 0 0, .slice none 0 0], []⟩).memory Tryz.f3.params.toList Rows.fnCondsSpec.vars false (#[.slice none 0 0, .slice none 0 0] : Array Value).toList 8 = some ([.nil, .nil], [Rows.laid_loop_example_g00256_impl_byteKinds, Rows.laid_loop_example_g00256_impl_monthDays, Rows.laid_loop_example_g00256_impl_monthNames, Rows.laid_loop_example_g00256_impl_dayNames], places) :=
  ⟨MemPlace.row ⟨0, 0, none⟩ 128 ++ MemPlace.row ⟨4, 0, none⟩ 12 ++ MemPlace.row ⟨2, 0, none⟩ 36 ++ MemPlace.row ⟨3, 0, none⟩ 7, by kernel_rfl⟩

set_option maxRecDepth 100000 in
theorem lifted (os : Os) (started : os.Started) (H : Type) (enc : TypeId × Value → H) (F : Stop.Interp) :
    ReturnsInHanded {} Tryz.checked os 3 .any ((OpenSpec.ofChange Rows.fnCondsSpec).preRow enc Tryz.prog Tryz.f3 Rows.fnCondsRow.domain false Rows.fnCondsRow.laid) (((OpenSpec.ofChange Rows.fnCondsSpec).at F).post enc Tryz.prog Tryz.f3 false true false false) := by
  obtain ⟨places, hx⟩ := reads os enc
  refine returnsInHanded_of_row (C := Tryz.checked) (s := OpenSpec.ofChange Rows.fnCondsSpec) own started (by kernel_rfl) Tryz.func3
    (witness_row_at (enc := enc) (C := Tryz.checked) false (laidWorld Tryz.prog os) #[.slice none 0 0, .slice none 0 0] rfl (by kernel_rfl) (by kernel_rfl) (by kernel_rfl)
      (OpenSpec.preRow_of_cond 8 hx (by kernel_rfl) (fun k hk => by cases hk) (by kernel_rfl) (laid_met os))) ?_
  intro W base args ds gs before hval hW _ _ hwt hL hsh _
  exact contract H enc W base args ds gs before hval hW hL hsh hwt

theorem said : Rows.FnCondsSaid :=
  OpenClaim.holds_of_cond 3 Tryz.f3 rfl rfl rfl rfl rfl rfl rfl ⟨rfl, rfl, rfl, rfl, rfl⟩ rfl rfl rfl rfl rfl (by kernel_rfl) Tryz.func3 (by kernel_rfl)
    (of_decide_eq_true (by kernel_rfl)) (by unfold Func.isWrapper; first | (rw [if_pos (by decide +kernel)]; kernel_rfl) | (rw [if_neg (by decide +kernel)]; exact ⟨rfl, rfl⟩))
    (fun os started H enc _ F => by rw [OpenClaim.pre_eq_preRow]; exact lifted os started H enc F)

theorem plain (f : FuncId) (fn : Func) (hf : Tryz.pinned.checked.prog.funcNamed "loop.example/g00256/laws.FnConds" = some f) (hfn : Tryz.pinned.checked.prog.funcs[f]? = some fn) :
    true = Tryz.pinned.checked.prog.looks [] ∧ ∀ (j : Nat) t, fn.params[j]? = some t → Tryz.pinned.checked.prog.wantsStandIn t = false := by
  obtain rfl : f = 3 := Option.some.inj ((show Tryz.prog.funcNamed "loop.example/g00256/laws.FnConds" = some 3 by kernel_rfl).symm.trans hf) |>.symm
  obtain rfl : fn = Tryz.f3 := (Option.some.inj (Tryz.func3.symm.trans hfn)).symm
  refine ⟨by kernel_rfl, fun j t ht => ?_⟩
  rw [Tryz.params3] at ht
  have hm := Array.mem_of_getElem? ht
  simp only [List.mem_toArray, List.mem_cons, List.not_mem_nil, or_false] at hm
  rcases hm with rfl | rfl
  · exact (show Tryz.prog.wantsStandIn 22 = false by kernel_rfl)
  · exact (show Tryz.prog.wantsStandIn 22 = false by kernel_rfl)

/-- The card. -/
theorem card : Rows.FnCondsCardSaid :=
  Claim7.holds_tied_plain_at .later [] _ _ _ _ said (fun _ h => by cases h) (by kernel_rfl) (fun _ h => by cases h) fnConds_row_tie rfl ⟨rfl, rfl⟩ (by kernel_rfl) rfl plain (by kernel_rfl)

end Go.Proofs.YtgidmoncocbfiaaGreatDoor.FcdLaw
