/-
  The law FnMessages: a request and an answer come back from their bytes, whatever stands behind them, at whatever is drawn. Condition: the tables, the error and the type that it lists read as the program's text lays them (tied by the card).
-/
import Derived.Test.YtaplkbkpgdpbaaaGreatDoorCards
import Derived.Test.YtaplkbkpgdpbaaaGreatDoorTie
import Derived.Test.YtaplkbkpgdpbaaaGreatDoorFew
import Derived.WalkKit
import Derived.ProofKit
import Derived.OpenShut
import Derived.ShutString
import Derived.OpenVars
import Derived.Stop.LaidErr
import Derived.Deep.DeepHandedRow
import Derived.Lib.LaidTab
import Derived.RowKitTokens
import Derived.LaidLaws
import Derived.LaidHandle
namespace Go.Proofs.YtaplkbkpgdpbaaaGreatDoor.FeLaw
open Go.ChangeShapes Go.WideShapes Go.ChangeAt Go.RowKit
open Go.ChangeMaps (open_string shut_string)
open Go.Proofs.YtaplkbkpgdpbaaaGreatDoor.Byt
open Go.Proofs.YtaplkbkpgdpbaaaGreatDoor.Fch

theorem own : ownKnob Tryz.prog.godebug = none := by kernel_rfl
theorem laidOut : laidOutB Tryz.prog = true := by kernel_rfl
def tab32 : List Int := [0, 1, 28, 2, 29, 14, 24, 3, 30, 22, 20, 15, 25, 17, 4, 8, 31, 27, 13, 23, 21, 19, 16, 7, 26, 12, 18, 6, 11, 5, 10, 9]
def tab64 : List Int := [0, 1, 56, 2, 57, 49, 28, 3, 61, 58, 42, 50, 38, 29, 17, 4, 62, 47, 59, 36, 45, 43, 51, 22, 53, 39, 33, 30, 24, 18, 12, 5, 63, 55, 48, 27, 60, 41, 37, 16, 46, 35, 44, 21, 52, 32, 23, 11, 54, 26, 40, 15, 34, 20, 31, 10, 25, 14, 19, 9, 13, 8, 7, 6]
def tabAccept : List Int := [128, 191, 160, 191, 128, 159, 144, 191, 128, 143] ++ List.replicate 22 0
def tabFirst : Array Value := (Go.Pinned.utf8FirstZ.map fun (z : Nat) => Value.int .u8 (z : Int)).toArray
theorem parts {W : World} (h : laidMetH Tryz.prog Rows.fnMessagesRow.laid W) : laidMet Tryz.prog [("math/bits.deBruijn32tab", Rows.laid_math_bits_deBruijn32tab), ("math/bits.deBruijn64tab", Rows.laid_math_bits_deBruijn64tab), ("internal/strconv.uint64pow10", Rows.laid_internal_strconv_uint64pow10), ("unicode/utf8.acceptRanges", Rows.laid_unicode_utf8_acceptRanges), ("loop.example/g00256/impl.byteKinds", Rows.laid_loop_example_g00256_impl_byteKinds), ("loop.example/g00256/impl.errNoLength", Rows.laid_loop_example_g00256_impl_errNoLength), ("unicode/utf8.first", Rows.laid_unicode_utf8_first)] W ∧ handlesMet Tryz.prog [("errors.errorType", Rows.laid_errors_errorType)] W := h
theorem tab_of {W : World} (h : laidMetH Tryz.prog Rows.fnMessagesRow.laid W) : Tab W := by
  have h0 := (parts h).1
  have ht : Lib.TabIs Tryz.prog W "loop.example/g00256/impl.byteKinds" .u8 kinds := Lib.tabIs_of_head (rest := [("loop.example/g00256/impl.errNoLength", Rows.laid_loop_example_g00256_impl_errNoLength), ("unicode/utf8.first", Rows.laid_unicode_utf8_first)]) (show Tryz.prog.globalNamed "loop.example/g00256/impl.byteKinds" = some 2 by kernel_rfl) (show (Tryz.prog.globals[2]?).map (·.type) = some 179 by kernel_rfl) Tryz.underlying179 Tryz.underlying5 (by kernel_rfl) (by kernel_rfl) h0.tail.tail.tail.tail
  intro i hi
  exact ht.cell (by kernel_rfl) i hi
theorem pow_of {W : World} (h : laidMetH Tryz.prog Rows.fnMessagesRow.laid W) : Rsb.PowT W := by
  have h0 := (parts h).1
  have h2 := h0.tail.tail
  exact Lib.tabIs_of_head (rest := [("unicode/utf8.acceptRanges", Rows.laid_unicode_utf8_acceptRanges), ("loop.example/g00256/impl.byteKinds", Rows.laid_loop_example_g00256_impl_byteKinds), ("loop.example/g00256/impl.errNoLength", Rows.laid_loop_example_g00256_impl_errNoLength), ("unicode/utf8.first", Rows.laid_unicode_utf8_first)]) Num.gPow (show (Tryz.prog.globals[4]?).map (·.type) = some 217 by kernel_rfl) Tryz.underlying217 Tryz.underlying76 (by kernel_rfl) (by kernel_rfl) h2
theorem gE : Tryz.prog.globalNamed "loop.example/g00256/impl.errNoLength" = some 0 := by kernel_rfl
theorem gEType : (Tryz.prog.globals[0]?).map (·.type) = some 63 := by kernel_rfl
theorem cellsE : Tryz.prog.cellsOf 246 = 1 := by kernel_rfl
theorem cellsS : Tryz.prog.cellsOf 9 = 1 := by kernel_rfl
theorem star : "*" ++ "errors.errorString" = "*errors.errorString" := by decide
theorem rowS (u : TypeId) (h : Tryz.prog.typeName? 3 u = some "*errors.errorString") : u = 228 :=
  typeName_ptr_named (nm := "errors.errorString") (by rw [star]; kernel_rfl) (by kernel_rfl) (by decide) u (by rw [star]; exact h)
theorem sent_of {W : World} (h : laidMetH Tryz.prog Rows.fnMessagesRow.laid W) : ∃ b, W.cell? ⟨0, 0, none⟩ = some (Lnp.sent b) := by
  have h0 := (parts h).1
  obtain ⟨b, s, hv, _⟩ := laid_sentinel h0.tail.tail.tail.tail.tail gE gEType Tryz.underlying63 rowS Tryz.underlying228 Tryz.underlying246 rfl rfl Tryz.underlying9 cellsE cellsS
  exact ⟨b, by simpa [Lnp.sent] using World.var?_cell gE hv 0⟩
theorem gT : Tryz.prog.globalNamed "errors.errorType" = some 1 := by kernel_rfl
theorem rtT : (Tryz.prog.cutTypes.find? (·.1 == "internal/reflectlite.rtype")).map (·.2) = some 158 := by kernel_rfl
theorem oneT : ((List.range Tryz.prog.types.size).filter fun t => Tryz.prog.rowNamed t [101, 114, 114, 111, 114]) = [63] := by kernel_rfl
theorem hanT : typeHandle Tryz.prog 63 = .pointer (some ⟨9, 63, none⟩) := by kernel_rfl
theorem errT_of {W : World} (h : laidMetH Tryz.prog Rows.fnMessagesRow.laid W) : Asf.ErrT W := by
  obtain ⟨name, u, ty, e1, e2, e3, e4, e5⟩ := (parts h).2 _ (List.mem_singleton.2 rfl)
  have en : name = [101, 114, 114, 111, 114] := (Option.some.inj e1).symm
  subst en
  obtain rfl := Option.some.inj (rtT.symm.trans e2)
  have hm : ty ∈ (List.range Tryz.prog.types.size).filter fun t => Tryz.prog.rowNamed t [101, 114, 114, 111, 114] := List.mem_filter.2 ⟨List.mem_range.2 e3, e4⟩
  rw [oneT] at hm
  obtain rfl := List.mem_singleton.1 hm
  rw [hanT] at e5
  simpa [Asf.ErrT] using World.var?_cell gT e5 0
theorem maxLen_cell {W : World} (h : W.ShapedOpen Tryz.prog) : ∃ m, W.cell? ⟨3, 0, none⟩ = some (.int .i64 m) :=
  Go.Proofs.cell_of_shapedOpen_int (zero := #[.int .i64 0]) (t := 3) h (of_decide_eq_true (by kernel_rfl)) (by kernel_rfl) rfl (by kernel_rfl) (by kernel_rfl) Tryz.underlying3

theorem walk2 (u v : Value) (n k : Nat) (w : World) (hU : Cur.CodeArg w u n) (hV : Cur.CodeArg w v k) (hn : n ≤ 140737488355328) (hk : k ≤ 140737488355328) (hT : Tab w) (hP : Rsb.PowT w) (hE : ∃ b, w.cell? ⟨0, 0, none⟩ = some (Lnp.sent b)) (hR : Asf.ErrT w) (hsh : w.ShapedOpen Tryz.prog) :
    Calls Tryz.prog 3 #[u, v] w fun e w' => e = .returned (.bool true) ∧ Below w.heap.size w w' := by
  obtain ⟨b, hb⟩ := hE
  obtain ⟨m, hm⟩ := maxLen_cell hsh
  exact Few.walk u v n k m b w hU hV hn hk hT hb hm hR hP

set_option maxRecDepth 100000 in
theorem contract (H : Type) (enc : TypeId × Value → H) (W : World) (base : Nat) (args : Array Value) (ds gs : List (DataW H)) (before : List MemPlace)
    (hval0 : ∀ (j : Nat) t v, Tryz.f3.params[j]? = some t → args[j]? = some v → Value.okWide Tryz.prog W .any base t v)
    (hW : DataW.Whole enc Tryz.prog Tryz.f3.params.toList Rows.fnMessagesSpec.vars false W args.toList ds gs before) (hL : laidMetH Tryz.prog Rows.fnMessagesRow.laid W) (_hsh : W.ShapedOpen Tryz.prog) (hwt : (DataW.weightsEach Tryz.prog (Tryz.f3.params.toList ++ (OpenSpec.ofChange Rows.fnMessagesSpec).bare.plain.varTypes Tryz.prog) (ds ++ gs)).all (· ≤ reachBytes) = true) :
    Calls Tryz.prog 3 args W fun e W' => ∃ v, e = .returned v ∧ Rows.fnMessagesSpec.post enc Tryz.prog Tryz.f3 false true false false W args v W' := by
  have hval : ∀ (j : Nat) t v, Tryz.f3.params[j]? = some t → args[j]? = some v → Value.okWide Tryz.prog W .any base t v := hval0
  have hW' := hW
  obtain ⟨p, q, hA0, hV, rfl, hfz, hnd⟩ := hW
  have hA : DataW.TrodAll enc Tryz.prog W 0 (fun _ => true) true Tryz.f3.params.toList args.toList ds p := hA0
  rw [Tryz.params3] at hA hval hwt
  obtain ⟨v0, vs0, d0, ds0, p0, q0, hargs, rfl, rfl, h0, r0⟩ := trodAll_cons hA
  obtain ⟨v1, vs1, d1, ds1, p1, q1, rfl, rfl, rfl, h1, r1⟩ := trodAll_cons r0
  obtain ⟨rfl, rfl, rfl⟩ := trodAll_nil r1
  obtain rfl : args = #[v0, v1] := by cases args; simp_all
  obtain ⟨vg0, vt0, vc0, vf0, vd0, vp0, vg1, vt1, vc1, vf1, vd1, vp1, hgs, _⟩ := trodVars_two hV
  have k0 := h0
  have lt0 : ∀ x ∈ p0, x.block < W.heap.size := by obtain ⟨m, hm⟩ := k0; exact DataW.trod_lt m _ _ _ hm
  obtain ⟨n0, hCA0, hd0⟩ := Cur.code_open (hval 0 22 v0 rfl rfl) h0
  have hn0 : n0 ≤ 140737488355328 := Nat.le_trans (Cur.code_bound hwt (j := 0) (t := 22) rfl rfl hd0) (by decide)
  have k1 := h1
  have lt1 : ∀ x ∈ p1, x.block < W.heap.size := by obtain ⟨m, hm⟩ := k1; exact DataW.trod_lt m _ _ _ hm
  obtain ⟨n1, hCA1, hd1⟩ := Cur.code_open (hval 1 22 v1 rfl rfl) h1
  have hn1 : n1 ≤ 140737488355328 := Nat.le_trans (Cur.code_bound hwt (j := 1) (t := 22) rfl rfl hd1) (by decide)
  clear hA0 hval0
  refine (walk2 v0 v1 n0 n1 W hCA0 hCA1 hn0 hn1 (tab_of hL) (pow_of hL) (sent_of hL) (errT_of hL) _hsh).mono fun e W' ⟨he, bel⟩ => ?_
  subst he
  have hvars := Below.trodVars laidOut bel (ns := Rows.fnMessagesSpec.vars) (by kernel_rfl) hV
  subst hgs
  exact ⟨_, rfl, _, _, _, [], _, _, hW', trodAll_mk1 (shut_bool Tryz.underlying4 _), trodAll_cons_mk (Below.trod laidOut (by kernel_rfl) (of_decide_eq_true (by kernel_rfl)) k0 bel lt0) (trodAll_cons_mk (Below.trod laidOut (by kernel_rfl) (of_decide_eq_true (by kernel_rfl)) k1 bel lt1) (trodAll_mk0)), hvars, bel.frame _, fun h => by cases h⟩

/-- A world for the witness: the settled one, each listed table holding what its initialiser lays. -/
def layAt (w : World) (g : Nat) (cs : Array Value) : World :=
  { w with heap := w.heap.modify g fun
      | .cells _ t frozen => .cells cs t frozen
      | o => o }
noncomputable def low : Nat := (World.holding Tryz.prog default ⟨#[], #[], []⟩).heap.size
noncomputable def laidWorld (P : Program) (os : Os) : World := layAt (layAt (layAt (layAt (layAt (layAt (layAt (layAt (World.holding P os ⟨#[.cells #[.string ⟨#[110, 111, 32, 108, 101, 110, 103, 116, 104, 32, 105, 115, 32, 116, 111, 108, 100]⟩] 246], #[], []⟩) 0 #[.iface 228 (.pointer (some ⟨low + 0, 0, none⟩))]) 7 (tab32.map fun z => Value.int .u8 z).toArray) 8 (tab64.map fun z => Value.int .u8 z).toArray) 4 (Lib.pow10Tab.map fun z => Value.int .u64 z).toArray) 6 (tabAccept.map fun z => Value.int .u8 z).toArray) 2 (Byt.kinds.map fun z => Value.int .u8 z).toArray) 5 tabFirst) 1 #[.iface 158 (.agg #[.pointer (some ⟨9, 63, none⟩)])]
theorem laid_met (os : Os) : laidMetH Tryz.prog Rows.fnMessagesRow.laid ((laidWorld Tryz.prog os).forCall (fun _ _ => 0) ⟨#[], #[.slice none 0 0, .slice none 0 0], []⟩).memory :=
  laidMetH_of_parts (show laidMet Tryz.prog [("math/bits.deBruijn32tab", Rows.laid_math_bits_deBruijn32tab), ("math/bits.deBruijn64tab", Rows.laid_math_bits_deBruijn64tab), ("internal/strconv.uint64pow10", Rows.laid_internal_strconv_uint64pow10), ("unicode/utf8.acceptRanges", Rows.laid_unicode_utf8_acceptRanges), ("loop.example/g00256/impl.byteKinds", Rows.laid_loop_example_g00256_impl_byteKinds), ("loop.example/g00256/impl.errNoLength", Rows.laid_loop_example_g00256_impl_errNoLength), ("unicode/utf8.first", Rows.laid_unicode_utf8_first)] _ from laidMet_of_run' 8 (by kernel_rfl) (by kernel_rfl)) (by kernel_rfl)
theorem reads (os : Os) {H : Type} (enc : TypeId × Value → H) : ∃ places, DataW.whole enc Tryz.prog ((laidWorld Tryz.prog os).forCall (fun _ _ => 0) ⟨#[], #[.slice none 0 0, .slice none 0 0], []⟩).memory Tryz.f3.params.toList Rows.fnMessagesSpec.vars false (#[.slice none 0 0, .slice none 0 0] : Array Value).toList 8 = some ([.nil, .nil], [Rows.laid_loop_example_g00256_impl_byteKinds, tok enc (.iface 228 (.pointer (some ⟨low + 0, 0, none⟩)))], places) := by
  have h : (DataW.whole enc Tryz.prog ((laidWorld Tryz.prog os).forCall (fun _ _ => 0) ⟨#[], #[.slice none 0 0, .slice none 0 0], []⟩).memory Tryz.f3.params.toList Rows.fnMessagesSpec.vars false (#[.slice none 0 0, .slice none 0 0] : Array Value).toList 8).map (fun x => (x.1, x.2.1)) = some ([.nil, .nil], [Rows.laid_loop_example_g00256_impl_byteKinds, tok enc (.iface 228 (.pointer (some ⟨low + 0, 0, none⟩)))]) := by kernel_rfl
  obtain ⟨⟨a, b, c⟩, h1, h2⟩ := Option.map_eq_some_iff.1 h
  injection h2 with h3 h4
  dsimp only at h3 h4
  subst h3 h4
  exact ⟨c, h1⟩

set_option maxRecDepth 100000 in
theorem lifted (os : Os) (started : os.Started) (H : Type) (enc : TypeId × Value → H) (F : Stop.Interp) :
    ReturnsInHanded {} Tryz.checked os 3 .any ((OpenSpec.ofChange Rows.fnMessagesSpec).preRow enc Tryz.prog Tryz.f3 Rows.fnMessagesRow.domain false Rows.fnMessagesRow.laid) (((OpenSpec.ofChange Rows.fnMessagesSpec).at F).post enc Tryz.prog Tryz.f3 false true false false) := by
  obtain ⟨places, hx⟩ := reads os enc
  refine returnsInHanded_of_row (C := Tryz.checked) (s := OpenSpec.ofChange Rows.fnMessagesSpec) own started (by kernel_rfl) Tryz.func3
    (witness_row_at (enc := enc) (C := Tryz.checked) false (laidWorld Tryz.prog os) #[.slice none 0 0, .slice none 0 0] rfl (by kernel_rfl) (by kernel_rfl) (by kernel_rfl)
      (OpenSpec.preRow_of_cond 8 hx (by kernel_rfl) (fun k hk => by cases hk) (by kernel_rfl) (laid_met os))) ?_
  intro W base args ds gs before hval hW _ _ hwt hL hsh _
  exact contract H enc W base args ds gs before hval hW hL hsh hwt

theorem said : Rows.FnMessagesSaid :=
  OpenClaim.holds_of_cond 3 Tryz.f3 rfl rfl rfl rfl rfl rfl rfl ⟨rfl, rfl, rfl, rfl, rfl⟩ rfl rfl rfl rfl rfl (by kernel_rfl) Tryz.func3 (by kernel_rfl)
    (of_decide_eq_true (by kernel_rfl)) (by unfold Func.isWrapper; first | (rw [if_pos (by decide +kernel)]; kernel_rfl) | (rw [if_neg (by decide +kernel)]; exact ⟨rfl, rfl⟩))
    (fun os started H enc _ F => by rw [OpenClaim.pre_eq_preRow]; exact lifted os started H enc F)

theorem plain (f : FuncId) (fn : Func) (hf : Tryz.pinned.checked.prog.funcNamed "loop.example/g00256/laws.FnMessages" = some f) (hfn : Tryz.pinned.checked.prog.funcs[f]? = some fn) :
    true = Tryz.pinned.checked.prog.looks [] ∧ ∀ (j : Nat) t, fn.params[j]? = some t → Tryz.pinned.checked.prog.wantsStandIn t = false := by
  obtain rfl : f = 3 := Option.some.inj ((show Tryz.prog.funcNamed "loop.example/g00256/laws.FnMessages" = some 3 by kernel_rfl).symm.trans hf) |>.symm
  obtain rfl : fn = Tryz.f3 := (Option.some.inj (Tryz.func3.symm.trans hfn)).symm
  refine ⟨by kernel_rfl, fun j t ht => ?_⟩
  rw [Tryz.params3] at ht
  have hm := Array.mem_of_getElem? ht
  simp only [List.mem_toArray, List.mem_cons, List.not_mem_nil, or_false] at hm
  rcases hm with rfl | rfl
  · exact (show Tryz.prog.wantsStandIn 22 = false by kernel_rfl)
  · exact (show Tryz.prog.wantsStandIn 22 = false by kernel_rfl)

/-- The card. -/
theorem card : Rows.FnMessagesCardSaid :=
  Claim7.holds_tied_plain_at .later [] _ _ _ _ said (fun _ h => by cases h) (by kernel_rfl) (fun _ h => by cases h) fnMessages_row_tie rfl ⟨rfl, rfl⟩ (by kernel_rfl) rfl plain (by kernel_rfl)

end Go.Proofs.YtaplkbkpgdpbaaaGreatDoor.FeLaw
