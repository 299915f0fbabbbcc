/-
  The law FnExactGoodField: at every field impl.GoodField answers as spec.GoodField. Condition: the tables that it lists read as the program's text lays them (tied by the card).
-/
import Derived.Test.YtlofjmfaanchjaaDoorCards
import Derived.Test.YtlofjmfaanchjaaDoorTie
import Derived.Test.YtlofjmfaanchjaaDoorFgd
import Derived.Test.YtlofjmfaanchjaaDoorLwf
import Derived.WalkKit
import Derived.ProofKit
import Derived.OpenShut
import Derived.ShutString
import Derived.OpenVars
import Derived.Stop.LaidErr
import Derived.Deep.DeepHandedRow
import Derived.Lib.LaidTab
namespace Go.Proofs.YtlofjmfaanchjaaDoor.GfLaw
open Go.ChangeShapes Go.WideShapes Go.ChangeAt Go.RowKit
open Go.ChangeMaps (open_string shut_string)
open Go.Proofs.YtlofjmfaanchjaaDoor.Byt
open Go.Proofs.YtlofjmfaanchjaaDoor.Fch
open Go.Proofs.YtlofjmfaanchjaaDoor.Fgd
open Go.Proofs.YtlofjmfaanchjaaDoor.Lwf

theorem own : ownKnob Tryd.prog.godebug = none := by kernel_rfl
theorem laidOut : laidOutB Tryd.prog = true := by kernel_rfl
def tabAccept : List Int := [128, 191, 160, 191, 128, 159, 144, 191, 128, 143] ++ List.replicate 22 0
def tabFirst : Array Value := (Go.Pinned.utf8FirstZ.map fun (z : Nat) => Value.int .u8 (z : Int)).toArray
theorem tab_of {W : World} (h : laidMetH Tryd.prog Rows.fnExactGoodFieldRow.laid W) : Tab W := by
  have h0 : laidMet Tryd.prog Rows.fnExactGoodFieldRow.laid W := h
  have ht : Lib.TabIs Tryd.prog W "loop.example/g00256/impl.byteKinds" .u8 kinds := Lib.tabIs_of_head (rest := [("unicode/utf8.first", Rows.laid_unicode_utf8_first)]) (show Tryd.prog.globalNamed "loop.example/g00256/impl.byteKinds" = some 0 by kernel_rfl) (show (Tryd.prog.globals[0]?).map (·.type) = some 124 by kernel_rfl) Tryd.underlying124 Tryd.underlying5 (by kernel_rfl) (by kernel_rfl) h0.tail
  intro i hi
  exact ht.cell (by kernel_rfl) i hi

theorem bcell {W w1 : World} (hb : Below W.heap.size W w1) : ∀ b o, b < W.heap.size → w1.cell? ⟨b, o, none⟩ = W.cell? ⟨b, o, none⟩ := fun b o h => hb.cell (p := ⟨b, o, none⟩) h
set_option maxHeartbeats 1600000 in
theorem walk (S V : ByteArray) (w : World) (hT : Tab w) (hS : S.size ≤ maxLen) (hV : V.size ≤ maxLen) :
    Calls Tryd.prog 5 #[.agg #[.string S, .string V]] w fun e w' => e = .returned (.bool true) ∧ Below w.heap.size w w' := by
  have hT0 := hT.alloc (.cells #[.string S, .string V] 49)
  have hfin : Below w.heap.size w (w.alloc (.cells #[.string S, .string V] 49)) := (Below.refl _ _).alloc (Nat.le_refl _) _
  have hgt := hT0.lt
  have hz : w.heap.size ≤ (w.alloc (.cells #[.string S, .string V] 49)).heap.size := by simp
  by_cases h : S.size + V.size ≤ 1048576
  · clear hS hV
    go_enter Tryd.func5, Tryd.ntmps5
    go_wp2_with fail
    refine (sz_yes S V 1048576 _ h (by decide)).mono ?_
    rintro e w1 ⟨rfl, hb1⟩
    have hc1 := bcell hb1
    go_wp2_with fail
    refine (toField_any S V _).mono ?_
    rintro e w2 ⟨rfl, hb2'⟩
    have hb2 := hb1.trans (hb2'.mono hb1.size)
    have hc2 := bcell hb2
    clear hc1
    go_wp2_with fail
    refine (specGoodF_any S V _ (by omega) (by omega)).mono ?_
    rintro e w3 ⟨rfl, hb3'⟩
    have hb3 := hb2.trans (hb3'.mono hb2.size)
    have hc3 := bcell hb3
    clear hc2
    go_wp2_with fail
    refine (toField_any S V _).mono ?_
    rintro e w4 ⟨rfl, hb4'⟩
    have hb4 := hb3.trans (hb4'.mono hb3.size)
    clear hc3
    go_wp2_with fail
    refine (implGoodF_any S V _ (hT0.below hb4 hgt) (by omega)).mono ?_
    rintro e w5 ⟨rfl, hb5'⟩
    have hb5 := hb4.trans (hb5'.mono hb4.size)
    go_wp2
    go_ret
    exact ⟨rfl, hfin.trans (hb5.mono hz)⟩
  · go_enter Tryd.func5, Tryd.ntmps5
    go_wp2_with fail
    refine (sz_no S V 1048576 _ hS hV h (by decide)).mono ?_
    rintro e w1 ⟨rfl, hb1⟩
    go_wp2
    go_ret
    exact ⟨rfl, hfin.trans (hb1.mono hz)⟩

set_option maxRecDepth 100000 in
theorem contract (H : Type) (enc : TypeId × Value → H) (W : World) (base : Nat) (args : Array Value) (ds gs : List (DataW H)) (before : List MemPlace)
    (hval0 : ∀ (j : Nat) t v, Tryd.f5.params[j]? = some t → args[j]? = some v → Value.okWide Tryd.prog W .any base t v)
    (hW : DataW.Whole enc Tryd.prog Tryd.f5.params.toList Rows.fnExactGoodFieldSpec.vars false W args.toList ds gs before) (hL : laidMetH Tryd.prog Rows.fnExactGoodFieldRow.laid W) (_hsh : W.ShapedOpen Tryd.prog) :
    Calls Tryd.prog 5 args W fun e W' => ∃ v, e = .returned v ∧ Rows.fnExactGoodFieldSpec.post enc Tryd.prog Tryd.f5 false true false false W args v W' := by
  have hval : ∀ (j : Nat) t v, Tryd.f5.params[j]? = some t → args[j]? = some v → Value.okWide Tryd.prog W .any base t v := hval0
  have hW' := hW
  obtain ⟨p, q, hA0, hV, rfl, hfz, hnd⟩ := hW
  have hA : DataW.TrodAll enc Tryd.prog W 0 (fun _ => true) true Tryd.f5.params.toList args.toList ds p := hA0
  rw [Tryd.params5] at hA hval
  obtain ⟨v0, vs0, d0, ds0, p0, q0, hargs, rfl, rfl, h0, r0⟩ := trodAll_cons hA
  obtain ⟨rfl, rfl, rfl⟩ := trodAll_nil r0
  obtain rfl : args = #[v0] := by cases args; simp_all
  obtain ⟨g1, t1, cs1, fuel1, x1, y1, hgs, _⟩ := trodVars_one hV
  have k0 := h0
  have lt0 : ∀ x ∈ p0, x.block < W.heap.size := by obtain ⟨m, hm⟩ := k0; exact DataW.trod_lt m _ _ _ hm
  obtain ⟨S0, V0, rfl, zS0, zV0⟩ := Lwf.open_field (hval 0 49 v0 rfl rfl) h0
  clear hA0 hval0
  refine (walk S0 V0 W (tab_of hL) zS0 zV0).mono fun e W' ⟨he, bel⟩ => ?_
  subst he
  have hvars := Below.trodVars laidOut bel (ns := Rows.fnExactGoodFieldSpec.vars) (by kernel_rfl) hV
  subst hgs
  exact ⟨_, rfl, _, _, _, [], _, _, hW', trodAll_mk1 (shut_bool Tryd.underlying4 _), trodAll_cons_mk (Below.trod laidOut (by kernel_rfl) (of_decide_eq_true (by kernel_rfl)) k0 bel lt0) (trodAll_mk0), hvars, bel.frame _, fun h => by cases h⟩

/-- A world for the witness: the settled one, each listed table holding what its initialiser lays. -/
def layAt (w : World) (g : Nat) (cs : Array Value) : World :=
  { w with heap := w.heap.modify g fun
      | .cells _ t frozen => .cells cs t frozen
      | o => o }
def laidWorld (P : Program) (os : Os) : World := layAt (layAt (layAt (World.holding P os ⟨#[], #[], []⟩) 3 (tabAccept.map fun z => Value.int .u8 z).toArray) 0 (Byt.kinds.map fun z => Value.int .u8 z).toArray) 2 tabFirst
theorem laid_met (os : Os) : laidMet Tryd.prog Rows.fnExactGoodFieldRow.laid ((laidWorld Tryd.prog os).forCall (fun _ _ => 0) ⟨#[], #[.agg #[.string ⟨#[]⟩, .string ⟨#[]⟩]], []⟩).memory :=
  laidMet_of_run' 8 (by kernel_rfl) (by kernel_rfl)
theorem reads (os : Os) {H : Type} (enc : TypeId × Value → H) : ∃ places, DataW.whole enc Tryd.prog ((laidWorld Tryd.prog os).forCall (fun _ _ => 0) ⟨#[], #[.agg #[.string ⟨#[]⟩, .string ⟨#[]⟩]], []⟩).memory Tryd.f5.params.toList Rows.fnExactGoodFieldSpec.vars false (#[.agg #[.string ⟨#[]⟩, .string ⟨#[]⟩]] : Array Value).toList 8 = some ([.agg [.lit (.string []), .lit (.string [])]], [Rows.laid_loop_example_g00256_impl_byteKinds], places) :=
  ⟨MemPlace.row ⟨0, 0, none⟩ 128, by kernel_rfl⟩

set_option maxRecDepth 100000 in
theorem lifted (os : Os) (started : os.Started) (H : Type) (enc : TypeId × Value → H) (F : Stop.Interp) :
    ReturnsInHanded {} Tryd.checked os 5 .any ((OpenSpec.ofChange Rows.fnExactGoodFieldSpec).preRow enc Tryd.prog Tryd.f5 Rows.fnExactGoodFieldRow.domain false Rows.fnExactGoodFieldRow.laid) (((OpenSpec.ofChange Rows.fnExactGoodFieldSpec).at F).post enc Tryd.prog Tryd.f5 false true false false) := by
  obtain ⟨places, hx⟩ := reads os enc
  refine returnsInHanded_of_row (C := Tryd.checked) (s := OpenSpec.ofChange Rows.fnExactGoodFieldSpec) own started (by kernel_rfl) Tryd.func5
    (witness_row_at (enc := enc) (C := Tryd.checked) false (laidWorld Tryd.prog os) #[.agg #[.string ⟨#[]⟩, .string ⟨#[]⟩]] rfl (by kernel_rfl) (by kernel_rfl) (by kernel_rfl)
      (OpenSpec.preRow_of_cond 8 hx (by kernel_rfl) (fun k hk => by cases hk) (by kernel_rfl) (laid_met os))) ?_
  intro W base args ds gs before hval hW _ _ _ hL hsh _
  exact contract H enc W base args ds gs before hval hW hL hsh

theorem said : Rows.FnExactGoodFieldSaid :=
  OpenClaim.holds_of_cond 5 Tryd.f5 rfl rfl rfl rfl rfl rfl rfl ⟨rfl, rfl, rfl, rfl, rfl⟩ rfl rfl rfl rfl rfl (by kernel_rfl) Tryd.func5 (by kernel_rfl)
    (of_decide_eq_true (by kernel_rfl)) (by unfold Func.isWrapper; first | (rw [if_pos (by decide +kernel)]; kernel_rfl) | (rw [if_neg (by decide +kernel)]; exact ⟨rfl, rfl⟩))
    (fun os started H enc _ F => by rw [OpenClaim.pre_eq_preRow]; exact lifted os started H enc F)

theorem plain (f : FuncId) (fn : Func) (hf : Tryd.pinned.checked.prog.funcNamed "loop.example/g00256/laws.FnExactGoodField" = some f) (hfn : Tryd.pinned.checked.prog.funcs[f]? = some fn) :
    false = Tryd.pinned.checked.prog.looks [] ∧ ∀ (j : Nat) t, fn.params[j]? = some t → Tryd.pinned.checked.prog.wantsStandIn t = false := by
  obtain rfl : f = 5 := Option.some.inj ((show Tryd.prog.funcNamed "loop.example/g00256/laws.FnExactGoodField" = some 5 by kernel_rfl).symm.trans hf) |>.symm
  obtain rfl : fn = Tryd.f5 := (Option.some.inj (Tryd.func5.symm.trans hfn)).symm
  refine ⟨by kernel_rfl, fun j t ht => ?_⟩
  rw [Tryd.params5] at ht
  have hm := Array.mem_of_getElem? ht
  simp only [List.mem_toArray, List.mem_cons, List.not_mem_nil, or_false] at hm
  subst hm
  exact (show Tryd.prog.wantsStandIn 49 = false by kernel_rfl)

/-- The card. -/
theorem card : Rows.FnExactGoodFieldCardSaid :=
  Claim7.holds_tied_plain_at .later [] _ _ _ _ said (fun _ h => by cases h) (by kernel_rfl) (fun _ h => by cases h) fnExactGoodField_row_tie rfl ⟨rfl, rfl⟩ (by kernel_rfl) rfl plain (by kernel_rfl)

end Go.Proofs.YtlofjmfaanchjaaDoor.GfLaw
