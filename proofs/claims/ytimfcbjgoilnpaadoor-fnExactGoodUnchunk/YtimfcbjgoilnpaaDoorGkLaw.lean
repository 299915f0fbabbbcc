/-
  The law FnExactGoodUnchunk: at every unchunk impl.GoodUnchunk answers as spec.GoodUnchunk. Condition: impl.byteKinds reads as the program's text lays it (tied by the card).
-/
import Derived.Test.YtimfcbjgoilnpaaDoorCards
import Derived.Test.YtimfcbjgoilnpaaDoorTie
import Derived.Test.YtimfcbjgoilnpaaDoorGdu
import Derived.Test.YtimfcbjgoilnpaaDoorOuk
import Derived.WalkKit
import Derived.ProofKit
import Derived.OpenShut
import Derived.ShutString
import Derived.OpenVars
import Derived.Stop.LaidErr
import Derived.Deep.DeepHandedRow
import Derived.Lib.LaidTab
namespace Go.Proofs.YtimfcbjgoilnpaaDoor.GkLaw
open Go.ChangeShapes Go.WideShapes Go.ChangeAt Go.RowKit
open Go.ChangeMaps (open_string shut_string)
open Go.Proofs.YtimfcbjgoilnpaaDoor.Byt
open Go.Proofs.YtimfcbjgoilnpaaDoor.Hex

theorem own : ownKnob Tryd.prog.godebug = none := by kernel_rfl
theorem laidOut : laidOutB Tryd.prog = true := by kernel_rfl
theorem table {W : World} (h : laidMetH Tryd.prog Rows.fnExactGoodUnchunkRow.laid W) : Tab W := by
  have ht : Lib.TabIs Tryd.prog W "loop.example/g00256/impl.byteKinds" .u8 kinds := Lib.tabIs_of_head (rest := []) (show Tryd.prog.globalNamed "loop.example/g00256/impl.byteKinds" = some 0 by kernel_rfl) (show (Tryd.prog.globals[0]?).map (·.type) = some 89 by kernel_rfl) Tryd.underlying89 Tryd.underlying5 (by kernel_rfl) (by kernel_rfl) h
  intro i hi
  exact ht.cell (by kernel_rfl) i hi

set_option maxHeartbeats 1600000 in
theorem walk (B R : ByteArray) (d g : Bool) (w : World) (hT : Tab w) (hB : B.size ≤ maxLen) (hR : R.size ≤ maxLen) : Calls Tryd.prog 5 #[.agg #[.string B, .string R, .bool d, .bool g]] w fun e w' => e = .returned (.bool true) ∧ Below w.heap.size w w' := by
  have hb1 : Below w.heap.size w (w.alloc (.cells #[.string B, .string R, .bool d, .bool g] 33)) := Unk.bel1 _ _
  by_cases h : B.size + R.size ≤ 1048576
  · have HZ : Hid _ := fun wx => Unk.sz_yes B R d g wx h
    have HO : Hid _ := fun wx => Unk.to_any B R d g wx
    have HS : Hid _ := fun wx => Unk.specGood_any B R d g wx (by omega) (by omega)
    have HI : Hid _ := fun wx hx => Unk.implGood_any B R d g wx hx (by omega) (by omega)
    have HT : Hid (Tab w) := hT
    have hg := hT.lt
    clear hT
    generalize Unk.gU B R d g = x at HS HI
    have Hb1 : Hid _ := hb1
    clear hb1
    go_enter Tryd.func5, Tryd.ntmps5
    go_wp2_with fail
    refine (HZ.out _).mono ?_
    rintro e w2 ⟨rfl, hb2⟩
    have Hb2 : Hid (Below w.heap.size w w2) := Hb1.out.trans (hb2.mono (by simp))
    have c2 := hb2.cell (p := ⟨w.heap.size, 0, none⟩) (by simp)
    have c21 := hb2.cell (p := ⟨w.heap.size, 1, none⟩) (by simp)
    have c22 := hb2.cell (p := ⟨w.heap.size, 2, none⟩) (by simp)
    have c23 := hb2.cell (p := ⟨w.heap.size, 3, none⟩) (by simp)
    have hs2 : w.heap.size + 1 ≤ w2.heap.size := by have := hb2.size; simpa using this
    simp [go_sem] at c2 c21 c22 c23
    clear hb2
    go_wp2_with fail
    refine (HO.out _).mono ?_
    rintro e w3 ⟨rfl, hb3⟩
    have Hb3 : Hid (Below w.heap.size w w3) := Hb2.out.trans (hb3.mono Hb2.out.size)
    have c3 := (hb3.cell (p := ⟨w.heap.size, 0, none⟩) hs2).trans c2
    have c31 := (hb3.cell (p := ⟨w.heap.size, 1, none⟩) hs2).trans c21
    have c32 := (hb3.cell (p := ⟨w.heap.size, 2, none⟩) hs2).trans c22
    have c33 := (hb3.cell (p := ⟨w.heap.size, 3, none⟩) hs2).trans c23
    have hs3 : w.heap.size + 1 ≤ w3.heap.size := Nat.le_trans hs2 hb3.size
    clear hb3 c2 c21 c22 c23
    go_wp2_with fail
    refine (HS.out _).mono ?_
    rintro e w4 ⟨rfl, hb4⟩
    have Hb4 : Hid (Below w.heap.size w w4) := Hb3.out.trans (hb4.mono Hb3.out.size)
    have c4 := (hb4.cell (p := ⟨w.heap.size, 0, none⟩) hs3).trans c3
    have c41 := (hb4.cell (p := ⟨w.heap.size, 1, none⟩) hs3).trans c31
    have c42 := (hb4.cell (p := ⟨w.heap.size, 2, none⟩) hs3).trans c32
    have c43 := (hb4.cell (p := ⟨w.heap.size, 3, none⟩) hs3).trans c33
    clear hb4 c3 c31 c32 c33
    go_wp2_with fail
    refine (HO.out _).mono ?_
    rintro e w5 ⟨rfl, hb5⟩
    have Hb5 : Hid (Below w.heap.size w w5) := Hb4.out.trans (hb5.mono Hb4.out.size)
    clear hb5 c4 c41 c42 c43
    go_wp2_with fail
    refine (HI.out _ (HT.out.below Hb5.out hg)).mono ?_
    rintro e w6 ⟨rfl, hb6⟩
    have Hb6 : Hid (Below w.heap.size w w6) := Hb5.out.trans (hb6.mono Hb5.out.size)
    go_wp2_with fail
    go_ret
    exact ⟨rfl, Hb6.out⟩
  · have HZ : Hid _ := fun wx => Unk.sz_no B R d g wx hB hR h
    go_enter Tryd.func5, Tryd.ntmps5
    go_wp2_with fail
    refine (HZ.out _).mono ?_
    rintro e w2 ⟨rfl, hb2⟩
    go_wp2_with fail
    go_ret
    exact ⟨rfl, hb1.trans (hb2.mono (by simp))⟩

set_option maxRecDepth 100000 in
theorem contract (H : Type) (enc : TypeId × Value → H) (W : World) (base : Nat) (args : Array Value) (ds gs : List (DataW H)) (before : List MemPlace)
    (hval0 : ∀ (j : Nat) t v, Tryd.f5.params[j]? = some t → args[j]? = some v → Value.okWide Tryd.prog W .any base t v)
    (hW : DataW.Whole enc Tryd.prog Tryd.f5.params.toList Rows.fnExactGoodUnchunkSpec.vars false W args.toList ds gs before) (hL : laidMetH Tryd.prog Rows.fnExactGoodUnchunkRow.laid W) (_hsh : W.ShapedOpen Tryd.prog) :
    Calls Tryd.prog 5 args W fun e W' => ∃ v, e = .returned v ∧ Rows.fnExactGoodUnchunkSpec.post enc Tryd.prog Tryd.f5 false true false false W args v W' := by
  have hval : ∀ (j : Nat) t v, Tryd.f5.params[j]? = some t → args[j]? = some v → Value.okWide Tryd.prog W .any base t v := hval0
  have hW' := hW
  obtain ⟨p, q, hA0, hV, rfl, hfz, hnd⟩ := hW
  have hA : DataW.TrodAll enc Tryd.prog W 0 (fun _ => true) true Tryd.f5.params.toList args.toList ds p := hA0
  rw [Tryd.params5] at hA hval
  obtain ⟨v0, vs0, d0, ds0, p0, q0, hargs, rfl, rfl, h0, r0⟩ := trodAll_cons hA
  obtain ⟨rfl, rfl, rfl⟩ := trodAll_nil r0
  obtain rfl : args = #[v0] := by cases args; simp_all
  obtain ⟨g1, t1, cs1, fuel1, x1, y1, hgs, _⟩ := trodVars_one hV
  have k0 := h0
  have lt0 : ∀ x ∈ p0, x.block < W.heap.size := by obtain ⟨m, hm⟩ := k0; exact DataW.trod_lt m _ _ _ hm
  obtain ⟨B0, R0, x0, f0, rfl, hB0, hR0⟩ := Ouk.open_unchunk (hval 0 33 v0 rfl rfl) h0
  clear hA0 hval0
  refine (walk B0 R0 x0 f0 W (table hL) hB0 hR0).mono fun e W' ⟨he, bel⟩ => ?_
  subst he
  have hvars := Below.trodVars laidOut bel (ns := Rows.fnExactGoodUnchunkSpec.vars) (by kernel_rfl) hV
  subst hgs
  exact ⟨_, rfl, _, _, _, [], _, _, hW', trodAll_mk1 (shut_bool Tryd.underlying4 _), trodAll_cons_mk (Below.trod laidOut (by kernel_rfl) (of_decide_eq_true (by kernel_rfl)) k0 bel lt0) (trodAll_mk0), hvars, bel.frame _, fun h => by cases h⟩

/-- A world for the witness: the settled one, each listed table holding what its initialiser lays. -/
def layAt (w : World) (g : Nat) (cs : Array Value) : World :=
  { w with heap := w.heap.modify g fun
      | .cells _ t frozen => .cells cs t frozen
      | o => o }
def laidWorld (P : Program) (os : Os) : World := layAt (World.holding P os ⟨#[], #[], []⟩) 0 (Byt.kinds.map fun z => Value.int .u8 z).toArray
theorem laid_met (os : Os) : laidMet Tryd.prog Rows.fnExactGoodUnchunkRow.laid ((laidWorld Tryd.prog os).forCall (fun _ _ => 0) ⟨#[], #[.agg #[.string ⟨#[]⟩, .string ⟨#[]⟩, .bool false, .bool false]], []⟩).memory :=
  laidMet_of_run' 8 (by kernel_rfl) (by kernel_rfl)
theorem reads (os : Os) {H : Type} (enc : TypeId × Value → H) : ∃ places, DataW.whole enc Tryd.prog ((laidWorld Tryd.prog os).forCall (fun _ _ => 0) ⟨#[], #[.agg #[.string ⟨#[]⟩, .string ⟨#[]⟩, .bool false, .bool false]], []⟩).memory Tryd.f5.params.toList Rows.fnExactGoodUnchunkSpec.vars false (#[.agg #[.string ⟨#[]⟩, .string ⟨#[]⟩, .bool false, .bool false]] : Array Value).toList 8 = some ([.agg [.lit (.string []), .lit (.string []), .lit (.bool false), .lit (.bool false)]], [Rows.laid_loop_example_g00256_impl_byteKinds], places) :=
  ⟨MemPlace.row ⟨0, 0, none⟩ 128, by kernel_rfl⟩

set_option maxRecDepth 100000 in
theorem lifted (os : Os) (started : os.Started) (H : Type) (enc : TypeId × Value → H) (F : Stop.Interp) :
    ReturnsInHanded {} Tryd.checked os 5 .any ((OpenSpec.ofChange Rows.fnExactGoodUnchunkSpec).preRow enc Tryd.prog Tryd.f5 Rows.fnExactGoodUnchunkRow.domain false Rows.fnExactGoodUnchunkRow.laid) (((OpenSpec.ofChange Rows.fnExactGoodUnchunkSpec).at F).post enc Tryd.prog Tryd.f5 false true false false) := by
  obtain ⟨places, hx⟩ := reads os enc
  refine returnsInHanded_of_row (C := Tryd.checked) (s := OpenSpec.ofChange Rows.fnExactGoodUnchunkSpec) own started (by kernel_rfl) Tryd.func5
    (witness_row_at (enc := enc) (C := Tryd.checked) false (laidWorld Tryd.prog os) #[.agg #[.string ⟨#[]⟩, .string ⟨#[]⟩, .bool false, .bool false]] rfl (by kernel_rfl) (by kernel_rfl) (by kernel_rfl)
      (OpenSpec.preRow_of_cond 8 hx (by kernel_rfl) (fun k hk => by cases hk) (by kernel_rfl) (laid_met os))) ?_
  intro W base args ds gs before hval hW _ _ _ hL hsh _
  exact contract H enc W base args ds gs before hval hW hL hsh

theorem said : Rows.FnExactGoodUnchunkSaid :=
  OpenClaim.holds_of_cond 5 Tryd.f5 rfl rfl rfl rfl rfl rfl rfl ⟨rfl, rfl, rfl, rfl, rfl⟩ rfl rfl rfl rfl rfl (by kernel_rfl) Tryd.func5 (by kernel_rfl)
    (of_decide_eq_true (by kernel_rfl)) (by unfold Func.isWrapper; first | (rw [if_pos (by decide +kernel)]; kernel_rfl) | (rw [if_neg (by decide +kernel)]; exact ⟨rfl, rfl⟩))
    (fun os started H enc _ F => by rw [OpenClaim.pre_eq_preRow]; exact lifted os started H enc F)

theorem plain (f : FuncId) (fn : Func) (hf : Tryd.pinned.checked.prog.funcNamed "loop.example/g00256/laws.FnExactGoodUnchunk" = some f) (hfn : Tryd.pinned.checked.prog.funcs[f]? = some fn) :
    false = Tryd.pinned.checked.prog.looks [] ∧ ∀ (j : Nat) t, fn.params[j]? = some t → Tryd.pinned.checked.prog.wantsStandIn t = false := by
  obtain rfl : f = 5 := Option.some.inj ((show Tryd.prog.funcNamed "loop.example/g00256/laws.FnExactGoodUnchunk" = some 5 by kernel_rfl).symm.trans hf) |>.symm
  obtain rfl : fn = Tryd.f5 := (Option.some.inj (Tryd.func5.symm.trans hfn)).symm
  refine ⟨by kernel_rfl, fun j t ht => ?_⟩
  rw [Tryd.params5] at ht
  have hm := Array.mem_of_getElem? ht
  simp only [List.mem_toArray, List.mem_cons, List.not_mem_nil, or_false] at hm
  subst hm
  exact (show Tryd.prog.wantsStandIn 33 = false by kernel_rfl)

/-- The card. -/
theorem card : Rows.FnExactGoodUnchunkCardSaid :=
  Claim7.holds_tied_plain_at .later [] _ _ _ _ said (fun _ h => by cases h) (by kernel_rfl) (fun _ h => by cases h) fnExactGoodUnchunk_row_tie rfl ⟨rfl, rfl⟩ (by kernel_rfl) rfl plain (by kernel_rfl)

end Go.Proofs.YtimfcbjgoilnpaaDoor.GkLaw
