/-
  The law FnExactChunkBytes: at all pieces impl.ChunkBytes answers as spec.ChunkBytes, and writes into no argument. Condition: the tables that it lists read as the program's text lays them (tied by the card).
-/
import Derived.Test.YtnabjlfdeccmeaaDoorCards
import Derived.Test.YtnabjlfdeccmeaaDoorTie
import Derived.Test.YtnabjlfdeccmeaaDoorCks
import Derived.Test.YtnabjlfdeccmeaaDoorCkj
import Derived.Test.YtnabjlfdeccmeaaDoorStc
import Derived.WalkKit
import Derived.ProofKit
import Derived.OpenShut
import Derived.ShutString
import Derived.OpenVars
import Derived.Stop.LaidErr
import Derived.Deep.DeepHandedRow
import Derived.Lib.LaidTab
import Derived.Lib.ItoaNum
namespace Go.Proofs.YtnabjlfdeccmeaaDoor.CkLaw
open Go.ChangeShapes Go.WideShapes Go.ChangeAt Go.RowKit
open Go.ChangeMaps (open_string shut_string)

theorem own : ownKnob Tryd.prog.godebug = none := by kernel_rfl
theorem laidOut : laidOutB Tryd.prog = true := by kernel_rfl
def tab32 : List Int := [0, 1, 28, 2, 29, 14, 24, 3, 30, 22, 20, 15, 25, 17, 4, 8, 31, 27, 13, 23, 21, 19, 16, 7, 26, 12, 18, 6, 11, 5, 10, 9]
def tab64 : List Int := [0, 1, 56, 2, 57, 49, 28, 3, 61, 58, 42, 50, 38, 29, 17, 4, 62, 47, 59, 36, 45, 43, 51, 22, 53, 39, 33, 30, 24, 18, 12, 5, 63, 55, 48, 27, 60, 41, 37, 16, 46, 35, 44, 21, 52, 32, 23, 11, 54, 26, 40, 15, 34, 20, 31, 10, 25, 14, 19, 9, 13, 8, 7, 6]
theorem cell_of {W : World} (h : laidMetH Tryd.prog Rows.fnExactChunkBytesRow.laid W) : W.cell? ⟨4, 15, none⟩ = some (.int .u8 4) := by
  have h0 : laidMet Tryd.prog Rows.fnExactChunkBytesRow.laid W := h
  have ht : Lib.TabIs Tryd.prog W "math/bits.deBruijn64tab" .u8 tab64 := Lib.tabIs_of_head (rest := [("internal/strconv.uint64pow10", Rows.laid_internal_strconv_uint64pow10)]) (show Tryd.prog.globalNamed "math/bits.deBruijn64tab" = some 4 by kernel_rfl) (show (Tryd.prog.globals[4]?).map (·.type) = some 83 by kernel_rfl) Tryd.underlying83 Tryd.underlying5 (by kernel_rfl) (by kernel_rfl) h0.tail
  exact ht.cell (show Tryd.prog.globalNamed "math/bits.deBruijn64tab" = some 4 by kernel_rfl) 15 (by decide)

set_option maxHeartbeats 1600000 in
theorem walk (a : Option Addr) (ca : Nat) (l : List ByteArray) (w : World) (hT : w.cell? ⟨4, 15, none⟩ = some (.int .u8 4)) (hl : l.length ≤ maxLen) (hx : ∀ x ∈ l, x.size ≤ maxLen) (ha : Sts.AV w a l) :
    Calls Tryd.prog 3 #[.slice a l.length ca] w fun e w' => e = .returned (.bool true) ∧ Below w.heap.size w w' := by
  have hlt0 := World.block_lt_of_cell? _ _ hT
  have HC : Hid (w.cell? ⟨4, 15, none⟩ = some (.int .u8 4)) := hT
  clear hT
  have HZ : Hid _ := Sts.szStringS_any a ca l w hl hx ha
  go_enter Tryd.func3, Tryd.ntmps3
  go_wp2_with fail
  refine (Calls.mono HZ.out ?_)
  rintro e w1 ⟨v, rfl, hv, hb1⟩
  by_cases hneg : v < 0
  · have hd : decide (v < 0) = true := decide_eq_true hneg
    go_wp2_with fail
    go_ret
    exact ⟨rfl, hb1⟩
  have hd : decide (v < 0) = false := decide_eq_false hneg
  obtain ⟨hl1, hx1⟩ := hv (by omega)
  have HT : Hid _ := fun w h => Sts.toStringS_any a ca l w hl1 h
  have hx2 : ∀ x ∈ l, x.size ≤ 2000000 := by
    intro x h
    obtain ⟨j, hj, rfl⟩ := List.getElem_of_mem h
    have := hx1 j hj
    omega
  have HSp : Hid _ := fun a' w lo' hi' c => Ckm.specChunk_any a' l.length l w lo' hi' (by omega) hx2 c
  have HIm : Hid _ := fun a' w lo' hi' t c => Ckm.implChunk_any a' l.length l w lo' hi' hx2 c t
  have HE : Hid _ := fun a' b' w x y x' y' p q => Mrk.eqS_any a' b' l.length l.length l w x y x' y' (by omega) p q
  generalize Ckm.ckS l = B at HSp HIm
  generalize Ckm.pcs l = ok at HSp HIm
  have hsb := Mrk.same_text B
  have ha1 := ha.below hb1
  clear hx hx1 hx2 hl hv ha
  obtain ⟨n, hn⟩ : ∃ n, n = l.length := ⟨_, rfl⟩
  go_wp2_with fail
  refine (HT.out _ ha1).mono ?_
  rintro e w2 ⟨rfl, T2, hb2'⟩
  have hb2 := hb1.trans (hb2'.mono hb1.size)
  have ha2 := ha1.below hb2'
  clear hb2'
  go_wp2_with fail
  refine (HSp.out _ _ _ _ T2).mono ?_
  rintro e w3 ⟨rfl, hb3'⟩
  have hb3 := hb2.trans (hb3'.mono hb2.size)
  have ha3 := ha2.below hb3'
  clear hb3' ha2 ha1 T2 hb2 hb1
  go_wp2_with fail
  refine (HT.out _ ha3).mono ?_
  rintro e w4 ⟨rfl, T4, hb4'⟩
  have hb4 := hb3.trans (hb4'.mono hb3.size)
  have ha4 := ha3.below hb4'
  clear hb4' ha3 hb3
  go_wp2_with fail
  refine (HIm.out _ _ _ _ ((hb4.cell (p := ⟨4, 15, none⟩) hlt0).trans HC.out) T4).mono ?_
  rintro e w5 ⟨rfl, hb5'⟩
  have hb5 := hb4.trans (hb5'.mono hb4.size)
  have ha5 := ha4.below hb5'
  have T5 := T4.below hb5'
  clear hb5' ha4 T4 hb4
  go_wp2_with fail
  refine (HT.out _ ha5).mono ?_
  rintro e w6 ⟨rfl, T6, hb6'⟩
  have hb6 := hb5.trans (hb6'.mono hb5.size)
  have T56 := T5.below hb6'
  clear hb6' ha5 T5 hb5
  go_wp2_with fail
  refine (HE.out _ _ _ _ _ _ _ T56 T6).mono ?_
  rintro e w7 ⟨rfl, hb7'⟩
  have hb7 := hb6.trans (hb7'.mono hb6.size)
  go_wp2_with fail
  go_ret
  exact ⟨rfl, hb7⟩

set_option maxRecDepth 100000 in
theorem contract (H : Type) (enc : TypeId × Value → H) (W : World) (base : Nat) (args : Array Value) (ds gs : List (DataW H)) (before : List MemPlace)
    (hval0 : ∀ (j : Nat) t v, Tryd.f3.params[j]? = some t → args[j]? = some v → Value.okWide Tryd.prog W .any base t v)
    (hW : DataW.Whole enc Tryd.prog Tryd.f3.params.toList Rows.fnExactChunkBytesSpec.vars false W args.toList ds gs before) (hL : laidMetH Tryd.prog Rows.fnExactChunkBytesRow.laid W) (_hsh : W.ShapedOpen Tryd.prog) :
    Calls Tryd.prog 3 args W fun e W' => ∃ v, e = .returned v ∧ Rows.fnExactChunkBytesSpec.post enc Tryd.prog Tryd.f3 false true false false W args v W' := by
  have hval : ∀ (j : Nat) t v, Tryd.f3.params[j]? = some t → args[j]? = some v → Value.okWide Tryd.prog W .any base t v := hval0
  have hW' := hW
  obtain ⟨p, q, hA0, hV, rfl, hfz, hnd⟩ := hW
  have hA : DataW.TrodAll enc Tryd.prog W 0 (fun _ => true) true Tryd.f3.params.toList args.toList ds p := hA0
  rw [Tryd.params3] at hA hval
  obtain ⟨v0, vs0, d0, ds0, p0, q0, hargs, rfl, rfl, h0, r0⟩ := trodAll_cons hA
  obtain ⟨rfl, rfl, rfl⟩ := trodAll_nil r0
  obtain rfl : args = #[v0] := by cases args; simp_all
  have k0 := h0
  have lt0 : ∀ x ∈ p0, x.block < W.heap.size := by obtain ⟨m, hm⟩ := k0; exact DataW.trod_lt m _ _ _ hm
  obtain ⟨a0, c0, l0, rfl, hAV0, hln0, hlx0⟩ := Sts.open_texts (hval 0 22 v0 rfl rfl) h0
  clear hA0 hval0
  refine (walk a0 c0 l0 W (cell_of hL) hln0 hlx0 hAV0).mono fun e W' ⟨he, bel⟩ => ?_
  subst he
  obtain ⟨rfl, rfl⟩ := trodVars_none hV
  have hvars : DataW.TrodVars enc Tryd.prog W' (fun b => decide (b < W.heap.size)) [] [] [] := rfl
  exact ⟨_, rfl, _, _, _, [], _, _, hW', trodAll_mk1 (shut_bool Tryd.underlying4 _), trodAll_cons_mk (Below.trod laidOut (by kernel_rfl) (of_decide_eq_true (by kernel_rfl)) k0 bel lt0) (trodAll_mk0), hvars, bel.frame _, fun h => by cases h⟩

/-- A world for the witness: the settled one, each listed table holding what its initialiser lays. -/
def layAt (w : World) (g : Nat) (cs : Array Value) : World :=
  { w with heap := w.heap.modify g fun
      | .cells _ t frozen => .cells cs t frozen
      | o => o }
def laidWorld (P : Program) (os : Os) : World := layAt (layAt (layAt (World.holding P os ⟨#[], #[], []⟩) 3 (tab32.map fun z => Value.int .u8 z).toArray) 4 (tab64.map fun z => Value.int .u8 z).toArray) 1 (Lib.pow10Tab.map fun z => Value.int .u64 z).toArray
theorem laid_met (os : Os) : laidMet Tryd.prog Rows.fnExactChunkBytesRow.laid ((laidWorld Tryd.prog os).forCall (fun _ _ => 0) ⟨#[], #[.slice none 0 0], []⟩).memory :=
  laidMet_of_run' 8 (by kernel_rfl) (by kernel_rfl)
theorem reads (os : Os) {H : Type} (enc : TypeId × Value → H) : ∃ places, DataW.whole enc Tryd.prog ((laidWorld Tryd.prog os).forCall (fun _ _ => 0) ⟨#[], #[.slice none 0 0], []⟩).memory Tryd.f3.params.toList Rows.fnExactChunkBytesSpec.vars false (#[.slice none 0 0] : Array Value).toList 8 = some ([.nil], [], places) :=
  ⟨[], by kernel_rfl⟩

set_option maxRecDepth 100000 in
theorem lifted (os : Os) (started : os.Started) (H : Type) (enc : TypeId × Value → H) (F : Stop.Interp) :
    ReturnsInHanded {} Tryd.checked os 3 .any ((OpenSpec.ofChange Rows.fnExactChunkBytesSpec).preRow enc Tryd.prog Tryd.f3 Rows.fnExactChunkBytesRow.domain false Rows.fnExactChunkBytesRow.laid) (((OpenSpec.ofChange Rows.fnExactChunkBytesSpec).at F).post enc Tryd.prog Tryd.f3 false true false false) := by
  obtain ⟨places, hx⟩ := reads os enc
  refine returnsInHanded_of_row (C := Tryd.checked) (s := OpenSpec.ofChange Rows.fnExactChunkBytesSpec) own started (by kernel_rfl) Tryd.func3
    (witness_row_at (enc := enc) (C := Tryd.checked) false (laidWorld Tryd.prog os) #[.slice none 0 0] rfl (by kernel_rfl) (by kernel_rfl) (by kernel_rfl)
      (OpenSpec.preRow_of_cond 8 hx (by kernel_rfl) (fun k hk => by cases hk) (by kernel_rfl) (laid_met os))) ?_
  intro W base args ds gs before hval hW _ _ _ hL hsh _
  exact contract H enc W base args ds gs before hval hW hL hsh

theorem said : Rows.FnExactChunkBytesSaid :=
  OpenClaim.holds_of_cond 3 Tryd.f3 rfl rfl rfl rfl rfl rfl rfl ⟨rfl, rfl, rfl, rfl, rfl⟩ rfl rfl rfl rfl rfl (by kernel_rfl) Tryd.func3 (by kernel_rfl)
    (of_decide_eq_true (by kernel_rfl)) (by unfold Func.isWrapper; first | (rw [if_pos (by decide +kernel)]; kernel_rfl) | (rw [if_neg (by decide +kernel)]; exact ⟨rfl, rfl⟩))
    (fun os started H enc _ F => by rw [OpenClaim.pre_eq_preRow]; exact lifted os started H enc F)

theorem plain (f : FuncId) (fn : Func) (hf : Tryd.pinned.checked.prog.funcNamed "loop.example/g00256/laws.FnExactChunkBytes" = some f) (hfn : Tryd.pinned.checked.prog.funcs[f]? = some fn) :
    false = Tryd.pinned.checked.prog.looks [] ∧ ∀ (j : Nat) t, fn.params[j]? = some t → Tryd.pinned.checked.prog.wantsStandIn t = false := by
  obtain rfl : f = 3 := Option.some.inj ((show Tryd.prog.funcNamed "loop.example/g00256/laws.FnExactChunkBytes" = some 3 by kernel_rfl).symm.trans hf) |>.symm
  obtain rfl : fn = Tryd.f3 := (Option.some.inj (Tryd.func3.symm.trans hfn)).symm
  refine ⟨by kernel_rfl, fun j t ht => ?_⟩
  rw [Tryd.params3] at ht
  have hm := Array.mem_of_getElem? ht
  simp only [List.mem_toArray, List.mem_cons, List.not_mem_nil, or_false] at hm
  subst hm
  exact (show Tryd.prog.wantsStandIn 22 = false by kernel_rfl)

/-- The card. -/
theorem card : Rows.FnExactChunkBytesCardSaid :=
  Claim7.holds_tied_plain_at .later [] _ _ _ _ said (fun _ h => by cases h) (by kernel_rfl) (fun _ h => by cases h) fnExactChunkBytes_row_tie rfl ⟨rfl, rfl⟩ (by kernel_rfl) rfl plain (by kernel_rfl)

end Go.Proofs.YtnabjlfdeccmeaaDoor.CkLaw
