/-
  The law FnExactTagsOf: at every text impl.TagsOf answers as spec.TagsOf, tag by tag; its answer owns its memory. Condition: the tables that it lists read as the program's text lays them (tied by the card).
-/
import Derived.Test.YtgidmoncocbfiaaDoorCards
import Derived.Test.YtgidmoncocbfiaaDoorTie
import Derived.Test.YtgidmoncocbfiaaDoorTgy
import Derived.Test.YtgidmoncocbfiaaDoorTgz
import Derived.Test.YtgidmoncocbfiaaDoorTgm
import Derived.WalkKit
import Derived.ProofKit
import Derived.OpenShut
import Derived.ShutString
import Derived.OpenVars
import Derived.Stop.LaidErr
import Derived.Deep.DeepHandedRow
import Derived.Lib.LaidTab
namespace Go.Proofs.YtgidmoncocbfiaaDoor.TxLaw
open Go.ChangeShapes Go.WideShapes Go.ChangeAt Go.RowKit
open Go.ChangeMaps (open_string shut_string)
open Go.Proofs.YtgidmoncocbfiaaDoor.Tga
open Go.Proofs.YtgidmoncocbfiaaDoor.Tgb
open Go.Proofs.YtgidmoncocbfiaaDoor.Tgx

theorem own : ownKnob Tryd.prog.godebug = none := by kernel_rfl
theorem laidOut : laidOutB Tryd.prog = true := by kernel_rfl
def tabAccept : List Int := [128, 191, 160, 191, 128, 159, 144, 191, 128, 143] ++ List.replicate 22 0
def tabFirst : Array Value := (Go.Pinned.utf8FirstZ.map fun (z : Nat) => Value.int .u8 (z : Int)).toArray
open Go.Proofs.YtgidmoncocbfiaaDoor.Mrk (below_grown)
theorem tags_len (o : Option (List ByteArray)) : (tagsR o).length ≤ 400 := by
  unfold tagsR
  split
  · rename_i h
    cases o with
    | none => simp [outs]
    | some l =>
      have h2 : kindL l = 2 := h
      unfold kindL at h2
      split at h2
      · have := outs_len l
        show (outs l).length ≤ 400
        omega
      · cases h2
  · exact Nat.zero_le _
theorem tags_gv {w' : World} {B : Nat} {e : Ending} {o : Option (List ByteArray)} (h : TagsP w' B e o) : ∃ a cap, e = .returned (.tuple #[.slice a (tagsR o).length cap, .bool (oneR o), .bool (okR o)]) ∧ GV w' a (tagsR o) B w'.heap.size := by
  obtain ⟨v, rfl, hv⟩ := h
  obtain ⟨a, cap, rfl, hg⟩ := gv_of hv
  exact ⟨a, cap, rfl, hg⟩
set_option maxHeartbeats 1600000 in
theorem walk (s : ByteArray) (w : World) :
    Calls Tryd.prog 4 #[.string s] w fun e w' => e = .returned (.bool true) ∧ Below w.heap.size w w' := by
  by_cases hz : 1048576 < s.size
  · go_enter Tryd.func4, Tryd.ntmps4
    go_wp2
    go_ret
    exact ⟨rfl, Below.refl _ _⟩
  · have hl := tags_len (Lsp.listO s)
    have HS : Hid (∀ w, Calls Tryd.prog 13 #[.string s] w fun e w' => (∃ a cap, e = .returned (.tuple #[.slice a (tagsR (Lsp.listO s)).length cap, .bool (oneR (Lsp.listO s)), .bool (okR (Lsp.listO s))]) ∧ GV w' a (tagsR (Lsp.listO s)) w.heap.size w'.heap.size) ∧ Below w.heap.size w w') :=
      fun w => (specTags_any s w (by omega)).mono fun e w' ⟨h, hb⟩ => ⟨tags_gv h, hb⟩
    have HI : Hid (∀ w, Calls Tryd.prog 12 #[.string s] w fun e w' => (∃ a cap, e = .returned (.tuple #[.slice a (tagsR (Lsp.listO s)).length cap, .bool (oneR (Lsp.listO s)), .bool (okR (Lsp.listO s))]) ∧ GV w' a (tagsR (Lsp.listO s)) w.heap.size w'.heap.size) ∧ Below w.heap.size w w') :=
      fun w => (implTags_any s w (by omega)).mono fun e w' ⟨h, hb⟩ => ⟨tags_gv h, hb⟩
    generalize tagsR (Lsp.listO s) = l at HS HI hl
    generalize oneR (Lsp.listO s) = b1 at HS HI
    generalize okR (Lsp.listO s) = b2 at HS HI
    have HE : Hid (∀ a b ca cb w lo hi lo' hi', GV w a l lo hi → GV w b l lo' hi' → Calls Tryd.prog 14 #[.slice a l.length ca, .slice b l.length cb] w fun e w' => e = .returned (.bool true) ∧ Below w.heap.size w w') :=
      fun a b ca cb w lo hi lo' hi' h1 h2 => eqGS_any a b ca cb l w lo hi lo' hi' (by omega) h1 h2
    have HM : Hid (∀ a ca w lo hi, GV w a l lo hi → Calls Tryd.prog 15 #[.slice a l.length ca, .int .i64 1] w fun e w' => e = .returned (.int .i64 (1 + 2 * (l.length : Int))) ∧ GV w' a (marksG 1 l.length) lo hi ∧ ∃ row, w.grownBy w' row ∧ ∀ g, row = some g → lo ≤ g ∧ g < hi) :=
      fun a ca w lo hi h => markG_one a ca l w lo hi (by omega) h
    have HH : Hid (∀ a ca w lo hi, GV w a (marksG 1 l.length) lo hi → Calls Tryd.prog 16 #[.slice a l.length ca, .int .i64 1] w fun e w' => e = .returned (.int .i64 (1 + 2 * (l.length : Int))) ∧ Below w.heap.size w w') :=
      fun a ca w lo hi h => heldG_one a ca l.length w lo hi (by omega) h
    have hb1b : (b1 != b1) = false := by simp
    have hb2b : (b2 != b2) = false := by simp
    obtain ⟨n, hn⟩ : ∃ n, n = l.length := ⟨_, rfl⟩
    rw [← hn] at HS HI HE HM HH hl
    have hneg : decide (1 + 2 * (n : Int) < 0) = false := decide_eq_false (by omega)
    clear hn
    go_enter Tryd.func4, Tryd.ntmps4
    go_wp2_with fail
    refine (HS.out _).mono ?_
    rintro e w1 ⟨⟨a0, c0, rfl, T0⟩, hb1⟩
    go_wp2_with fail
    refine (HI.out _).mono ?_
    rintro e w2 ⟨⟨a1, c1, rfl, T1⟩, hb2⟩
    have T02 := T0.below hb2
    have hB2 : Below w.heap.size w w2 := hb1.trans (hb2.mono hb1.size)
    have s1 := hb1.size
    clear T0 hb1
    go_wp2_with fail
    refine (HE.out _ _ _ _ _ _ _ _ _ T1 T02).mono ?_
    rintro e w3 ⟨rfl, hb3⟩
    have T13 := T1.below hb3
    have T03 := T02.below hb3
    have hB3 : Below w.heap.size w w3 := hB2.trans (hb3.mono hB2.size)
    clear hb3 T1 T02 hB2
    go_wp2_with fail
    refine (HM.out _ _ _ _ _ T13).mono ?_
    rintro e w4 ⟨rfl, T14, row, hg, hrow⟩
    have T04 := T03.kept hg (fun g e => (hrow g e).1)
    have hB4 : Below w.heap.size w w4 := below_grown hB3 hg hB3.size (fun g e => Nat.le_trans s1 (hrow g e).1)
    clear hg hrow T03 T13 hB3
    go_wp2_with fail
    refine (HH.out _ _ _ _ _ T14).mono ?_
    rintro e w5 ⟨rfl, hb5⟩
    have T15 := T14.below hb5
    have T05 := T04.below hb5
    have hB5 : Below w.heap.size w w5 := hB4.trans (hb5.mono hB4.size)
    clear hb5 T14 T04 hB4
    go_wp2_with fail
    refine (HI.out _).mono ?_
    rintro e w6 ⟨⟨a2, c2, rfl, T2⟩, hb6⟩
    have T16 := T15.below hb6
    have T06 := T05.below hb6
    have hB6 : Below w.heap.size w w6 := hB5.trans (hb6.mono hB5.size)
    clear hb6 T15 T05 hB5
    go_wp2_with fail
    refine (HE.out _ _ _ _ _ _ _ _ _ T2 T06).mono ?_
    rintro e w7 ⟨rfl, hb7⟩
    have T17 := T16.below hb7
    have hB7 : Below w.heap.size w w7 := hB6.trans (hb7.mono hB6.size)
    clear hb7 T16 hB6
    go_wp2_with fail
    refine (HH.out _ _ _ _ _ T17).mono ?_
    rintro e w8 ⟨rfl, hb8⟩
    have hB8 : Below w.heap.size w w8 := hB7.trans (hb8.mono hB7.size)
    go_wp2_with fail
    go_ret
    exact ⟨rfl, hB8⟩

set_option maxRecDepth 100000 in
theorem contract (H : Type) (enc : TypeId × Value → H) (W : World) (base : Nat) (args : Array Value) (ds gs : List (DataW H)) (before : List MemPlace)
    (hval0 : ∀ (j : Nat) t v, Tryd.f4.params[j]? = some t → args[j]? = some v → Value.okWide Tryd.prog W .any base t v)
    (hW : DataW.Whole enc Tryd.prog Tryd.f4.params.toList Rows.fnExactTagsOfSpec.vars false W args.toList ds gs before) (_hL : laidMetH Tryd.prog Rows.fnExactTagsOfRow.laid W) (_hsh : W.ShapedOpen Tryd.prog) :
    Calls Tryd.prog 4 args W fun e W' => ∃ v, e = .returned v ∧ Rows.fnExactTagsOfSpec.post enc Tryd.prog Tryd.f4 false true false false W args v W' := by
  have hval : ∀ (j : Nat) t v, Tryd.f4.params[j]? = some t → args[j]? = some v → Value.okWide Tryd.prog W .any base t v := hval0
  have hW' := hW
  obtain ⟨p, q, hA0, hV, rfl, hfz, hnd⟩ := hW
  have hA : DataW.TrodAll enc Tryd.prog W 0 (fun _ => true) true Tryd.f4.params.toList args.toList ds p := hA0
  rw [Tryd.params4] at hA hval
  obtain ⟨v0, vs0, d0, ds0, p0, q0, hargs, rfl, rfl, h0, r0⟩ := trodAll_cons hA
  obtain ⟨rfl, rfl, rfl⟩ := trodAll_nil r0
  obtain rfl : args = #[v0] := by cases args; simp_all
  have k0 := h0
  have lt0 : ∀ x ∈ p0, x.block < W.heap.size := by obtain ⟨m, hm⟩ := k0; exact DataW.trod_lt m _ _ _ hm
  obtain ⟨s0, rfl, hd0, _, w0⟩ := open_string Tryd.underlying9 (hval 0 9 v0 rfl rfl) h0
  clear hA0 hval0
  refine (walk s0 W).mono fun e W' ⟨he, bel⟩ => ?_
  subst he
  obtain ⟨rfl, rfl⟩ := trodVars_none hV
  have hvars : DataW.TrodVars enc Tryd.prog W' (fun b => decide (b < W.heap.size)) [] [] [] := rfl
  exact ⟨_, rfl, _, _, _, [], _, _, hW', trodAll_mk1 (shut_bool Tryd.underlying4 _), trodAll_cons_mk (Below.trod laidOut (by kernel_rfl) (of_decide_eq_true (by kernel_rfl)) k0 bel lt0) (trodAll_mk0), hvars, bel.frame _, fun h => by cases h⟩

/-- A world for the witness: the settled one, each listed table holding what its initialiser lays. -/
def layAt (w : World) (g : Nat) (cs : Array Value) : World :=
  { w with heap := w.heap.modify g fun
      | .cells _ t frozen => .cells cs t frozen
      | o => o }
def laidWorld (P : Program) (os : Os) : World := layAt (layAt (World.holding P os ⟨#[], #[], []⟩) 2 (tabAccept.map fun z => Value.int .u8 z).toArray) 1 tabFirst
theorem laid_met (os : Os) : laidMet Tryd.prog Rows.fnExactTagsOfRow.laid ((laidWorld Tryd.prog os).forCall (fun _ _ => 0) ⟨#[], #[.string ⟨#[]⟩], []⟩).memory :=
  laidMet_of_run' 8 (by kernel_rfl) (by kernel_rfl)
theorem reads (os : Os) {H : Type} (enc : TypeId × Value → H) : ∃ places, DataW.whole enc Tryd.prog ((laidWorld Tryd.prog os).forCall (fun _ _ => 0) ⟨#[], #[.string ⟨#[]⟩], []⟩).memory Tryd.f4.params.toList Rows.fnExactTagsOfSpec.vars false (#[.string ⟨#[]⟩] : Array Value).toList 8 = some ([.lit (.string [])], [], places) :=
  ⟨[], by kernel_rfl⟩

set_option maxRecDepth 100000 in
theorem lifted (os : Os) (started : os.Started) (H : Type) (enc : TypeId × Value → H) (F : Stop.Interp) :
    ReturnsInHanded {} Tryd.checked os 4 .any ((OpenSpec.ofChange Rows.fnExactTagsOfSpec).preRow enc Tryd.prog Tryd.f4 Rows.fnExactTagsOfRow.domain false Rows.fnExactTagsOfRow.laid) (((OpenSpec.ofChange Rows.fnExactTagsOfSpec).at F).post enc Tryd.prog Tryd.f4 false true false false) := by
  obtain ⟨places, hx⟩ := reads os enc
  refine returnsInHanded_of_row (C := Tryd.checked) (s := OpenSpec.ofChange Rows.fnExactTagsOfSpec) own started (by kernel_rfl) Tryd.func4
    (witness_row_at (enc := enc) (C := Tryd.checked) false (laidWorld Tryd.prog os) #[.string ⟨#[]⟩] rfl (by kernel_rfl) (by kernel_rfl) (by kernel_rfl)
      (OpenSpec.preRow_of_cond 8 hx (by kernel_rfl) (fun k hk => by cases hk) (by kernel_rfl) (laid_met os))) ?_
  intro W base args ds gs before hval hW _ _ _ hL hsh _
  exact contract H enc W base args ds gs before hval hW hL hsh

theorem said : Rows.FnExactTagsOfSaid :=
  OpenClaim.holds_of_cond 4 Tryd.f4 rfl rfl rfl rfl rfl rfl rfl ⟨rfl, rfl, rfl, rfl, rfl⟩ rfl rfl rfl rfl rfl (by kernel_rfl) Tryd.func4 (by kernel_rfl)
    (of_decide_eq_true (by kernel_rfl)) (by unfold Func.isWrapper; first | (rw [if_pos (by decide +kernel)]; kernel_rfl) | (rw [if_neg (by decide +kernel)]; exact ⟨rfl, rfl⟩))
    (fun os started H enc _ F => by rw [OpenClaim.pre_eq_preRow]; exact lifted os started H enc F)

theorem plain (f : FuncId) (fn : Func) (hf : Tryd.pinned.checked.prog.funcNamed "loop.example/g00256/laws.FnExactTagsOf" = some f) (hfn : Tryd.pinned.checked.prog.funcs[f]? = some fn) :
    false = Tryd.pinned.checked.prog.looks [] ∧ ∀ (j : Nat) t, fn.params[j]? = some t → Tryd.pinned.checked.prog.wantsStandIn t = false := by
  obtain rfl : f = 4 := Option.some.inj ((show Tryd.prog.funcNamed "loop.example/g00256/laws.FnExactTagsOf" = some 4 by kernel_rfl).symm.trans hf) |>.symm
  obtain rfl : fn = Tryd.f4 := (Option.some.inj (Tryd.func4.symm.trans hfn)).symm
  refine ⟨by kernel_rfl, fun j t ht => ?_⟩
  rw [Tryd.params4] at ht
  have hm := Array.mem_of_getElem? ht
  simp only [List.mem_toArray, List.mem_cons, List.not_mem_nil, or_false] at hm
  subst hm
  exact (show Tryd.prog.wantsStandIn 9 = false by kernel_rfl)

/-- The card. -/
theorem card : Rows.FnExactTagsOfCardSaid :=
  Claim7.holds_tied_plain_at .later [] _ _ _ _ said (fun _ h => by cases h) (by kernel_rfl) (fun _ h => by cases h) fnExactTagsOf_row_tie rfl ⟨rfl, rfl⟩ (by kernel_rfl) rfl plain (by kernel_rfl)

end Go.Proofs.YtgidmoncocbfiaaDoor.TxLaw
