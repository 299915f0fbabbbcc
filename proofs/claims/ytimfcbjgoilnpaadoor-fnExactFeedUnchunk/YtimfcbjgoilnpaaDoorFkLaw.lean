/-
  The law FnExactFeedUnchunk: at every unchunk and text impl.FeedUnchunk answers as spec.FeedUnchunk. Condition: impl.byteKinds reads as the program's text lays it (tied by the card).
-/
import Derived.Test.YtimfcbjgoilnpaaDoorCards
import Derived.Test.YtimfcbjgoilnpaaDoorTie
import Derived.Test.YtimfcbjgoilnpaaDoorFdv
import Derived.Test.YtimfcbjgoilnpaaDoorOuk
import Derived.WalkKit
import Derived.ProofKit
import Derived.OpenShut
import Derived.ShutString
import Derived.OpenVars
import Derived.Stop.LaidErr
import Derived.Deep.DeepHandedRow
import Derived.Lib.LaidTab
namespace Go.Proofs.YtimfcbjgoilnpaaDoor.FkLaw
open Go.ChangeShapes Go.WideShapes Go.ChangeAt Go.RowKit
open Go.ChangeMaps (open_string shut_string)
open Go.Proofs.YtimfcbjgoilnpaaDoor.Byt
open Go.Proofs.YtimfcbjgoilnpaaDoor.Hex

theorem own : ownKnob Tryd.prog.godebug = none := by kernel_rfl
theorem laidOut : laidOutB Tryd.prog = true := by kernel_rfl
theorem table {W : World} (h : laidMetH Tryd.prog Rows.fnExactFeedUnchunkRow.laid W) : Tab W := by
  have ht : Lib.TabIs Tryd.prog W "loop.example/g00256/impl.byteKinds" .u8 kinds := Lib.tabIs_of_head (rest := []) (show Tryd.prog.globalNamed "loop.example/g00256/impl.byteKinds" = some 0 by kernel_rfl) (show (Tryd.prog.globals[0]?).map (·.type) = some 89 by kernel_rfl) Tryd.underlying89 Tryd.underlying5 (by kernel_rfl) (by kernel_rfl) h
  intro i hi
  exact ht.cell (by kernel_rfl) i hi

open Go.Proofs.YtimfcbjgoilnpaaDoor.Unk (Bx mayF implFeed_no implFeed_yes specFeed_no specFeed_yes may_yes sz_yes sz_no to_any eq_same bel1)
/-- Both programs' FeedUnchunk tell one thing. -/
theorem both (B R : ByteArray) (d g : Bool) (s : ByteArray) (hR : R.size ≤ 1900000) (hB : B.size ≤ 1900000) (hs : s.size ≤ 1900000) : ∃ (b r : ByteArray) (x y z : Bool),
    (∀ wx, Calls Tryd.prog 23 #[.agg #[.string B, .string R, .bool d, .bool g], .string s] wx fun e w' => e = .returned (.tuple #[.agg #[.string b, .string r, .bool x, .bool y], .bool z]) ∧ Below wx.heap.size wx w') ∧
    (∀ wx, Tab wx → Calls Tryd.prog 24 #[.agg #[.string B, .string R, .bool d, .bool g], .string s] wx fun e w' => e = .returned (.tuple #[.agg #[.string b, .string r, .bool x, .bool y], .bool z]) ∧ Below wx.heap.size wx w') := by
  cases h : mayF B R d g s
  · exact ⟨_, _, _, _, _, fun wx => specFeed_no B R d g s wx hR hB hs h, fun wx hx => implFeed_no B R d g s wx hx hR hB hs h⟩
  · obtain ⟨h1, rfl, rfl, h4⟩ := may_yes h
    exact ⟨_, _, _, _, _, fun wx => specFeed_yes B R s wx hB h4 h1, fun wx hx => implFeed_yes B R s wx hx hB h4 h1⟩

set_option maxHeartbeats 3200000 in
theorem walk (B R : ByteArray) (d g : Bool) (s : ByteArray) (w : World) (hT : Tab w) (hB : B.size ≤ maxLen) (hR : R.size ≤ maxLen) : Calls Tryd.prog 6 #[.agg #[.string B, .string R, .bool d, .bool g], .string s] w fun e w' => e = .returned (.bool true) ∧ Below w.heap.size w w' := by
  have hb1 : Below w.heap.size w (w.alloc (.cells #[.string B, .string R, .bool d, .bool g] 33)) := bel1 _ _
  by_cases hs : 1048576 < s.size
  · have hd : decide (1048576 < (s.size : Int)) = true := decide_eq_true (by omega)
    go_enter Tryd.func6, Tryd.ntmps6
    go_wp2_with fail
    go_ret
    exact ⟨rfl, hb1⟩
  have hd : decide (1048576 < (s.size : Int)) = false := decide_eq_false (by omega)
  by_cases h : B.size + R.size ≤ 1048576
  · have HZ : Hid _ := fun wx => sz_yes B R d g wx h
    have HO : Hid _ := fun wx => to_any B R d g wx
    obtain ⟨b, r, x, y, z, hS, hI⟩ := both B R d g s (by omega) (by omega) (by omega)
    have HS : Hid _ := hS
    have HI : Hid _ := hI
    have HE : Hid _ := fun wx => eq_same b r x y wx
    have HT : Hid (Tab w) := hT
    have hg := hT.lt
    have HX1 : Hid _ := Bx.made w B R d g 33
    obtain ⟨w1, hw1⟩ : ∃ w1, w1 = w.alloc (.cells #[.string B, .string R, .bool d, .bool g] 33) := ⟨_, rfl⟩
    rw [← hw1] at HX1 hb1
    have Hb1 : Hid (Below w.heap.size w w1) := hb1
    clear hT hS hI hb1
    go_enter Tryd.func6, Tryd.ntmps6
    go_wp2_with fail
    rw [← hw1]
    refine (HZ.out _).mono ?_
    rintro e w2 ⟨rfl, hb2⟩
    have Hb2 : Hid (Below w.heap.size w w2) := Hb1.out.trans (hb2.mono Hb1.out.size)
    have HX2 : Hid (Bx w2 _ _ _ _ _) := Bx.below HX1.out hb2
    obtain ⟨x0, x1, x2, x3, x4, x5⟩ := HX2.out
    clear hb2 Hb1 HX1 hw1
    go_wp2_with fail
    refine (HO.out _).mono ?_
    rintro e w3 ⟨rfl, hb3⟩
    have Hb3 : Hid (Below w.heap.size w w3) := Hb2.out.trans (hb3.mono Hb2.out.size)
    have HX3 : Hid (Bx w3 _ _ _ _ _) := Bx.below HX2.out hb3
    clear hb3 Hb2 HX2 x0 x1 x2 x3 x4 x5
    go_wp2_with fail
    refine (HS.out _).mono ?_
    rintro e w4 ⟨rfl, hb4⟩
    have Hb4 : Hid (Below w.heap.size w w4) := Hb3.out.trans (hb4.mono Hb3.out.size)
    have HX4 : Hid (Bx w4 _ _ _ _ _) := Bx.below HX3.out hb4
    clear hb4 Hb3 HX3
    obtain ⟨w5, hw5⟩ : ∃ w5, w5 = w4.alloc (.cells #[.string b, .string r, .bool x, .bool y] 36) := ⟨_, rfl⟩
    have hb5 : Below w4.heap.size w4 w5 := by rw [hw5]; exact bel1 _ _
    have HY5 : Hid (Bx w5 w4.heap.size b r x y) := by rw [hw5]; exact Bx.made w4 b r x y _
    have Hb5 : Hid (Below w.heap.size w w5) := Hb4.out.trans (hb5.mono Hb4.out.size)
    have HX5 : Hid (Bx w5 _ _ _ _ _) := Bx.below HX4.out hb5
    obtain ⟨x0, x1, x2, x3, x4, x5⟩ := HX5.out
    obtain ⟨y0, y1, y2, y3, y4, y5⟩ := HY5.out
    obtain ⟨_, u1, u2, u3, u4, u5⟩ := HX4.out
    clear hb5 Hb4 HX4
    go_wp2_with fail
    rw [← hw5]
    refine (HO.out _).mono ?_
    rintro e w6 ⟨rfl, hb6⟩
    have Hb6 : Hid (Below w.heap.size w w6) := Hb5.out.trans (hb6.mono Hb5.out.size)
    have HY6 : Hid (Bx w6 _ _ _ _ _) := Bx.below HY5.out hb6
    clear hb6 Hb5 HY5 HX5 x0 x1 x2 x3 x4 x5 y0 y1 y2 y3 y4 y5 u1 u2 u3 u4 u5 hw5
    go_wp2_with fail
    refine (HI.out _ (HT.out.below Hb6.out hg)).mono ?_
    rintro e w7 ⟨rfl, hb7⟩
    have Hb7 : Hid (Below w.heap.size w w7) := Hb6.out.trans (hb7.mono Hb6.out.size)
    have HY7 : Hid (Bx w7 _ _ _ _ _) := Bx.below HY6.out hb7
    clear hb7 Hb6 HY6
    obtain ⟨w8, hw8⟩ : ∃ w8, w8 = w7.alloc (.cells #[.string b, .string r, .bool x, .bool y] 36) := ⟨_, rfl⟩
    have hb8 : Below w7.heap.size w7 w8 := by rw [hw8]; exact bel1 _ _
    have HZ8 : Hid (Bx w8 w7.heap.size b r x y) := by rw [hw8]; exact Bx.made w7 b r x y _
    have Hb8 : Hid (Below w.heap.size w w8) := Hb7.out.trans (hb8.mono Hb7.out.size)
    have HY8 : Hid (Bx w8 _ _ _ _ _) := Bx.below HY7.out hb8
    obtain ⟨y0, y1, y2, y3, y4, y5⟩ := HY8.out
    obtain ⟨z0, z1, z2, z3, z4, z5⟩ := HZ8.out
    obtain ⟨_, u1, u2, u3, u4, u5⟩ := HY7.out
    clear hb8 Hb7 HY7
    go_wp2_with fail
    rw [← hw8]
    refine (HE.out _).mono ?_
    rintro e w9 ⟨rfl, hb9⟩
    have Hb9 : Hid (Below w.heap.size w w9) := Hb8.out.trans (hb9.mono Hb8.out.size)
    clear hb9 Hb8 HY8 HZ8 y0 y1 y2 y3 y4 y5 z0 z1 z2 z3 z4 z5 u1 u2 u3 u4 u5 hw8
    cases z
    all_goals
      go_wp2_with fail
      go_ret
      exact ⟨rfl, Hb9.out⟩
  · have HZ : Hid _ := fun wx => sz_no B R d g wx hB hR h
    go_enter Tryd.func6, Tryd.ntmps6
    go_wp2_with fail
    refine (HZ.out _).mono ?_
    rintro e w2 ⟨rfl, hb2⟩
    go_wp2_with fail
    go_ret
    exact ⟨rfl, hb1.trans (hb2.mono (by simp))⟩

set_option maxRecDepth 100000 in
theorem contract (H : Type) (enc : TypeId × Value → H) (W : World) (base : Nat) (args : Array Value) (ds gs : List (DataW H)) (before : List MemPlace)
    (hval0 : ∀ (j : Nat) t v, Tryd.f6.params[j]? = some t → args[j]? = some v → Value.okWide Tryd.prog W .any base t v)
    (hW : DataW.Whole enc Tryd.prog Tryd.f6.params.toList Rows.fnExactFeedUnchunkSpec.vars false W args.toList ds gs before) (hL : laidMetH Tryd.prog Rows.fnExactFeedUnchunkRow.laid W) (_hsh : W.ShapedOpen Tryd.prog) :
    Calls Tryd.prog 6 args W fun e W' => ∃ v, e = .returned v ∧ Rows.fnExactFeedUnchunkSpec.post enc Tryd.prog Tryd.f6 false true false false W args v W' := by
  have hval : ∀ (j : Nat) t v, Tryd.f6.params[j]? = some t → args[j]? = some v → Value.okWide Tryd.prog W .any base t v := hval0
  have hW' := hW
  obtain ⟨p, q, hA0, hV, rfl, hfz, hnd⟩ := hW
  have hA : DataW.TrodAll enc Tryd.prog W 0 (fun _ => true) true Tryd.f6.params.toList args.toList ds p := hA0
  rw [Tryd.params6] at hA hval
  obtain ⟨v0, vs0, d0, ds0, p0, q0, hargs, rfl, rfl, h0, r0⟩ := trodAll_cons hA
  obtain ⟨v1, vs1, d1, ds1, p1, q1, rfl, rfl, rfl, h1, r1⟩ := trodAll_cons r0
  obtain ⟨rfl, rfl, rfl⟩ := trodAll_nil r1
  obtain rfl : args = #[v0, v1] := by cases args; simp_all
  obtain ⟨g1, t1, cs1, fuel1, x1, y1, hgs, _⟩ := trodVars_one hV
  have k0 := h0
  have lt0 : ∀ x ∈ p0, x.block < W.heap.size := by obtain ⟨m, hm⟩ := k0; exact DataW.trod_lt m _ _ _ hm
  obtain ⟨B0, R0, x0, f0, rfl, hB0, hR0⟩ := Ouk.open_unchunk (hval 0 33 v0 rfl rfl) h0
  have k1 := h1
  have lt1 : ∀ x ∈ p1, x.block < W.heap.size := by obtain ⟨m, hm⟩ := k1; exact DataW.trod_lt m _ _ _ hm
  obtain ⟨s1, rfl, hd1, _, w1⟩ := open_string Tryd.underlying9 (hval 1 9 v1 rfl rfl) h1
  clear hA0 hval0
  refine (walk B0 R0 x0 f0 s1 W (table hL) hB0 hR0).mono fun e W' ⟨he, bel⟩ => ?_
  subst he
  have hvars := Below.trodVars laidOut bel (ns := Rows.fnExactFeedUnchunkSpec.vars) (by kernel_rfl) hV
  subst hgs
  exact ⟨_, rfl, _, _, _, [], _, _, hW', trodAll_mk1 (shut_bool Tryd.underlying4 _), trodAll_cons_mk (Below.trod laidOut (by kernel_rfl) (of_decide_eq_true (by kernel_rfl)) k0 bel lt0) (trodAll_cons_mk (Below.trod laidOut (by kernel_rfl) (of_decide_eq_true (by kernel_rfl)) k1 bel lt1) (trodAll_mk0)), hvars, bel.frame _, fun h => by cases h⟩

/-- A world for the witness: the settled one, each listed table holding what its initialiser lays. -/
def layAt (w : World) (g : Nat) (cs : Array Value) : World :=
  { w with heap := w.heap.modify g fun
      | .cells _ t frozen => .cells cs t frozen
      | o => o }
def laidWorld (P : Program) (os : Os) : World := layAt (World.holding P os ⟨#[], #[], []⟩) 0 (Byt.kinds.map fun z => Value.int .u8 z).toArray
theorem laid_met (os : Os) : laidMet Tryd.prog Rows.fnExactFeedUnchunkRow.laid ((laidWorld Tryd.prog os).forCall (fun _ _ => 0) ⟨#[], #[.agg #[.string ⟨#[]⟩, .string ⟨#[]⟩, .bool false, .bool false], .string ⟨#[]⟩], []⟩).memory :=
  laidMet_of_run' 8 (by kernel_rfl) (by kernel_rfl)
theorem reads (os : Os) {H : Type} (enc : TypeId × Value → H) : ∃ places, DataW.whole enc Tryd.prog ((laidWorld Tryd.prog os).forCall (fun _ _ => 0) ⟨#[], #[.agg #[.string ⟨#[]⟩, .string ⟨#[]⟩, .bool false, .bool false], .string ⟨#[]⟩], []⟩).memory Tryd.f6.params.toList Rows.fnExactFeedUnchunkSpec.vars false (#[.agg #[.string ⟨#[]⟩, .string ⟨#[]⟩, .bool false, .bool false], .string ⟨#[]⟩] : Array Value).toList 8 = some ([.agg [.lit (.string []), .lit (.string []), .lit (.bool false), .lit (.bool false)], .lit (.string [])], [Rows.laid_loop_example_g00256_impl_byteKinds], places) :=
  ⟨MemPlace.row ⟨0, 0, none⟩ 128, by kernel_rfl⟩

set_option maxRecDepth 100000 in
theorem lifted (os : Os) (started : os.Started) (H : Type) (enc : TypeId × Value → H) (F : Stop.Interp) :
    ReturnsInHanded {} Tryd.checked os 6 .any ((OpenSpec.ofChange Rows.fnExactFeedUnchunkSpec).preRow enc Tryd.prog Tryd.f6 Rows.fnExactFeedUnchunkRow.domain false Rows.fnExactFeedUnchunkRow.laid) (((OpenSpec.ofChange Rows.fnExactFeedUnchunkSpec).at F).post enc Tryd.prog Tryd.f6 false true false false) := by
  obtain ⟨places, hx⟩ := reads os enc
  refine returnsInHanded_of_row (C := Tryd.checked) (s := OpenSpec.ofChange Rows.fnExactFeedUnchunkSpec) own started (by kernel_rfl) Tryd.func6
    (witness_row_at (enc := enc) (C := Tryd.checked) false (laidWorld Tryd.prog os) #[.agg #[.string ⟨#[]⟩, .string ⟨#[]⟩, .bool false, .bool false], .string ⟨#[]⟩] rfl (by kernel_rfl) (by kernel_rfl) (by kernel_rfl)
      (OpenSpec.preRow_of_cond 8 hx (by kernel_rfl) (fun k hk => by cases hk) (by kernel_rfl) (laid_met os))) ?_
  intro W base args ds gs before hval hW _ _ _ hL hsh _
  exact contract H enc W base args ds gs before hval hW hL hsh

theorem said : Rows.FnExactFeedUnchunkSaid :=
  OpenClaim.holds_of_cond 6 Tryd.f6 rfl rfl rfl rfl rfl rfl rfl ⟨rfl, rfl, rfl, rfl, rfl⟩ rfl rfl rfl rfl rfl (by kernel_rfl) Tryd.func6 (by kernel_rfl)
    (of_decide_eq_true (by kernel_rfl)) (by unfold Func.isWrapper; first | (rw [if_pos (by decide +kernel)]; kernel_rfl) | (rw [if_neg (by decide +kernel)]; exact ⟨rfl, rfl⟩))
    (fun os started H enc _ F => by rw [OpenClaim.pre_eq_preRow]; exact lifted os started H enc F)

theorem plain (f : FuncId) (fn : Func) (hf : Tryd.pinned.checked.prog.funcNamed "loop.example/g00256/laws.FnExactFeedUnchunk" = some f) (hfn : Tryd.pinned.checked.prog.funcs[f]? = some fn) :
    false = Tryd.pinned.checked.prog.looks [] ∧ ∀ (j : Nat) t, fn.params[j]? = some t → Tryd.pinned.checked.prog.wantsStandIn t = false := by
  obtain rfl : f = 6 := Option.some.inj ((show Tryd.prog.funcNamed "loop.example/g00256/laws.FnExactFeedUnchunk" = some 6 by kernel_rfl).symm.trans hf) |>.symm
  obtain rfl : fn = Tryd.f6 := (Option.some.inj (Tryd.func6.symm.trans hfn)).symm
  refine ⟨by kernel_rfl, fun j t ht => ?_⟩
  rw [Tryd.params6] at ht
  have hm := Array.mem_of_getElem? ht
  simp only [List.mem_toArray, List.mem_cons, List.not_mem_nil, or_false] at hm
  rcases hm with rfl | rfl
  · exact (show Tryd.prog.wantsStandIn 33 = false by kernel_rfl)
  · exact (show Tryd.prog.wantsStandIn 9 = false by kernel_rfl)

/-- The card. -/
theorem card : Rows.FnExactFeedUnchunkCardSaid :=
  Claim7.holds_tied_plain_at .later [] _ _ _ _ said (fun _ h => by cases h) (by kernel_rfl) (fun _ h => by cases h) fnExactFeedUnchunk_row_tie rfl ⟨rfl, rfl⟩ (by kernel_rfl) rfl plain (by kernel_rfl)

end Go.Proofs.YtimfcbjgoilnpaaDoor.FkLaw
