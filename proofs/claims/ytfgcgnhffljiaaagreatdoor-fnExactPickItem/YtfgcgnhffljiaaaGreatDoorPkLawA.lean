/-
  Part of the proof of a law (each part a text of its own): the step, and a world that bears it witness.
  The law FnExactPickItem: at every list of items, every key and every request impl.PickItem answers as spec.PickItem, and writes into no argument. Condition: the tables and the error that it lists read as the program's text lays them (tied by the card).
-/
import Derived.Test.YtfgcgnhffljiaaaGreatDoorRows
import Derived.Test.YtfgcgnhffljiaaaGreatDoorMg3
import Derived.WalkKit
import Derived.ProofKit
import Derived.OpenShut
import Derived.ShutString
import Derived.OpenVars
import Derived.Stop.LaidErr
import Derived.Deep.DeepHandedRow
import Derived.Lib.LaidTab
import Derived.RowKitTokens
namespace Go.Proofs.YtfgcgnhffljiaaaGreatDoor.PkLaw
open Go.ChangeShapes Go.WideShapes Go.ChangeAt Go.RowKit
open Go.ChangeMaps (open_string shut_string)
open Go.Proofs.YtfgcgnhffljiaaaGreatDoor.Byt
open Go.Proofs.YtfgcgnhffljiaaaGreatDoor.Fch

theorem own : ownKnob Tryz.prog.godebug = none := by kernel_rfl
theorem laidOut : laidOutB Tryz.prog = true := by kernel_rfl
def tab32 : List Int := [0, 1, 28, 2, 29, 14, 24, 3, 30, 22, 20, 15, 25, 17, 4, 8, 31, 27, 13, 23, 21, 19, 16, 7, 26, 12, 18, 6, 11, 5, 10, 9]
def tab64 : List Int := [0, 1, 56, 2, 57, 49, 28, 3, 61, 58, 42, 50, 38, 29, 17, 4, 62, 47, 59, 36, 45, 43, 51, 22, 53, 39, 33, 30, 24, 18, 12, 5, 63, 55, 48, 27, 60, 41, 37, 16, 46, 35, 44, 21, 52, 32, 23, 11, 54, 26, 40, 15, 34, 20, 31, 10, 25, 14, 19, 9, 13, 8, 7, 6]
def tabAccept : List Int := [128, 191, 160, 191, 128, 159, 144, 191, 128, 143] ++ List.replicate 22 0
def tabFirst : Array Value := (Go.Pinned.utf8FirstZ.map fun (z : Nat) => Value.int .u8 (z : Int)).toArray
theorem tab_of {W : World} (h : laidMetH Tryz.prog Rows.fnExactPickItemRow.laid W) : Tab W := by
  have h0 : laidMet Tryz.prog Rows.fnExactPickItemRow.laid W := h
  have ht : Lib.TabIs Tryz.prog W "loop.example/g00256/impl.byteKinds" .u8 kinds := Lib.tabIs_of_head (rest := [("loop.example/g00256/impl.errNoLength", Rows.laid_loop_example_g00256_impl_errNoLength), ("unicode/utf8.first", Rows.laid_unicode_utf8_first)]) (show Tryz.prog.globalNamed "loop.example/g00256/impl.byteKinds" = some 0 by kernel_rfl) (show (Tryz.prog.globals[0]?).map (·.type) = some 153 by kernel_rfl) Tryz.underlying153 Tryz.underlying5 (by kernel_rfl) (by kernel_rfl) h0.tail.tail.tail.tail
  intro i hi
  exact ht.cell (by kernel_rfl) i hi
theorem pow_of {W : World} (h : laidMetH Tryz.prog Rows.fnExactPickItemRow.laid W) : Rsb.PowT W := by
  have h0 : laidMet Tryz.prog Rows.fnExactPickItemRow.laid W := h
  have h2 := h0.tail.tail
  exact Lib.tabIs_of_head (rest := [("unicode/utf8.acceptRanges", Rows.laid_unicode_utf8_acceptRanges), ("loop.example/g00256/impl.byteKinds", Rows.laid_loop_example_g00256_impl_byteKinds), ("loop.example/g00256/impl.errNoLength", Rows.laid_loop_example_g00256_impl_errNoLength), ("unicode/utf8.first", Rows.laid_unicode_utf8_first)]) Num.gPow (show (Tryz.prog.globals[5]?).map (·.type) = some 230 by kernel_rfl) Tryz.underlying230 Tryz.underlying165 (by kernel_rfl) (by kernel_rfl) h2
theorem gE : Tryz.prog.globalNamed "loop.example/g00256/impl.errNoLength" = some 1 := by kernel_rfl
theorem gEType : (Tryz.prog.globals[1]?).map (·.type) = some 111 := by kernel_rfl
theorem cellsE : Tryz.prog.cellsOf 262 = 1 := by kernel_rfl
theorem cellsS : Tryz.prog.cellsOf 9 = 1 := by kernel_rfl
theorem star : "*" ++ "errors.errorString" = "*errors.errorString" := by decide
theorem rowS (u : TypeId) (h : Tryz.prog.typeName? 3 u = some "*errors.errorString") : u = 237 :=
  typeName_ptr_named (nm := "errors.errorString") (by rw [star]; kernel_rfl) (by kernel_rfl) (by decide) u (by rw [star]; exact h)
theorem sent_of {W : World} (h : laidMetH Tryz.prog Rows.fnExactPickItemRow.laid W) : ∃ b, W.cell? ⟨1, 0, none⟩ = some (Lnp.sent b) := by
  have h0 : laidMet Tryz.prog Rows.fnExactPickItemRow.laid W := h
  obtain ⟨b, s, hv, _⟩ := laid_sentinel h0.tail.tail.tail.tail.tail gE gEType Tryz.underlying111 rowS Tryz.underlying237 Tryz.underlying262 rfl rfl Tryz.underlying9 cellsE cellsS
  exact ⟨b, by simpa [Lnp.sent] using World.var?_cell gE hv 0⟩

theorem walk (a : Option Addr) (ca : Nat) (L : List Itl.ItD) (key M T Bd : ByteArray) (y : Option Addr) (cy : Nat) (F : List (ByteArray × ByteArray)) (w : World)
    (hT : Tab w) (hP : Rsb.PowT w) (hE : ∃ b, w.cell? ⟨1, 0, none⟩ = some (Lnp.sent b))
    (ha : Itl.AI w a L) (hl : L.length ≤ maxLen) (hf : ∀ t ∈ L, t.fits) (hk : key.size ≤ maxLen)
    (hM : M.size ≤ maxLen) (hTs : T.size ≤ maxLen) (hBd : Bd.size ≤ maxLen) (hF : Fds.AF w y F) (hFl : F.length ≤ maxLen) (hFx : ∀ c ∈ F, c.1.size ≤ maxLen ∧ c.2.size ≤ maxLen) :
    Calls Tryz.prog 5 #[.slice a L.length ca, .string key, .agg #[.string M, .string T, .slice y F.length cy, .string Bd]] w fun e w' => e = .returned (.bool true) ∧ Below w.heap.size w w' := by
  obtain ⟨b, hb⟩ := hE
  exact Ite.walk a ca L key M T Bd y cy F b w hT hP hb ha hl hf hk hM hTs hBd hF hFl hFx

set_option maxRecDepth 100000 in
theorem contract (H : Type) (enc : TypeId × Value → H) (W : World) (base : Nat) (args : Array Value) (ds gs : List (DataW H)) (before : List MemPlace)
    (hval0 : ∀ (j : Nat) t v, Tryz.f5.params[j]? = some t → args[j]? = some v → Value.okWide Tryz.prog W .any base t v)
    (hW : DataW.Whole enc Tryz.prog Tryz.f5.params.toList Rows.fnExactPickItemSpec.vars false W args.toList ds gs before) (hL : laidMetH Tryz.prog Rows.fnExactPickItemRow.laid W) (_hsh : W.ShapedOpen Tryz.prog) :
    Calls Tryz.prog 5 args W fun e W' => ∃ v, e = .returned v ∧ Rows.fnExactPickItemSpec.post enc Tryz.prog Tryz.f5 false true false false W args v W' := by
  have hval : ∀ (j : Nat) t v, Tryz.f5.params[j]? = some t → args[j]? = some v → Value.okWide Tryz.prog W .any base t v := hval0
  have hW' := hW
  obtain ⟨p, q, hA0, hV, rfl, hfz, hnd⟩ := hW
  have hA : DataW.TrodAll enc Tryz.prog W 0 (fun _ => true) true Tryz.f5.params.toList args.toList ds p := hA0
  rw [Tryz.params5] at hA hval
  obtain ⟨v0, vs0, d0, ds0, p0, q0, hargs, rfl, rfl, h0, r0⟩ := trodAll_cons hA
  obtain ⟨v1, vs1, d1, ds1, p1, q1, rfl, rfl, rfl, h1, r1⟩ := trodAll_cons r0
  obtain ⟨v2, vs2, d2, ds2, p2, q2, rfl, rfl, rfl, h2, r2⟩ := trodAll_cons r1
  obtain ⟨rfl, rfl, rfl⟩ := trodAll_nil r2
  obtain rfl : args = #[v0, v1, v2] := by cases args; simp_all
  obtain ⟨vg0, vt0, vc0, vf0, vd0, vp0, vg1, vt1, vc1, vf1, vd1, vp1, hgs, _⟩ := trodVars_two hV
  have k0 := h0
  have lt0 : ∀ x ∈ p0, x.block < W.heap.size := by obtain ⟨m, hm⟩ := k0; exact DataW.trod_lt m _ _ _ hm
  obtain ⟨a0, c0, L0, rfl, hAI0, hln0, hlx0⟩ := Itl.open_items (hval 0 59 v0 rfl rfl) h0
  have k1 := h1
  have lt1 : ∀ x ∈ p1, x.block < W.heap.size := by obtain ⟨m, hm⟩ := k1; exact DataW.trod_lt m _ _ _ hm
  obtain ⟨s1, rfl, hd1, _, w1⟩ := open_string Tryz.underlying9 (hval 1 9 v1 rfl rfl) h1
  have k2 := h2
  have lt2 : ∀ x ∈ p2, x.block < W.heap.size := by obtain ⟨m, hm⟩ := k2; exact DataW.trod_lt m _ _ _ hm
  obtain ⟨M2, T2, B2, a2, c2, l2, rfl, hM2, hT2, hB2, hAF2, hln2, hlx2⟩ := Rqo.open_request (hval 2 43 v2 rfl rfl) h2
  clear hA0 hval0
  refine (walk a0 c0 L0 s1 M2 T2 B2 a2 c2 l2 W (tab_of hL) (pow_of hL) (sent_of hL) hAI0 hln0 hlx0 w1 hM2 hT2 hB2 hAF2 hln2 hlx2).mono fun e W' ⟨he, bel⟩ => ?_
  subst he
  have hvars := Below.trodVars laidOut bel (ns := Rows.fnExactPickItemSpec.vars) (by kernel_rfl) hV
  subst hgs
  exact ⟨_, rfl, _, _, _, [], _, _, hW', trodAll_mk1 (shut_bool Tryz.underlying4 _), trodAll_cons_mk (Below.trod laidOut (by kernel_rfl) (of_decide_eq_true (by kernel_rfl)) k0 bel lt0) (trodAll_cons_mk (Below.trod laidOut (by kernel_rfl) (of_decide_eq_true (by kernel_rfl)) k1 bel lt1) (trodAll_cons_mk (Below.trod laidOut (by kernel_rfl) (of_decide_eq_true (by kernel_rfl)) k2 bel lt2) (trodAll_mk0))), hvars, bel.frame _, fun h => by cases h⟩

/-- A world for the witness: the settled one, each listed table holding what its initialiser lays. -/
def layAt (w : World) (g : Nat) (cs : Array Value) : World :=
  { w with heap := w.heap.modify g fun
      | .cells _ t frozen => .cells cs t frozen
      | o => o }
noncomputable def low : Nat := (World.holding Tryz.prog default ⟨#[], #[], []⟩).heap.size
noncomputable def laidWorld (P : Program) (os : Os) : World := layAt (layAt (layAt (layAt (layAt (layAt (layAt (World.holding P os ⟨#[.cells #[.string ⟨#[110, 111, 32, 108, 101, 110, 103, 116, 104, 32, 105, 115, 32, 116, 111, 108, 100]⟩] 262], #[], []⟩) 1 #[.iface 237 (.pointer (some ⟨low + 0, 0, none⟩))]) 6 (tab32.map fun z => Value.int .u8 z).toArray) 7 (tab64.map fun z => Value.int .u8 z).toArray) 5 (Lib.pow10Tab.map fun z => Value.int .u64 z).toArray) 4 (tabAccept.map fun z => Value.int .u8 z).toArray) 0 (Byt.kinds.map fun z => Value.int .u8 z).toArray) 3 tabFirst
theorem laid_met (os : Os) : laidMet Tryz.prog Rows.fnExactPickItemRow.laid ((laidWorld Tryz.prog os).forCall (fun _ _ => 0) ⟨#[], #[.slice none 0 0, .string ⟨#[]⟩, .agg #[.string ⟨#[]⟩, .string ⟨#[]⟩, .slice none 0 0, .string ⟨#[]⟩]], []⟩).memory :=
  laidMet_of_run' 8 (by kernel_rfl) (by kernel_rfl)
theorem reads (os : Os) {H : Type} (enc : TypeId × Value → H) : ∃ places, DataW.whole enc Tryz.prog ((laidWorld Tryz.prog os).forCall (fun _ _ => 0) ⟨#[], #[.slice none 0 0, .string ⟨#[]⟩, .agg #[.string ⟨#[]⟩, .string ⟨#[]⟩, .slice none 0 0, .string ⟨#[]⟩]], []⟩).memory Tryz.f5.params.toList Rows.fnExactPickItemSpec.vars false (#[.slice none 0 0, .string ⟨#[]⟩, .agg #[.string ⟨#[]⟩, .string ⟨#[]⟩, .slice none 0 0, .string ⟨#[]⟩]] : Array Value).toList 8 = some ([.nil, .lit (.string []), .agg [.lit (.string []), .lit (.string []), .nil, .lit (.string [])]], [tok enc (.iface 237 (.pointer (some ⟨low + 0, 0, none⟩))), Rows.laid_loop_example_g00256_impl_byteKinds], places) := by
  have h : (DataW.whole enc Tryz.prog ((laidWorld Tryz.prog os).forCall (fun _ _ => 0) ⟨#[], #[.slice none 0 0, .string ⟨#[]⟩, .agg #[.string ⟨#[]⟩, .string ⟨#[]⟩, .slice none 0 0, .string ⟨#[]⟩]], []⟩).memory Tryz.f5.params.toList Rows.fnExactPickItemSpec.vars false (#[.slice none 0 0, .string ⟨#[]⟩, .agg #[.string ⟨#[]⟩, .string ⟨#[]⟩, .slice none 0 0, .string ⟨#[]⟩]] : Array Value).toList 8).map (fun x => (x.1, x.2.1)) = some ([.nil, .lit (.string []), .agg [.lit (.string []), .lit (.string []), .nil, .lit (.string [])]], [tok enc (.iface 237 (.pointer (some ⟨low + 0, 0, none⟩))), Rows.laid_loop_example_g00256_impl_byteKinds]) := by kernel_rfl
  obtain ⟨⟨a, b, c⟩, h1, h2⟩ := Option.map_eq_some_iff.1 h
  injection h2 with h3 h4
  dsimp only at h3 h4
  subst h3 h4
  exact ⟨c, h1⟩

set_option maxRecDepth 100000 in
theorem lifted (os : Os) (started : os.Started) (H : Type) (enc : TypeId × Value → H) (F : Stop.Interp) :
    ReturnsInHanded {} Tryz.checked os 5 .any ((OpenSpec.ofChange Rows.fnExactPickItemSpec).preRow enc Tryz.prog Tryz.f5 Rows.fnExactPickItemRow.domain false Rows.fnExactPickItemRow.laid) (((OpenSpec.ofChange Rows.fnExactPickItemSpec).at F).post enc Tryz.prog Tryz.f5 false true false false) := by
  obtain ⟨places, hx⟩ := reads os enc
  refine returnsInHanded_of_row (C := Tryz.checked) (s := OpenSpec.ofChange Rows.fnExactPickItemSpec) own started (by kernel_rfl) Tryz.func5
    (witness_row_at (enc := enc) (C := Tryz.checked) false (laidWorld Tryz.prog os) #[.slice none 0 0, .string ⟨#[]⟩, .agg #[.string ⟨#[]⟩, .string ⟨#[]⟩, .slice none 0 0, .string ⟨#[]⟩]] rfl (by kernel_rfl) (by kernel_rfl) (by kernel_rfl)
      (OpenSpec.preRow_of_cond 8 hx (by kernel_rfl) (fun k hk => by cases hk) (by kernel_rfl) (laid_met os))) ?_
  intro W base args ds gs before hval hW _ _ _ hL hsh _
  exact contract H enc W base args ds gs before hval hW hL hsh

end Go.Proofs.YtfgcgnhffljiaaaGreatDoor.PkLaw
