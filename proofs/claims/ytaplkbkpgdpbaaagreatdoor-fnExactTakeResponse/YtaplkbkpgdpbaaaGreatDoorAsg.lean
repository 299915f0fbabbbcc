/-
  errors.As at a fault of a message: it is taken; walk: impl.codeOf.
-/
import Derived.Test.YtaplkbkpgdpbaaaGreatDoorAsf
namespace Go.Proofs.YtaplkbkpgdpbaaaGreatDoor.Asf
open Go.RowKit Go.Extern.Stop Go.Stop Go.Extern
open Go.Proofs.YtaplkbkpgdpbaaaGreatDoor.Lnp (fault)
open Go.Proofs.YtaplkbkpgdpbaaaGreatDoor.Rqb (errV err_none err_some)

/-- What errors.As asks a target's type for: error's own type. -/
def ErrT (w : World) : Prop := w.cell? ⟨1, 0, none⟩ = some (.iface 158 (.agg #[.pointer (some ⟨9, 63, none⟩)]))
theorem ErrT.lt {w : World} (h : ErrT w) : 1 < w.heap.size := World.block_lt_of_cell? _ _ h
theorem ErrT.below {B : Nat} {w w' : World} (h : ErrT w) (hb : Below B w w') (hB : 1 < B) : ErrT w' := (hb.cell (p := ⟨1, 0, none⟩) hB).trans h

set_option maxRecDepth 20000 in
set_option maxHeartbeats 4000000 in
theorem as_hit (c : Int) (t : Nat) (old : Value) (w : World) (hg : ErrT w) (ht0 : w.cell? ⟨t, 0, none⟩ = some old) (hf0 : w.frozen? ⟨t, 0, none⟩ = false) :
    Calls Tryz.prog 88 #[.iface 104 (.agg #[.int .i64 c]), .iface 112 (.pointer (some ⟨t, 0, none⟩))] w fun ev w' => ev = .returned (.bool true) ∧ w'.cell? ⟨t, 0, none⟩ = some (.int .i64 c) ∧ ∀ B, B ≤ t → B ≤ w.heap.size → Below B w w' := by
  have hV := @run_callFunc_extern Tryz.prog 127 _ (fun args => ReflectliteValue.unpack (args.getD 0 (.tuple #[]))) Tryz.func127 (by kernel_rfl) (by kernel_rfl) (by kernel_rfl) (by kernel_rfl)
  have hTy := @run_callFunc_extern Tryz.prog 128 _ (ReflectliteValue.methodAny (ReflectliteValue.valueError "reflectlite.Value.Type" 0) (fun t _ _ _ => ReflectliteType.toType t)) Tryz.func128 (by kernel_rfl) (by kernel_rfl) (by kernel_rfl) (by kernel_rfl)
  have hNil := @run_callFunc_extern Tryz.prog 129 _ (ReflectliteValue.method (ReflectliteValue.valueError "reflectlite.Value.IsNil" 0) ReflectliteValue.isNil) Tryz.func129 (by kernel_rfl) (by kernel_rfl) (by kernel_rfl) (by kernel_rfl)
  have hKi := @run_callFunc_extern Tryz.prog 212 _ (ReflectliteType.abiMethod fun t => do pure (.int .u8 (← Rtype.kind t))) Tryz.func212 (by kernel_rfl) (by kernel_rfl) (by kernel_rfl) (by kernel_rfl)
  have hEl := @run_callFunc_extern Tryz.prog 223 _ (ReflectliteType.method ReflectliteType.elem) Tryz.func223 (by kernel_rfl) (by kernel_rfl) (by kernel_rfl) (by kernel_rfl)
  have hIm := @run_callFunc_extern Tryz.prog 224 _ (ReflectliteType.relation "Implements" ReflectliteType.implements_) Tryz.func224 (by kernel_rfl) (by kernel_rfl) (by kernel_rfl) (by kernel_rfl)
  have hTO := @run_callFunc_extern Tryz.prog 91 _ ReflectliteType.typeOf Tryz.func91 (by kernel_rfl) (by kernel_rfl) (by kernel_rfl) (by kernel_rfl)
  have hAs := @run_callFunc_extern Tryz.prog 221 _ (ReflectliteType.relation "AssignableTo" ReflectliteType.assignableTo) Tryz.func221 (by kernel_rfl) (by kernel_rfl) (by kernel_rfl) (by kernel_rfl)
  have hVE := @run_callFunc_extern Tryz.prog 156 _ (ReflectliteValue.method (ReflectliteValue.valueError "reflectlite.Value.Elem" 0) ReflectliteValue.elem) Tryz.func156 (by kernel_rfl) (by kernel_rfl) (by kernel_rfl) (by kernel_rfl)
  have hSe := @run_callFunc_extern Tryz.prog 157 _ ReflectliteValue.set Tryz.func157 (by kernel_rfl) (by kernel_rfl) (by kernel_rfl) (by kernel_rfl)
  have tO := typeOfS
  have mA := methodAssignableTo
  have aS := assignableS
  have vS := valueOfS
  have vP := valueOfP
  have tP := typeP
  have mK := methodKind
  have mE := methodElem
  have mI := methodImplements
  have kP := kindP
  have kS := kindS
  have eP := elemP
  have iS := implementsS
  unfold val hd at *
  obtain ⟨w1, hw1⟩ : ∃ w1, w1 = w.alloc (.cells #[.pointer (some ⟨t, 0, none⟩)] 112) := ⟨_, rfl⟩
  have hs1 : w1.heap.size = w.heap.size + 1 := by rw [hw1]; simp
  have hb1 : Below w.heap.size w w1 := by rw [hw1]; exact (Below.refl _ _).alloc (Nat.le_refl _) _
  have c1 : w1.cell? ⟨w.heap.size, 0, none⟩ = some (.pointer (some ⟨t, 0, none⟩)) := by rw [hw1, World.cell?_alloc_mark]; rfl
  obtain ⟨w2, hw2⟩ : ∃ w2, w2 = w1.alloc (.cells #[.pointer (some ⟨9, 112, none⟩), .pointer (some ⟨w.heap.size, 0, none⟩), .int .u64 150] 150) := ⟨_, rfl⟩
  have hs2 : w2.heap.size = w.heap.size + 1 + 1 := by rw [hw2, World.size_alloc, hs1]
  have hb2 : Below w1.heap.size w1 w2 := by rw [hw2]; exact (Below.refl _ _).alloc (Nat.le_refl _) _
  have c2 : w2.cell? ⟨w.heap.size, 0, none⟩ = some (.pointer (some ⟨t, 0, none⟩)) := (hb2.cell (p := ⟨w.heap.size, 0, none⟩) (by rw [hs1]; exact Nat.lt_succ_self _)).trans c1
  have n8 := isNilP ⟨w.heap.size, 0, none⟩ ⟨t, 0, none⟩ w2 c2
  have hg2 : w2.cell? ⟨1, 0, none⟩ = some (.iface 158 (.agg #[.pointer (some ⟨9, 63, none⟩)])) := (hg.below hb1 hg.lt).below hb2 (by have := hg.lt; omega)
  obtain ⟨w3, hw3⟩ : ∃ w3, w3 = w2.alloc (.cells #[.pointer (some ⟨9, 112, none⟩), .pointer (some ⟨w.heap.size, 0, none⟩), .int .u64 150] 150) := ⟨_, rfl⟩
  have hs3 : w3.heap.size = w.heap.size + 1 + 1 + 1 := by rw [hw3, World.size_alloc, hs2]
  have hb3 : Below w2.heap.size w2 w3 := by rw [hw3]; exact (Below.refl _ _).alloc (Nat.le_refl _) _
  have c3 : w3.cell? ⟨w.heap.size, 0, none⟩ = some (.pointer (some ⟨t, 0, none⟩)) := (hb3.cell (p := ⟨w.heap.size, 0, none⟩) (by show w.heap.size < _; omega)).trans c2
  have el := elemV ⟨w.heap.size, 0, none⟩ ⟨t, 0, none⟩ w3 c3
  obtain ⟨w4, hw4⟩ : ∃ w4, w4 = w3.alloc (.cells #[.int .i64 c] 104) := ⟨_, rfl⟩
  have hs4 : w4.heap.size = w.heap.size + 1 + 1 + 1 + 1 := by rw [hw4, World.size_alloc, hs3]
  have hb4 : Below w3.heap.size w3 w4 := by rw [hw4]; exact (Below.refl _ _).alloc (Nat.le_refl _) _
  have hB4 : Below w.heap.size w w4 := ((hb1.trans (hb2.mono (by omega))).trans (hb3.mono (by omega))).trans (hb4.mono (by omega))
  have c4 : w4.cell? ⟨w.heap.size + 1 + 1 + 1, 0, none⟩ = some (.int .i64 c) := by rw [← hs3, hw4, World.cell?_alloc_mark]; rfl
  have htl : t < w.heap.size := World.block_lt_of_cell? _ _ ht0
  have ht4 := (hB4.cell (p := ⟨t, 0, none⟩) htl).trans ht0
  have hf4 := (hB4.frozen (p := ⟨t, 0, none⟩) htl).trans hf0
  have st := setS t (w.heap.size + 1 + 1 + 1) c old w4 c4 ht4 hf4
  have HFin : Hid ((w4.setCell ⟨t, 0, none⟩ (.int .i64 c)).cell? ⟨t, 0, none⟩ = some (.int .i64 c) ∧ ∀ B, B ≤ t → B ≤ w.heap.size → Below B w (w4.setCell ⟨t, 0, none⟩ (.int .i64 c))) :=
    ⟨by simp [go_sem, ht4], fun B h1 h2 => (hB4.mono h2).setCell (p := ⟨t, 0, none⟩) h1 _⟩
  unfold val hd at el st n8
  rw [hw1] at hs1
  clear c1 c2 c3 c4 hb1 hb2 hb3 hb4 hs1 hs2 hs3 hs4 hB4 ht4 hf4
  subst hw4
  subst hw3
  subst hw2
  subst hw1
  go_enter Tryz.func88, Tryz.ntmps88
  go_wp2
  refine wp_loop_rounds 1 ?_
  rw [rounds_succ]
  go_wp2
  go_ret
  exact ⟨rfl, HFin.out⟩

/-- What codeOf makes of an error. -/
theorem codeOf_any (c : Int) (w : World) (hg : ErrT w) : Calls Tryz.prog 50 #[errV c] w fun e w' => e = .returned (.int .i64 c) ∧ Below w.heap.size w w' := by
  by_cases h0 : c = 0
  · subst h0
    rw [err_none]
    have HN : Hid _ := as_nil
    go_enter Tryz.func50, Tryz.ntmps50
    go_wp2_with fail
    refine (HN.out _ _).mono ?_
    rintro e w2 ⟨rfl, hw⟩
    obtain rfl := hw.symm
    go_wp2_with fail
    go_ret
    exact ⟨rfl, (Below.refl _ _).alloc (Nat.le_refl _) _⟩
  · rw [err_some h0]
    have hb1 : Below w.heap.size w (w.alloc (.cells #[.int .i64 0] 104)) := (Below.refl _ _).alloc (Nat.le_refl _) _
    have HA : Hid _ := as_hit c w.heap.size (.int .i64 0) (w.alloc (.cells #[.int .i64 0] 104)) (hg.below hb1 hg.lt) (by simp [go_sem]) (World.frozen?_alloc_at _ _ _ _ rfl)
    go_enter Tryz.func50, Tryz.ntmps50
    go_wp2_with fail
    refine (Calls.mono HA.out ?_)
    rintro e w2 ⟨rfl, hc, hB⟩
    have hb2 := hb1.trans (hB _ (Nat.le_refl _) (by simp))
    go_wp2_with fail
    go_ret
    exact ⟨rfl, hb2⟩

end Go.Proofs.YtaplkbkpgdpbaaaGreatDoor.Asf
