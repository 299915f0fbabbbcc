/-
  errors.As by its contracts at the target that the program hands it: a fault of a message; walk: impl.codeOf.
-/
import Derived.Test.YtaplkbkpgdpbaaaGreatDoorRqk
import Derived.LaidEql
import Derived.Stop.Asserts
import Derived.RowKitTokens
namespace Go.Proofs.YtaplkbkpgdpbaaaGreatDoor.Asf
open Go.RowKit Go.Extern.Stop Go.Stop Go.Extern
open Go.Proofs.YtaplkbkpgdpbaaaGreatDoor.Lnp (fault)
open Go.Proofs.YtaplkbkpgdpbaaaGreatDoor.Rqb (errV err_none err_some)

/-- errors.As(nil, target). -/
theorem as_nil (t : Value) (w : World) :
    Calls Tryz.prog 88 #[.nilIface, t] w fun e w' => e = .returned (.bool false) ∧ w' = w := by
  go_enter Tryz.func88, Tryz.ntmps88
  go_wp2
  go_ret
  exact ⟨rfl, rfl⟩

/-- The handle of a type, and a Value of a type at a place. -/
abbrev hd (t : TypeId) : Value := .pointer (some ⟨9, t, none⟩)
abbrev val (t : TypeId) (a : Addr) (f : Int) : Value := .agg #[hd t, .pointer (some a), .int .u64 f]

theorem valueOfP (t : Addr) (w : World) : (ReflectliteValue.unpack (.iface 112 (.pointer (some t)))).run Tryz.prog w
    = .ok (val 112 ⟨w.heap.size, 0, none⟩ 150) (w.alloc (.cells #[.pointer (some t)] 112)) := by kernel_rfl
theorem typeP (a : Addr) (w : World) : (ReflectliteValue.methodAny (ReflectliteValue.valueError "reflectlite.Value.Type" 0) (fun t _ _ _ => ReflectliteType.toType t) #[val 112 a 150]).run Tryz.prog w
    = .ok (.iface 158 (.agg #[hd 112])) w := by kernel_rfl
theorem methodKind (h : Value) (w : World) : (Go.method 357 158 (.agg #[h]) "Kind").run Tryz.prog w = .ok (212, h) w := by kernel_rfl
theorem kindP (w : World) : ((ReflectliteType.abiMethod fun t => (fun a : Nat => Value.int IntKind.u8 (a : Int)) <$> Rtype.kind t) #[hd 112]).run Tryz.prog w = .ok (.int .u8 22) w := by kernel_rfl
theorem kindS (w : World) : ((ReflectliteType.abiMethod fun t => (fun a : Nat => Value.int IntKind.u8 (a : Int)) <$> Rtype.kind t) #[hd 104]).run Tryz.prog w = .ok (.int .u8 25) w := by kernel_rfl

theorem partsP (a : Addr) (w : World) : (ReflectliteValue.parts (val 112 a 150)).run Tryz.prog w = .ok (some (112, a, 150)) w := by kernel_rfl
theorem isNilP (a p : Addr) (W : World) (ha : W.cell? a = some (.pointer (some p))) :
    (ReflectliteValue.method (ReflectliteValue.valueError "reflectlite.Value.IsNil" 0) ReflectliteValue.isNil #[val 112 a 150]).run Tryz.prog W = .ok (.bool false) W := by
  show Sem.run _ (Bind.bind (ReflectliteValue.parts (val 112 a 150)) _) _ = _
  simp only [Sem.run_bind, partsP, Result.andThen]
  simp [ReflectliteValue.isNil, loadVar, isAgg, underlying, Tryz.underlying112, ha, Result.andThen]

theorem methodElem (h : Value) (w : World) : (Go.method 357 158 (.agg #[h]) "Elem").run Tryz.prog w = .ok (223, .agg #[h]) w := by kernel_rfl
theorem methodImplements (h : Value) (w : World) : (Go.method 357 158 (.agg #[h]) "Implements").run Tryz.prog w = .ok (224, .agg #[h]) w := by kernel_rfl
theorem methodAssignableTo (h : Value) (w : World) : (Go.method 357 158 (.agg #[h]) "AssignableTo").run Tryz.prog w = .ok (221, .agg #[h]) w := by kernel_rfl
theorem elemP (w : World) : (ReflectliteType.method ReflectliteType.elem #[.agg #[hd 112]]).run Tryz.prog w = .ok (.iface 158 (.agg #[hd 104])) w := by kernel_rfl
theorem implementsS (w : World) : (ReflectliteType.relation "Implements" ReflectliteType.implements_ #[.agg #[hd 104], .iface 158 (.agg #[hd 63])]).run Tryz.prog w = .ok (.bool true) w := by kernel_rfl
theorem typeOfS (v : Value) (w : World) : (ReflectliteType.typeOf #[.iface 104 v]).run Tryz.prog w = .ok (.iface 158 (.agg #[hd 104])) w := by kernel_rfl
theorem assignableS (w : World) : (ReflectliteType.relation "AssignableTo" ReflectliteType.assignableTo #[.agg #[hd 104], .iface 158 (.agg #[hd 104])]).run Tryz.prog w = .ok (.bool true) w := by kernel_rfl
theorem valueOfS (c : Int) (w : World) : (ReflectliteValue.unpack (.iface 104 (.agg #[.int .i64 c]))).run Tryz.prog w
    = .ok (val 104 ⟨w.heap.size, 0, none⟩ 153) (w.alloc (.cells #[.int .i64 c] 104)) := by kernel_rfl
theorem elemOfP (w : World) : (Rtype.elem? 112).run Tryz.prog w = .ok (some 104) w := by kernel_rfl
theorem mkS (p : Addr) (w : World) : (ReflectliteValue.mk 104 p ReflectliteValue.flagAddr).run Tryz.prog w = .ok (val 104 p 409) w := by kernel_rfl
theorem elemV (a p : Addr) (W : World) (ha : W.cell? a = some (.pointer (some p))) :
    (ReflectliteValue.method (ReflectliteValue.valueError "reflectlite.Value.Elem" 0) ReflectliteValue.elem #[val 112 a 150]).run Tryz.prog W
      = .ok (val 104 p 409) W := by
  show Sem.run _ (Bind.bind (ReflectliteValue.parts (val 112 a 150)) _) _ = _
  simp only [Sem.run_bind, partsP, Result.andThen]
  simp [ReflectliteValue.elem, loadVar, isAgg, underlying, Tryz.underlying112, ha, Result.andThen, elemOfP, mkS]
theorem partsA (a : Addr) (w : World) : (ReflectliteValue.parts (val 104 a 409)).run Tryz.prog w = .ok (some (104, a, 409)) w := by kernel_rfl
theorem partsS (a : Addr) (w : World) : (ReflectliteValue.parts (val 104 a 153)).run Tryz.prog w = .ok (some (104, a, 153)) w := by kernel_rfl
theorem directS (w : World) : (Rtype.directlyAssignable 104 104).run Tryz.prog w = .ok true w := by kernel_rfl
theorem loadS (b : Nat) (c : Int) (W : World) (hb : W.cell? ⟨b, 0, none⟩ = some (.int .i64 c)) : (loadVar 104 ⟨b, 0, none⟩).run Tryz.prog W = .ok (.agg #[.int .i64 c]) W := by
  have h1 : (loadCells ⟨b, 0, none⟩ 1).run Tryz.prog W = .ok #[.int .i64 c] W :=
    run_loadCells_list (P := Tryz.prog) (w := W) ⟨b, 0, none⟩ [.int .i64 c] (fun j v h => by
      match j, h with
      | 0, h => cases h; exact hb)
  simp [loadVar, isAgg, underlying, Tryz.underlying104, h1, Result.andThen]
theorem storeS (t : Nat) (c : Int) (old : Value) (W : World) (ht : W.cell? ⟨t, 0, none⟩ = some old) (hf : W.frozen? ⟨t, 0, none⟩ = false) : (storeVar 104 ⟨t, 0, none⟩ (.agg #[.int .i64 c])).run Tryz.prog W = .ok () (W.setCell ⟨t, 0, none⟩ (.int .i64 c)) := by
  simp [storeVar, Value.cells, storeCells, Addr.add]
  rw [run_store Tryz.prog W ⟨t, 0, none⟩ _ _ (by rfl)]
  simp [ht, hf]
theorem setS (ta b : Nat) (c : Int) (old : Value) (W : World) (hb : W.cell? ⟨b, 0, none⟩ = some (.int .i64 c)) (ht : W.cell? ⟨ta, 0, none⟩ = some old) (hf : W.frozen? ⟨ta, 0, none⟩ = false) :
    (ReflectliteValue.set #[val 104 ⟨ta, 0, none⟩ 409, val 104 ⟨b, 0, none⟩ 153]).run Tryz.prog W
      = .ok (.tuple #[]) (W.setCell ⟨ta, 0, none⟩ (.int .i64 c)) := by
  show Sem.run _ (Bind.bind (ReflectliteValue.parts (val 104 ⟨ta, 0, none⟩ 409)) (fun p => Bind.bind (ReflectliteValue.parts (val 104 ⟨b, 0, none⟩ 153)) _)) _ = _
  simp only [Sem.run_bind, partsA, partsS, Result.andThen]
  simp [ReflectliteValue.flagAddr, loadS b c W hb, Result.andThen, directS, storeS ta c old W ht hf]

end Go.Proofs.YtaplkbkpgdpbaaaGreatDoor.Asf
