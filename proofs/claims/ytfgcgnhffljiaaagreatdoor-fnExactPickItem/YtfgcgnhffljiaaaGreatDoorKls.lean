/-
  Small facts: texts compared; texts as keys of a map.
-/
import Derived.Test.YtfgcgnhffljiaaaGreatDoorFbs
import Derived.Maps.OwnSet
namespace Go.Proofs.YtfgcgnhffljiaaaGreatDoor.Kls
open Go.RowKit Go.Maps Go.WideMaps
open Go.Proofs.YtfgcgnhffljiaaaGreatDoor.Fbs

theorem text_cmp (a b : ByteArray) : (a.toList == b.toList) = decide (a = b) := by
  by_cases h : a = b
  · subst h; simp
  · rw [decide_eq_false h, beq_eq_false_iff_ne]
    intro e
    apply h
    rw [ByteArray.toList_eq, ByteArray.toList_eq] at e
    exact ByteArray.ext (Array.toList_inj.1 e)
theorem ret_bool {a b : Bool} (h : a = b) : Ending.returned (.bool a) = .returned (.bool b) := by rw [h]
theorem skey : Keyed Tryz.prog 9 := string_keyed Tryz.underlying9
theorem zeroI (w : World) : (zeroValue 3).run Tryz.prog w = .ok (.int .i64 0) w := by kernel_rfl
def kl (x : ByteArray) : Lit := .string x.data.toList
theorem kl_ne {x y : ByteArray} (h : x ≠ y) : kl x ≠ kl y := by
  intro e
  apply h
  have : x.data.toList = y.data.toList := Lit.string.inj e
  exact ByteArray.ext (Array.toList_inj.1 this)

end Go.Proofs.YtfgcgnhffljiaaaGreatDoor.Kls
