/-
  Walk: strings.Clone.
-/
import Derived.Test.YtgidmoncocbfiaaDoorShelf
import Derived.WalkKit
import Derived.Below
namespace Go.Proofs.YtgidmoncocbfiaaDoor.Spb
open Go.RowKit

theorem clone_any (s : ByteArray) (w : World) (hs : s.size ≤ 2000000) : Calls Tryd.prog 22 #[.string s] w fun e w' => e = .returned (.string s) ∧ Below w.heap.size w w' := by
  have hc := Tryd.stringslite_Clone s w (by omega)
  go_enter Tryd.func22, Tryd.ntmps22
  go_wp2_with (go_at_call 36; refine hc.mono ?_; rintro e w' ⟨rfl, hb⟩)
  go_ret
  exact ⟨rfl, hb⟩

end Go.Proofs.YtgidmoncocbfiaaDoor.Spb
