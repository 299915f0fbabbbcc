/-
  Walk: strings.Clone.
-/
import Derived.Test.YtgidmoncocbfiaaShelf
import Derived.WalkKit
import Derived.Below
namespace Go.Proofs.Ytgidmoncocbfiaa.Spb
open Go.RowKit

theorem clone_any (s : ByteArray) (w : World) (hs : s.size ≤ 2000000) : Calls Try.prog 22 #[.string s] w fun e w' => e = .returned (.string s) ∧ Below w.heap.size w w' := by
  have hc := Try.stringslite_Clone s w (by omega)
  go_enter Try.func22, Try.ntmps22
  go_wp2_with (go_at_call 29; refine hc.mono ?_; rintro e w' ⟨rfl, hb⟩)
  go_ret
  exact ⟨rfl, hb⟩

end Go.Proofs.Ytgidmoncocbfiaa.Spb
