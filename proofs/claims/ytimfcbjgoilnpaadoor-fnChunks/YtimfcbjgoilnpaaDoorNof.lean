/-
  Walk: laws.numberOf.
-/
import Derived.Test.YtimfcbjgoilnpaaDoorDrc
import Derived.Deep.QuietTactic
import Derived.BigQuiet
namespace Go.Proofs.YtimfcbjgoilnpaaDoor.Cur
open Go.RowKit

set_option maxHeartbeats 1600000 in
theorem numberOf_any (v : Value) (n : Nat) (w : World) (hA : CodeArg w v n) (hn : n ≤ 2000000) :
    Calls Tryd.prog 33 #[v] w fun e w' => ∃ x : Nat, e = .returned (.int .i64 x) ∧ x ≤ 1000002 ∧ Below w.heap.size w w' := by
  obtain ⟨o, cap, rfl⟩ := hA.form
  have HA : Hid _ := hA
  clear hA
  go_enter Tryd.func33, Tryd.ntmps33
  go_wp2_with fail
  go_loopw [3, 8] (fun nv iv wr => ∃ x k : Nat, nv = .int .i64 x ∧ x ≤ 1000002 ∧ iv = .int .i64 k ∧ k ≤ n ∧ wr = w) (fun _ iv _ => n - (intOf iv).toNat)
  case atStart => exact ⟨0, 0, rfl, by omega, rfl, by omega, rfl⟩
  case round =>
    obtain ⟨x, k, rfl, hx, rfl, hk, rfl⟩ := hrel
    by_cases hlt : k < n
    · rcases HA.out with ⟨_, h0⟩ | ⟨a, cap2, h1, h2, h3, h6⟩
      · omega
      · injection h1 with h1 _ _
        subst h1
        obtain ⟨h4, c, hc⟩ := h6 k hlt
        have hc2 : (c.toNat : Int) < 256 := by have := c.toNat_lt; omega
        have w1 : IntKind.i64.wrap (31 * (x : Int)) = 31 * (x : Int) := by rw [IntKind.wrap_i64]; omega
        have w2 : IntKind.i64.wrap (c.toNat : Int) = (c.toNat : Int) := by rw [IntKind.wrap_i64]; omega
        have w3 : IntKind.i64.wrap (31 * (x : Int) + (c.toNat : Int)) = 31 * (x : Int) + (c.toNat : Int) := by rw [IntKind.wrap_i64]; omega
        have w4 : IntKind.i64.wrap (Int.tmod (31 * (x : Int) + (c.toNat : Int)) 1000003) = Int.tmod (31 * (x : Int) + (c.toNat : Int)) 1000003 := by rw [IntKind.wrap_i64, Int.tmod_eq_emod_of_nonneg (by omega)]; omega
        go_wp2_with fail
        go_roundw
        case rel => exact ⟨(31 * x + c.toNat) % 1000003, k + 1, by go_num, by omega, by go_num, by omega, trivial⟩
        case measure => simp [intOf]; omega
    · go_wp2_with fail
      go_ret
      exact ⟨x, rfl, hx, Below.refl _ _⟩

end Go.Proofs.YtimfcbjgoilnpaaDoor.Cur
