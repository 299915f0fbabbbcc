/-
  Walk: impl.byteOfPercent (a region that draws its order and holds two calls).
-/
import Derived.Test.YtimfcbjgoilnpaaDoorHex
import Derived.WalkKit
import Derived.WalkLawsBesides
import Derived.Deep.QuietTactic
import Derived.BigQuiet
namespace Go.Proofs.YtimfcbjgoilnpaaDoor.Hex
open Go.RowKit
open Go.Proofs.YtimfcbjgoilnpaaDoor.Byt

theorem ret_int {k : IntKind} {a b : Int} (h : a = b) : Ending.returned (.int k a) = .returned (.int k b) := by rw [h]

theorem or_hex (a b : Int) (a0 : 0 ≤ a) (a1 : a ≤ 15) (b0 : 0 ≤ b) (b1 : b ≤ 15) : bits BinOp.or IntKind.u8 (a * 16) b = 16 * a + b := by
  obtain ⟨n, rfl⟩ := Int.eq_ofNat_of_zero_le a0
  obtain ⟨m, rfl⟩ := Int.eq_ofNat_of_zero_le b0
  have all : ∀ n : Nat, n < 16 → ∀ m : Nat, m < 16 → bits BinOp.or IntKind.u8 ((n : Int) * 16) (m : Int) = 16 * (n : Int) + (m : Int) := by decide +kernel
  exact all n (by omega) m (by omega)

theorem index_str (s : ByteArray) (i : Nat) (h : i < s.size) (wx : World) (j : Int) (hj : j = (i : Int)) : (Instr.index 9 (.string s) (.int .i64 j)).run Tryd.prog wx = .ok (.int .u8 (s[i].toNat : Int)) wx := by
  subst hj
  rw [run_index_string wx _ _ _ _ Tryd.underlying9, dif_pos ⟨by omega, by omega⟩]
  rfl

theorem below_drewN (w : World) (n : Nat) : Below w.heap.size w (w.drewN n) := ⟨rfl, rfl, rfl, Nat.le_refl _, fun _ _ => rfl⟩

end Go.Proofs.YtimfcbjgoilnpaaDoor.Hex
