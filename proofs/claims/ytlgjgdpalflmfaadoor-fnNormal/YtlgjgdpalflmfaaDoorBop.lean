/-
  Walk: impl.byteOfPercent (a region that draws its order and holds two calls).
-/
import Derived.Test.YtlgjgdpalflmfaaDoorHex
import Derived.WalkKit
import Derived.WalkLawsBesides
import Derived.Deep.QuietTactic
import Derived.BigQuiet
namespace Go.Proofs.YtlgjgdpalflmfaaDoor.Hex
open Go.RowKit
open Go.Proofs.YtlgjgdpalflmfaaDoor.Byt

theorem ret_int {k : IntKind} {a b : Int} (h : a = b) : Ending.returned (.int k a) = .returned (.int k b) := by rw [h]

theorem or_hex (a b : Int) (a0 : 0 ≤ a) (a1 : a ≤ 15) (b0 : 0 ≤ b) (b1 : b ≤ 15) : bits BinOp.or IntKind.u8 (a * 16) b = 16 * a + b := by
  obtain ⟨n, rfl⟩ := Int.eq_ofNat_of_zero_le a0
  obtain ⟨m, rfl⟩ := Int.eq_ofNat_of_zero_le b0
  have all : ∀ n : Nat, n < 16 → ∀ m : Nat, m < 16 → bits BinOp.or IntKind.u8 ((n : Int) * 16) (m : Int) = 16 * (n : Int) + (m : Int) := by decide +kernel
  exact all n (by omega) m (by omega)

theorem index_str (s : ByteArray) (i : Nat) (h : i < s.size) (wx : World) (j : Int) (hj : j = (i : Int)) : (Instr.index 9 (.string s) (.int .i64 j)).run Tryd.prog wx = .ok (.int .u8 (s[i].toNat : Int)) wx := by
  subst hj
  rw [run_index_string wx _ _ _ _ Tryd.underlying9, dif_pos ⟨by omega, by omega⟩]
  rfl

theorem byteOfPercent_any (s : ByteArray) (k : Nat) (w : World) (hs : s.size ≤ 2000000) (hp : 0 ≤ pct s.data.toList k) :
    Calls Tryd.prog 54 #[.string s, .int .i64 k] w fun e w' => e = .returned (.int .u8 (pct s.data.toList k)) ∧ ∃ n, w' = w.drewN n := by
  obtain ⟨h2, hc, ha, hb⟩ := pct_facts hp
  have h2' : k + 2 < s.size := by simpa using h2
  have e1 := at_list s (k + 1) (by omega)
  have e2 := at_list s (k + 2) h2'
  rw [pct_is h2 hc ha hb]
  rw [e1] at ha
  rw [e2] at hb
  rw [e1, e2]
  clear e1 e2 hc hp h2
  have b1 := hexv_hi (s[k + 1].toNat : Int)
  have b2 := hexv_hi (s[k + 2].toNat : Int)
  have i1 : (k : Int) + 1 < (s.size : Int) := by omega
  have i2 : (k : Int) + 2 < (s.size : Int) := by omega
  have w1 : IntKind.i64.wrap ((k : Int) + 1) = (k : Int) + 1 := by rw [IntKind.wrap_i64]; omega
  have w2 : IntKind.i64.wrap ((k : Int) + 2) = (k : Int) + 2 := by rw [IntKind.wrap_i64]; omega
  have x1 := fun wx => index_str s (k + 1) (by omega) wx ((k : Int) + 1) (by omega)
  have x2 := fun wx => index_str s (k + 2) (by omega) wx ((k : Int) + 2) (by omega)
  go_enter Tryd.func54, Tryd.ntmps54
  go_wp2_with fail
  go_quiet ((go_at_call 81; exact Calls.quiet_of_same (hexValue_any _ _ (byte_bd _).1 (byte_bd _).2 (by assumption))))
  go_wp2
  go_ret
  exact ⟨ret_int (or_hex _ _ ha (hexv_hi _) hb (hexv_hi _)), _, rfl⟩

theorem below_drewN (w : World) (n : Nat) : Below w.heap.size w (w.drewN n) := ⟨rfl, rfl, rfl, Nat.le_refl _, fun _ _ => rfl⟩

/-- The same, the world behind it told by 'Below' alone. -/
theorem byteOfPercent_bel (s : ByteArray) (k : Nat) (w : World) (hs : s.size ≤ 2000000) (hp : 0 ≤ pct s.data.toList k) :
    Calls Tryd.prog 54 #[.string s, .int .i64 k] w fun e w' => e = .returned (.int .u8 (pct s.data.toList k)) ∧ Below w.heap.size w w' := by
  refine (byteOfPercent_any s k w hs hp).mono ?_
  rintro e w' ⟨rfl, n, rfl⟩
  exact ⟨rfl, below_drewN w n⟩

theorem isPercentAt_yes (s : ByteArray) (k : Nat) (w : World) (hT : Tab w) (hs : s.size ≤ 2000000) (hp : 0 ≤ pct s.data.toList k) :
    Calls Tryd.prog 53 #[.string s, .int .i64 k] w fun e w' => e = .returned (.bool true) ∧ w' = w := by
  have h := (pct_facts hp).1
  have hl : s.data.toList.length = s.size := by simp
  have := isPercentAt_any s k w hT hs (by omega)
  rw [decide_eq_true hp] at this
  exact this

theorem isPercentAt_no (s : ByteArray) (k : Nat) (w : World) (hT : Tab w) (hs : s.size ≤ 2000000) (hk : k < s.size) (hp : pct s.data.toList k < 0) :
    Calls Tryd.prog 53 #[.string s, .int .i64 k] w fun e w' => e = .returned (.bool false) ∧ w' = w := by
  have := isPercentAt_any s k w hT hs hk
  rw [decide_eq_false (by omega)] at this
  exact this

end Go.Proofs.YtlgjgdpalflmfaaDoor.Hex
