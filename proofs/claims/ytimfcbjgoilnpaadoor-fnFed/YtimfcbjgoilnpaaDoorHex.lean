/-
  Walks: the bytes' kinds, hex digits, percents: impl.isKind, hexValue, isPercentAt, byteOfPercent; spec.l1Digit, l1Hex, l1Byte.
-/
import Derived.Test.YtimfcbjgoilnpaaDoorProg
import Derived.Test.YtimfcbjgoilnpaaDoorByt
import Derived.WalkKit
import Derived.WalkLawsBesides
import Derived.Below
import Derived.Deep.QuietTactic
import Derived.BigQuiet
namespace Go.Proofs.YtimfcbjgoilnpaaDoor.Hex
open Go.RowKit
open Go.Proofs.YtimfcbjgoilnpaaDoor.Byt

/-- The table's cells hold its numbers. -/
def Tab (w : World) : Prop := ∀ i, i < 128 → w.cell? ⟨0, i, none⟩ = some (.int .u8 (kd i))

theorem Tab.below {B : Nat} {w w' : World} (h : Tab w) (hb : Below B w w') (hB : 0 < B) : Tab w' :=
  fun i hi => (hb.cell (p := ⟨0, i, none⟩) hB).trans (h i hi)

theorem Tab.lt {w : World} (h : Tab w) : 0 < w.heap.size := World.block_lt_of_cell? w _ (h 0 (by omega))
theorem Tab.alloc {w : World} (h : Tab w) (o : Obj) : Tab (w.alloc o) := h.below ((Below.refl w.heap.size w).alloc (Nat.le_refl _) o) h.lt

def isK (b k : Int) : Bool := decide (b < 128) && (bits BinOp.and .u8 (kd b.toNat) k != 0)

theorem isKind_any (b k : Int) (w : World) (hT : Tab w) (h0 : 0 ≤ b) (h1 : b ≤ 255) :
    Calls Tryd.prog 63 #[.int .u8 b, .int .u8 k] w fun e w' => e = .returned (.bool (isK b k)) ∧ w' = w := by
  obtain ⟨n, rfl⟩ := Int.eq_ofNat_of_zero_le h0
  by_cases h : (n : Int) < 128
  · have hc := hT n (by omega)
    go_enter Tryd.func63, Tryd.ntmps63
    go_wp2
    go_ret
    exact ⟨by simp [isK, h], rfl⟩
  · go_enter Tryd.func63, Tryd.ntmps63
    go_wp2
    go_ret
    exact ⟨by simp [isK]; intro h'; omega, rfl⟩

/-- Kind 8 is what the hex digits are of. -/
theorem isK_hex (b : Int) (h0 : 0 ≤ b) (h1 : b ≤ 255) : isK b 8 = decide (0 ≤ hexv b) := by
  obtain ⟨n, rfl⟩ := Int.eq_ofNat_of_zero_le h0
  have all : ∀ n : Nat, n < 256 → isK (n : Int) 8 = decide (0 ≤ hexv (n : Int)) := by decide +kernel
  exact all n (by omega)

theorem isHex_any (b : Int) (w : World) (hT : Tab w) (h0 : 0 ≤ b) (h1 : b ≤ 255) :
    Calls Tryd.prog 63 #[.int .u8 b, .int .u8 8] w fun e w' => e = .returned (.bool (decide (0 ≤ hexv b))) ∧ w' = w := by
  rw [← isK_hex b h0 h1]
  exact isKind_any b 8 w hT h0 h1

theorem hexValue_any (b : Int) (w : World) (h0 : 0 ≤ b) (h1 : b ≤ 255) (hx : 0 ≤ hexv b) :
    Calls Tryd.prog 52 #[.int .u8 b] w fun e w' => e = .returned (.int .u8 (hexv b)) ∧ w' = w := by
  rcases (show (48 ≤ b ∧ b ≤ 57) ∨ (97 ≤ b ∧ b ≤ 102) ∨ (65 ≤ b ∧ b ≤ 70) from by unfold hexv at hx; split at hx <;> (try split at hx) <;> (try split at hx) <;> omega) with h | h | h
  · rw [hexv_d h]
    clear hx
    go_enter Tryd.func52, Tryd.ntmps52
    go_wp2
    go_ret
    exact ⟨rfl, rfl⟩
  · rw [hexv_l h]
    clear hx
    go_enter Tryd.func52, Tryd.ntmps52
    go_wp2
    go_ret
    exact ⟨rfl, rfl⟩
  · rw [hexv_u h]
    clear hx
    go_enter Tryd.func52, Tryd.ntmps52
    go_wp2
    go_ret
    exact ⟨rfl, rfl⟩

theorem l1Hex_any (b : Int) (w : World) (h0 : 0 ≤ b) (h1 : b ≤ 255) :
    Calls Tryd.prog 58 #[.int .u8 b] w fun e w' => e = .returned (.int .i64 (hexv b)) ∧ w' = w := by
  by_cases h : 48 ≤ b ∧ b ≤ 57
  · rw [hexv_d h]
    go_enter Tryd.func58, Tryd.ntmps58
    go_wp2
    go_ret
    exact ⟨rfl, rfl⟩
  · by_cases h' : 97 ≤ b ∧ b ≤ 102
    · rw [hexv_l h']
      go_enter Tryd.func58, Tryd.ntmps58
      go_wp2
      go_ret
      exact ⟨rfl, rfl⟩
    · by_cases h'' : 65 ≤ b ∧ b ≤ 70
      · rw [hexv_u h'']
        go_enter Tryd.func58, Tryd.ntmps58
        go_wp2
        all_goals (go_ret; exact ⟨rfl, rfl⟩)
      · rw [hexv_no h h' h'']
        go_enter Tryd.func58, Tryd.ntmps58
        go_wp2
        all_goals (go_ret; exact ⟨rfl, rfl⟩)

theorem at_list (s : ByteArray) (k : Nat) (h : k < s.size) : s.data.toList[k]?.getD 0 = s[k] := by
  have h' : k < s.data.toList.length := by simpa using h
  rw [List.getElem?_eq_getElem h']; rfl

theorem byte_bd (c : UInt8) : 0 ≤ (c.toNat : Int) ∧ (c.toNat : Int) ≤ 255 := by have := c.toNat_lt; omega

end Go.Proofs.YtimfcbjgoilnpaaDoor.Hex
