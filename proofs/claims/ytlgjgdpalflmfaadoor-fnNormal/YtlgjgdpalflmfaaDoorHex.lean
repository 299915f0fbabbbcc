/-
  Walks: the bytes' kinds, hex digits, percents: impl.isKind, hexValue, isPercentAt, byteOfPercent; spec.l1Digit, l1Hex, l1Byte.
-/
import Derived.Test.YtlgjgdpalflmfaaDoorProg
import Derived.Test.YtlgjgdpalflmfaaDoorByt
import Derived.WalkKit
import Derived.WalkLawsBesides
import Derived.Below
import Derived.Deep.QuietTactic
import Derived.BigQuiet
namespace Go.Proofs.YtlgjgdpalflmfaaDoor.Hex
open Go.RowKit
open Go.Proofs.YtlgjgdpalflmfaaDoor.Byt

/-- The table's cells hold its numbers. -/
def Tab (w : World) : Prop := ∀ i, i < 128 → w.cell? ⟨0, i, none⟩ = some (.int .u8 (kd i))

theorem Tab.below {B : Nat} {w w' : World} (h : Tab w) (hb : Below B w w') (hB : 0 < B) : Tab w' :=
  fun i hi => (hb.cell (p := ⟨0, i, none⟩) hB).trans (h i hi)

theorem Tab.lt {w : World} (h : Tab w) : 0 < w.heap.size := World.block_lt_of_cell? w _ (h 0 (by omega))
theorem Tab.alloc {w : World} (h : Tab w) (o : Obj) : Tab (w.alloc o) := h.below ((Below.refl w.heap.size w).alloc (Nat.le_refl _) o) h.lt

def isK (b k : Int) : Bool := decide (b < 128) && (bits BinOp.and .u8 (kd b.toNat) k != 0)

theorem isKind_any (b k : Int) (w : World) (hT : Tab w) (h0 : 0 ≤ b) (h1 : b ≤ 255) :
    Calls Tryd.prog 49 #[.int .u8 b, .int .u8 k] w fun e w' => e = .returned (.bool (isK b k)) ∧ w' = w := by
  obtain ⟨n, rfl⟩ := Int.eq_ofNat_of_zero_le h0
  by_cases h : (n : Int) < 128
  · have hc := hT n (by omega)
    go_enter Tryd.func49, Tryd.ntmps49
    go_wp2
    go_ret
    exact ⟨by simp [isK, h], rfl⟩
  · go_enter Tryd.func49, Tryd.ntmps49
    go_wp2
    go_ret
    exact ⟨by simp [isK]; intro h'; omega, rfl⟩

/-- Kind 8 is what the hex digits are of. -/
theorem isK_hex (b : Int) (h0 : 0 ≤ b) (h1 : b ≤ 255) : isK b 8 = decide (0 ≤ hexv b) := by
  obtain ⟨n, rfl⟩ := Int.eq_ofNat_of_zero_le h0
  have all : ∀ n : Nat, n < 256 → isK (n : Int) 8 = decide (0 ≤ hexv (n : Int)) := by decide +kernel
  exact all n (by omega)

theorem isHex_any (b : Int) (w : World) (hT : Tab w) (h0 : 0 ≤ b) (h1 : b ≤ 255) :
    Calls Tryd.prog 49 #[.int .u8 b, .int .u8 8] w fun e w' => e = .returned (.bool (decide (0 ≤ hexv b))) ∧ w' = w := by
  rw [← isK_hex b h0 h1]
  exact isKind_any b 8 w hT h0 h1

theorem hexValue_any (b : Int) (w : World) (h0 : 0 ≤ b) (h1 : b ≤ 255) (hx : 0 ≤ hexv b) :
    Calls Tryd.prog 81 #[.int .u8 b] w fun e w' => e = .returned (.int .u8 (hexv b)) ∧ w' = w := by
  rcases (show (48 ≤ b ∧ b ≤ 57) ∨ (97 ≤ b ∧ b ≤ 102) ∨ (65 ≤ b ∧ b ≤ 70) from by unfold hexv at hx; split at hx <;> (try split at hx) <;> (try split at hx) <;> omega) with h | h | h
  · rw [hexv_d h]
    clear hx
    go_enter Tryd.func81, Tryd.ntmps81
    go_wp2
    go_ret
    exact ⟨rfl, rfl⟩
  · rw [hexv_l h]
    clear hx
    go_enter Tryd.func81, Tryd.ntmps81
    go_wp2
    go_ret
    exact ⟨rfl, rfl⟩
  · rw [hexv_u h]
    clear hx
    go_enter Tryd.func81, Tryd.ntmps81
    go_wp2
    go_ret
    exact ⟨rfl, rfl⟩

theorem l1Hex_any (b : Int) (w : World) (h0 : 0 ≤ b) (h1 : b ≤ 255) :
    Calls Tryd.prog 89 #[.int .u8 b] w fun e w' => e = .returned (.int .i64 (hexv b)) ∧ w' = w := by
  by_cases h : 48 ≤ b ∧ b ≤ 57
  · rw [hexv_d h]
    go_enter Tryd.func89, Tryd.ntmps89
    go_wp2
    go_ret
    exact ⟨rfl, rfl⟩
  · by_cases h' : 97 ≤ b ∧ b ≤ 102
    · rw [hexv_l h']
      go_enter Tryd.func89, Tryd.ntmps89
      go_wp2
      go_ret
      exact ⟨rfl, rfl⟩
    · by_cases h'' : 65 ≤ b ∧ b ≤ 70
      · rw [hexv_u h'']
        go_enter Tryd.func89, Tryd.ntmps89
        go_wp2
        all_goals (go_ret; exact ⟨rfl, rfl⟩)
      · rw [hexv_no h h' h'']
        go_enter Tryd.func89, Tryd.ntmps89
        go_wp2
        all_goals (go_ret; exact ⟨rfl, rfl⟩)

theorem at_list (s : ByteArray) (k : Nat) (h : k < s.size) : s.data.toList[k]?.getD 0 = s[k] := by
  have h' : k < s.data.toList.length := by simpa using h
  rw [List.getElem?_eq_getElem h']; rfl

theorem byte_bd (c : UInt8) : 0 ≤ (c.toNat : Int) ∧ (c.toNat : Int) ≤ 255 := by have := c.toNat_lt; omega

theorem l1Byte_any (s : ByteArray) (k : Nat) (w : World) (hs : s.size ≤ 2000000) (hk : k < s.size) :
    Calls Tryd.prog 70 #[.string s, .int .i64 k] w fun e w' => e = .returned (.int .i64 (pct s.data.toList k)) ∧ w' = w := by
  by_cases h2 : k + 2 < s.size
  · have e0 := at_list s k hk
    have e1 := at_list s (k + 1) (by omega)
    have e2 := at_list s (k + 2) h2
    by_cases hc : (s[k].toNat : Int) = 37
    · by_cases ha : 0 ≤ hexv (s[k + 1].toNat : Int)
      · by_cases hb : 0 ≤ hexv (s[k + 2].toNat : Int)
        · rw [pct_is (by simpa using h2) (by rw [e0]; exact hc) (by rw [e1]; exact ha) (by rw [e2]; exact hb), e1, e2]
          have b1 := hexv_hi (s[k + 1].toNat : Int)
          have b2 := hexv_hi (s[k + 2].toNat : Int)
          clear e0 e1 e2
          go_enter Tryd.func70, Tryd.ntmps70
          go_wp2_with (go_at_call 89; refine (l1Hex_any _ _ (byte_bd _).1 (byte_bd _).2).mono ?_; rintro e w' ⟨rfl, rfl⟩)
          go_ret
          exact ⟨rfl, rfl⟩
        · rw [pct_two (by rw [e2]; omega)]
          clear e0 e1 e2
          go_enter Tryd.func70, Tryd.ntmps70
          go_wp2_with (go_at_call 89; refine (l1Hex_any _ _ (byte_bd _).1 (byte_bd _).2).mono ?_; rintro e w' ⟨rfl, rfl⟩)
          go_ret
          exact ⟨rfl, rfl⟩
      · rw [pct_one (by rw [e1]; omega)]
        clear e0 e1 e2
        go_enter Tryd.func70, Tryd.ntmps70
        go_wp2_with (go_at_call 89; refine (l1Hex_any _ _ (byte_bd _).1 (byte_bd _).2).mono ?_; rintro e w' ⟨rfl, rfl⟩)
        go_ret
        exact ⟨rfl, rfl⟩
    · rw [pct_other (by rw [e0]; exact hc)]
      clear e0 e1 e2
      have hc' : ((s[k].toNat : Int) != 37) = true := by simpa using hc
      go_enter Tryd.func70, Tryd.ntmps70
      go_wp2
      go_ret
      exact ⟨rfl, rfl⟩
  · rw [pct_short (by simpa using h2)]
    go_enter Tryd.func70, Tryd.ntmps70
    go_wp2
    go_ret
    exact ⟨rfl, rfl⟩

theorem isPercentAt_any (s : ByteArray) (k : Nat) (w : World) (hT : Tab w) (hs : s.size ≤ 2000000) (hk : k < s.size) :
    Calls Tryd.prog 53 #[.string s, .int .i64 k] w fun e w' => e = .returned (.bool (decide (0 ≤ pct s.data.toList k))) ∧ w' = w := by
  by_cases h2 : k + 2 < s.size
  · have e0 := at_list s k hk
    have e1 := at_list s (k + 1) (by omega)
    have e2 := at_list s (k + 2) h2
    by_cases hc : (s[k].toNat : Int) = 37
    · by_cases ha : 0 ≤ hexv (s[k + 1].toNat : Int)
      · by_cases hb : 0 ≤ hexv (s[k + 2].toNat : Int)
        · have hp : decide (0 ≤ pct s.data.toList k) = true := by
            rw [pct_is (by simpa using h2) (by rw [e0]; exact hc) (by rw [e1]; exact ha) (by rw [e2]; exact hb), e1, e2]; simp; omega
          rw [hp]
          clear e0 e1 e2 hp
          go_enter Tryd.func53, Tryd.ntmps53
          go_wp2_with (go_at_call 49; refine (isHex_any _ _ hT (byte_bd _).1 (byte_bd _).2).mono ?_; rintro e w' ⟨rfl, rfl⟩)
          go_ret
          exact ⟨rfl, rfl⟩
        · have hp : decide (0 ≤ pct s.data.toList k) = false := by rw [pct_two (by rw [e2]; omega)]; rfl
          rw [hp]
          clear e0 e1 e2 hp
          go_enter Tryd.func53, Tryd.ntmps53
          go_wp2_with (go_at_call 49; refine (isHex_any _ _ hT (byte_bd _).1 (byte_bd _).2).mono ?_; rintro e w' ⟨rfl, rfl⟩)
          go_ret
          exact ⟨by simpa using hb, rfl⟩
      · have hp : decide (0 ≤ pct s.data.toList k) = false := by rw [pct_one (by rw [e1]; omega)]; rfl
        rw [hp]
        clear e0 e1 e2 hp
        have ha' : decide (0 ≤ hexv (s[k + 1].toNat : Int)) = false := by simpa using ha
        go_enter Tryd.func53, Tryd.ntmps53
        go_wp2_with (go_at_call 49; refine (isHex_any _ _ hT (byte_bd _).1 (byte_bd _).2).mono ?_; rintro e w' ⟨rfl, rfl⟩)
        go_ret
        exact ⟨rfl, rfl⟩
    · have hp : decide (0 ≤ pct s.data.toList k) = false := by rw [pct_other (by rw [e0]; exact hc)]; rfl
      rw [hp]
      clear e0 e1 e2 hp
      have hc' : ((s[k].toNat : Int) == 37) = false := by simpa using hc
      go_enter Tryd.func53, Tryd.ntmps53
      go_wp2
      go_ret
      exact ⟨rfl, rfl⟩
  · have hp : decide (0 ≤ pct s.data.toList k) = false := by rw [pct_short (by simpa using h2)]; rfl
    rw [hp]
    clear hp
    by_cases hc : (s[k].toNat : Int) = 37
    · have hc' : ((s[k].toNat : Int) == 37) = true := by simpa using hc
      go_enter Tryd.func53, Tryd.ntmps53
      go_wp2
      go_ret
      exact ⟨rfl, rfl⟩
    · have hc' : ((s[k].toNat : Int) == 37) = false := by simpa using hc
      go_enter Tryd.func53, Tryd.ntmps53
      go_wp2
      go_ret
      exact ⟨rfl, rfl⟩

end Go.Proofs.YtlgjgdpalflmfaaDoor.Hex
