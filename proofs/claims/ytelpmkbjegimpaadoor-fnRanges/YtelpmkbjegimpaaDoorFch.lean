/-
  Walks: the bytes of a token: impl.isKind, impl.isToken; spec.l1Letter, l1Digit, l1Has, l3TokenByte, l3Token.
-/
import Derived.Test.YtelpmkbjegimpaaDoorFbs
import Derived.Test.YtelpmkbjegimpaaDoorChb
import Derived.Test.YtelpmkbjegimpaaDoorShelf
import Derived.Below
namespace Go.Proofs.YtelpmkbjegimpaaDoor.Fch
open Go.RowKit
open Go.Proofs.YtelpmkbjegimpaaDoor.Byt
open Go.Proofs.YtelpmkbjegimpaaDoor.Fbs

/-- The table's cells hold its numbers. -/
def Tab (w : World) : Prop := ∀ i, i < 128 → w.cell? ⟨1, i, none⟩ = some (.int .u8 (kd i))

theorem Tab.below {B : Nat} {w w' : World} (h : Tab w) (hb : Below B w w') (hB : 1 < B) : Tab w' :=
  fun i hi => (hb.cell (p := ⟨1, i, none⟩) hB).trans (h i hi)

theorem Tab.lt {w : World} (h : Tab w) : 1 < w.heap.size := World.block_lt_of_cell? w _ (h 0 (by omega))
theorem Tab.alloc {w : World} (h : Tab w) (o : Obj) : Tab (w.alloc o) := h.below ((Below.refl w.heap.size w).alloc (Nat.le_refl _) o) h.lt

def isK (b k : Int) : Bool := decide (b < 128) && (bits BinOp.and .u8 (kd b.toNat) k != 0)

theorem isKind_any (b k : Int) (w : World) (hT : Tab w) (h0 : 0 ≤ b) (h1 : b ≤ 255) :
    Calls Tryd.prog 77 #[.int .u8 b, .int .u8 k] w fun e w' => e = .returned (.bool (isK b k)) ∧ w' = w := by
  obtain ⟨n, rfl⟩ := Int.eq_ofNat_of_zero_le h0
  by_cases h : (n : Int) < 128
  · have hc := hT n (by omega)
    go_enter Tryd.func77, Tryd.ntmps77
    go_wp2
    go_ret
    exact ⟨by simp [isK, h], rfl⟩
  · go_enter Tryd.func77, Tryd.ntmps77
    go_wp2
    go_ret
    exact ⟨by simp [isK]; intro h'; omega, rfl⟩

theorem isK_free (b : Int) (h0 : 0 ≤ b) (h1 : b ≤ 255) : isK b 2 = freeB b := by
  obtain ⟨n, rfl⟩ := Int.eq_ofNat_of_zero_le h0
  have all : ∀ n : Nat, n < 256 → isK (n : Int) 2 = freeB (n : Int) := by decide +kernel
  exact all n (by omega)

theorem isFree_any (b : Int) (w : World) (hT : Tab w) (h0 : 0 ≤ b) (h1 : b ≤ 255) :
    Calls Tryd.prog 77 #[.int .u8 b, .int .u8 2] w fun e w' => e = .returned (.bool (freeB b)) ∧ w' = w := by
  rw [← isK_free b h0 h1]
  exact isKind_any b 2 w hT h0 h1

theorem l1Digit_any (b : Int) (w : World) :
    Calls Tryd.prog 78 #[.int .u8 b] w fun e w' => e = .returned (.bool (digitB b)) ∧ w' = w := by
  by_cases h : 48 ≤ b
  · have HF : Hid (digitB b = decide (b ≤ 57)) := by show _ = _; simp [digitB, h]
    go_enter Tryd.func78, Tryd.ntmps78
    go_wp2
    go_ret
    exact ⟨ret_bool HF.out.symm, rfl⟩
  · have HF : Hid (digitB b = false) := by show _ = _; simp [digitB]; omega
    go_enter Tryd.func78, Tryd.ntmps78
    go_wp2
    go_ret
    exact ⟨ret_bool HF.out.symm, rfl⟩

theorem to_byte (c : UInt8) : ((c.toNat : Int)).toNat.toUInt8 = c := by simp

/-- 'strings.IndexByte(t, c) < 0'. -/
theorem indexByte_any (t : ByteArray) (c : UInt8) (w : World) :
    Calls Tryd.prog 103 #[.string t, .int .u8 (c.toNat : Int)] w fun e w' => (∃ n : Int, e = .returned (.int .i64 n) ∧ decide (n < 0) = !hasB t.data.toList (c.toNat : Int)) ∧ w' = w := by
  refine (Tryd.strings_IndexByte t (c.toNat : Int) w).mono ?_
  rintro e w' ⟨rfl, rfl⟩
  rw [to_byte]
  exact ⟨⟨_, rfl, index_neg _ _⟩, rfl⟩

/-- What a token's bytes are. -/
def otherL : List UInt8 := [33, 35, 36, 37, 38, 39, 42, 43, 94, 124, 96]
def signsL : List UInt8 := [33, 35, 36, 37, 38, 39, 42, 43, 45, 46, 94, 95, 124, 126]
def tokB (b : Int) : Bool := freeB b || hasB otherL b
theorem tokB_spec (b : Int) (h0 : 0 ≤ b) (h1 : b ≤ 255) : tokB b = (letterB b || digitB b || hasB signsL b || b == 96) := by
  obtain ⟨n, rfl⟩ := Int.eq_ofNat_of_zero_le h0
  have all : ∀ n : Nat, n < 256 → tokB (n : Int) = (letterB (n : Int) || digitB (n : Int) || hasB signsL (n : Int) || (n : Int) == 96) := by decide +kernel
  exact all n (by omega)
def tokenB (l : List UInt8) : Bool := decide (1 ≤ l.length ∧ l.length ≤ 60) && l.all (fun c => tokB (c.toNat : Int))

theorem otherS : (⟨#[33, 35, 36, 37, 38, 39, 42, 43, 94, 124, 96]⟩ : ByteArray).data.toList = otherL := rfl

theorem indexOther (c : UInt8) (w : World) :
    Calls Tryd.prog 103 #[.string ⟨#[33, 35, 36, 37, 38, 39, 42, 43, 94, 124, 96]⟩, .int .u8 (c.toNat : Int)] w fun e w' => (∃ n : Int, e = .returned (.int .i64 n) ∧ decide (n < 0) = !hasB otherL (c.toNat : Int)) ∧ w' = w :=
  indexByte_any ⟨#[33, 35, 36, 37, 38, 39, 42, 43, 94, 124, 96]⟩ c w

theorem isBetween_any (a n b : Int) (w : World) :
    Calls Tryd.prog 26 #[.int .i64 a, .int .i64 n, .int .i64 b] w fun e w' => e = .returned (.bool (decide (a ≤ n) && decide (n ≤ b))) ∧ w' = w := by
  by_cases h : a ≤ n
  · rw [decide_eq_true h, Bool.true_and]
    go_enter Tryd.func26, Tryd.ntmps26
    go_wp2
    go_ret
    exact ⟨rfl, rfl⟩
  · rw [decide_eq_false h, Bool.false_and]
    go_enter Tryd.func26, Tryd.ntmps26
    go_wp2
    go_ret
    exact ⟨rfl, rfl⟩
theorem l1In_any (n a b : Int) (w : World) :
    Calls Tryd.prog 35 #[.int .i64 n, .int .i64 a, .int .i64 b] w fun e w' => e = .returned (.bool (decide (a ≤ n) && decide (n ≤ b))) ∧ w' = w := by
  by_cases h : a ≤ n
  · rw [decide_eq_true h, Bool.true_and]
    go_enter Tryd.func35, Tryd.ntmps35
    go_wp2
    go_ret
    exact ⟨rfl, rfl⟩
  · rw [decide_eq_false h, Bool.false_and]
    go_enter Tryd.func35, Tryd.ntmps35
    go_wp2
    go_ret
    exact ⟨rfl, rfl⟩

end Go.Proofs.YtelpmkbjegimpaaDoor.Fch
