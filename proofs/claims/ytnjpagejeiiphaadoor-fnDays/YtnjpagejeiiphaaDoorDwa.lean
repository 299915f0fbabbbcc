/-
  Walks: leap years, months' and years' days: the small functions of impl and spec.
-/
import Derived.Test.YtnjpagejeiiphaaDoorProg
import Derived.Test.YtnjpagejeiiphaaDoorDmt
import Derived.WalkKit
import Derived.WalkLawsBesides
import Derived.Below
namespace Go.Proofs.YtnjpagejeiiphaaDoor.Dwa
open Go.RowKit
open Go.Proofs.YtnjpagejeiiphaaDoor.Dmt

theorem ret_bool {a b : Bool} (h : a = b) : Ending.returned (.bool a) = .returned (.bool b) := by rw [h]
theorem ret_int {k : IntKind} {a b : Int} (h : a = b) : Ending.returned (.int k a) = .returned (.int k b) := by rw [h]

def mdays : List Int := [31, 28, 31, 30, 31, 30, 31, 31, 30, 31, 30, 31]
def md (i : Nat) : Int := mdays.getD i 0

/-- The months' days as the text lays them. -/
def Tab (w : World) : Prop := ∀ i, i < 12 → w.cell? ⟨0, i, none⟩ = some (.int .i64 (md i))
theorem Tab.below {B : Nat} {w w' : World} (h : Tab w) (hb : Below B w w') (hB : 0 < B) : Tab w' :=
  fun i hi => (hb.cell (p := ⟨0, i, none⟩) hB).trans (h i hi)
theorem Tab.lt {w : World} (h : Tab w) : 0 < w.heap.size := World.block_lt_of_cell? w _ (h 0 (by omega))
theorem Tab.alloc {w : World} (h : Tab w) (o : Obj) : Tab (w.alloc o) := h.below ((Below.refl w.heap.size w).alloc (Nat.le_refl _) o) h.lt

theorem leap_cases (y : Int) : (y % 4 ≠ 0 ∧ leapB y = false) ∨ (y % 4 = 0 ∧ y % 100 ≠ 0 ∧ leapB y = true) ∨ (y % 4 = 0 ∧ y % 100 = 0 ∧ y % 400 ≠ 0 ∧ leapB y = false) ∨ (y % 4 = 0 ∧ y % 100 = 0 ∧ y % 400 = 0 ∧ leapB y = true) := by
  unfold leapB
  by_cases h4 : y % 4 = 0 <;> by_cases h1 : y % 100 = 0 <;> by_cases h2 : y % 400 = 0 <;> simp [h4, h1, h2]

theorem implLeap_any (y : Int) (w : World) (h0 : 0 ≤ y) (h1 : y ≤ 20000) :
    Calls Tryd.prog 32 #[.int .i64 y] w fun e w' => e = .returned (.bool (leapB y)) ∧ w' = w := by
  rcases leap_cases y with ⟨h4, hl⟩ | ⟨h4, h5, hl⟩ | ⟨h4, h5, h6, hl⟩ | ⟨h4, h5, h6, hl⟩
  all_goals
    have HR : Hid (leapB y = _) := hl
    clear hl
    go_enter Tryd.func32, Tryd.ntmps32
    go_wp2
    go_ret
    first
      | exact ⟨ret_bool HR.out.symm, rfl⟩
      | exact ⟨ret_bool ((beq_eq_false_iff_ne.2 h6).trans HR.out.symm), rfl⟩
      | exact ⟨ret_bool ((beq_iff_eq.2 h6).trans HR.out.symm), rfl⟩

theorem specLeap_any (y : Int) (w : World) (h0 : 0 ≤ y) (h1 : y ≤ 20000) :
    Calls Tryd.prog 48 #[.int .i64 y] w fun e w' => e = .returned (.bool (leapB y)) ∧ w' = w := by
  rcases leap_cases y with ⟨h4, hl⟩ | ⟨h4, h5, hl⟩ | ⟨h4, h5, h6, hl⟩ | ⟨h4, h5, h6, hl⟩
  all_goals
    have HR : Hid (leapB y = _) := hl
    clear hl
    go_enter Tryd.func48, Tryd.ntmps48
    go_wp2
    go_ret
    first
      | exact ⟨ret_bool HR.out.symm, rfl⟩
      | exact ⟨ret_bool ((beq_eq_false_iff_ne.2 h6).trans HR.out.symm), rfl⟩
      | exact ⟨ret_bool ((beq_iff_eq.2 h6).trans HR.out.symm), rfl⟩

theorem md_is (y : Int) : ∀ k : Nat, k < 12 → ¬ (k = 1 ∧ leapB y = true) → md k = longI y ((k : Int) + 1) := by
  intro k hk hn
  have : k = 0 ∨ k = 1 ∨ k = 2 ∨ k = 3 ∨ k = 4 ∨ k = 5 ∨ k = 6 ∨ k = 7 ∨ k = 8 ∨ k = 9 ∨ k = 10 ∨ k = 11 := by omega
  rcases this with rfl | rfl | rfl | rfl | rfl | rfl | rfl | rfl | rfl | rfl | rfl | rfl
  case inr.inl => 
    have : leapB y = false := by simpa using hn
    simp [md, mdays, longI, this]
  all_goals simp [md, mdays, longI]

theorem implLong_any (y m : Int) (w : World) (hT : Tab w) (h0 : 0 ≤ y) (h1 : y ≤ 20000) (hm : 1 ≤ m) (hm2 : m ≤ 12) :
    Calls Tryd.prog 31 #[.int .i64 y, .int .i64 m] w fun e w' => e = .returned (.int .i64 (longI y m)) ∧ w' = w := by
  obtain ⟨k, rfl⟩ : ∃ k : Nat, m = (k : Int) + 1 := ⟨(m - 1).toNat, by omega⟩
  have hc := hT k (by omega)
  by_cases h2 : k = 1
  · subst h2
    cases hl : leapB y
    · have HR : Hid (md 1 = longI y (((1 : Nat) : Int) + 1)) := md_is y 1 (by omega) (by simp [hl])
      go_enter Tryd.func31, Tryd.ntmps31
      go_wp2_with (go_at_call 32; refine (implLeap_any y _ h0 h1).mono ?_; rintro e w' ⟨rfl, rfl⟩)
      go_ret
      exact ⟨ret_int HR.out, rfl⟩
    · have HR : Hid ((29 : Int) = longI y (((1 : Nat) : Int) + 1)) := by show _ = _; simp [longI, hl]
      go_enter Tryd.func31, Tryd.ntmps31
      go_wp2_with (go_at_call 32; refine (implLeap_any y _ h0 h1).mono ?_; rintro e w' ⟨rfl, rfl⟩)
      go_ret
      exact ⟨ret_int HR.out, rfl⟩
  · have HR : Hid (md k = longI y ((k : Int) + 1)) := md_is y k (by omega) (fun h => h2 h.1)
    go_enter Tryd.func31, Tryd.ntmps31
    go_wp2
    go_ret
    exact ⟨ret_int HR.out, rfl⟩

theorem specLong_any (y m : Int) (w : World) (h0 : 0 ≤ y) (h1 : y ≤ 20000) (hm : 1 ≤ m) (hm2 : m ≤ 12) :
    Calls Tryd.prog 37 #[.int .i64 y, .int .i64 m] w fun e w' => e = .returned (.int .i64 (longI y m)) ∧ w' = w := by
  by_cases h2 : m = 2
  · subst h2
    cases hl : leapB y
    · have HR : Hid ((28 : Int) = longI y 2) := by show _ = _; simp [longI, hl]
      go_enter Tryd.func37, Tryd.ntmps37
      go_wp2_with (go_at_call 48; refine (specLeap_any y _ h0 h1).mono ?_; rintro e w' ⟨rfl, rfl⟩)
      go_ret
      exact ⟨ret_int HR.out, rfl⟩
    · have HR : Hid ((29 : Int) = longI y 2) := by show _ = _; simp [longI, hl]
      go_enter Tryd.func37, Tryd.ntmps37
      go_wp2_with (go_at_call 48; refine (specLeap_any y _ h0 h1).mono ?_; rintro e w' ⟨rfl, rfl⟩)
      go_ret
      exact ⟨ret_int HR.out, rfl⟩
  · have : m = 1 ∨ m = 3 ∨ m = 4 ∨ m = 5 ∨ m = 6 ∨ m = 7 ∨ m = 8 ∨ m = 9 ∨ m = 10 ∨ m = 11 ∨ m = 12 := by omega
    clear hm hm2 h2
    rcases this with rfl | rfl | rfl | rfl | rfl | rfl | rfl | rfl | rfl | rfl | rfl
    all_goals
      go_enter Tryd.func37, Tryd.ntmps37
      go_wp2
      go_ret
      exact ⟨ret_int (by simp [longI]), rfl⟩

theorem specAhead_any (y : Int) (w : World) (h0 : 1970 ≤ y) (h1 : y ≤ 10000) :
    Calls Tryd.prog 47 #[.int .i64 y] w fun e w' => e = .returned (.int .i64 (aheadI y)) ∧ w' = w := by
  go_enter Tryd.func47, Tryd.ntmps47
  go_wp2
  go_ret
  exact ⟨ret_int (by unfold aheadI; omega), rfl⟩

theorem implAhead_any (y : Int) (w : World) (h0 : 1970 ≤ y) (h1 : y ≤ 10000) :
    Calls Tryd.prog 30 #[.int .i64 y] w fun e w' => e = .returned (.int .i64 (aheadI y)) ∧ w' = w := by
  go_enter Tryd.func30, Tryd.ntmps30
  go_wp2_with (go_at_call 43; go_in)
  go_ret
  exact ⟨ret_int (by unfold aheadI; omega), rfl⟩

end Go.Proofs.YtnjpagejeiiphaaDoor.Dwa
