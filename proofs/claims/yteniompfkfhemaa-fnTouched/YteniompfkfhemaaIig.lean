/-
  Walks: slices.Index, impl's placeOf, has, pileOf.
-/
import Derived.Test.YteniompfkfhemaaIif
namespace Go.Proofs.Yteniompfkfhemaa.Iia
open Go.RowKit

set_option maxHeartbeats 800000 in
theorem index_any (a : Option Addr) (ca : Nat) (l : List Int) (y : Int) (w : World) (lo hi : Nat) (hl : l.length ≤ 2000000) (ha : IL w a l lo hi) :
    Calls Try.prog 61 #[.slice a l.length ca, .int .i64 y] w fun e w' => e = .returned (.int .i64 ((plc l y : Int) - 1)) ∧ w' = w := by
  have HA : Hid (IL w a l lo hi) := ha
  clear ha
  go_enter Try.func61, Try.ntmps61
  go_wp2_with fail
  go_loop [8] (fun i => ∃ k : Nat, k ≤ l.length ∧ i = .int .i64 k ∧ Hid (∀ j, (hj : j < l.length) → j < k → l[j] ≠ y)) (fun i => l.length - (intOf i).toNat)
  case atStart => exact ⟨0, by omega, rfl, fun j hj h => absurd h (by omega)⟩
  case round =>
    obtain ⟨k, hk, rfl, HP⟩ := hrel
    by_cases hlt : k < l.length
    · obtain ⟨ad, rfl, hc⟩ := HA.out.cell hlt
      by_cases he : y = l[k]
      · have HR : Hid (plc l y = k + 1) := plc_at hlt he.symm (fun j hj => HP.out j (by omega) hj)
        generalize l[k] = x at *
        subst he
        go_wp2_with fail
        go_ret
        exact ⟨ret_int (by rw [HR.out]; omega), rfl⟩
      · have HP2 : Hid (∀ j, (hj : j < l.length) → j < k + 1 → l[j] ≠ y) := fun j hj h => by
          by_cases e : j = k
          · subst e; exact fun h => he h.symm
          · exact HP.out j hj (by omega)
        have hd : decide (y = l[k]) = false := decide_eq_false he
        clear HP
        generalize l[k] = x at *
        go_wp2_with fail
        go_round
        case rel => exact ⟨k + 1, by omega, by go_num, HP2⟩
        case measure => simp [intOf]; omega
    · obtain rfl : k = l.length := by omega
      have HR : Hid (plc l y = 0) := plc_no (fun j hj => HP.out j hj hj)
      go_wp2_with fail
      go_ret
      exact ⟨ret_int (by rw [HR.out]; rfl), rfl⟩

theorem placeOf_any (a : Option Addr) (ca : Nat) (l : List Int) (n : Int) (y : Int) (w : World) (lo hi : Nat) (hl : l.length ≤ 2000000) (ha : IL w a l lo hi) :
    Calls Try.prog 46 #[.agg #[.slice a l.length ca, .int .i64 n], .int .i64 y] w fun e w' => e = .returned (.int .i64 (plc l y : Int)) ∧ Below w.heap.size w w' := by
  have HA : Hid (IL w a l lo hi) := ha
  have HC : Hid _ := fun wx h => index_any a ca l y wx lo hi hl h
  have hle := plc_le l y
  clear ha
  generalize plc l y = p at *
  go_enter Try.func46, Try.ntmps46
  go_wp2_with (go_at_call 61; refine (HC.out _ (HA.out.below ((Below.refl _ _).alloc (Nat.le_refl _) _))).mono ?_; rintro e w' ⟨rfl, hw⟩; obtain rfl := hw.symm)
  go_ret
  exact ⟨ret_int (by go_num), (Below.refl _ _).alloc (Nat.le_refl _) _⟩

theorem has_any (a : Option Addr) (ca : Nat) (l : List Int) (n : Int) (y : Int) (w : World) (lo hi : Nat) (hl : l.length ≤ 2000000) (ha : IL w a l lo hi) :
    Calls Try.prog 55 #[.agg #[.slice a l.length ca, .int .i64 n], .int .i64 y] w fun e w' => e = .returned (.bool (l.contains y)) ∧ Below w.heap.size w w' := by
  have HA : Hid (IL w a l lo hi) := ha
  have HC : Hid _ := fun wx h => placeOf_any a ca l n y wx lo hi hl h
  have hle := plc_le l y
  have hp := plc_pos l y
  clear ha
  generalize plc l y = p at *
  cases hb : l.contains y
  · have h0 : p = 0 := by
      rw [hb] at hp
      by_cases h : 0 < p
      · exact absurd (hp.1 h) (by simp)
      · omega
    subst h0
    clear hp hb
    go_enter Try.func55, Try.ntmps55
    go_wp2_with (go_at_call 46; refine (HC.out _ (HA.out.below ((Below.refl _ _).alloc (Nat.le_refl _) _))).mono ?_; rintro e w2 ⟨rfl, hb2⟩)
    go_ret
    exact ⟨rfl, ((Below.refl _ _).alloc (Nat.le_refl _) _).trans (hb2.mono (by simp))⟩
  · have h0 : 0 < p := hp.2 hb
    have h1 : (0 : Int) < (p : Int) := by omega
    clear hp hb
    go_enter Try.func55, Try.ntmps55
    go_wp2_with (go_at_call 46; refine (HC.out _ (HA.out.below ((Below.refl _ _).alloc (Nat.le_refl _) _))).mono ?_; rintro e w2 ⟨rfl, hb2⟩)
    go_ret
    exact ⟨ret_b (by first | rfl | simp [h0]), ((Below.refl _ _).alloc (Nat.le_refl _) _).trans (hb2.mono (by simp))⟩

end Go.Proofs.Yteniompfkfhemaa.Iia
