/-
  Walks: impl's isBetween, isPage, isCacheSize, arePages, GoodRefs; spec's l1In, GoodRefs.
-/
import Derived.Test.YteniompfkfhemaaIic
namespace Go.Proofs.Yteniompfkfhemaa.Iia
open Go.RowKit

def btB (lo n hi : Int) : Bool := decide (lo ≤ n) && decide (n ≤ hi)
theorem isBetween_any (lo n hi : Int) (w : World) : Calls Try.prog 59 #[.int .i64 lo, .int .i64 n, .int .i64 hi] w fun e w' => e = .returned (.bool (btB lo n hi)) ∧ w' = w := by
  by_cases h1 : lo ≤ n
  · have e1 : decide (lo ≤ n) = true := decide_eq_true h1
    by_cases h2 : n ≤ hi
    · have e2 : decide (n ≤ hi) = true := decide_eq_true h2
      go_enter Try.func59, Try.ntmps59
      go_wp2
      go_ret
      exact ⟨ret_b (by simp [btB, e1, e2]), rfl⟩
    · have e2 : decide (n ≤ hi) = false := decide_eq_false h2
      go_enter Try.func59, Try.ntmps59
      go_wp2
      go_ret
      exact ⟨ret_b (by simp [btB, e1, e2]), rfl⟩
  · have e1 : decide (lo ≤ n) = false := decide_eq_false h1
    go_enter Try.func59, Try.ntmps59
    go_wp2
    go_ret
    exact ⟨ret_b (by simp [btB, e1]), rfl⟩
theorem l1In_any (n lo hi : Int) (w : World) : Calls Try.prog 42 #[.int .i64 n, .int .i64 lo, .int .i64 hi] w fun e w' => e = .returned (.bool (btB lo n hi)) ∧ w' = w := by
  by_cases h1 : lo ≤ n
  · have e1 : decide (lo ≤ n) = true := decide_eq_true h1
    by_cases h2 : n ≤ hi
    · have e2 : decide (n ≤ hi) = true := decide_eq_true h2
      go_enter Try.func42, Try.ntmps42
      go_wp2
      go_ret
      exact ⟨ret_b (by simp [btB, e1, e2]), rfl⟩
    · have e2 : decide (n ≤ hi) = false := decide_eq_false h2
      go_enter Try.func42, Try.ntmps42
      go_wp2
      go_ret
      exact ⟨ret_b (by simp [btB, e1, e2]), rfl⟩
  · have e1 : decide (lo ≤ n) = false := decide_eq_false h1
    have e3 : n < lo := by omega
    go_enter Try.func42, Try.ntmps42
    go_wp2
    go_ret
    exact ⟨ret_b (by simp [btB, e1]), rfl⟩
theorem isPage_any (n : Int) (w : World) : Calls Try.prog 53 #[.int .i64 n] w fun e w' => e = .returned (.bool (pgB n)) ∧ w' = w := by
  go_enter Try.func53, Try.ntmps53
  go_wp2_with (go_at_call 59; refine (isBetween_any _ _ _ _).mono ?_; rintro e w' ⟨rfl, hw⟩; obtain rfl := hw.symm)
  go_ret
  exact ⟨rfl, rfl⟩
def szB (n : Int) : Bool := btB 0 n 40
theorem sz_iff {n : Int} : szB n = true ↔ 0 ≤ n ∧ n ≤ 40 := by simp [szB, btB]
theorem isCacheSize_any (n : Int) (w : World) : Calls Try.prog 54 #[.int .i64 n] w fun e w' => e = .returned (.bool (szB n)) ∧ w' = w := by
  go_enter Try.func54, Try.ntmps54
  go_wp2_with (go_at_call 59; refine (isBetween_any _ _ _ _).mono ?_; rintro e w' ⟨rfl, hw⟩; obtain rfl := hw.symm)
  go_ret
  exact ⟨rfl, rfl⟩

theorem all_yesI {p : Int → Bool} {l : List Int} (h : ∀ j, (hj : j < l.length) → p l[j] = true) : l.all p = true := by
  rw [List.all_eq_true]
  intro c hc
  obtain ⟨j, hj, rfl⟩ := List.mem_iff_getElem.1 hc
  exact h j hj
theorem all_noI {p : Int → Bool} {l : List Int} {k : Nat} (hk : k < l.length) (h : p l[k] = false) : l.all p = false := by
  rw [List.all_eq_false]
  exact ⟨l[k], List.getElem_mem hk, by simp [h]⟩

set_option maxHeartbeats 800000 in
theorem arePages_any (a : Option Addr) (ca : Nat) (l : List Int) (w : World) (lo hi : Nat) (hl : l.length ≤ 2000000) (ha : IL w a l lo hi) :
    Calls Try.prog 49 #[.slice a l.length ca] w fun e w' => e = .returned (.bool (l.all pgB)) ∧ w' = w := by
  have HA : Hid (IL w a l lo hi) := ha
  clear ha
  go_enter Try.func49, Try.ntmps49
  go_wp2_with fail
  go_loop [7] (fun i => ∃ k : Nat, k ≤ l.length ∧ i = .int .i64 k ∧ Hid (∀ j, (hj : j < l.length) → j < k → pgB l[j] = true)) (fun i => l.length - (intOf i).toNat)
  case atStart => exact ⟨0, by omega, rfl, fun j hj h => absurd h (by omega)⟩
  case round =>
    obtain ⟨k, hk, rfl, HP⟩ := hrel
    by_cases hlt : k < l.length
    · obtain ⟨ad, rfl, hc⟩ := HA.out.cell hlt
      cases hp : pgB l[k]
      · have HR : Hid (l.all pgB = false) := all_noI hlt hp
        have HC : Hid _ := isPage_any l[k]
        rw [hp] at HC
        generalize l[k] = x at *
        go_wp2_with (go_at_call 53; refine (HC.out _).mono ?_; rintro e w' ⟨rfl, hw⟩; obtain rfl := hw.symm)
        go_ret
        exact ⟨ret_b HR.out.symm, rfl⟩
      · have HP2 : Hid (∀ j, (hj : j < l.length) → j < k + 1 → pgB l[j] = true) := fun j hj h => by
          by_cases e : j = k
          · subst e; exact hp
          · exact HP.out j hj (by omega)
        have HC : Hid _ := isPage_any l[k]
        rw [hp] at HC
        clear HP hp
        generalize l[k] = x at *
        go_wp2_with (go_at_call 53; refine (HC.out _).mono ?_; rintro e w' ⟨rfl, hw⟩; obtain rfl := hw.symm)
        go_round
        case rel => exact ⟨k + 1, by omega, by go_num, HP2⟩
        case measure => simp [intOf]; omega
    · obtain rfl : k = l.length := by omega
      have HR : Hid (l.all pgB = true) := all_yesI (fun j hj => HP.out j hj hj)
      go_wp2_with fail
      go_ret
      exact ⟨ret_b HR.out.symm, rfl⟩

theorem goodI_any (a : Option Addr) (ca : Nat) (l : List Int) (w : World) (lo hi : Nat) (hl : l.length ≤ 2000000) (ha : IL w a l lo hi) :
    Calls Try.prog 24 #[.slice a l.length ca] w fun e w' => e = .returned (.bool (refsB l)) ∧ w' = w := by
  have HC : Hid _ := arePages_any a ca l w lo hi hl ha
  clear ha
  by_cases h : l.length ≤ 200
  · have hR : refsB l = l.all pgB := by unfold refsB; rw [decide_eq_true h]; simp
    rw [hR]
    clear hR
    have hd : decide ((l.length : Int) ≤ 200) = true := decide_eq_true (by omega)
    go_enter Try.func24, Try.ntmps24
    go_wp2_with (go_at_call 49; refine Calls.mono HC.out ?_; rintro e w' ⟨rfl, hw⟩; obtain rfl := hw.symm)
    go_ret
    exact ⟨rfl, rfl⟩
  · have hR : refsB l = false := by unfold refsB; rw [decide_eq_false h]; simp
    rw [hR]
    clear hR
    have hd : decide ((l.length : Int) ≤ 200) = false := decide_eq_false (by omega)
    go_enter Try.func24, Try.ntmps24
    go_wp2_with fail
    go_ret
    exact ⟨rfl, rfl⟩

set_option maxHeartbeats 800000 in
theorem goodS_any (a : Option Addr) (ca : Nat) (l : List Int) (w : World) (lo hi : Nat) (hl : l.length ≤ 2000000) (ha : IL w a l lo hi) :
    Calls Try.prog 31 #[.slice a l.length ca] w fun e w' => e = .returned (.bool (refsB l)) ∧ w' = w := by
  have HA : Hid (IL w a l lo hi) := ha
  clear ha
  go_enter Try.func31, Try.ntmps31
  go_wp2_with fail
  go_loop [7] (fun i => ∃ k : Nat, k ≤ l.length ∧ i = .int .i64 k ∧ Hid (∀ j, (hj : j < l.length) → j < k → pgB l[j] = true)) (fun i => l.length - (intOf i).toNat)
  case atStart => exact ⟨0, by omega, rfl, fun j hj h => absurd h (by omega)⟩
  case round =>
    obtain ⟨k, hk, rfl, HP⟩ := hrel
    by_cases hlt : k < l.length
    · obtain ⟨ad, rfl, hc⟩ := HA.out.cell hlt
      cases hp : pgB l[k]
      · have HR : Hid (refsB l = false) := by show _ = _; unfold refsB; rw [all_noI hlt hp]; rfl
        have HC : Hid (∀ w, Calls Try.prog 42 #[.int .i64 l[k], .int .i64 0, .int .i64 99] w fun e w' => e = .returned (.bool (pgB l[k])) ∧ w' = w) := fun w => l1In_any l[k] 0 99 w
        rw [hp] at HC
        generalize l[k] = x at *
        go_wp2_with (go_at_call 42; refine (HC.out _).mono ?_; rintro e w' ⟨rfl, hw⟩; obtain rfl := hw.symm)
        go_ret
        exact ⟨ret_b HR.out.symm, rfl⟩
      · have HP2 : Hid (∀ j, (hj : j < l.length) → j < k + 1 → pgB l[j] = true) := fun j hj h => by
          by_cases e : j = k
          · subst e; exact hp
          · exact HP.out j hj (by omega)
        have HC : Hid (∀ w, Calls Try.prog 42 #[.int .i64 l[k], .int .i64 0, .int .i64 99] w fun e w' => e = .returned (.bool (pgB l[k])) ∧ w' = w) := fun w => l1In_any l[k] 0 99 w
        rw [hp] at HC
        clear HP hp
        generalize l[k] = x at *
        go_wp2_with (go_at_call 42; refine (HC.out _).mono ?_; rintro e w' ⟨rfl, hw⟩; obtain rfl := hw.symm)
        go_round
        case rel => exact ⟨k + 1, by omega, by go_num, HP2⟩
        case measure => simp [intOf]; omega
    · obtain rfl : k = l.length := by omega
      have HR : Hid (refsB l = decide (l.length ≤ 200)) := by show _ = _; unfold refsB; rw [all_yesI (fun j hj => HP.out j hj hj)]; simp
      by_cases h2 : l.length ≤ 200
      · have e2 : decide (l.length ≤ 200) = true := decide_eq_true h2
        go_wp2_with fail
        go_ret
        exact ⟨ret_b (by rw [HR.out, e2]; exact decide_eq_true (by omega)), rfl⟩
      · have e2 : decide (l.length ≤ 200) = false := decide_eq_false h2
        go_wp2_with fail
        go_ret
        exact ⟨ret_b (by rw [HR.out, e2]; exact decide_eq_false (by omega)), rfl⟩

end Go.Proofs.Yteniompfkfhemaa.Iia
