/-
  Walks: spec.l10Unlike, l10Stack; impl.isStack.
-/
import Derived.Test.YteniompfkfhemaaIie
namespace Go.Proofs.Yteniompfkfhemaa.Iia
open Go.RowKit

theorem take_contains (l : List Int) (j : Nat) (h : j < l.length) (x : Int) : (l.take (j + 1)).contains x = ((l.take j).contains x || (l[j] == x)) := by
  rw [List.take_succ_eq_append_getElem h, List.contains_eq_any_beq, List.contains_eq_any_beq, List.any_append]
  congr 1
  show ((x == l[j]) || false) = _
  rw [Bool.or_false, Bool.eq_iff_iff, beq_iff_eq, beq_iff_eq]
  exact eq_comm
set_option maxHeartbeats 1600000 in
theorem unlikeS_any (a : Option Addr) (ca : Nat) (l : List Int) (w : World) (lo hi : Nat) (hca : l.length ≤ ca) (hl : l.length ≤ 2000000) (ha : IL w a l lo hi) :
    Calls Try.prog 48 #[.slice a l.length ca] w fun e w' => e = .returned (.int .i64 (unlN l : Int)) ∧ w' = w := by
  have HA : Hid (IL w a l lo hi) := ha
  clear ha
  go_enter Try.func48, Try.ntmps48
  go_wp2_with fail
  go_loop [3, 11] (fun m i => ∃ k : Nat, k ≤ l.length ∧ i = .int .i64 k ∧ m = .int .i64 (unlN (l.take k) : Int)) (fun _ i => l.length - (intOf i).toNat)
  case atStart => exact ⟨0, Nat.zero_le _, rfl, rfl⟩
  case round =>
    obtain ⟨k, hk, rfl, rfl⟩ := hrel
    by_cases hlt : k < l.length
    · obtain ⟨ad, rfl, hc⟩ := HA.out.cell hlt
      have HU : Hid (unlN (l.take (k + 1)) = unlN (l.take k) + (if (l.take k).contains l[k] = true then 0 else 1)) := unl_take l k hlt
      have hul := unl_le (l.take k)
      rw [List.length_take] at hul
      obtain ⟨x, hx⟩ : ∃ x, x = l[k] := ⟨_, rfl⟩
      rw [← hx] at HU hc
      generalize unlN (l.take k) = u at *
      clear hx
      go_wp2_with fail
      go_loop [6, 20] (fun s j => ∃ (i : Nat) (b : Bool), i ≤ k ∧ j = .int .i64 i ∧ s = .bool b ∧ Hid ((l.take i).contains x = b)) (fun _ j => k - (intOf j).toNat)
      case atStart => exact ⟨0, false, Nat.zero_le _, rfl, rfl, rfl⟩
      case round =>
        obtain ⟨i, b, hi, rfl, rfl, HBv⟩ := hrel
        by_cases hlt2 : i < k
        · have hil : i < l.length := by omega
          have hc2 : w.cell? (ad.add i) = some (.int .i64 l[i]) := by
            obtain ⟨ad', e, hcc⟩ := HA.out.cell hil
            cases e; exact hcc
          have HC : Hid ((l.take (i + 1)).contains x = ((l.take i).contains x || (l[i] == x))) := take_contains l i hil x
          generalize l[i] = y at *
          cases b
          · have HC2 : Hid ((l.take (i + 1)).contains x = (y == x)) := by show _ = _; rw [HC.out, HBv.out]; rfl
            clear HC
            go_wp2_with fail
            go_round
            case rel => exact ⟨i + 1, _, by omega, by go_num, rfl, HC2⟩
            case measure => simp [intOf]; omega
          · have HC2 : Hid ((l.take (i + 1)).contains x = true) := by show _ = _; rw [HC.out, HBv.out]; rfl
            go_wp2_with fail
            go_round
            case rel => exact ⟨i + 1, _, by omega, by go_num, rfl, HC2⟩
            case measure => simp [intOf]; omega
        · obtain rfl : i = k := by omega
          cases b
          · have HU2 : Hid (unlN (l.take (i + 1)) = u + 1) := by show _ = _; rw [HU.out, HBv.out]; rfl
            clear HU
            go_wp2_with fail
            go_round
            case rel => exact ⟨i + 1, by omega, by go_num, by rw [HU2.out]; go_num⟩
            case measure => simp [intOf]; omega
          · have HU2 : Hid (unlN (l.take (i + 1)) = u) := by show _ = _; rw [HU.out, HBv.out]; rfl
            clear HU
            go_wp2_with fail
            go_round
            case rel => exact ⟨i + 1, by omega, by go_num, by rw [HU2.out]⟩
            case measure => simp [intOf]; omega
    · obtain rfl : k = l.length := by omega
      have HE : Hid (l.take l.length = l) := List.take_length
      go_wp2_with fail
      go_ret
      exact ⟨ret_int (by first | rfl | rw [HE.out]), rfl⟩

def stkB (l : List Int) : Bool := (decide (l.length ≤ 40) && l.all pgB) && decide l.Nodup
theorem stkB_pages {l : List Int} (h : stkB l = true) : ∀ x ∈ l, 0 ≤ x ∧ x ≤ 99 := by
  unfold stkB at h
  rw [Bool.and_eq_true, Bool.and_eq_true, List.all_eq_true] at h
  exact fun x hx => pgB_iff.1 (h.1.2 x hx)
theorem isStack_any (a : Option Addr) (ca : Nat) (l : List Int) (w : World) (lo hi : Nat) (hl : l.length ≤ 2000000) (ha : IL w a l lo hi) :
    Calls Try.prog 52 #[.slice a l.length ca] w fun e w' => e = .returned (.bool (stkB l)) ∧ Below w.heap.size w w' := by
  have HC : Hid _ := arePages_any a ca l w lo hi hl ha
  by_cases h : l.length ≤ 40
  · have hd : decide ((l.length : Int) ≤ 40) = true := decide_eq_true (by omega)
    cases hp : l.all pgB
    · have hR : stkB l = false := by unfold stkB; rw [hp]; simp
      rw [hR]
      rw [hp] at HC
      clear hR
      go_enter Try.func52, Try.ntmps52
      go_wp2_with (go_at_call 49; refine Calls.mono HC.out ?_; rintro e w' ⟨rfl, hw⟩; obtain rfl := hw.symm)
      go_ret
      exact ⟨rfl, Below.refl _ _⟩
    · have hpg : ∀ x ∈ l, 0 ≤ x ∧ x ≤ 99 := fun x hx => pgB_iff.1 ((List.all_eq_true.1 hp) x hx)
      have HU : Hid _ := unlikeI_any a ca l w lo hi hl hpg ha
      have HN := unl_nodup l
      have e3 : decide l.Nodup = decide (unlN l = l.length) := decide_eq_decide.2 HN.symm
      have hR : stkB l = decide (unlN l = l.length) := by unfold stkB; rw [hp, decide_eq_true h, e3]; simp
      rw [hR]
      rw [hp] at HC
      clear hR HN e3 hpg hp ha
      generalize unlN l = u at *
      by_cases hu : u = l.length
      · subst hu
        go_enter Try.func52, Try.ntmps52
        go_wp2_with (first
          | (go_at_call 49; refine Calls.mono HC.out ?_; rintro e w' ⟨rfl, hw⟩; obtain rfl := hw.symm)
          | (go_at_call 60; refine Calls.mono HU.out ?_; rintro e w2 ⟨rfl, hb2⟩))
        go_ret
        exact ⟨ret_b (by simp), hb2⟩
      · have hu1 : ¬ ((u : Int) = (l.length : Int)) := by omega
        have hu2 : decide (u = l.length) = false := decide_eq_false hu
        rw [hu2]
        go_enter Try.func52, Try.ntmps52
        go_wp2_with (first
          | (go_at_call 49; refine Calls.mono HC.out ?_; rintro e w' ⟨rfl, hw⟩; obtain rfl := hw.symm)
          | (go_at_call 60; refine Calls.mono HU.out ?_; rintro e w2 ⟨rfl, hb2⟩))
        go_ret
        exact ⟨ret_b (by simp [hu1]), hb2⟩
  · have hR : stkB l = false := by unfold stkB; rw [decide_eq_false h]; simp
    rw [hR]
    have hd : decide ((l.length : Int) ≤ 40) = false := decide_eq_false (by omega)
    clear hR
    go_enter Try.func52, Try.ntmps52
    go_wp2_with fail
    go_ret
    exact ⟨rfl, Below.refl _ _⟩

/-- A stack of a size. -/
def stkS (l : List Int) (n : Int) : Bool := (decide l.Nodup && l.all pgB) && (szB n && decide ((l.length : Int) ≤ n))
theorem take_nodup (l : List Int) (k : Nat) (h : k < l.length) (hd : (l.take k).Nodup) (hn : ∀ i, (hi : i < k) → l[i]'(by omega) ≠ l[k]) : (l.take (k + 1)).Nodup := by
  rw [List.take_succ_eq_append_getElem h, List.nodup_append]
  refine ⟨hd, by simp, fun a ha b hb => ?_⟩
  rw [List.mem_singleton] at hb
  subst hb
  obtain ⟨i, hi, rfl⟩ := List.mem_iff_getElem.1 ha
  rw [List.length_take] at hi
  rw [List.getElem_take]
  exact hn i (by omega)
theorem dup_no {l : List Int} {i k : Nat} (hik : i < k) (hk : k < l.length) (e : l[i]'(by omega) = l[k]) : ¬ l.Nodup := by
  intro h
  have := List.pairwise_iff_getElem.1 h i k (by omega) hk hik
  exact this e

set_option maxHeartbeats 1600000 in
theorem l10Stack_any (a : Option Addr) (ca : Nat) (l : List Int) (n : Int) (w : World) (lo hi : Nat) (hca : l.length ≤ ca) (hl : l.length ≤ 2000000) (ha : IL w a l lo hi) :
    Calls Try.prog 56 #[.slice a l.length ca, .int .i64 n] w fun e w' => e = .returned (.bool (stkS l n)) ∧ w' = w := by
  have HA : Hid (IL w a l lo hi) := ha
  clear ha
  go_enter Try.func56, Try.ntmps56
  go_wp2_with fail
  go_loop [11] (fun i => ∃ k : Nat, k ≤ l.length ∧ i = .int .i64 k ∧ Hid ((l.take k).Nodup ∧ (∀ j, (hj : j < l.length) → j < k → pgB l[j] = true))) (fun i => l.length - (intOf i).toNat)
  case atStart => exact ⟨0, Nat.zero_le _, rfl, List.nodup_nil, fun j hj h => absurd h (by omega)⟩
  case round =>
    obtain ⟨k, hk, rfl, HP⟩ := hrel
    by_cases hlt : k < l.length
    · obtain ⟨ad, rfl, hc⟩ := HA.out.cell hlt
      obtain ⟨x, hx⟩ : ∃ x, x = l[k] := ⟨_, rfl⟩
      have HX : Hid (x = l[k]) := hx
      rw [← hx] at hc
      clear hx
      go_wp2_with fail
      go_loop [20] (fun j => ∃ i : Nat, i ≤ k ∧ j = .int .i64 i ∧ Hid (∀ q, (hq : q < i) → (hk' : q < l.length) → l[q] ≠ x)) (fun j => k - (intOf j).toNat)
      case atStart => exact ⟨0, Nat.zero_le _, rfl, fun q hq => absurd hq (by omega)⟩
      case round =>
        obtain ⟨i, hi, rfl, HQ⟩ := hrel
        by_cases hlt2 : i < k
        · have hil : i < l.length := by omega
          have hc2 : w.cell? (ad.add i) = some (.int .i64 l[i]) := by
            obtain ⟨ad', e, hcc⟩ := HA.out.cell hil
            cases e; exact hcc
          by_cases hyx : l[i] = x
          · have HR : Hid (stkS l n = false) := by
              show _ = _
              unfold stkS
              rw [decide_eq_false (dup_no hlt2 hlt (hyx.trans HX.out))]; rfl
            have hd : decide (l[i] = x) = true := decide_eq_true hyx
            generalize l[i] = y at *
            go_wp2_with fail
            go_ret
            exact ⟨ret_b HR.out.symm, rfl⟩
          · have HQ2 : Hid (∀ q, (hq : q < i + 1) → (hk' : q < l.length) → l[q] ≠ x) := fun q hq hk' => by
              by_cases e : q = i
              · subst e; exact hyx
              · exact HQ.out q (by omega) hk'
            have hd : decide (l[i] = x) = false := decide_eq_false hyx
            clear HQ
            generalize l[i] = y at *
            go_wp2_with fail
            go_round
            case rel => exact ⟨i + 1, by omega, by go_num, HQ2⟩
            case measure => simp [intOf]; omega
        · obtain rfl : i = k := by omega
          have HND : Hid ((l.take (i + 1)).Nodup) := take_nodup l i hlt HP.out.1 (fun q hq => by rw [← HX.out]; exact HQ.out q hq (by omega))
          cases hpg : pgB x
          · have HR : Hid (stkS l n = false) := by
              show _ = _
              unfold stkS
              rw [all_noI (p := pgB) hlt (by rw [← HX.out]; exact hpg)]; simp
            have HC : Hid (∀ w, Calls Try.prog 42 #[.int .i64 x, .int .i64 0, .int .i64 99] w fun e w' => e = .returned (.bool (pgB x)) ∧ w' = w) := fun w => l1In_any x 0 99 w
            rw [hpg] at HC
            go_wp2_with (go_at_call 42; refine (HC.out _).mono ?_; rintro e w' ⟨rfl, hw⟩; obtain rfl := hw.symm)
            go_ret
            exact ⟨ret_b HR.out.symm, rfl⟩
          · have HP2 : Hid ((l.take (i + 1)).Nodup ∧ (∀ j, (hj : j < l.length) → j < i + 1 → pgB l[j] = true)) := ⟨HND.out, fun j hj h => by
              by_cases e : j = i
              · subst e; rw [← HX.out]; exact hpg
              · exact HP.out.2 j hj (by omega)⟩
            have HC : Hid (∀ w, Calls Try.prog 42 #[.int .i64 x, .int .i64 0, .int .i64 99] w fun e w' => e = .returned (.bool (pgB x)) ∧ w' = w) := fun w => l1In_any x 0 99 w
            rw [hpg] at HC
            clear HP HND HX HQ
            go_wp2_with (go_at_call 42; refine (HC.out _).mono ?_; rintro e w' ⟨rfl, hw⟩; obtain rfl := hw.symm)
            go_round
            case rel => exact ⟨i + 1, by omega, by go_num, HP2⟩
            case measure => simp [intOf]; omega
    · obtain rfl : k = l.length := by omega
      have HR : Hid (stkS l n = (szB n && decide ((l.length : Int) ≤ n))) := by
        show _ = _
        unfold stkS
        have h1 := HP.out.1
        rw [List.take_length] at h1
        rw [decide_eq_true h1, all_yesI (fun j hj => HP.out.2 j hj hj)]; simp
      have HC : Hid (∀ w, Calls Try.prog 42 #[.int .i64 n, .int .i64 0, .int .i64 40] w fun e w' => e = .returned (.bool (szB n)) ∧ w' = w) := fun w => l1In_any n 0 40 w
      clear HP
      generalize szB n = b at *
      cases b
      · have HR2 : Hid (stkS l n = false) := HR.out
        clear HR
        go_wp2_with (go_at_call 42; refine (HC.out _).mono ?_; rintro e w' ⟨rfl, hw⟩; obtain rfl := hw.symm)
        go_ret
        exact ⟨ret_b HR2.out.symm, rfl⟩
      · by_cases h2 : (l.length : Int) ≤ n
        · have e2 : decide ((l.length : Int) ≤ n) = true := decide_eq_true h2
          have HR2 : Hid (stkS l n = true) := by show _ = _; rw [HR.out, e2]; rfl
          clear HR
          go_wp2_with (go_at_call 42; refine (HC.out _).mono ?_; rintro e w' ⟨rfl, hw⟩; obtain rfl := hw.symm)
          go_ret
          exact ⟨ret_b (by rw [HR2.out]), rfl⟩
        · have e2 : decide ((l.length : Int) ≤ n) = false := decide_eq_false h2
          have HR2 : Hid (stkS l n = false) := by show _ = _; rw [HR.out, e2]; rfl
          clear HR
          go_wp2_with (go_at_call 42; refine (HC.out _).mono ?_; rintro e w' ⟨rfl, hw⟩; obtain rfl := hw.symm)
          go_ret
          exact ⟨ret_b (by rw [HR2.out]), rfl⟩

end Go.Proofs.Yteniompfkfhemaa.Iia
