/-
  Walks: impl's isBetween, isSpan, areSpans.
-/
import Derived.Test.YtelpmkbjegimpaaDoorSpp
namespace Go.Proofs.YtelpmkbjegimpaaDoor.Spb
open Go.RowKit
open Go.Proofs.YtelpmkbjegimpaaDoor.Spp

theorem between_yes (lo n hi : Int) (w : World) (h1 : lo ≤ n) (h2 : n ≤ hi) : Calls Tryd.prog 26 #[.int .i64 lo, .int .i64 n, .int .i64 hi] w fun e w' => e = .returned (.bool true) ∧ w' = w := by
  have d1 : decide (lo ≤ n) = true := decide_eq_true h1
  have d2 : decide (n ≤ hi) = true := decide_eq_true h2
  go_enter Tryd.func26, Tryd.ntmps26
  go_wp2
  go_ret
  exact ⟨ret_b (by first | rfl | exact d2), rfl⟩
theorem between_no (lo n hi : Int) (w : World) (h1 : n < lo ∨ hi < n) : Calls Tryd.prog 26 #[.int .i64 lo, .int .i64 n, .int .i64 hi] w fun e w' => e = .returned (.bool false) ∧ w' = w := by
  by_cases h2 : n < lo
  · clear h1
    have d1 : decide (lo ≤ n) = false := decide_eq_false (by omega)
    go_enter Tryd.func26, Tryd.ntmps26
    go_wp2
    go_ret
    exact ⟨rfl, rfl⟩
  · have h3 : hi < n := by omega
    clear h1
    have d1 : decide (lo ≤ n) = true := decide_eq_true (by omega)
    have d2 : decide (n ≤ hi) = false := decide_eq_false (by omega)
    go_enter Tryd.func26, Tryd.ntmps26
    go_wp2
    go_ret
    exact ⟨ret_b (by first | rfl | exact d2), rfl⟩

def spanIn (e : Int) (c : Int × Int) : Bool := decide (0 ≤ c.1) && (decide (c.1 < c.2) && decide (c.2 ≤ e))
def areB (l : List (Int × Int)) (e : Int) : Bool := decide (l.length ≤ 12) && l.all (spanIn e)
theorem are_good (l : List (Int × Int)) : areB l 1000000 = goodL l := by unfold areB goodL; rw [Bool.and_comm]; rfl
theorem are_within (l : List (Int × Int)) (e : Int) (h : e ≤ 1000000) : areB l e = withinL l e := by
  rw [Bool.eq_iff_iff]
  unfold areB withinL goodL
  simp only [Bool.and_eq_true, decide_eq_true_eq, List.all_eq_true]
  unfold spanIn goodS
  simp only [Bool.and_eq_true, decide_eq_true_eq]
  constructor
  · intro ⟨h1, h2⟩
    exact ⟨fun c hc => (h2 c hc).2.2, fun c hc => ⟨(h2 c hc).1, (h2 c hc).2.1, by have := (h2 c hc).2.2; omega⟩, h1⟩
  · intro ⟨h1, h2, h3⟩
    exact ⟨h3, fun c hc => ⟨(h2 c hc).1, (h2 c hc).2.1, h1 c hc⟩⟩

theorem isSpan_any (F T E : Int) (w : World) :
    Calls Tryd.prog 39 #[.agg #[.int .i64 F, .int .i64 T], .int .i64 E] w fun e w' => e = .returned (.bool (spanIn E (F, T))) ∧ Below w.heap.size w w' := by
  have hb : Hid _ := (Below.refl w.heap.size w).alloc (Nat.le_refl _) (.cells #[.int .i64 F, .int .i64 T] 33)
  by_cases h1 : 0 ≤ F
  · by_cases h2 : F < T
    · have HR : Hid (spanIn E (F, T) = decide (T ≤ E)) := by show _ = _; unfold spanIn; simp [h1, h2]
      go_enter Tryd.func39, Tryd.ntmps39
      go_wp2_with fail
      go_ret
      exact ⟨ret_b HR.out.symm, hb.out⟩
    · have HR : Hid (spanIn E (F, T) = false) := by show _ = _; unfold spanIn; simp [h2]
      have hd : decide (F < T) = false := decide_eq_false h2
      go_enter Tryd.func39, Tryd.ntmps39
      go_wp2_with fail
      go_ret
      exact ⟨ret_b HR.out.symm, hb.out⟩
  · have HR : Hid (spanIn E (F, T) = false) := by show _ = _; unfold spanIn; simp [h1]
    have hd : decide (0 ≤ F) = false := decide_eq_false h1
    go_enter Tryd.func39, Tryd.ntmps39
    go_wp2_with fail
    go_ret
    exact ⟨ret_b HR.out.symm, hb.out⟩

set_option maxHeartbeats 1600000 in
theorem areSpans_any (a : Option Addr) (ca : Nat) (l : List (Int × Int)) (E : Int) (w : World) (lo hi : Nat) (hl : l.length ≤ 2000000) (ha : PV w a l lo hi) :
    Calls Tryd.prog 20 #[.slice a l.length ca, .int .i64 E] w fun e w' => e = .returned (.bool (areB l E)) ∧ Below w.heap.size w w' := by
  have HV : Hid (PV w a l lo hi) := ha
  clear ha
  by_cases h12 : l.length ≤ 12
  rotate_left
  · have HR : Hid (areB l E = false) := by show _ = _; unfold areB; rw [decide_eq_false h12, Bool.false_and]
    have hd : decide (12 < (l.length : Int)) = true := decide_eq_true (by omega)
    go_enter Tryd.func20, Tryd.ntmps20
    go_wp2_with fail
    go_ret
    exact ⟨ret_b HR.out.symm, Below.refl _ _⟩
  have hd : decide (12 < (l.length : Int)) = false := decide_eq_false (by omega)
  have HL : Hid (decide (l.length ≤ 12) = true) := decide_eq_true h12
  go_enter Tryd.func20, Tryd.ntmps20
  go_wp2_with fail
  go_loopw [12] (fun c wr => ∃ i : Nat, i ≤ l.length ∧ c = .int .i64 i ∧ Below w.heap.size w wr ∧ Hid (∀ j, (hj : j < l.length) → j < i → spanIn E l[j] = true)) (fun c _ => l.length - (intOf c).toNat)
  case atStart => exact ⟨0, by omega, rfl, Below.refl _ _, fun j _ h => absurd h (by omega)⟩
  case round =>
    obtain ⟨i, hi, rfl, hbel, HA⟩ := hrel
    by_cases hlt : i < l.length
    · obtain ⟨g, rfl, _, hc, hd⟩ := row_at (HV.out.below hbel) hlt
      have Hb1 : Hid _ := hbel.alloc hbel.size (.cells #[.int .i64 l[i].1, .int .i64 l[i].2] 33)
      have HS : Hid _ := isSpan_any l[i].1 l[i].2 E
      cases hg : spanIn E (l[i].1, l[i].2)
      · have HR : Hid (areB l E = false) := by
          show _ = _
          unfold areB
          rw [all_no hlt hg, Bool.and_false]
        rw [hg] at HS
        clear HA
        go_wp2_with (go_at_call 39; refine (HS.out _).mono ?_; rintro e w2 ⟨rfl, hb2⟩)
        go_ret
        exact ⟨ret_b HR.out.symm, Hb1.out.trans (hb2.mono Hb1.out.size)⟩
      · have HA' : Hid (∀ j, (hj : j < l.length) → j < i + 1 → spanIn E l[j] = true) := by
          intro j hj h
          by_cases e : j = i
          · subst e; exact hg
          · exact HA.out j hj (by omega)
        rw [hg] at HS
        clear HA
        go_wp2_with (go_at_call 39; refine (HS.out _).mono ?_; rintro e w2 ⟨rfl, hb2⟩)
        refine ⟨⟨i + 1, by omega, by go_num, Hb1.out.trans (hb2.mono Hb1.out.size), HA'⟩, ?_⟩
        simp [intOf]; omega
    · obtain rfl : i = l.length := by omega
      have HR : Hid (areB l E = true) := by
        show _ = _
        unfold areB
        rw [all_yes (fun j hj => HA.out j hj hj), HL.out]; rfl
      clear HA
      go_wp2_with fail
      go_ret
      exact ⟨ret_b HR.out.symm, hbel⟩

end Go.Proofs.YtelpmkbjegimpaaDoor.Spb
