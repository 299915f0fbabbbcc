/-
  Spans that are good (pure, and walks): spec.l6Span, l6Spans, l6Within.
-/
import Derived.Test.YtelpmkbjegimpaaDoorSpm
namespace Go.Proofs.YtelpmkbjegimpaaDoor.Spp
open Go.RowKit
open Go.Proofs.YtelpmkbjegimpaaDoor.Spb

def goodS (c : Int × Int) : Bool := decide (0 ≤ c.1) && (decide (c.1 < c.2) && decide (c.2 ≤ 1000000))
def goodL (l : List (Int × Int)) : Bool := l.all goodS && decide (l.length ≤ 12)
def withinL (l : List (Int × Int)) (n : Int) : Bool := l.all (fun c => decide (c.2 ≤ n)) && goodL l
theorem goodS_parts {c : Int × Int} (h : goodS c = true) : 0 ≤ c.1 ∧ c.1 < c.2 ∧ c.2 ≤ 1000000 := by
  unfold goodS at h
  simp only [Bool.and_eq_true, decide_eq_true_eq] at h
  exact ⟨h.1, h.2.1, h.2.2⟩
theorem goodL_parts {l : List (Int × Int)} (h : goodL l = true) : l.length ≤ 12 ∧ ∀ c ∈ l, 0 ≤ c.1 ∧ c.1 < c.2 ∧ c.2 ≤ 1000000 := by
  unfold goodL at h
  simp only [Bool.and_eq_true, decide_eq_true_eq, List.all_eq_true] at h
  exact ⟨h.2, fun c hc => goodS_parts (h.1 c hc)⟩
theorem withinL_parts {l : List (Int × Int)} {n : Int} (h : withinL l n = true) : goodL l = true ∧ ∀ c ∈ l, c.2 ≤ n := by
  unfold withinL at h
  simp only [Bool.and_eq_true, decide_eq_true_eq, List.all_eq_true] at h
  exact ⟨h.2, h.1⟩
theorem all_no {l : List (Int × Int)} {p : Int × Int → Bool} {i : Nat} (hi : i < l.length) (h : p l[i] = false) : l.all p = false := by
  rw [Bool.eq_false_iff]
  intro ha
  rw [List.all_eq_true] at ha
  have := ha _ (List.getElem_mem hi)
  rw [h] at this
  cases this
theorem all_yes {l : List (Int × Int)} {p : Int × Int → Bool} (h : ∀ i, (hi : i < l.length) → p l[i] = true) : l.all p = true := by
  rw [List.all_eq_true]
  intro c hc
  obtain ⟨i, hi, rfl⟩ := List.getElem_of_mem hc
  exact h i hi
theorem ret_b {a b : Bool} (h : a = b) : Ending.returned (.bool a) = .returned (.bool b) := by rw [h]

theorem l6Span_any (F T : Int) (w : World) :
    Calls Tryd.prog 46 #[.agg #[.int .i64 F, .int .i64 T]] w fun e w' => e = .returned (.bool (goodS (F, T))) ∧ Below w.heap.size w w' := by
  have hb : Hid _ := (Below.refl w.heap.size w).alloc (Nat.le_refl _) (.cells #[.int .i64 F, .int .i64 T] 33)
  by_cases h1 : 0 ≤ F
  · by_cases h2 : F < T
    · have HR : Hid (goodS (F, T) = decide (T ≤ 1000000)) := by show _ = _; unfold goodS; simp [h1, h2]
      go_enter Tryd.func46, Tryd.ntmps46
      go_wp2_with fail
      go_ret
      exact ⟨ret_b HR.out.symm, hb.out⟩
    · have HR : Hid (goodS (F, T) = false) := by show _ = _; unfold goodS; simp [h2]
      have hd : decide (F < T) = false := decide_eq_false h2
      go_enter Tryd.func46, Tryd.ntmps46
      go_wp2_with fail
      go_ret
      exact ⟨ret_b HR.out.symm, hb.out⟩
  · have HR : Hid (goodS (F, T) = false) := by show _ = _; unfold goodS; simp [h1]
    have hd : decide (0 ≤ F) = false := decide_eq_false h1
    go_enter Tryd.func46, Tryd.ntmps46
    go_wp2_with fail
    go_ret
    exact ⟨ret_b HR.out.symm, hb.out⟩

theorem row_at {w : World} {a : Option Addr} {l : List (Int × Int)} {lo hi : Nat} (h : PV w a l lo hi) {i : Nat} (h0 : i < l.length) : ∃ g, a = some ⟨g, 0, none⟩ ∧ g < w.heap.size ∧ w.cell? ⟨g, i * 2, none⟩ = some (.int .i64 l[i].1) ∧ w.cell? ⟨g, i * 2 + 1, none⟩ = some (.int .i64 l[i].2) := by
  rcases h with h | ⟨g, h1, _, _, h4⟩
  · rw [h] at h0; simp at h0
  · exact ⟨g, h1, h4.1, h4.2.2 i l[i] (List.getElem?_eq_getElem h0)⟩

set_option maxHeartbeats 1600000 in
theorem l6Spans_any (a : Option Addr) (ca : Nat) (l : List (Int × Int)) (w : World) (lo hi : Nat) (hl : l.length ≤ 2000000) (ha : PV w a l lo hi) :
    Calls Tryd.prog 23 #[.slice a l.length ca] w fun e w' => e = .returned (.bool (goodL l)) ∧ Below w.heap.size w w' := by
  have HV : Hid (PV w a l lo hi) := ha
  clear ha
  go_enter Tryd.func23, Tryd.ntmps23
  go_wp2_with fail
  go_loopw [7] (fun c wr => ∃ i : Nat, i ≤ l.length ∧ c = .int .i64 i ∧ Below w.heap.size w wr ∧ Hid (∀ j, (hj : j < l.length) → j < i → goodS l[j] = true)) (fun c _ => l.length - (intOf c).toNat)
  case atStart => exact ⟨0, by omega, rfl, Below.refl _ _, fun j _ h => absurd h (by omega)⟩
  case round =>
    obtain ⟨i, hi, rfl, hbel, HA⟩ := hrel
    by_cases hlt : i < l.length
    · obtain ⟨g, rfl, _, hc, hd⟩ := row_at (HV.out.below hbel) hlt
      have Hb1 : Hid _ := hbel.alloc hbel.size (.cells #[.int .i64 l[i].1, .int .i64 l[i].2] 33)
      have HS : Hid _ := l6Span_any l[i].1 l[i].2
      cases hg : goodS (l[i].1, l[i].2)
      · have HR : Hid (goodL l = false) := by
          show _ = _
          unfold goodL
          rw [all_no hlt hg, Bool.false_and]
        rw [hg] at HS
        clear HA
        go_wp2_with (go_at_call 46; refine (HS.out _).mono ?_; rintro e w2 ⟨rfl, hb2⟩)
        go_ret
        exact ⟨ret_b HR.out.symm, Hb1.out.trans (hb2.mono Hb1.out.size)⟩
      · have HA' : Hid (∀ j, (hj : j < l.length) → j < i + 1 → goodS l[j] = true) := by
          intro j hj h
          by_cases e : j = i
          · subst e; exact hg
          · exact HA.out j hj (by omega)
        rw [hg] at HS
        clear HA
        go_wp2_with (go_at_call 46; refine (HS.out _).mono ?_; rintro e w2 ⟨rfl, hb2⟩)
        refine ⟨⟨i + 1, by omega, by go_num, Hb1.out.trans (hb2.mono Hb1.out.size), HA'⟩, ?_⟩
        simp [intOf]; omega
    · obtain rfl : i = l.length := by omega
      have HR : Hid (goodL l = decide ((l.length : Int) ≤ 12)) := by
        show _ = _
        unfold goodL
        rw [all_yes (fun j hj => HA.out j hj hj), Bool.true_and, decide_eq_decide]
        omega
      clear HA
      go_wp2_with fail
      go_ret
      exact ⟨ret_b HR.out.symm, hbel⟩

end Go.Proofs.YtelpmkbjegimpaaDoor.Spp
