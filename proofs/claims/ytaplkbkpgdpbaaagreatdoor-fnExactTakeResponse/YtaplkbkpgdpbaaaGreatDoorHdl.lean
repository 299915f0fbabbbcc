/-
  Heads cut into lines, plain: line by line, and by the first empty line. No program.
-/
import Derived.Test.YtaplkbkpgdpbaaaGreatDoorProg
import Derived.Lib.SplitLaws
import Derived.Lib.IndexMore
namespace Go.Proofs.YtaplkbkpgdpbaaaGreatDoor.Hdl
open Go.Lib

def C : List UInt8 := [13, 10]
def CC : List UInt8 := [13, 10, 13, 10]

/-- Line by line: the lines, and how many bytes they take; 'first': an empty line ends nothing yet. -/
def headL : Nat → List UInt8 → Bool → Option (List (List UInt8) × Nat)
  | 0, _, _ => none
  | f + 1, u, first => if index u C = -1 then none else if index u C = 0 ∧ first = false then some ([], 2) else (headL f (u.drop ((index u C).toNat + 2)) false).map fun x => (u.take (index u C).toNat :: x.1, x.2 + (index u C).toNat + 2)
/-- By the first empty line. -/
def headF (u : List UInt8) : Option (List (List UInt8) × Nat) := if index u CC = -1 then none else some (split (u.take (index u CC).toNat) C, (index u CC).toNat + 4)

theorem split_miss {s : List UInt8} (h : index s C = -1) : split s C = [s] := by
  unfold split; rw [count_miss h]; rfl
theorem split_hit {s : List UInt8} {i : Nat} (h : index s C = i) : split s C = s.take i :: split (s.drop (i + 2)) C := by
  unfold split
  rw [count_hit (by decide) h, Nat.add_comm, splitK, h]
  have e : ((i : Int) == -1) = false := by rw [beq_eq_false_iff_ne]; omega
  rw [e, Int.toNat_natCast]
  rfl

theorem occ_cc {u : List UInt8} {j : Nat} (h : occAt u CC j = true) : occAt u C j = true ∧ occAt u C (j + 2) = true := by
  unfold occAt at h ⊢
  rw [List.isPrefixOf_iff_prefix] at h ⊢
  rw [List.isPrefixOf_iff_prefix]
  obtain ⟨t, ht⟩ := h
  refine ⟨⟨13 :: 10 :: t, ht⟩, ⟨t, ?_⟩⟩
  have e : u.drop (j + 2) = (u.drop j).drop 2 := by rw [List.drop_drop]
  rw [e, ← ht]; rfl
theorem cc_occ {u : List UInt8} {j : Nat} (h : occAt u C j = true) (h2 : occAt u C (j + 2) = true) : occAt u CC j = true := by
  unfold occAt at *
  rw [List.isPrefixOf_iff_prefix] at *
  obtain ⟨t, ht⟩ := h
  obtain ⟨t2, ht2⟩ := h2
  have e : u.drop (j + 2) = (u.drop j).drop 2 := by rw [List.drop_drop]
  rw [e, ← ht] at ht2
  have ht2 : C ++ t2 = t := ht2
  exact ⟨t2, by rw [← ht, ← ht2]; rfl⟩
theorem occ_not {u : List UInt8} {j : Nat} (h : occAt u C j = true) : occAt u C (j + 1) = false := by
  cases h2 : occAt u C (j + 1)
  · rfl
  · exfalso
    unfold occAt at h h2
    rw [List.isPrefixOf_iff_prefix] at h h2
    obtain ⟨t, ht⟩ := h
    obtain ⟨t2, ht2⟩ := h2
    have e : u.drop (j + 1) = (u.drop j).drop 1 := by rw [List.drop_drop]
    rw [e, ← ht] at ht2
    have ht2 : (13 : UInt8) :: 10 :: t2 = 10 :: t := ht2
    injection ht2 with h1 _
    exact absurd h1 (by decide)
theorem occ_take {u : List UInt8} {j n : Nat} (h : occAt (u.take n) C j = true) : occAt u C j = true := by
  unfold occAt at *
  rw [List.isPrefixOf_iff_prefix] at *
  obtain ⟨t, ht⟩ := h
  rw [List.drop_take] at ht
  exact ⟨t ++ (u.drop j).drop (n - j), by rw [← List.append_assoc, ht, List.take_append_drop]⟩
theorem take_occ {u : List UInt8} {j n : Nat} (h : occAt u C j = true) (hn : j + 2 ≤ n) : occAt (u.take n) C j = true := by
  unfold occAt at *
  rw [List.isPrefixOf_iff_prefix] at *
  obtain ⟨t, ht⟩ := h
  rw [List.drop_take, ← ht]
  refine ⟨t.take (n - j - 2), ?_⟩
  rw [List.take_append]
  have e1 : C.take (n - j) = C := List.take_of_length_le (by show 2 ≤ _; omega)
  rw [e1]; rfl
theorem occ_drop (u : List UInt8) (sub : List UInt8) (a j : Nat) : occAt (u.drop a) sub j = occAt u sub (a + j) := by
  unfold occAt; rw [List.drop_drop]

theorem start_c {v : List UInt8} : index v C = 0 ↔ occAt v C 0 = true := by
  rcases index_spec v C with ⟨h, hn⟩ | ⟨i, h, hi, ho, hn⟩
  · constructor
    · intro e; omega
    · intro e; rw [hn 0 (Nat.zero_le _)] at e; cases e
  · constructor
    · intro e
      have : i = 0 := by omega
      subst this; exact ho
    · intro e
      rcases Nat.eq_zero_or_pos i with h0 | h0
      · subst h0; exact h
      · have := hn 0 h0
        rw [this] at e; cases e

/-- Both ways tell the same. -/
theorem head_same : ∀ (f : Nat) (u : List UInt8), u.length < f → headL f u true = headF u
  | 0, u, h => absurd h (Nat.not_lt_zero _)
  | f + 1, u, hf => by
    rcases index_spec u C with ⟨h, hn⟩ | ⟨e, he, hel, ho, hno⟩
    · have hcc : index u CC = -1 := index_none (fun j hj => by
        cases hc : occAt u CC j
        · rfl
        · have := (occ_cc hc).1
          rw [hn j hj] at this; cases this)
      unfold headL headF
      rw [if_pos h, if_pos hcc]
    · have hroom : e + 2 ≤ u.length := by
        have := index_room u C (by omega)
        have h2 : C.length = 2 := rfl
        omega
      have hL : headL (f + 1) u true = (headL f (u.drop (e + 2)) false).map fun x => (u.take e :: x.1, x.2 + e + 2) := by
        rw [headL, he, if_neg (by omega), if_neg (by simp), Int.toNat_natCast]
      rw [hL]
      cases f with
      | zero => omega
      | succ f =>
        by_cases hv : index (u.drop (e + 2)) C = 0
        · have hcc : occAt u CC e = true := cc_occ ho (by
            have := start_c.1 hv
            rwa [occ_drop, Nat.add_zero] at this)
          have hix : index u CC = e := index_first (by omega) hcc (fun j hj => by
            cases hc : occAt u CC j
            · rfl
            · have := (occ_cc hc).1
              rw [hno j hj] at this; cases this)
          have hs : index (u.take e) C = -1 := index_none (fun j hj => by
            cases hc : occAt (u.take e) C j
            · rfl
            · have h1 := occ_take hc
              rcases occAt_room hc with hr | hr
              · rw [List.length_take] at hr
                have h2 : C.length = 2 := rfl
                have := hno j (by omega)
                rw [this] at h1; cases h1
              · cases hr)
          unfold headL headF
          rw [hix, if_neg (by omega), if_pos ⟨hv, rfl⟩, if_neg (by omega), Int.toNat_natCast, split_miss hs]
          show some ([u.take e], 2 + e + 2) = _
          rw [show 2 + e + 2 = e + 4 from by omega]
        · have hff : headL (f + 1) (u.drop (e + 2)) false = headL (f + 1) (u.drop (e + 2)) true := by
            rw [headL, headL, if_neg (show ¬ (index (u.drop (e + 2)) C = 0 ∧ false = false) from fun h => hv h.1), if_neg (show ¬ (index (u.drop (e + 2)) C = 0 ∧ true = false) from fun h => hv h.1)]
          rw [hff, head_same (f + 1) (u.drop (e + 2)) (by rw [List.length_drop]; omega)]
          have hnc : ∀ j, j < e + 2 → occAt u CC j = false := by
            intro j hj
            cases hc : occAt u CC j
            · rfl
            · obtain ⟨h1, h2⟩ := occ_cc hc
              rcases Nat.lt_trichotomy j e with h | h | h
              · rw [hno j h] at h1; cases h1
              · subst h
                exact absurd (start_c.2 (by rw [occ_drop, Nat.add_zero]; exact h2)) hv
              · have : j = e + 1 := by omega
                subst this
                rw [occ_not ho] at h1; cases h1
          unfold headF
          rcases index_spec (u.drop (e + 2)) CC with ⟨h, hn⟩ | ⟨p, hp, hpl, hpo, hpn⟩
          · have hcc : index u CC = -1 := index_none (fun j hj => by
              by_cases hj2 : j < e + 2
              · exact hnc j hj2
              · have := hn (j - (e + 2)) (by rw [List.length_drop]; omega)
                rw [occ_drop] at this
                rwa [show e + 2 + (j - (e + 2)) = j from by omega] at this)
            rw [if_pos h, if_pos hcc]; rfl
          · have hcc : index u CC = ((e + 2 + p : Nat) : Int) := index_first (by rw [List.length_drop] at hpl; omega) (by rw [← occ_drop]; exact hpo) (fun j hj => by
              by_cases hj2 : j < e + 2
              · exact hnc j hj2
              · have := hpn (j - (e + 2)) (by omega)
                rw [occ_drop] at this
                rwa [show e + 2 + (j - (e + 2)) = j from by omega] at this)
            have hs : index (u.take (e + 2 + p)) C = e := index_first (by rw [List.length_take]; omega) (take_occ ho (by omega)) (fun j hj => by
              cases hc : occAt (u.take (e + 2 + p)) C j
              · rfl
              · have := occ_take hc
                rw [hno j hj] at this; cases this)
            rw [hp, hcc, if_neg (by omega), if_neg (by omega), Int.toNat_natCast, Int.toNat_natCast, split_hit hs]
            have e1 : (u.take (e + 2 + p)).take e = u.take e := by rw [List.take_take]; congr 1; omega
            have e2 : (u.take (e + 2 + p)).drop (e + 2) = (u.drop (e + 2)).take p := by rw [List.drop_take]; congr 1; omega
            rw [e1, e2]
            simp
            omega

end Go.Proofs.YtaplkbkpgdpbaaaGreatDoor.Hdl
