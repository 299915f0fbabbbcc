/-
  Pure: what the drawn laws of chapter 10 say: beginnings of one stack, hits told by distances, windows.
-/
import Derived.Test.YteniompfkfhemaaIic
namespace Go.Proofs.Yteniompfkfhemaa.Iia
open Go.RowKit

theorem take_plc : ∀ (T : List Int) (n : Nat) (y : Int), ((T.take n).contains y = true) ↔ (0 < plc T y ∧ plc T y ≤ n) := by
  intro T n y
  rw [List.contains_iff_mem]
  constructor
  · intro h
    obtain ⟨j, hj, e⟩ := List.mem_iff_getElem.1 h
    rw [List.length_take] at hj
    rw [List.getElem_take] at e
    have hpos : 0 < plc T y := (plc_pos T y).2 (by rw [List.contains_iff_mem, ← e]; exact List.getElem_mem _)
    refine ⟨hpos, ?_⟩
    have hc := (plc_pos T y).1 hpos
    have hi : T.idxOf y ≤ j := by
      rcases Nat.lt_or_ge j (T.idxOf y) with h1 | h1
      · have := List.not_of_lt_findIdx (p := fun a => a == y) (xs := T) (i := j) (by exact h1)
        rw [e] at this
        simp at this
      · exact h1
    unfold plc
    rw [if_pos hc]
    omega
  · rintro ⟨h1, h2⟩
    obtain ⟨hk, e⟩ := plc_get h1
    rw [List.mem_iff_getElem]
    exact ⟨plc T y - 1, by rw [List.length_take]; omega, by rw [List.getElem_take]; exact e⟩
/-- The hits of a size are told by the distances. -/
theorem hits_told (n : Nat) (l : List Int) : (runM true n l).2 = htN (dsL l) n := by
  have : ∀ k, k ≤ l.length → (runM true n (l.take k)).2 = htN ((dsL l).take k) n := by
    intro k
    induction k with
    | zero => intro _; simp [runM, htN]
    | succ k ih =>
      intro h
      have hk : k < l.length := by omega
      have hd : k < (dsL l).length := by rw [dsL_len]; exact hk
      rw [run_take true n l k hk, ht_take (dsL l) n k hd, ← ih (by omega)]
      dsimp only
      congr 1
      have e1 : (dsL l)[k] = (dsN l k : Int) := by simp [dsL]
      have e2 : dsN l k = plc (stk (l.take k)) l[k] := by unfold dsN; rw [List.getElem?_eq_getElem hk]; rfl
      rw [e1, e2, run_stk]
      have ht := take_plc (stk (l.take k)) n l[k]
      by_cases hc : 0 < plc (stk (l.take k)) l[k] ∧ plc (stk (l.take k)) l[k] ≤ n
      · rw [if_pos (ht.2 hc), if_pos (by rw [Bool.and_eq_true, decide_eq_true_eq, decide_eq_true_eq]; omega)]
      · rw [if_neg (fun h => hc (ht.1 h)), if_neg (by rw [Bool.and_eq_true, decide_eq_true_eq, decide_eq_true_eq]; omega)]
  have h := this l.length (Nat.le_refl _)
  rwa [List.take_length, List.take_of_length_le (by rw [dsL_len]; exact Nat.le_refl _)] at h
theorem ht_mono (d : List Int) (n : Nat) : htN d n ≤ htN d (n + 1) := by
  unfold htN
  refine List.countP_mono_left (fun x _ h => ?_)
  rw [Bool.and_eq_true, decide_eq_true_eq, decide_eq_true_eq] at h ⊢
  omega
theorem hits_mono (n : Nat) (l : List Int) : (runM true n l).2 ≤ (runM true (n + 1) l).2 := by rw [hits_told, hits_told]; exact ht_mono _ _
theorem held_len (n : Nat) (l : List Int) : (runM true n l).1.length = min n (stk l).length := by rw [run_stk, List.length_take]
theorem held_take {n m : Nat} (l : List Int) (h : n ≤ m) : (runM true n l).1 = (runM true m l).1.take (runM true n l).1.length := by
  have e := held_len n l
  rw [run_stk n, run_stk m, List.take_take] at *
  rw [List.length_take] at e ⊢
  by_cases hn : n ≤ (stk l).length
  · congr 1; omega
  · rw [List.take_of_length_le (by omega), List.take_of_length_le (by omega)]

theorem uR_snoc : ∀ (r : List Int) (x : Int), uR (r ++ [x]) = uR r + (if r.contains x = true then 0 else 1)
  | [], x => by simp [uR]
  | z :: r, x => by
    show uR (r ++ [x]) + (if (r ++ [x]).contains z = true then 0 else 1) = uR r + (if r.contains z = true then 0 else 1) + (if (z :: r).contains x = true then 0 else 1)
    rw [uR_snoc r x]
    have h1 : ((r ++ [x]).contains z = true) ↔ (r.contains z = true ∨ z = x) := by
      rw [List.contains_iff_mem, List.contains_iff_mem, List.mem_append, List.mem_singleton]
    have h2 : ((z :: r).contains x = true) ↔ (x = z ∨ r.contains x = true) := by
      rw [List.contains_iff_mem, List.contains_iff_mem, List.mem_cons]
    by_cases e : z = x
    · subst e
      rw [if_pos (h1.2 (.inr rfl)), if_pos (h2.2 (.inl rfl))]
    · by_cases a : r.contains x = true
      · rw [if_pos a, if_pos (h2.2 (.inr a))]
        by_cases b : r.contains z = true
        · rw [if_pos b, if_pos (h1.2 (.inl b))]
        · rw [if_neg b, if_neg (fun h => (h1.1 h).elim b e)]
      · rw [if_neg a, if_neg (fun h => (h2.1 h).elim (fun h => e h.symm) a)]
        by_cases b : r.contains z = true
        · rw [if_pos b, if_pos (h1.2 (.inl b))]
        · rw [if_neg b, if_neg (fun h => (h1.1 h).elim b e)]
theorem unl_cons (x : Int) (L : List Int) : unlN L ≤ unlN (x :: L) ∧ unlN (x :: L) ≤ unlN L + 1 := by
  unfold unlN
  rw [List.reverse_cons, uR_snoc]
  split <;> omega
theorem uR_pos : ∀ (x : Int) (r : List Int), 0 < uR (x :: r)
  | x, [] => by simp [uR]
  | x, z :: r => by
    have := uR_pos z r
    show 0 < uR (z :: r) + _
    omega
theorem unl_pos {L : List Int} (h : L ≠ []) : 0 < unlN L := by
  unfold unlN
  cases hr : L.reverse with
  | nil => exact absurd (List.reverse_eq_nil_iff.1 hr) h
  | cons x r => exact uR_pos x r
theorem ws_step (l : List Int) (n i : Nat) (h : i < l.length) : wsN l n i ≤ wsN l (n + 1) i ∧ wsN l (n + 1) i ≤ wsN l n i + 1 := by
  unfold wsN
  by_cases hn : n < i + 1
  · have hq : i + 1 - n = (i + 1 - (n + 1)) + 1 := by omega
    rw [hq]
    have hlt : i + 1 - (n + 1) < (l.take (i + 1)).length := by rw [List.length_take]; omega
    have e := List.drop_eq_getElem_cons hlt
    rw [e]
    exact unl_cons _ _
  · rw [show i + 1 - n = 0 from by omega, show i + 1 - (n + 1) = 0 from by omega]
    omega
theorem ws_pos (l : List Int) (n i : Nat) (h : i < l.length) (hn : 1 ≤ n) : 1 ≤ wsN l n i := by
  unfold wsN
  refine unl_pos (fun e => ?_)
  have := congrArg List.length e
  rw [List.length_drop, List.length_take, List.length_nil] at this
  omega
theorem ws_le (l : List Int) (n i : Nat) : wsN l n i ≤ n := by
  unfold wsN
  have := unl_le ((l.take (i + 1)).drop (i + 1 - n))
  rw [List.length_drop, List.length_take] at this
  omega

end Go.Proofs.Yteniompfkfhemaa.Iia
