/-
  Pure: pages, stacks, what is touched, hits, unlike pages, distances (Mattson's inclusion; the place in the stack is how many unlike pages came since).
-/
import Derived.Test.YteniompfkfhemaaIib
namespace Go.Proofs.Yteniompfkfhemaa.Iia
open Go.RowKit

def pgB (x : Int) : Bool := decide (0 ≤ x) && decide (x ≤ 99)
def refsB (l : List Int) : Bool := l.all pgB && decide (l.length ≤ 200)
theorem pgB_iff {x : Int} : pgB x = true ↔ 0 ≤ x ∧ x ≤ 99 := by simp [pgB]
theorem refs_parts {l : List Int} (h : refsB l = true) : l.length ≤ 200 ∧ ∀ x ∈ l, 0 ≤ x ∧ x ≤ 99 := by
  unfold refsB at h
  rw [Bool.and_eq_true, List.all_eq_true] at h
  exact ⟨of_decide_eq_true h.2, fun x hx => pgB_iff.1 (h.1 x hx)⟩
theorem all_take (l : List Int) (p : Int → Bool) (k : Nat) (h : k < l.length) : (l.take (k + 1)).all p = ((l.take k).all p && p l[k]) := by
  rw [List.take_succ_eq_append_getElem h, List.all_append]; simp

/-- A page that comes ahead. -/
def tch (s : List Int) (y : Int) : List Int := y :: s.filter (· != y)
def tchN (n : Nat) (s : List Int) (y : Int) : List Int := (tch s y).take n
/-- One reference to a cache of size n where a hit moves ahead, or not. -/
def stepM (mv : Bool) (n : Nat) (s : List Int) (y : Int) : List Int := if (s.contains y && !mv) = true then s else tchN n s y
def runM (mv : Bool) (n : Nat) (l : List Int) : List Int × Nat := l.foldl (fun st y => (stepM mv n st.1 y, st.2 + (if st.1.contains y = true then 1 else 0))) ([], 0)
theorem run_take (mv : Bool) (n : Nat) (l : List Int) (k : Nat) (h : k < l.length) : runM mv n (l.take (k + 1)) = (stepM mv n (runM mv n (l.take k)).1 l[k], (runM mv n (l.take k)).2 + (if (runM mv n (l.take k)).1.contains l[k] = true then 1 else 0)) := by
  unfold runM
  rw [List.take_succ_eq_append_getElem h, List.foldl_append]; rfl
theorem run_app (mv : Bool) (n : Nat) (l : List Int) (y : Int) : runM mv n (l ++ [y]) = (stepM mv n (runM mv n l).1 y, (runM mv n l).2 + (if (runM mv n l).1.contains y = true then 1 else 0)) := by
  unfold runM
  rw [List.foldl_append]; rfl

theorem tch_nodup {s : List Int} (h : s.Nodup) (y : Int) : (tch s y).Nodup := by
  unfold tch
  rw [List.nodup_cons]
  exact ⟨by simp, h.filter _⟩
theorem tchN_nodup {s : List Int} (h : s.Nodup) (n : Nat) (y : Int) : (tchN n s y).Nodup := ((tch_nodup h y).sublist (List.take_sublist _ _))
theorem tchN_len (n : Nat) (s : List Int) (y : Int) : (tchN n s y).length ≤ n := by unfold tchN; rw [List.length_take]; omega
theorem step_nodup {s : List Int} (h : s.Nodup) (mv : Bool) (n : Nat) (y : Int) : (stepM mv n s y).Nodup := by
  unfold stepM; split
  · exact h
  · exact tchN_nodup h n y
theorem step_len {s : List Int} {n : Nat} (h : s.length ≤ n) (mv : Bool) (y : Int) : (stepM mv n s y).length ≤ n := by
  unfold stepM; split
  · exact h
  · exact tchN_len n s y
theorem foldl_inv {α β : Type} (p : α → Prop) (f : α → β → α) (hf : ∀ a b, p a → p (f a b)) : ∀ (l : List β) (a : α), p a → p (l.foldl f a)
  | [], _, h => h
  | b :: l, a, h => foldl_inv p f hf l (f a b) (hf a b h)
theorem run_inv (mv : Bool) (n : Nat) (l : List Int) : (runM mv n l).1.Nodup ∧ (runM mv n l).1.length ≤ n :=
  foldl_inv (fun st : List Int × Nat => st.1.Nodup ∧ st.1.length ≤ n) _ (fun _ y h => ⟨step_nodup h.1 mv n y, step_len h.2 mv y⟩) l _ ⟨List.nodup_nil, Nat.zero_le _⟩
theorem hits_le (mv : Bool) (n : Nat) (l : List Int) : ∀ k, k ≤ l.length → (runM mv n (l.take k)).2 ≤ k
  | 0, _ => by simp [runM]
  | k + 1, h => by
    rw [run_take mv n l k (by omega)]
    have := hits_le mv n l k (by omega)
    dsimp only
    split <;> omega

/-- The place of a page, from 1 on; 0 is a page that is not there. -/
def plc (s : List Int) (y : Int) : Nat := if s.contains y = true then s.idxOf y + 1 else 0
theorem idx_at : ∀ (l : List Int) (y : Int) (k : Nat) (h : k < l.length), l[k] = y → (∀ j, (hj : j < k) → l[j]'(by omega) ≠ y) → l.idxOf y = k
  | [], _, _, h, _, _ => absurd h (by simp)
  | a :: r, y, 0, _, e, _ => by
    have : a = y := by simpa using e
    subst this
    exact List.idxOf_cons_self ..
  | a :: r, y, k + 1, h, e, hn => by
    have ha : a ≠ y := by have := hn 0 (by omega); simpa using this
    have := idx_at r y k (by simpa using h) (by simpa using e) (fun j hj => by have := hn (j + 1) (by omega); simpa using this)
    have hb : (a == y) = false := beq_false_of_ne ha
    rw [List.idxOf_cons, this, hb]
    rfl
theorem plc_at {l : List Int} {y : Int} {k : Nat} (h : k < l.length) (e : l[k] = y) (hn : ∀ j, (hj : j < k) → l[j]'(by omega) ≠ y) : plc l y = k + 1 := by
  unfold plc
  rw [idx_at l y k h e hn, if_pos (by rw [List.contains_iff_mem]; rw [← e]; exact List.getElem_mem h)]
theorem plc_no {l : List Int} {y : Int} (hn : ∀ j, (hj : j < l.length) → l[j] ≠ y) : plc l y = 0 := by
  unfold plc
  rw [if_neg]
  rw [List.contains_iff_mem]
  intro h
  obtain ⟨j, hj, e⟩ := List.mem_iff_getElem.1 h
  exact hn j hj e
theorem plc_le (s : List Int) (y : Int) : plc s y ≤ s.length := by
  unfold plc
  split
  · rename_i h
    rw [List.contains_iff_mem] at h
    have := List.idxOf_lt_length_iff.2 h
    omega
  · omega
theorem plc_pos (s : List Int) (y : Int) : (0 < plc s y) ↔ s.contains y = true := by
  unfold plc
  split
  · rename_i h; rw [h]; simp
  · rename_i h; constructor
    · intro h2; omega
    · intro h2; exact absurd h2 h
theorem plc_get {s : List Int} {y : Int} (h : 0 < plc s y) : ∃ hk : plc s y - 1 < s.length, s[plc s y - 1] = y := by
  have hc := (plc_pos s y).1 h
  have hm : y ∈ s := by rwa [List.contains_iff_mem] at hc
  have h1 := List.idxOf_lt_length_iff.2 hm
  have e : plc s y - 1 = s.idxOf y := by unfold plc; rw [if_pos hc]; omega
  refine ⟨by omega, ?_⟩
  have := List.getElem_idxOf h1
  simp only [e]
  exact this

theorem filter_none {l : List Int} {y : Int} (h : y ∉ l) : l.filter (· != y) = l := by
  rw [List.filter_eq_self]
  intro a ha
  have : a ≠ y := fun e => h (e ▸ ha)
  simp [this]
theorem filter_at {l : List Int} (hd : l.Nodup) {k : Nat} (h : k < l.length) : l.filter (· != l[k]) = l.take k ++ l.drop (k + 1) := by
  have e : l = l.take k ++ l[k] :: l.drop (k + 1) := by rw [← List.drop_eq_getElem_cons h, List.take_append_drop]
  have hd2 := hd
  rw [e, List.nodup_append] at hd2
  obtain ⟨_, h2, h3⟩ := hd2
  rw [List.nodup_cons] at h2
  have n1 : l[k] ∉ l.take k := fun hm => h3 _ hm _ (List.mem_cons_self ..) rfl
  have n2 : l[k] ∉ l.drop (k + 1) := h2.1
  generalize hz : l[k] = z at *
  conv => lhs; rw [e]
  rw [List.filter_append, List.filter_cons, filter_none n1, filter_none n2]
  simp
/-- What the program's move does is what the specification's does: a page that is there. -/
theorem move_there {s : List Int} {n : Nat} {y : Int} (hd : s.Nodup) (hl : s.length ≤ n) (hp : 0 < plc s y) : tchN n s y = y :: (s.take (plc s y - 1) ++ s.drop (plc s y)) := by
  obtain ⟨hk, e⟩ := plc_get hp
  have f := filter_at hd hk
  rw [e] at f
  unfold tchN tch
  rw [f, show plc s y - 1 + 1 = plc s y from by omega]
  apply List.take_of_length_le
  simp; omega
theorem move_room {s : List Int} {n : Nat} {y : Int} (hl : s.length < n) (hp : plc s y = 0) : tchN n s y = y :: s := by
  have hm : y ∉ s := fun h => by
    have : 0 < plc s y := (plc_pos s y).2 (by rwa [List.contains_iff_mem])
    omega
  unfold tchN tch
  rw [filter_none hm]
  apply List.take_of_length_le
  simp; omega
theorem move_full {s : List Int} {n : Nat} {y : Int} (hl : s.length = n) (hn : 0 < n) (hp : plc s y = 0) : tchN n s y = y :: s.take (n - 1) := by
  have hm : y ∉ s := fun h => by
    have : 0 < plc s y := (plc_pos s y).2 (by rwa [List.contains_iff_mem])
    omega
  unfold tchN tch
  rw [filter_none hm]
  obtain ⟨m, rfl⟩ : ∃ m, n = m + 1 := ⟨n - 1, by omega⟩
  rfl
theorem tchN_zero (s : List Int) (y : Int) : tchN 0 s y = [] := rfl

/-! Unlike pages. -/
def uR : List Int → Nat
  | [] => 0
  | x :: r => uR r + (if r.contains x = true then 0 else 1)
def unlN (l : List Int) : Nat := uR l.reverse
theorem unl_app (l : List Int) (y : Int) : unlN (l ++ [y]) = unlN l + (if l.contains y = true then 0 else 1) := by
  unfold unlN
  rw [List.reverse_append]
  show uR l.reverse + (if l.reverse.contains y = true then 0 else 1) = _
  rw [List.contains_reverse]
theorem unl_take (l : List Int) (k : Nat) (h : k < l.length) : unlN (l.take (k + 1)) = unlN (l.take k) + (if (l.take k).contains l[k] = true then 0 else 1) := by
  rw [List.take_succ_eq_append_getElem h, unl_app]
theorem uR_le : ∀ l, uR l ≤ l.length
  | [] => Nat.le_refl _
  | x :: r => by unfold uR; have := uR_le r; simp only [List.length_cons]; split <;> omega
theorem unl_le (l : List Int) : unlN l ≤ l.length := by unfold unlN; have := uR_le l.reverse; simpa using this
theorem uR_nodup : ∀ l : List Int, uR l = l.length ↔ l.Nodup
  | [] => by simp [uR]
  | x :: r => by
    have h1 := uR_le r
    have h2 := uR_nodup r
    unfold uR
    rw [List.nodup_cons, ← h2, List.length_cons]
    by_cases h : x ∈ r
    · rw [if_pos (by rw [List.contains_iff_mem]; exact h)]
      constructor
      · intro; omega
      · intro hh; exact absurd h hh.1
    · rw [if_neg (by rw [List.contains_iff_mem]; exact h)]
      constructor
      · intro; exact ⟨h, by omega⟩
      · intro hh; omega
theorem unl_nodup (l : List Int) : unlN l = l.length ↔ l.Nodup := by
  unfold unlN
  have := uR_nodup l.reverse
  rw [List.length_reverse] at this
  rw [this]
  exact (List.reverse_perm l).nodup_iff

/-! The whole stack, and what a size holds of it. -/
def stk (l : List Int) : List Int := l.foldl tch []
theorem stk_app (l : List Int) (y : Int) : stk (l ++ [y]) = tch (stk l) y := by unfold stk; rw [List.foldl_append]; rfl
theorem stk_take (l : List Int) (k : Nat) (h : k < l.length) : stk (l.take (k + 1)) = tch (stk (l.take k)) l[k] := by
  rw [List.take_succ_eq_append_getElem h, stk_app]
theorem stk_nodup (l : List Int) : (stk l).Nodup := foldl_inv (fun s : List Int => s.Nodup) _ (fun _ y h => tch_nodup h y) l _ List.nodup_nil
theorem tch_mem (s : List Int) (y z : Int) : z ∈ tch s y ↔ z = y ∨ z ∈ s := by
  unfold tch
  rw [List.mem_cons, List.mem_filter]
  constructor
  · rintro (h | h)
    · exact .inl h
    · exact .inr h.1
  · rintro (h | h)
    · exact .inl h
    · by_cases e : z = y
      · exact .inl e
      · exact .inr ⟨h, by simp [e]⟩
theorem fold_mem : ∀ (l s : List Int) (z : Int), z ∈ l.foldl tch s ↔ z ∈ l ∨ z ∈ s
  | [], s, z => by simp
  | y :: l, s, z => by
    show z ∈ l.foldl tch (tch s y) ↔ _
    rw [fold_mem l, tch_mem, List.mem_cons]
    constructor
    · rintro (h | h | h)
      · exact .inl (.inr h)
      · exact .inl (.inl h)
      · exact .inr h
    · rintro ((h | h) | h)
      · exact .inr (.inl h)
      · exact .inl h
      · exact .inr (.inr h)
theorem stk_mem (l : List Int) (z : Int) : z ∈ stk l ↔ z ∈ l := by unfold stk; rw [fold_mem]; simp
theorem take_filter : ∀ (T : List Int) (n : Nat) (y : Int), T.Nodup → ((T.take (n + 1)).filter (· != y)).take n = (T.filter (· != y)).take n
  | [], n, y, _ => by simp
  | a :: r, n, y, hd => by
    rw [List.nodup_cons] at hd
    by_cases h : a = y
    · subst h
      have e1 : (r.take n).filter (· != a) = r.take n := filter_none (fun hm => hd.1 (List.mem_of_mem_take hm))
      have e2 : r.filter (· != a) = r := filter_none hd.1
      rw [List.take_succ_cons, List.filter_cons, List.filter_cons]
      simp only [bne_self_eq_false, Bool.false_eq_true, if_false]
      rw [e1, e2, List.take_take, Nat.min_self]
    · have hb : (a != y) = true := by simp [h]
      rw [List.take_succ_cons, List.filter_cons, List.filter_cons, if_pos hb, if_pos hb]
      cases n with
      | zero => rfl
      | succ m =>
        rw [List.take_succ_cons, List.take_succ_cons, take_filter r m y hd.2]
theorem tchN_take (T : List Int) (hd : T.Nodup) (n : Nat) (y : Int) : tchN n (T.take n) y = (tch T y).take n := by
  cases n with
  | zero => rfl
  | succ n =>
    unfold tchN tch
    rw [List.take_succ_cons, List.take_succ_cons, take_filter T n y hd]
theorem stepT (n : Nat) (s : List Int) (y : Int) : stepM true n s y = tchN n s y := by unfold stepM; simp
/-- Mattson, Gecsei, Slutz and Traiger: what a size holds is the beginning of one stack. -/
theorem run_stk (n : Nat) : ∀ (l : List Int), (runM true n l).1 = (stk l).take n := by
  intro l
  have : ∀ k, k ≤ l.length → (runM true n (l.take k)).1 = (stk (l.take k)).take n := by
    intro k
    induction k with
    | zero => intro _; simp [runM, stk]
    | succ k ih =>
      intro h
      rw [run_take true n l k (by omega), stk_take l k (by omega), stepT, ih (by omega), tchN_take _ (stk_nodup _)]
  have h := this l.length (Nat.le_refl _)
  rwa [List.take_length] at h

/-- No more than n unlike numbers from 0 to n - 1. -/
theorem few : ∀ (n : Nat) (l : List Int), l.Nodup → (∀ x ∈ l, 0 ≤ x ∧ x < (n : Int)) → l.length ≤ n
  | 0, l, _, h => by
    cases l with
    | nil => simp
    | cons a r => have := h a (by simp); omega
  | n + 1, l, hd, h => by
    by_cases hm : (n : Int) ∈ l
    · have h1 := few n (l.erase (n : Int)) (hd.erase _) (fun x hx => by
        rw [hd.mem_erase_iff] at hx
        have := h x hx.2
        have := hx.1
        omega)
      rw [List.length_erase_of_mem hm] at h1
      omega
    · have h1 := few n l hd (fun x hx => by
        have := h x hx
        have : x ≠ (n : Int) := fun e => hm (e ▸ hx)
        omega)
      omega
theorem stk_few {l : List Int} (h : ∀ x ∈ l, 0 ≤ x ∧ x ≤ 99) : (stk l).length ≤ 100 :=
  few 100 (stk l) (stk_nodup l) (fun x hx => by have := h x ((stk_mem l x).1 hx); omega)

/-! Distances. -/
theorem filter_len {P : List Int} (hd : P.Nodup) (y : Int) : (P.filter (· != y)).length + (if P.contains y = true then 1 else 0) = P.length := by
  by_cases h : y ∈ P
  · rw [if_pos (by rw [List.contains_iff_mem]; exact h)]
    have e := hd.erase_eq_filter y
    rw [← e, List.length_erase_of_mem h]
    have : 0 < P.length := List.length_pos_of_mem h
    omega
  · rw [if_neg (by rw [List.contains_iff_mem]; exact h), filter_none h]
    omega
theorem stk_split (x : Int) : ∀ (C P R D : List Int), x ∉ C → x ∉ P → P.Nodup → (∀ z, z ∈ P ↔ z ∈ D) → P.length + 1 = unlN (x :: D) →
    ∃ P' R', C.foldl tch (P ++ x :: R) = P' ++ x :: R' ∧ x ∉ P' ∧ P'.length + 1 = unlN (x :: (D ++ C))
  | [], P, R, D, _, hp, _, _, hl => ⟨P, R, rfl, hp, by rw [List.append_nil]; exact hl⟩
  | y :: C, P, R, D, hc, hp, hd, hm, hl => by
    have hyx : y ≠ x := fun e => hc (by simp [e])
    have e1 : tch (P ++ x :: R) y = (y :: P.filter (· != y)) ++ x :: R.filter (· != y) := by
      unfold tch
      rw [List.filter_append, List.filter_cons, if_pos (by simp [Ne.symm hyx])]
      rfl
    have hl2 : (y :: P.filter (· != y)).length + 1 = unlN (x :: (D ++ [y])) := by
      have h1 := filter_len hd y
      have h2 := unl_app (x :: D) y
      rw [show x :: (D ++ [y]) = (x :: D) ++ [y] from rfl, h2, ← hl, List.length_cons]
      have h3 : ((x :: D).contains y = true) ↔ (P.contains y = true) := by
        rw [List.contains_iff_mem, List.contains_iff_mem, List.mem_cons, hm y]
        constructor
        · rintro (h | h)
          · exact absurd h hyx
          · exact h
        · exact .inr
      by_cases h : P.contains y = true
      · rw [if_pos (h3.2 h)]
        rw [if_pos h] at h1
        omega
      · rw [if_neg (fun hh => h (h3.1 hh))]
        rw [if_neg h] at h1
        omega
    have ih := stk_split x C (y :: P.filter (· != y)) (R.filter (· != y)) (D ++ [y]) (fun h => hc (List.mem_cons_of_mem _ h)) (by
        rw [List.mem_cons, List.mem_filter]
        rintro (h | h)
        · exact hyx h.symm
        · exact hp h.1) (tch_nodup hd y) (by
        intro z
        have := tch_mem P y z
        unfold tch at this
        rw [this, List.mem_append, List.mem_singleton, hm z]
        constructor
        · rintro (h | h)
          · exact .inr h
          · exact .inl h
        · rintro (h | h)
          · exact .inr h
          · exact .inl h) hl2
    obtain ⟨P', R', f1, f2, f3⟩ := ih
    refine ⟨P', R', ?_, f2, ?_⟩
    · show C.foldl tch (tch (P ++ x :: R) y) = _
      rw [e1]; exact f1
    · rw [f3, List.append_assoc]; rfl
theorem plc_mid {P R : List Int} {x : Int} (h : x ∉ P) : plc (P ++ x :: R) x = P.length + 1 := by
  refine plc_at (k := P.length) (by simp) (by simp) (fun j hj => ?_)
  rw [List.getElem_append_left hj]
  intro e
  exact h (e ▸ List.getElem_mem hj)
/-- The place in the stack is how many unlike pages came since, itself counting. -/
theorem place_unl (A C : List Int) (x : Int) (h : x ∉ C) : plc (stk (A ++ x :: C)) x = unlN (x :: C) := by
  obtain ⟨P', R', e, hn, hl⟩ := stk_split x C [] ((stk A).filter (· != x)) [] h (by simp) List.nodup_nil (by simp) (by simp [unlN, uR])
  have : stk (A ++ x :: C) = P' ++ x :: R' := by
    unfold stk
    rw [List.foldl_append]
    exact e
  rw [this, plc_mid hn, hl]
  rfl
theorem place_none (l : List Int) (x : Int) (h : x ∉ l) : plc (stk l) x = 0 := by
  unfold plc
  rw [if_neg]
  rw [List.contains_iff_mem, stk_mem]
  exact h
theorem place_last {l : List Int} {x : Int} {k : Nat} (hk : k < l.length) (e : l[k] = x) (hn : ∀ j, (hj : j < l.length) → k < j → l[j] ≠ x) : plc (stk l) x = unlN (l.drop k) := by
  have e1 : l = l.take k ++ x :: l.drop (k + 1) := by
    have := List.drop_eq_getElem_cons hk
    rw [e] at this
    rw [← this, List.take_append_drop]
  have e2 : l.drop k = x :: l.drop (k + 1) := by
    have := List.drop_eq_getElem_cons hk
    rwa [e] at this
  rw [e2]
  conv => lhs; rw [e1]
  refine place_unl _ _ _ (fun hm => ?_)
  obtain ⟨j, hj, ej⟩ := List.mem_iff_getElem.1 hm
  rw [List.length_drop] at hj
  rw [List.getElem_drop] at ej
  exact hn (k + 1 + j) (by omega) (by omega) ej

/-- The distance of the reference at i; of all. -/
def dsN (l : List Int) (i : Nat) : Nat := plc (stk (l.take i)) (l[i]?.getD 0)
def dsL (l : List Int) : List Int := (List.range l.length).map fun (i : Nat) => (dsN l i : Int)
theorem dsL_len (l : List Int) : (dsL l).length = l.length := by simp [dsL]
theorem dsL_take (l : List Int) (k : Nat) (h : k < l.length) : (dsL l).take (k + 1) = (dsL l).take k ++ [(dsN l k : Int)] := by
  rw [List.take_succ_eq_append_getElem (by rw [dsL_len]; exact h)]
  congr 2
  simp [dsL]
theorem dsN_le {l : List Int} (h : ∀ x ∈ l, 0 ≤ x ∧ x ≤ 99) (i : Nat) : dsN l i ≤ 100 := by
  unfold dsN
  have := plc_le (stk (l.take i)) (l[i]?.getD 0)
  have := stk_few (l := l.take i) (fun x hx => h x (List.mem_of_mem_take hx))
  omega
/-- Of a window for each reference how many unlike pages. -/
def wsN (l : List Int) (n i : Nat) : Nat := unlN ((l.take (i + 1)).drop (i + 1 - n))
def wsL (l : List Int) (n : Nat) : List Int := (List.range l.length).map fun (i : Nat) => (wsN l n i : Int)
theorem wsL_len (l : List Int) (n : Nat) : (wsL l n).length = l.length := by simp [wsL]
theorem wsL_take (l : List Int) (n k : Nat) (h : k < l.length) : (wsL l n).take (k + 1) = (wsL l n).take k ++ [(wsN l n k : Int)] := by
  rw [List.take_succ_eq_append_getElem (by rw [wsL_len]; exact h)]
  congr 2
  simp [wsL]
/-- Of distances how many are hits of a size; of all sizes. -/
def htN (d : List Int) (n : Nat) : Nat := d.countP (fun x => decide (0 < x) && decide (x ≤ (n : Int)))
def htL (d : List Int) : List Int := (List.range 41).map fun (n : Nat) => (htN d n : Int)
theorem htL_len (d : List Int) : (htL d).length = 41 := by simp [htL]
theorem ht_take (d : List Int) (n k : Nat) (h : k < d.length) : htN (d.take (k + 1)) n = htN (d.take k) n + (if (decide (0 < d[k]) && decide (d[k] ≤ (n : Int))) = true then 1 else 0) := by
  unfold htN
  rw [List.take_succ_eq_append_getElem h, List.countP_append, List.countP_singleton]

end Go.Proofs.Yteniompfkfhemaa.Iia
