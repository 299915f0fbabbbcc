/-
  Plain facts: what is made normal is normal, and good: no program.
-/
import Derived.Test.YtlgjgdpalflmfaaDoorRtp
import Derived.Test.YtlgjgdpalflmfaaDoorNrm
import Derived.Lib.IndexMore
namespace Go.Proofs.YtlgjgdpalflmfaaDoor.Nid
open Go.Lib
open Go.Proofs.YtlgjgdpalflmfaaDoor.Byt Go.Proofs.YtlgjgdpalflmfaaDoor.Txt Go.Proofs.YtlgjgdpalflmfaaDoor.Gud Go.Proofs.YtlgjgdpalflmfaaDoor.Dot Go.Proofs.YtlgjgdpalflmfaaDoor.Idd Go.Proofs.YtlgjgdpalflmfaaDoor.Nrm
open Go.Proofs.YtlgjgdpalflmfaaDoor.Rtp (pct_hexd)
open Go.Proofs.YtlgjgdpalflmfaaDoor.Pln Go.Proofs.YtlgjgdpalflmfaaDoor.Low

/-- A text whose percents are of bytes that are not free, told with great letters. -/
inductive Norm (more : List UInt8) : List UInt8 → Prop
  | nil : Norm more []
  | byte (c : UInt8) (r : List UInt8) (h : (c.toNat : Int) ≠ 37) (ok : (freeB (c.toNat : Int) || subB (c.toNat : Int) || hasB more (c.toNat : Int)) = true) (hr : Norm more r) : Norm more (c :: r)
  | pct (c : UInt8) (r : List UInt8) (hc : freeB (c.toNat : Int) = false) (hr : Norm more r) : Norm more (pc c ++ r)

theorem Norm.append {more a b : List UInt8} (ha : Norm more a) (hb : Norm more b) : Norm more (a ++ b) := by
  induction ha with
  | nil => exact hb
  | byte c r h ok _ ih => exact .byte c _ h ok ih
  | pct c r hc _ ih => rw [List.append_assoc]; exact .pct c _ hc ih

theorem hexd_not : ∀ n : Nat, n < 16 → hexd n ≠ 47 := by decide +kernel

/-- The sides of a slash. -/
theorem Norm.sides {more l : List UInt8} (h : Norm more l) : ∀ a b, l = a ++ 47 :: b → Norm more a ∧ Norm more b := by
  induction h with
  | nil => intro a b e; cases a <;> cases e
  | byte c r h ok hr ih =>
    intro a b e
    cases a with
    | nil => injection e with e1 e2; subst e2; exact ⟨.nil, hr⟩
    | cons d a => injection e with e1 e2; subst e1; obtain ⟨i1, i2⟩ := ih a b e2; exact ⟨.byte _ _ h ok i1, i2⟩
  | pct c r hc hr ih =>
    intro a b e
    have hl := c.toNat_lt
    have k1 := hexd_not (c.toNat / 16) (by omega)
    have k2 := hexd_not (c.toNat % 16) (by omega)
    rcases a with _ | ⟨a0, a⟩
    · injection e with e1 e2; exact absurd e1 (by decide)
    · rcases a with _ | ⟨a1, a⟩
      · injection e with e1 e2; injection e2 with e2 e3; exact absurd e2 k1
      · rcases a with _ | ⟨a2, a⟩
        · injection e with e1 e2; injection e2 with e2 e3; injection e3 with e3 e4; exact absurd e3 k2
        · injection e with e1 e2; injection e2 with e2 e3; injection e3 with e3 e4
          obtain ⟨i1, i2⟩ := ih a b e4
          subst e1; subst e2; subst e3
          exact ⟨.pct c a hc i1, i2⟩

theorem free_not {c : UInt8} (h : freeB (c.toNat : Int) = true) : (c.toNat : Int) ≠ 37 := by intro e; rw [e] at h; exact absurd h (by decide)

theorem norm_encB {more r : List UInt8} (c : UInt8) (hr : Norm more r) : Norm more (encB c ++ r) := by
  unfold encB
  cases hf : freeB (c.toNat : Int)
  · exact .pct c r hf hr
  · exact .byte c r (free_not hf) (by rw [hf]; rfl) hr

theorem pln_norm {l more : List UInt8} (hm : hasB more 37 = false) : ∀ (f k : Nat) (acc : List UInt8), l.length ≤ k + f → charsF l more f k = true → ∃ r, plnF l f k acc = acc ++ r ∧ Norm more r
  | 0, k, acc, hl, _ => ⟨[], by rw [plnF_end (by omega)]; simp, .nil⟩
  | f + 1, k, acc, hl, hc => by
    by_cases h : k < l.length
    · by_cases hp : 0 ≤ pct l k
      · rw [charsF_pct h hp] at hc
        obtain ⟨r, e, hr⟩ := pln_norm hm f (k + 3) (acc ++ encB (UInt8.ofNat (pct l k).toNat)) (by omega) hc
        exact ⟨_, by rw [plnF_pct h hp, e, List.append_assoc], norm_encB _ hr⟩
      · cases ho : (freeB ((l[k]?.getD 0).toNat : Int) || subB ((l[k]?.getD 0).toNat : Int) || hasB more ((l[k]?.getD 0).toNat : Int))
        · rw [charsF_bad h (by omega) ho] at hc; cases hc
        · rw [charsF_ok h (by omega) ho] at hc
          obtain ⟨r, e, hr⟩ := pln_norm hm f (k + 1) (acc ++ [l[k]?.getD 0]) (by omega) hc
          refine ⟨(l[k]?.getD 0) :: r, by rw [plnF_one h (by omega), e, List.append_assoc]; rfl, .byte _ _ ?_ ho hr⟩
          intro e37
          rw [e37, hm] at ho
          exact absurd ho (by decide)
    · exact ⟨[], by rw [plnF_end (by omega)]; simp, .nil⟩

theorem at_pc (pre r : List UInt8) (c : UInt8) : (pre.length + 2 < (pre ++ (pc c ++ r)).length) ∧ pct (pre ++ (pc c ++ r)) pre.length = (c.toNat : Int) := by
  have hc := c.toNat_lt
  have hx0 : (pre ++ (pc c ++ r))[pre.length]?.getD 0 = 37 := by simp [pc]
  have hx1 : (pre ++ (pc c ++ r))[pre.length + 1]?.getD 0 = hexd (c.toNat / 16) := by
    rw [List.getElem?_append_right (by omega)]; simp [pc]
  have hx2 : (pre ++ (pc c ++ r))[pre.length + 2]?.getD 0 = hexd (c.toNat % 16) := by
    rw [List.getElem?_append_right (by omega)]; simp [pc]
  have hlen : pre.length + 2 < (pre ++ (pc c ++ r)).length := by simp [pc]
  have v1 := pct_hexd (c.toNat / 16) (by omega)
  have v2 := pct_hexd (c.toNat % 16) (by omega)
  refine ⟨hlen, ?_⟩
  rw [pct_is hlen (by rw [hx0]; rfl) (by rw [hx1, v1]; omega) (by rw [hx2, v2]; omega), hx1, hx2, v1, v2]
  omega

theorem pln_same {more r : List UInt8} (h : Norm more r) : ∀ (pre acc : List UInt8) (f : Nat), r.length ≤ f → plnF (pre ++ r) f pre.length acc = acc ++ r := by
  induction h with
  | nil => intro pre acc f _; rw [plnF_end (by simp)]; simp
  | byte c r h ok hr ih =>
    intro pre acc f hf
    obtain ⟨f', rfl⟩ : ∃ f', f = f' + 1 := ⟨f - 1, by simp at hf; omega⟩
    have hx : (pre ++ (c :: r))[pre.length]?.getD 0 = c := by simp
    have hp : pct (pre ++ (c :: r)) pre.length = -1 := pct_other (by rw [hx]; exact h)
    rw [plnF_one (by simp) (by omega), hx]
    have := ih (pre ++ [c]) (acc ++ [c]) f' (by simp at hf; omega)
    rw [List.length_append, List.length_singleton, List.append_assoc] at this
    rw [show pre ++ c :: r = pre ++ ([c] ++ r) from rfl, this, List.append_assoc]; rfl
  | pct c r hc hr ih =>
    intro pre acc f hf
    obtain ⟨f', rfl⟩ : ∃ f', f = f' + 1 := ⟨f - 1, by simp [pc] at hf; omega⟩
    obtain ⟨hlen, hp⟩ := at_pc pre r c
    rw [plnF_pct (by omega) (by omega), hp]
    have hcb : UInt8.ofNat ((c.toNat : Int)).toNat = c := by rw [Int.toNat_natCast]; exact UInt8.ofNat_toNat
    rw [hcb, show encB c = pc c from by unfold encB; rw [if_neg (by rw [hc]; exact Bool.false_ne_true)]]
    have := ih (pre ++ pc c) (acc ++ pc c) f' (by simp [pc] at hf; omega)
    rw [List.length_append, List.append_assoc, show (pc c).length = 3 from rfl] at this
    rw [this, List.append_assoc]

theorem chars_norm {more r : List UInt8} (h : Norm more r) : ∀ (pre : List UInt8) (f : Nat), charsF (pre ++ r) more f pre.length = true := by
  induction h with
  | nil => intro pre f; exact charsF_end (by simp)
  | byte c r h ok hr ih =>
    intro pre f
    cases f with
    | zero => rfl
    | succ f =>
      have hx : (pre ++ (c :: r))[pre.length]?.getD 0 = c := by simp
      have hp : pct (pre ++ (c :: r)) pre.length = -1 := pct_other (by rw [hx]; exact h)
      rw [charsF_ok (by simp) (by omega) (by rw [hx]; exact ok)]
      have := ih (pre ++ [c]) f
      rw [List.length_append, List.length_singleton, List.append_assoc] at this
      exact this
  | pct c r hc hr ih =>
    intro pre f
    cases f with
    | zero => rfl
    | succ f =>
      obtain ⟨hlen, hp⟩ := at_pc pre r c
      rw [charsF_pct (by omega) (by omega)]
      have := ih (pre ++ pc c) f
      rw [List.length_append, List.append_assoc, show (pc c).length = 3 from rfl] at this
      exact this

/-! Cutting at slashes, and joining. -/
theorem occ_one (l : List UInt8) (i : Nat) : occAt l [47] i = true ↔ l[i]? = some 47 := by
  unfold occAt
  by_cases h : i < l.length
  · rw [List.drop_eq_getElem_cons h, List.getElem?_eq_getElem h]
    simp only [List.isPrefixOf, Bool.and_true, beq_iff_eq, Option.some.injEq]
    exact eq_comm
  · rw [List.drop_eq_nil_of_le (by omega), List.getElem?_eq_none (by omega)]
    simp [List.isPrefixOf]

theorem split_at {l : List UInt8} {i : Nat} (h : l[i]? = some 47) : l = l.take i ++ 47 :: l.drop (i + 1) := by
  obtain ⟨hi, e⟩ := List.getElem?_eq_some_iff.1 h
  rw [← e, ← List.drop_eq_getElem_cons hi, List.take_append_drop]

theorem split_norm {more : List UInt8} : ∀ (k : Nat) (l : List UInt8), Norm more l → ∀ x ∈ splitK [47] 0 k l, Norm more x
  | 0, l, h, x, hx => by simp [splitK] at hx; subst hx; exact h
  | k + 1, l, h, x, hx => by
    rcases index_spec l [47] with ⟨e, _⟩ | ⟨i, e, hi, ho, hn⟩
    · unfold splitK at hx; rw [if_pos (by rw [e]; rfl)] at hx; simp at hx; subst hx; exact h
    · unfold splitK at hx
      rw [if_neg (by rw [e]; simp), e] at hx
      obtain ⟨h1, h2⟩ := h.sides _ _ (split_at ((occ_one l i).1 ho))
      rcases List.mem_cons.1 hx with hx | hx
      · subst hx; simpa using h1
      · exact split_norm k _ h2 x (by simpa using hx)

theorem split_no : ∀ (k : Nat) (l : List UInt8), count l [47] = k → ∀ x ∈ splitK [47] 0 k l, (47 : UInt8) ∉ x
  | 0, l, h, x, hx => by
    simp [splitK] at hx; subst hx
    rcases index_spec x [47] with ⟨_, hn⟩ | ⟨i, e, _, _, _⟩
    · intro hm
      obtain ⟨j, hj, e⟩ := List.getElem_of_mem hm
      have := hn j (by omega)
      rw [(occ_one x j).2 (by rw [List.getElem?_eq_getElem hj, e])] at this; cases this
    · have := count_hit (s := x) (sub := [47]) (by simp) e; omega
  | k + 1, l, h, x, hx => by
    rcases index_spec l [47] with ⟨e, hn⟩ | ⟨i, e, hi, ho, hn⟩
    · rw [count_miss e] at h; cases h
    · unfold splitK at hx
      rw [if_neg (by rw [e]; simp), e] at hx
      have hc := count_hit (s := l) (sub := [47]) (by simp) e
      rcases List.mem_cons.1 hx with hx | hx
      · subst hx
        intro hm
        obtain ⟨j, hj, e'⟩ := List.getElem_of_mem hm
        have hji : j < i := by simp at hj; omega
        have := hn j hji
        rw [(occ_one l j).2 (by rw [List.getElem?_eq_getElem (by omega)]; simpa using e')] at this; cases this
      · rw [show ((i : Int)).toNat = i from Int.toNat_natCast _] at hx
        exact split_no k _ (by rw [h] at hc; omega) x hx

theorem index_before {x r : List UInt8} (hx : (47 : UInt8) ∉ x) : index (x ++ 47 :: r) [47] = (x.length : Int) := by
  refine index_hit (i := x.length) ?_ (by simp) ((occ_one _ _).2 (by simp))
  intro j hj
  cases h : occAt (x ++ 47 :: r) [47] j with
  | false => rfl
  | true =>
    rw [occ_one, List.getElem?_append_left hj] at h
    exact absurd (List.mem_of_getElem? h) hx
theorem index_never {x : List UInt8} (hx : (47 : UInt8) ∉ x) : index x [47] = -1 := by
  refine index_none fun j _ => ?_
  cases h : occAt x [47] j with
  | false => rfl
  | true => rw [occ_one] at h; exact absurd (List.mem_of_getElem? h) hx

theorem split_join : ∀ (r : List (List UInt8)) (x : List UInt8), (47 : UInt8) ∉ x → (∀ y ∈ r, (47 : UInt8) ∉ y) → splitK [47] 0 (count (x ++ joinTail [47] r) [47]) (x ++ joinTail [47] r) = x :: r
  | [], x, hx, _ => by
    have e := index_never hx
    have : joinTail [47] [] = ([] : List UInt8) := rfl
    rw [this, List.append_nil, count_miss e]; rfl
  | y :: r, x, hx, hr => by
    have hj : joinTail [47] (y :: r) = 47 :: (y ++ joinTail [47] r) := by simp [joinTail]
    rw [hj]
    have e := index_before (r := y ++ joinTail [47] r) hx
    have hd : (x ++ 47 :: (y ++ joinTail [47] r)).drop (x.length + 1) = y ++ joinTail [47] r := by
      rw [List.drop_append]; simp
    have hc := count_hit (s := x ++ 47 :: (y ++ joinTail [47] r)) (sub := [47]) (by simp) e
    rw [show ([47] : List UInt8).length = 1 from rfl, hd] at hc
    rw [hc, Nat.add_comm 1]
    unfold splitK
    rw [if_neg (by rw [e]; simp), e]
    rw [show ((x.length : Int)).toNat = x.length from Int.toNat_natCast _, show ([47] : List UInt8).length = 1 from rfl, hd]
    rw [split_join r y (hr y (by simp)) (fun z hz => hr z (by simp [hz]))]
    simp

theorem join_split : ∀ (k : Nat) (l : List UInt8), joinTail [47] (splitK [47] 0 k l) = 47 :: l
  | 0, l => by simp [splitK, joinTail]
  | k + 1, l => by
    unfold splitK
    rcases index_spec l [47] with ⟨e, _⟩ | ⟨i, e, hi, ho, hn⟩
    · rw [if_pos (by rw [e]; rfl)]; simp [joinTail]
    · rw [if_neg (by rw [e]; simp), e]
      have h2 := join_split k (l.drop (i + 1))
      have h3 := split_at ((occ_one l i).1 ho)
      show ((_ :: _).map _).flatten = _
      rw [List.map_cons, List.flatten_cons]
      have h4 : ((splitK [47] 0 k (List.drop ((i : Int).toNat + ([47] : List UInt8).length) l)).map ([47] ++ ·)).flatten = 47 :: l.drop (i + 1) := by
        rw [show (i : Int).toNat = i from Int.toNat_natCast _]; exact h2
      rw [h4, show (i : Int).toNat + 0 = i from by rw [Int.toNat_natCast, Nat.add_zero]]
      simp only [List.cons_append, List.nil_append]
      rw [← h3]

/-! A path's parts. -/
theorem data_inj {a b : ByteArray} (h : a.data.toList = b.data.toList) : a = b := ByteArray.ext (Array.toList_inj.1 h)
theorem map_inj : ∀ {L K : List ByteArray}, L.map (·.data.toList) = K.map (·.data.toList) → L = K
  | [], [], _ => rfl
  | [], _ :: _, h => by cases h
  | _ :: _, [], h => by cases h
  | a :: L, b :: K, h => by
    rw [List.map_cons, List.map_cons] at h
    injection h with h1 h2
    rw [data_inj h1, map_inj h2]

theorem parts_data (t : ByteArray) : (parts t).map (·.data.toList) = splitK [47] 0 (count t.data.toList [47]) t.data.toList := splitB_data slash 0 _ t

theorem parts_no {t p : ByteArray} (h : p ∈ parts t) : (47 : UInt8) ∉ p.data.toList := by
  have : p.data.toList ∈ (parts t).map (·.data.toList) := List.mem_map_of_mem h
  rw [parts_data] at this
  exact split_no _ _ rfl _ this
theorem parts_norm {more : List UInt8} {t p : ByteArray} (hn : Norm more t.data.toList) (h : p ∈ parts t) : Norm more p.data.toList := by
  have : p.data.toList ∈ (parts t).map (·.data.toList) := List.mem_map_of_mem h
  rw [parts_data] at this
  exact split_norm _ _ hn _ this
theorem told_parts (t : ByteArray) : (told (parts t)).data.toList = 47 :: t.data.toList := by
  show joinTail [47] ((parts t).map (·.data.toList)) = _
  rw [parts_data]; exact join_split _ _
theorem parts_told (x : ByteArray) (r : List ByteArray) (h : ∀ p ∈ x :: r, (47 : UInt8) ∉ p.data.toList) : parts ((told (x :: r)).extract 1 (told (x :: r)).size) = x :: r := by
  apply map_inj
  have e : ((told (x :: r)).extract 1 (told (x :: r)).size).data.toList = x.data.toList ++ joinTail [47] (r.map (·.data.toList)) := by
    rw [extract_to_end]
    show (joinTail [47] ((x :: r).map (·.data.toList))).drop 1 = _
    simp [joinTail]
  rw [parts_data, e, split_join _ _ (h x (by simp)) (fun y hy => by
    obtain ⟨q, hq, rfl⟩ := List.mem_map.1 hy
    exact h q (by simp [hq]))]
  rfl

/-- The bytes of some parts, with a slash each. -/
def wt (l : List ByteArray) : Nat := (l.map fun p => p.size + 1).sum
theorem wt_app (a b : List ByteArray) : wt (a ++ b) = wt a + wt b := by simp [wt]
theorem wt_one (p : ByteArray) : wt [p] = p.size + 1 := by simp [wt]
theorem told_wt : ∀ l : List ByteArray, (told l).size = wt l
  | [] => rfl
  | p :: l => by
    have ih := told_wt l
    have e : (told (p :: l)).size = (p.size + 1) + (told l).size := by
      rw [size_eq, size_eq (told l), size_eq p]
      show (joinTail [47] ((p :: l).map (·.data.toList))).length = _ + (joinTail [47] (l.map (·.data.toList))).length
      simp [joinTail]; omega
    rw [e, ih]; simp [wt]
theorem wt_parts (t : ByteArray) : wt (parts t) = t.size + 1 := by
  rw [← told_wt, size_eq, told_parts, List.length_cons, ← size_eq]

theorem kept_mem (L : List ByteArray) : ∀ k, k ≤ L.length → ∀ p ∈ keptTo L k, p ∈ L ∧ dot1 p = false ∧ dot2 p = false
  | 0, _, p, h => by cases h
  | k + 1, hk, p, h => by
    have ih := kept_mem L k (by omega)
    have e : L[k]?.getD none0 = L[k] := by rw [List.getElem?_eq_getElem (by omega)]; rfl
    cases h1 : dot1 (L[k]?.getD none0)
    · cases h2 : dot2 (L[k]?.getD none0)
      · rw [kept_part h1 h2] at h
        rcases List.mem_append.1 h with h | h
        · exact ih p h
        · have hp : p = L[k]?.getD none0 := by simpa using h
          subst hp
          exact ⟨by rw [e]; exact List.getElem_mem _, h1, h2⟩
      · rw [kept_dot2 h1 h2] at h; exact ih p (List.dropLast_subset _ h)
    · rw [kept_dot1 h1] at h; exact ih p h
theorem wt_drop (l : List ByteArray) : wt l.dropLast ≤ wt l := by
  rcases List.eq_nil_or_concat l with h | ⟨a, b, h⟩
  · rw [h]; exact Nat.le_refl _
  · rw [h, List.concat_eq_append, List.dropLast_concat, wt_app]; omega
theorem kept_wt (L : List ByteArray) : ∀ k, k ≤ L.length → wt (keptTo L k) ≤ wt (L.take k)
  | 0, _ => Nat.zero_le _
  | k + 1, hk => by
    have ih := kept_wt L k (by omega)
    have e : L[k]?.getD none0 = L[k] := by rw [List.getElem?_eq_getElem (by omega)]; rfl
    have ht : L.take (k + 1) = L.take k ++ [L[k]] := by rw [List.take_succ_eq_append_getElem (by omega)]
    rw [ht, wt_app, wt_one]
    cases h1 : dot1 (L[k]?.getD none0)
    · cases h2 : dot2 (L[k]?.getD none0)
      · rw [kept_part h1 h2, wt_app, wt_one, e]; omega
      · rw [kept_dot2 h1 h2]; have := wt_drop (keptTo L k); omega
    · rw [kept_dot1 h1]; omega

theorem none_dots : dot1 none0 = false ∧ dot2 none0 = false := by decide +kernel
theorem dots_form (L : List ByteArray) (hne : L ≠ []) : ∃ x r, dots L = told (x :: r) ∧ (∀ p ∈ x :: r, (p ∈ L ∨ p = none0) ∧ dot1 p = false ∧ dot2 p = false) ∧ wt (x :: r) ≤ wt L := by
  obtain ⟨k, hk⟩ : ∃ k, L.length = k + 1 := by
    cases L with
    | nil => exact absurd rfl hne
    | cons a b => exact ⟨b.length, rfl⟩
  have hm := kept_mem L L.length (Nat.le_refl _)
  have e : L[k]?.getD none0 = L[k] := by rw [List.getElem?_eq_getElem (by omega)]; rfl
  have hL : L = L.take k ++ [L[k]] := by
    rw [← List.take_succ_eq_append_getElem (by omega), ← hk, List.take_length]
  have hwL : wt L = wt (L.take k) + (L[k].size + 1) := by rw [← wt_one, ← wt_app, ← hL]
  have hw := kept_wt L k (by omega)
  unfold dots lastDots
  have hlast : L[L.length - 1]?.getD none0 = L[k]?.getD none0 := by rw [show L.length - 1 = k from by omega]
  rw [hlast]
  cases h1 : dot1 (L[k]?.getD none0)
  · cases h2 : dot2 (L[k]?.getD none0)
    · rw [if_neg (by simp)]
      rw [hk] at hm ⊢
      have hp := kept_part h1 h2
      cases hK : keptTo L (k + 1) with
      | nil => rw [hp] at hK; simp at hK
      | cons x r =>
        refine ⟨x, r, rfl, fun p h => ?_, ?_⟩
        · have := hm p (by rw [hK]; exact h)
          exact ⟨.inl this.1, this.2⟩
        · rw [← hK, hp, wt_app, wt_one, e]; omega
    · rw [if_pos (by simp)]
      rw [hk] at hm ⊢
      have hd := wt_drop (keptTo L k)
      have hp := kept_dot2 h1 h2
      have h0 : wt [none0] = 1 := rfl
      cases hK : keptTo L (k + 1) ++ [none0] with
      | nil => simp at hK
      | cons x r =>
        refine ⟨x, r, rfl, fun p h => ?_, ?_⟩
        · rw [← hK] at h
          rcases List.mem_append.1 h with h | h
          · have := hm p h
            exact ⟨.inl this.1, this.2⟩
          · have : p = none0 := by simpa using h
            subst this
            exact ⟨.inr rfl, none_dots.1, none_dots.2⟩
        · rw [← hK, hp, wt_app, h0]; omega
  · rw [if_pos (by simp)]
    rw [hk] at hm ⊢
    have hp := kept_dot1 h1
    have h0 : wt [none0] = 1 := rfl
    cases hK : keptTo L (k + 1) ++ [none0] with
    | nil => simp at hK
    | cons x r =>
      refine ⟨x, r, rfl, fun p h => ?_, ?_⟩
      · rw [← hK] at h
        rcases List.mem_append.1 h with h | h
        · have := hm p h
          exact ⟨.inl this.1, this.2⟩
        · have : p = none0 := by simpa using h
          subst this
          exact ⟨.inr rfl, none_dots.1, none_dots.2⟩
      · rw [← hK, hp, wt_app, h0]; omega

theorem kept_id (K : List ByteArray) (h : ∀ p ∈ K, dot1 p = false ∧ dot2 p = false) : ∀ k, k ≤ K.length → keptTo K k = K.take k
  | 0, _ => by simp [keptTo]
  | k + 1, hk => by
    have e : K[k]?.getD none0 = K[k] := by rw [List.getElem?_eq_getElem (by omega)]; rfl
    have hm := h K[k] (List.getElem_mem _)
    rw [kept_part (by rw [e]; exact hm.1) (by rw [e]; exact hm.2), kept_id K h k (by omega), e, List.take_succ_eq_append_getElem (by omega)]
theorem dots_id (x : ByteArray) (r : List ByteArray) (h : ∀ p ∈ x :: r, dot1 p = false ∧ dot2 p = false) : dots (x :: r) = told (x :: r) := by
  have hl : lastDots (x :: r) = false := by
    unfold lastDots
    have e : (x :: r)[(x :: r).length - 1]?.getD none0 = (x :: r)[(x :: r).length - 1] := by rw [List.getElem?_eq_getElem (by simp)]; rfl
    have hm := h _ (List.getElem_mem (l := x :: r) (n := (x :: r).length - 1) (by simp))
    rw [e, hm.1, hm.2]; rfl
  unfold dots
  rw [hl, if_neg Bool.false_ne_true, kept_id _ h _ (Nat.le_refl _), List.take_length]

/-- What is told of a path without its dots: its form. -/
theorem dotB_form (P : ByteArray) : ∃ x r, dotB P = told (x :: r) ∧ (∀ p ∈ x :: r, (p ∈ parts (P.extract 1 P.size) ∨ p = none0) ∧ dot1 p = false ∧ dot2 p = false) ∧ wt (x :: r) ≤ (P.extract 1 P.size).size + 1 := by
  obtain ⟨x, r, h1, h2, h3⟩ := dots_form (parts (P.extract 1 P.size)) (by intro e; have := parts_len (P.extract 1 P.size); rw [e] at this; cases this)
  exact ⟨x, r, h1, h2, by rw [wt_parts] at h3; exact h3⟩
theorem dot_again (P : ByteArray) : dotB (dotB P) = dotB P ∧ (1 ≤ P.size → (dotB P).size ≤ P.size) ∧ ∃ r, (dotB P).data.toList = 47 :: r := by
  obtain ⟨x, r, h1, h2, h3⟩ := dotB_form P
  refine ⟨?_, fun hP => ?_, ?_⟩
  · have hn : ∀ p ∈ x :: r, (47 : UInt8) ∉ p.data.toList := by
      intro p hp
      rcases (h2 p hp).1 with h | h
      · exact parts_no h
      · subst h; simp [none0]
    rw [h1]
    show dots (parts ((told (x :: r)).extract 1 (told (x :: r)).size)) = _
    rw [parts_told x r hn, dots_id x r (fun p hp => (h2 p hp).2)]
  · rw [h1, told_wt]
    rw [ByteArray.size_extract] at h3; omega
  · rw [h1]; exact ⟨x.data.toList ++ joinTail [47] (r.map (·.data.toList)), by show joinTail [47] ((x :: r).map (·.data.toList)) = _; simp [joinTail]⟩
theorem told_norm {more : List UInt8} (h47 : hasB more 47 = true) : ∀ (l : List ByteArray), (∀ p ∈ l, Norm more p.data.toList) → Norm more (told l).data.toList
  | [], _ => .nil
  | p :: l, h => by
    have ih := told_norm h47 l (fun q hq => h q (by simp [hq]))
    have e : (told (p :: l)).data.toList = 47 :: (p.data.toList ++ (told l).data.toList) := by
      show joinTail [47] ((p :: l).map (·.data.toList)) = 47 :: (_ ++ joinTail [47] (l.map (·.data.toList)))
      simp [joinTail]
    rw [e]
    exact .byte 47 _ (by decide) (by rw [show (((47 : UInt8).toNat : Nat) : Int) = 47 from rfl, h47]; simp) ((h p (by simp)).append ih)

/-! A whole address. -/
theorem low_low (c : UInt8) : lowB (lowB c) = lowB c := by
  by_cases h : 65 ≤ c.toNat ∧ c.toNat ≤ 90
  · have e := lowB_yes h.1 h.2
    exact lowB_no (by omega)
  · rw [lowB_no h, lowB_no h]
theorem lowS_lowS (s : ByteArray) : lowS (lowS s) = lowS s := by
  apply data_inj
  show ((s.data.toList.map lowB).toArray.toList.map lowB) = s.data.toList.map lowB
  simp only [List.map_map]
  exact List.map_congr_left fun c _ => low_low c
theorem low_host (c : UInt8) (h : hostB (c.toNat : Int) = true) : hostB ((lowB c).toNat : Int) = true := by
  by_cases hc : 65 ≤ c.toNat ∧ c.toNat ≤ 90
  · have e := lowB_yes hc.1 hc.2
    unfold hostB; exact decide_eq_true (by omega)
  · rw [lowB_no hc]; exact h
theorem low_ok {H : ByteArray} (h : hostOk H.data.toList = true) : hostOk (lowS H).data.toList = true := by
  unfold hostOk at h ⊢
  simp only [Bool.and_eq_true, decide_eq_true_eq, List.all_eq_true] at h ⊢
  have e : (lowS H).data.toList = H.data.toList.map lowB := rfl
  rw [e]
  refine ⟨by simpa using h.1, fun c hc => ?_⟩
  obtain ⟨d, hd, rfl⟩ := List.mem_map.1 hc
  exact low_host d (h.2 d hd)
theorem port_cases (S : ByteArray) (n : Int) : portI S n = 0 ∨ portI S n = n := by
  obtain ⟨u, hu⟩ : ∃ u : Int, u = (if S.toList == [104, 116, 116, 112, 115] then 443 else 80) := ⟨_, rfl⟩
  unfold portI; rw [← hu]
  by_cases h : n = u
  · rw [if_pos h]; exact .inl rfl
  · rw [if_neg h]; exact .inr rfl
theorem port_port (S : ByteArray) (n : Int) : portI S (portI S n) = portI S n := by
  obtain ⟨u, hu⟩ : ∃ u : Int, u = (if S.toList == [104, 116, 116, 112, 115] then 443 else 80) := ⟨_, rfl⟩
  have h0 : u ≠ 0 := by rw [hu]; split <;> decide
  unfold portI; rw [← hu]
  by_cases h : n = u
  · rw [if_pos h, if_neg (Ne.symm h0)]
  · rw [if_neg h, if_neg h]

theorem text_size (S H : ByteArray) (n : Nat) (P Q : ByteArray) (a : Bool) : (urlB S H n P Q a).size = S.size + 3 + H.size + (if n = 0 then 0 else 1 + (num n).size) + P.size + (if a then 1 + Q.size else 0) := by
  have hc : css.size = 3 := rfl
  have hk : colon.size = 1 := rfl
  have hq : qm.size = 1 := rfl
  unfold urlB
  cases a
  · split
    · simp only [Bool.false_eq_true, if_false, ByteArray.size_append]; omega
    · simp only [Bool.false_eq_true, if_false, ByteArray.size_append]; omega
  · split
    · simp only [if_true, ByteArray.size_append]; omega
    · simp only [if_true, ByteArray.size_append]; omega

theorem path_norm {P : ByteArray} (hp : Lib.hasPrefix P.data.toList [47] = true) (hc : Byt.charsB P.data.toList [47] = true) : ∃ r, (plnB P).data.toList = 47 :: r ∧ Norm [47] r := by
  obtain ⟨tl, hl⟩ : ∃ tl, P.data.toList = 47 :: tl := by
    cases h : P.data.toList with
    | nil => rw [h] at hp; cases hp
    | cons c tl =>
      rw [h] at hp
      have : (47 : UInt8) = c := by simpa [Lib.hasPrefix, List.isPrefixOf] using hp
      exact ⟨tl, by rw [this]⟩
  unfold Byt.charsB at hc
  show ∃ r, (pln P.data.toList).toArray.toList = 47 :: r ∧ Norm [47] r
  unfold pln
  rw [hl] at hc ⊢
  have hx : ((47 : UInt8) :: tl)[0]?.getD 0 = 47 := rfl
  have hpc : pct (47 :: tl) 0 = -1 := pct_other (by rw [hx]; decide)
  rw [List.length_cons] at hc ⊢
  rw [charsF_ok (by simp) (by omega) (by rw [hx]; decide)] at hc
  rw [plnF_one (by simp) (by omega), hx]
  obtain ⟨r, e, hr⟩ := pln_norm (by decide) tl.length 1 [47] (by simp; omega) hc
  refine ⟨r, ?_, hr⟩
  show plnF (47 :: tl) tl.length (0 + 1) ([] ++ [47]) = _
  rw [show ([] ++ [47] : List UInt8) = [47] from rfl, Nat.zero_add, e]; rfl

theorem path_facts {P : ByteArray} (hp : Lib.hasPrefix P.data.toList [47] = true) (hc : Byt.charsB P.data.toList [47] = true) :
    Lib.hasPrefix (dotB (plnB P)).data.toList [47] = true ∧ Byt.charsB (dotB (plnB P)).data.toList [47] = true ∧ plnB (dotB (plnB P)) = dotB (plnB P) ∧ (dotB (plnB P)).size ≤ P.size := by
  obtain ⟨r, hr, hn⟩ := path_norm hp hc
  obtain ⟨_, h2, z, hz⟩ := dot_again (plnB P)
  obtain ⟨x, y, h1, h3, h4⟩ := dotB_form (plnB P)
  have ht : ((plnB P).extract 1 (plnB P).size).data.toList = r := by rw [extract_to_end, hr]; rfl
  have hN : Norm [47] (dotB (plnB P)).data.toList := by
    rw [h1]
    refine told_norm (by decide) _ fun p hp => ?_
    rcases (h3 p hp).1 with h | h
    · exact parts_norm (by rw [ht]; exact hn) h
    · subst h; exact .nil
  refine ⟨by rw [hz]; simp [Lib.hasPrefix, List.isPrefixOf], ?_, ?_, ?_⟩
  · exact chars_norm hN [] (dotB (plnB P)).data.toList.length
  · apply data_inj
    show (pln (dotB (plnB P)).data.toList).toArray.toList = _
    have := pln_same hN [] [] (dotB (plnB P)).data.toList.length (Nat.le_refl _)
    simpa [pln] using this
  · have hs := plnB_size P
    have : 1 ≤ (plnB P).size := by rw [size_eq, hr]; simp
    have := h2 this
    omega

theorem query_facts {Q : ByteArray} (hc : Byt.charsB Q.data.toList [47, 63] = true) : Byt.charsB (plnB Q).data.toList [47, 63] = true ∧ plnB (plnB Q) = plnB Q ∧ (plnB Q).size ≤ Q.size := by
  obtain ⟨r, e, hr⟩ := pln_norm (l := Q.data.toList) (more := [47, 63]) (by decide) Q.data.toList.length 0 [] (by omega) hc
  have hd : (plnB Q).data.toList = r := by
    show (pln Q.data.toList).toArray.toList = r
    unfold pln; rw [e]; rfl
  refine ⟨?_, ?_, plnB_size Q⟩
  · rw [hd]; exact chars_norm hr [] r.length
  · apply data_inj
    show (pln (plnB Q).data.toList).toArray.toList = _
    rw [hd]
    have := pln_same hr [] [] r.length (Nat.le_refl _)
    simpa [pln] using this

/-- What is made normal is good, and normal. -/
theorem normal_facts {S H P Q : ByteArray} {n : Int} {a : Bool} (hg : goodB S H n P Q a = true) :
    goodB S (lowS H) (portI S n) (dotB (plnB P)) (plnB Q) a = true ∧ lowS (lowS H) = lowS H ∧ portI S (portI S n) = portI S n ∧ plnB (dotB (plnB P)) = dotB (plnB P) ∧ dotB (dotB (plnB P)) = dotB (plnB P) ∧ plnB (plnB Q) = plnB Q := by
  unfold goodB at hg
  simp only [Bool.and_eq_true, decide_eq_true_eq, Bool.or_eq_true] at hg
  obtain ⟨⟨⟨⟨⟨⟨⟨hS, hH⟩, hn⟩, hP⟩, hcp⟩, hcq⟩, hQ⟩, hz⟩ := hg
  obtain ⟨p1, p2, p3, p4⟩ := path_facts hP hcp
  obtain ⟨q1, q2, q3⟩ := query_facts hcq
  refine ⟨?_, lowS_lowS H, port_port S n, p3, (dot_again (plnB P)).1, q2⟩
  unfold goodB
  simp only [Bool.and_eq_true, decide_eq_true_eq, Bool.or_eq_true]
  refine ⟨⟨⟨⟨⟨⟨⟨hS, low_ok hH⟩, ?_⟩, p1⟩, p2⟩, q1⟩, ?_⟩, ?_⟩
  · rcases port_cases S n with e | e <;> rw [e] <;> omega
  · rcases hQ with h | h
    · exact .inl h
    · right
      have h0 : Q = ⟨#[]⟩ := by
        apply data_inj
        have := h
        rw [ByteArray.toList_eq] at this
        simpa using this
      subst h0
      exact h
  · rw [text_size] at hz ⊢
    rw [lowS_size]
    rcases port_cases S n with e | e
    · rw [e]
      cases a
      · simp at hz ⊢; omega
      · simp at hz ⊢; omega
    · rw [e]
      cases a
      · simp at hz ⊢; omega
      · simp at hz ⊢; omega

end Go.Proofs.YtlgjgdpalflmfaaDoor.Nid
