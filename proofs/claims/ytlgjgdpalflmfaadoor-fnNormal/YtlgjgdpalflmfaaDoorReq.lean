/-
  Plain facts: an address as the program reads it is the one that the specification reads.
-/
import Derived.Test.YtlgjgdpalflmfaaDoorRdi
namespace Go.Proofs.YtlgjgdpalflmfaaDoor.Req
open Go.RowKit
open Go.Proofs.YtlgjgdpalflmfaaDoor.Byt
open Go.Proofs.YtlgjgdpalflmfaaDoor.Hex
open Go.Proofs.YtlgjgdpalflmfaaDoor.Rdm
open Go.Proofs.YtlgjgdpalflmfaaDoor.Rdi
open Go.Proofs.YtlgjgdpalflmfaaDoor.Gud
open Go.Proofs.YtlgjgdpalflmfaaDoor.Chr
open Go.Proofs.YtlgjgdpalflmfaaDoor.Cut

/-- The byte at a place, 0 behind the end. -/
def at0 (s : ByteArray) (k : Nat) : UInt8 := s.data.toList[k]?.getD 0

theorem at_extract (s : ByteArray) (i j k : Nat) (h : k < (s.extract i j).size) : at0 (s.extract i j) k = at0 s (i + k) := by
  unfold at0
  rw [ByteArray.size_extract] at h
  have e : (s.extract i j).data.toList = (s.data.toList.drop i).take (j - i) := by
    rw [ByteArray.data_extract, Array.toList_extract, List.extract_eq_take_drop]
  rw [e, List.getElem?_take, if_pos (by omega), List.getElem?_drop]

theorem scan_fact (p : UInt8 → Bool) (s : ByteArray) : ∀ (f k : Nat), s.size ≤ k + f → k ≤ s.size → (∀ j, k ≤ j → j < scanF p s.data.toList f k → p (at0 s j) = false) ∧ (scanF p s.data.toList f k < s.size → p (at0 s (scanF p s.data.toList f k)) = true)
  | 0, k, h, h2 => ⟨fun j h1 h3 => absurd h3 (by simp [scanF]; omega), fun h3 => absurd h3 (by simp [scanF]; omega)⟩
  | f + 1, k, h, h2 => by
    have hl : s.data.toList.length = s.size := by simp
    by_cases h1 : k < s.size
    · cases hp : p (s.data.toList[k]?.getD 0)
      · rw [scan_miss (by omega) hp]
        obtain ⟨a, b⟩ := scan_fact p s f (k + 1) (by omega) (by omega)
        refine ⟨fun j hj hj2 => ?_, b⟩
        by_cases he : j = k
        · subst he; exact hp
        · exact a j (by omega) hj2
      · rw [scan_hit (by omega) hp]
        exact ⟨fun j hj hj2 => absurd hj2 (by omega), fun _ => hp⟩
    · rw [scan_end (by omega)]
      exact ⟨fun j hj hj2 => absurd hj2 (by omega), fun h3 => absurd h3 h1⟩

theorem scan_is (p : UInt8 → Bool) (s : ByteArray) (k : Nat) (hk : k ≤ s.size) : k ≤ scanF p s.data.toList s.data.toList.length k ∧ scanF p s.data.toList s.data.toList.length k ≤ s.size ∧ (∀ j, k ≤ j → j < scanF p s.data.toList s.data.toList.length k → p (at0 s j) = false) ∧ (scanF p s.data.toList s.data.toList.length k < s.size → p (at0 s (scanF p s.data.toList s.data.toList.length k)) = true) := by
  have hl : s.data.toList.length = s.size := by simp
  obtain ⟨a, b⟩ := scan_le p s.data.toList s.data.toList.length k (by omega)
  obtain ⟨c, d⟩ := scan_fact p s s.data.toList.length k (by omega) hk
  exact ⟨a, by omega, c, d⟩

theorem first_fact (s : ByteArray) (c : UInt8) : ∀ (f k : Nat), s.size ≤ k + f → (∀ m, firstAt s.data.toList c f k = some m → k ≤ m ∧ m < s.size ∧ at0 s m = c ∧ ∀ j, k ≤ j → j < m → at0 s j ≠ c) ∧ (firstAt s.data.toList c f k = none → ∀ j, k ≤ j → j < s.size → at0 s j ≠ c)
  | 0, k, h => ⟨fun m hm => (nomatch hm), fun _ j h1 h2 => absurd h2 (by omega)⟩
  | f + 1, k, h => by
    have hl : s.data.toList.length = s.size := by simp
    by_cases h1 : k < s.size
    · by_cases hc : s.data.toList[k]?.getD 0 = c
      · rw [first_hit (by omega) hc]
        refine ⟨fun m hm => ?_, fun hn => by cases hn⟩
        cases hm
        exact ⟨Nat.le_refl _, h1, hc, fun j h2 h3 => absurd h3 (by omega)⟩
      · rw [first_miss (by omega) hc]
        obtain ⟨a, b⟩ := first_fact s c f (k + 1) (by omega)
        refine ⟨fun m hm => ?_, fun hn j h2 h3 => ?_⟩
        · obtain ⟨a1, a2, a3, a4⟩ := a m hm
          refine ⟨by omega, a2, a3, fun j h2 h3 => ?_⟩
          by_cases he : j = k
          · subst he; exact hc
          · exact a4 j (by omega) h3
        · by_cases he : j = k
          · subst he; exact hc
          · exact b hn j (by omega) h3
    · rw [first_end (by omega)]
      exact ⟨fun m hm => (nomatch hm), fun _ j h2 h3 => absurd h3 (by omega)⟩

theorem cut_at {s : ByteArray} {c : UInt8} {m : Nat} (h : m < s.size) (hc : at0 s m = c) (hb : ∀ j, j < m → at0 s j ≠ c) : cutI s c = some m := by
  have hl : s.data.toList.length = s.size := by simp
  obtain ⟨a, b⟩ := first_fact s c s.data.toList.length 0 (by omega)
  cases he : cutI s c with
  | none => exact absurd hc (b he m (by omega) h)
  | some n =>
    obtain ⟨a1, a2, a3, a4⟩ := a n he
    rcases Nat.lt_trichotomy m n with h1 | h1 | h1
    · exact absurd hc (a4 m (by omega) h1)
    · rw [h1]
    · exact absurd a3 (hb n h1)
theorem cut_no {s : ByteArray} {c : UInt8} (hb : ∀ j, j < s.size → at0 s j ≠ c) : cutI s c = none := by
  have hl : s.data.toList.length = s.size := by simp
  obtain ⟨a, b⟩ := first_fact s c s.data.toList.length 0 (by omega)
  cases he : cutI s c with
  | none => rfl
  | some n =>
    obtain ⟨a1, a2, a3, a4⟩ := a n he
    exact absurd a3 (hb n a2)

/-- A number of at most nine digits, -1 where it is none. -/
def intR (d : ByteArray) : Int :=
  if d.size = 0 ∨ 9 < d.size ∨ ((at0 d 0).toNat = 48 ∧ 1 < d.size) then -1
  else if d.data.toList.all (fun c => !noDig c) = true then ((d.data.toList.foldl (fun n c => 10 * n + (c.toNat - 48)) 0 : Nat) : Int) else -1

def pathP (r : ByteArray) : ByteArray := if (cutA r 63).size = 0 then slash else cutA r 63

/-- A host, a port, a path and a query, as the specification reads them. -/
def authR (sc t : ByteArray) : Option Parts :=
  let e := scanF isEnd t.data.toList t.data.toList.length 0
  let hp := t.extract 0 e
  let r := t.extract e t.size
  if cutB hp 58 = true then
    if intR (cutZ hp 58) ≤ 0 then none
    else if goodB sc (cutA hp 58) (intR (cutZ hp 58)) (pathP r) (cutZ r 63) (cutB r 63) = true then some (sc, cutA hp 58, (intR (cutZ hp 58)).toNat, pathP r, cutZ r 63, cutB r 63) else none
  else if goodB sc (cutA hp 58) 0 (pathP r) (cutZ r 63) (cutB r 63) = true then some (sc, cutA hp 58, 0, pathP r, cutZ r 63, cutB r 63) else none

/-- What is good of what was taken apart. -/
def keep : Option Parts → Option Parts
  | none => none
  | some (sc, h, n, p, q, a) => if goodB sc h n p q a = true then some (sc, h, n, p, q, a) else none

theorem ext_ext (s : ByteArray) (i j k l : Nat) : (s.extract i j).extract k l = s.extract (i + k) (min (i + l) j) := ByteArray.extract_extract

theorem size_zero {s : ByteArray} (h : s.size = 0) : s = ⟨#[]⟩ := by
  apply ByteArray.ext; exact Array.eq_empty_of_size_eq_zero h

theorem path_eq (s sc h : ByteArray) (n x : Nat) (hx : x ≤ s.size) (he : x < s.size → isEnd (at0 s x) = true) :
    pathR s sc h n x = some (sc, h, n, pathP (s.extract x s.size), cutZ (s.extract x s.size) 63, cutB (s.extract x s.size) 63) := by
  have hz : (s.extract x s.size).size = s.size - x := by rw [ByteArray.size_extract]; omega
  unfold pathR
  by_cases h1 : s.size ≤ x
  · rw [if_pos h1]
    have h0 : s.extract x s.size = ⟨#[]⟩ := size_zero (by omega)
    rw [h0]; rfl
  · rw [if_neg h1]
    have ha : at0 (s.extract x s.size) 0 = at0 s x := by rw [at_extract _ _ _ _ (by omega)]; rfl
    have he := he (by omega)
    by_cases h63 : (at0 s x).toNat = 63
    · rw [if_pos (show (s.data.toList[x]?.getD 0).toNat = 63 from h63)]
      have hc : cutI (s.extract x s.size) 63 = some 0 := cut_at (by omega) (by rw [ha]; exact UInt8.toNat_inj.1 h63) (fun j hj => absurd hj (by omega))
      obtain ⟨c1, c2, c3⟩ := cut_some hc
      have c4 : (cutA (s.extract x s.size) 63).size = 0 := by rw [c1, ByteArray.size_extract]; omega
      unfold pathP
      rw [if_pos c4, c2, c3, ext_ext]
      have : min (x + (s.extract x s.size).size) s.size = s.size := by omega
      rw [this, show x + (0 + 1) = x + 1 from by omega]
    · have h47 : (at0 s x).toNat = 47 := by
        unfold isEnd at he
        simp only [Bool.or_eq_true, beq_iff_eq] at he
        omega
      rw [if_neg (show ¬ (s.data.toList[x]?.getD 0).toNat = 63 from h63), if_pos (show (s.data.toList[x]?.getD 0).toNat = 47 from h47)]
      have hp : (cutA (s.extract x s.size) 63).size ≠ 0 := by
        cases hc : cutI (s.extract x s.size) 63 with
        | none => rw [(cut_none hc).1]; omega
        | some m =>
          have hl : (s.extract x s.size).data.toList.length = (s.extract x s.size).size := by simp
          obtain ⟨m1, m2, m3, m4⟩ := (first_fact (s.extract x s.size) 63 (s.extract x s.size).data.toList.length 0 (by omega)).1 m hc
          rw [(cut_some hc).1, ByteArray.size_extract]
          have : m ≠ 0 := by
            rintro rfl
            rw [ha] at m3
            rw [m3] at h47
            exact absurd h47 (by decide)
          omega
      unfold pathP
      rw [if_neg hp]

theorem dig_of {c : UInt8} (h : isEnd c = true) : noDig c = true := by
  unfold isEnd at h
  simp only [Bool.or_eq_true, beq_iff_eq] at h
  unfold noDig
  rcases h with h | h <;> rw [h] <;> rfl

theorem all_of {d : ByteArray} (h : ∀ j, j < d.size → noDig (at0 d j) = false) : d.data.toList.all (fun c => !noDig c) = true := by
  rw [List.all_eq_true]
  intro c hc
  obtain ⟨j, hj, rfl⟩ := List.mem_iff_getElem.1 hc
  have hl : d.data.toList.length = d.size := by simp
  have := h j (by omega)
  unfold at0 at this
  rw [List.getElem?_eq_getElem hj] at this
  simpa using this
theorem not_all {d : ByteArray} {j : Nat} (hj : j < d.size) (h : noDig (at0 d j) = true) : d.data.toList.all (fun c => !noDig c) = false := by
  have hl : d.data.toList.length = d.size := by simp
  rw [List.all_eq_false]
  refine ⟨d.data.toList[j]'(by omega), List.getElem_mem _, ?_⟩
  unfold at0 at h
  rw [List.getElem?_eq_getElem (by omega)] at h
  simpa using h

theorem fold_ge (l : List UInt8) : ∀ acc : Nat, acc * 10 ^ l.length ≤ l.foldl (fun n c => 10 * n + (c.toNat - 48)) acc := by
  induction l with
  | nil => intro acc; simp
  | cons c r ih =>
    intro acc
    rw [List.foldl_cons, List.length_cons, Nat.pow_succ]
    have := ih (10 * acc + (c.toNat - 48))
    refine Nat.le_trans ?_ this
    have e : acc * (10 ^ r.length * 10) = (10 * acc) * 10 ^ r.length := by rw [Nat.mul_comm (10 ^ r.length) 10, ← Nat.mul_assoc, Nat.mul_comm acc 10]
    rw [e]
    exact Nat.mul_le_mul_right _ (by omega)
theorem fold_big {d : ByteArray} (h0 : 0 < d.size) (hd : noDig (at0 d 0) = false) (h48 : (at0 d 0).toNat ≠ 48) : 10 ^ (d.size - 1) ≤ d.data.toList.foldl (fun n c => 10 * n + (c.toNat - 48)) 0 := by
  have hl : d.data.toList.length = d.size := by simp
  unfold at0 at hd h48
  cases hs : d.data.toList with
  | nil => rw [hs] at hl; simp at hl; omega
  | cons c r =>
    rw [hs] at hd h48 hl
    simp only [List.getElem?_cons_zero, Option.getD_some] at hd h48
    rw [List.foldl_cons]
    have := fold_ge r (10 * 0 + (c.toNat - 48))
    have hr : r.length = d.size - 1 := by rw [List.length_cons] at hl; omega
    rw [hr] at this
    have h1 : 1 ≤ 10 * 0 + (c.toNat - 48) := by
      simp only [noDig, Bool.not_eq_false', Bool.and_eq_true, decide_eq_true_eq] at hd
      omega
    exact Nat.le_trans (by have := Nat.mul_le_mul_right (10 ^ (d.size - 1)) h1; omega) this

theorem good_port {sc h p q : ByteArray} {n : Int} {a : Bool} (hn : 65535 < n) : goodB sc h n p q a = false := by
  unfold goodB
  rw [decide_eq_false (by omega)]
  simp

theorem host_eq (s sc : ByteArray) (k : Nat) (hk : k ≤ s.size) : keep (hostR s sc k) = authR sc (s.extract k s.size) := by
  have hz : (s.extract k s.size).size = s.size - k := by rw [ByteArray.size_extract]; omega
  obtain ⟨a1, a2, a3, a4⟩ := scan_is isPart s k hk
  obtain ⟨b1, b2, b3, b4⟩ := scan_is isEnd (s.extract k s.size) 0 (by omega)
  unfold authR hostR
  simp only
  generalize scanF isPart s.data.toList s.data.toList.length k = h1 at a1 a2 a3 a4 ⊢
  generalize scanF isEnd (s.extract k s.size).data.toList (s.extract k s.size).data.toList.length 0 = e at b1 b2 b3 b4 ⊢
  have hat : ∀ j, j < s.size - k → at0 (s.extract k s.size) j = at0 s (k + j) := fun j hj => at_extract _ _ _ _ (by omega)
  have hr : (s.extract k s.size).extract e (s.extract k s.size).size = s.extract (k + e) s.size := by rw [ext_ext, show min (k + (s.extract k s.size).size) s.size = s.size from by omega]
  have hp : (s.extract k s.size).extract 0 e = s.extract k (k + e) := by rw [ext_ext, show min (k + e) s.size = k + e from by omega]; rfl
  have hps : (s.extract k (k + e)).size = e := by rw [ByteArray.size_extract]; omega
  have hpa : ∀ j, j < e → at0 (s.extract k (k + e)) j = at0 s (k + j) := fun j hj => at_extract _ _ _ _ (by omega)
  have hen : ∀ j, k ≤ j → j < k + e → isEnd (at0 s j) = false := by
    intro j h2 h3
    have := b3 (j - k) (by omega) (by omega)
    rwa [hat _ (by omega), show k + (j - k) = j from by omega] at this
  have hee : k + e < s.size → isEnd (at0 s (k + e)) = true := by
    intro h3
    have := b4 (by omega)
    rwa [hat _ (by omega)] at this
  rw [hr, hp]
  by_cases hA : s.size ≤ h1 ∨ (s.data.toList[h1]?.getD 0).toNat ≠ 58
  · rw [if_pos hA]
    have heq : k + e = h1 := by
      rcases Nat.lt_trichotomy (k + e) h1 with h2 | h2 | h2
      · have x1 := hee (by omega)
        have x2 := a3 (k + e) (by omega) h2
        unfold isPart at x2
        rw [x1] at x2
        simp at x2
      · exact h2
      · have x1 := a4 (by omega)
        have x2 := hen h1 a1 h2
        unfold isPart at x1
        rw [x2] at x1
        rcases hA with hA | hA
        · omega
        · unfold isCol at x1
          simp only [Bool.or_false, beq_iff_eq] at x1
          exact absurd x1 hA
    have hc : cutI (s.extract k (k + e)) 58 = none := cut_no (by
      intro j hj hx
      rw [hps] at hj
      rw [hpa j hj] at hx
      have := a3 (k + j) (by omega) (by omega)
      rw [hx] at this
      exact absurd this (by decide))
    obtain ⟨c1, c2, c3⟩ := cut_none hc
    rw [c3, c1, path_eq s sc _ 0 h1 a2 (by rw [← heq]; exact hee)]
    simp only [Bool.false_eq_true, if_false]
    rw [heq]
    rfl
  · rw [if_neg hA]
    have hA1 : h1 < s.size := by omega
    have h58 : (at0 s h1).toNat = 58 := by
      by_cases h : (at0 s h1).toNat = 58
      · exact h
      · exact absurd (Or.inr h) hA
    have hlt : h1 < k + e := by
      rcases Nat.lt_or_ge h1 (k + e) with h2 | h2
      · exact h2
      · exfalso
        by_cases h3 : k + e = h1
        · have := hee (by omega)
          rw [h3] at this
          unfold isEnd at this
          rw [h58] at this
          exact absurd this (by decide)
        · have x1 := hee (by omega)
          have x2 := a3 (k + e) (by omega) (by omega)
          unfold isPart at x2
          rw [x1] at x2
          simp at x2
    have hc : cutI (s.extract k (k + e)) 58 = some (h1 - k) := cut_at (by omega) (by rw [hpa _ (by omega), show k + (h1 - k) = h1 from by omega]; exact UInt8.toNat_inj.1 h58) (by
      intro j hj hx
      rw [hpa j (by omega)] at hx
      have := a3 (k + j) (by omega) (by omega)
      rw [hx] at this
      exact absurd this (by decide))
    obtain ⟨c1, c2, c3⟩ := cut_some hc
    have d1 : (s.extract k (k + e)).extract 0 (h1 - k) = s.extract k h1 := by rw [ext_ext, show min (k + (h1 - k)) (k + e) = h1 from by omega]; rfl
    have d2 : (s.extract k (k + e)).extract (h1 - k + 1) (s.extract k (k + e)).size = s.extract (h1 + 1) (k + e) := by rw [ext_ext, hps, show min (k + e) (k + e) = k + e from by omega, show k + (h1 - k + 1) = h1 + 1 from by omega]
    rw [c3, c1, c2, d1, d2]
    simp only [if_true]
    obtain ⟨p1, p2, p3, p4⟩ := scan_is noDig s (h1 + 1) (by omega)
    generalize scanF noDig s.data.toList s.data.toList.length (h1 + 1) = x at p1 p2 p3 p4 ⊢
    have hx : x ≤ k + e := by
      rcases Nat.lt_or_ge (k + e) x with h2 | h2
      · have x1 := p3 (k + e) (by omega) h2
        have x2 := dig_of (hee (by omega))
        rw [x1] at x2; cases x2
      · exact h2
    have hds : (s.extract (h1 + 1) (k + e)).size = k + e - (h1 + 1) := by rw [ByteArray.size_extract]; omega
    by_cases hxe : x = k + e
    · subst hxe
      have hdd : ∀ j, j < (s.extract (h1 + 1) (k + e)).size → noDig (at0 (s.extract (h1 + 1) (k + e)) j) = false := by
        intro j hj
        rw [at_extract _ _ _ _ hj]
        exact p3 _ (by omega) (by omega)
      have hall := all_of hdd
      have hpe := fun n => path_eq s sc (s.extract k h1) n (k + e) (by omega) hee
      generalize s.extract (h1 + 1) (k + e) = d at hds hdd hall
      unfold portR
      rw [show d.data.toList[0]?.getD 0 = at0 d 0 from rfl]
      by_cases h0 : d.size = 0
      · have hi : intR d = -1 := by unfold intR; rw [if_pos (Or.inl h0)]
        rw [if_pos (Or.inl h0), hi]; rfl
      · by_cases h48 : (at0 d 0).toNat = 48
        · rw [if_pos (Or.inr (Or.inl h48))]
          by_cases h1d : 1 < d.size
          · have hi : intR d = -1 := by unfold intR; rw [if_pos (Or.inr (Or.inr ⟨h48, h1d⟩))]
            rw [hi]; rfl
          · have hf : d.data.toList.foldl (fun n c => 10 * n + (c.toNat - 48)) 0 = 0 := by
              have hl : d.data.toList.length = d.size := by simp
              unfold at0 at h48
              cases hs : d.data.toList with
              | nil => rfl
              | cons c r =>
                rw [hs] at h48 hl
                cases r with
                | nil =>
                  simp only [List.getElem?_cons_zero, Option.getD_some] at h48
                  simp [List.foldl_cons, List.foldl_nil, h48]
                | cons c2 r2 => simp only [List.length_cons] at hl; omega
            have hi : intR d = 0 := by
              unfold intR
              rw [if_neg (show ¬ (d.size = 0 ∨ 9 < d.size ∨ ((at0 d 0).toNat = 48 ∧ 1 < d.size)) from by omega), if_pos hall, hf]; rfl
            rw [hi]; rfl
        · have hbig := fold_big (by omega) (hdd 0 (by omega)) h48
          by_cases h5 : 5 < d.size
          · rw [if_pos (Or.inr (Or.inr h5))]
            by_cases h9 : 9 < d.size
            · have hi : intR d = -1 := by unfold intR; rw [if_pos (Or.inr (Or.inl h9))]
              rw [hi]; rfl
            · have hi : intR d = ((d.data.toList.foldl (fun n c => 10 * n + (c.toNat - 48)) 0 : Nat) : Int) := by
                unfold intR
                rw [if_neg (show ¬ (d.size = 0 ∨ 9 < d.size ∨ ((at0 d 0).toNat = 48 ∧ 1 < d.size)) from by omega), if_pos hall]
              have h6 : 10 ^ 5 ≤ 10 ^ (d.size - 1) := Nat.pow_le_pow_right (by omega) (by omega)
              have h7 : (10 : Nat) ^ 5 = 100000 := by decide
              rw [h7] at h6
              have h8 := Nat.le_trans h6 hbig
              generalize d.data.toList.foldl (fun n c => 10 * n + (c.toNat - 48)) 0 = v at hi h8
              rw [hi, if_neg (by omega), good_port (by omega)]; rfl
          · have hi : intR d = ((d.data.toList.foldl (fun n c => 10 * n + (c.toNat - 48)) 0 : Nat) : Int) := by
              unfold intR
              rw [if_neg (show ¬ (d.size = 0 ∨ 9 < d.size ∨ ((at0 d 0).toNat = 48 ∧ 1 < d.size)) from by omega), if_pos hall]
            rw [if_neg (by simp only [not_or]; exact ⟨h0, h48, h5⟩)]
            have h8 : 1 ≤ d.data.toList.foldl (fun n c => 10 * n + (c.toNat - 48)) 0 := Nat.le_trans (Nat.one_le_pow _ _ (by omega)) hbig
            generalize d.data.toList.foldl (fun n c => 10 * n + (c.toNat - 48)) 0 = v at hi h8 ⊢
            rw [hi, if_neg (by omega)]
            simp only
            rw [hpe]
            rfl
    · have hxl : x < k + e := by omega
      have hnd := p4 (by omega)
      have hin : intR (s.extract (h1 + 1) (k + e)) = -1 := by
        unfold intR
        rw [not_all (j := x - (h1 + 1)) (by omega) (by rw [at_extract _ _ _ _ (by omega), show h1 + 1 + (x - (h1 + 1)) = x from by omega]; exact hnd)]
        simp
      rw [hin]
      have hnp : ∀ n, pathR s sc (s.extract k h1) n x = none := by
        intro n
        have := hen x (by omega) hxl
        unfold isEnd at this
        simp only [Bool.or_eq_false_iff, beq_eq_false_iff_ne] at this
        unfold pathR
        rw [show s.data.toList[x]?.getD 0 = at0 s x from rfl, if_neg (by omega), if_neg this.2, if_neg this.1]
      cases portR (s.extract (h1 + 1) x) with
      | none => rfl
      | some n => simp only [hnp]; rfl

def http4 : ByteArray := ⟨#[104, 116, 116, 112]⟩
def http5 : ByteArray := ⟨#[104, 116, 116, 112, 115]⟩
def http7 : ByteArray := ⟨#[104, 116, 116, 112, 58, 47, 47]⟩
def http8 : ByteArray := ⟨#[104, 116, 116, 112, 115, 58, 47, 47]⟩

/-- An address, as the specification reads it. -/
def specR (s : ByteArray) : Option Parts :=
  if 200 < s.size then none
  else if 7 < s.size ∧ s.extract 0 7 = http7 then authR http4 (s.extract 7 s.size)
  else if 8 < s.size ∧ s.extract 0 8 = http8 then authR http5 (s.extract 8 s.size)
  else none

theorem keep_read (s : ByteArray) : readB s = if 200 < s.size then none else keep (splitR s) := by
  unfold readB keep
  split
  · rfl
  · cases splitR s with
    | none => rfl
    | some r => rfl

theorem pre_iff {s : ByteArray} {c : Nat} (hc : c ≤ s.size) : Lib.hasPrefix (s.extract c s.size).data.toList [58, 47, 47] = true ↔ c + 3 ≤ s.size ∧ at0 s c = 58 ∧ at0 s (c + 1) = 47 ∧ at0 s (c + 2) = 47 := by
  have hz : (s.extract c s.size).size = s.size - c := by rw [ByteArray.size_extract]; omega
  have hl : (s.extract c s.size).data.toList.length = (s.extract c s.size).size := by simp
  have ha := fun k (h : k < s.size - c) => at_extract s c s.size k (by omega)
  unfold at0 at ha ⊢
  generalize hL : (s.extract c s.size).data.toList = L at ha hl
  rw [hz] at hl
  unfold Lib.hasPrefix
  rcases L with _ | ⟨x, _ | ⟨y, _ | ⟨z, r⟩⟩⟩
  · simp [List.isPrefixOf] at hl ⊢; omega
  · simp [List.isPrefixOf] at hl ⊢; omega
  · simp [List.isPrefixOf] at hl ⊢; omega
  · simp only [List.length_cons] at hl
    have h0 := ha 0 (by omega)
    have h1 := ha 1 (by omega)
    have h2 := ha 2 (by omega)
    simp only [List.getElem?_cons_zero, List.getElem?_cons_succ, Option.getD_some, Nat.add_zero] at h0 h1 h2
    rw [← h0, ← h1, ← h2]
    simp only [List.isPrefixOf, Bool.and_true, Bool.and_eq_true, beq_iff_eq]
    constructor
    · rintro ⟨rfl, rfl, rfl⟩; exact ⟨by omega, rfl, rfl, rfl⟩
    · rintro ⟨_, rfl, rfl, rfl⟩; exact ⟨rfl, rfl, rfl⟩

theorem ext_data (s : ByteArray) (i j : Nat) : (s.extract i j).data.toList = (s.data.toList.drop i).take (j - i) := by
  rw [ByteArray.data_extract, Array.toList_extract, List.extract_eq_take_drop]

theorem eq_of_at {s t : ByteArray} (h : s.size = t.size) (h2 : ∀ j, j < s.size → at0 s j = at0 t j) : s = t := by
  apply ByteArray.ext
  apply Array.ext'
  have hl : s.data.toList.length = s.size := by simp
  have hk : t.data.toList.length = t.size := by simp
  apply List.ext_getElem (by omega)
  intro j h3 h4
  have := h2 j (by omega)
  unfold at0 at this
  rw [List.getElem?_eq_getElem h3, List.getElem?_eq_getElem h4] at this
  simpa using this

theorem is_http7 (s : ByteArray) : (s.extract 0 7 = http7) ↔ 7 ≤ s.size ∧ at0 s 0 = 104 ∧ at0 s 1 = 116 ∧ at0 s 2 = 116 ∧ at0 s 3 = 112 ∧ at0 s 4 = 58 ∧ at0 s 5 = 47 ∧ at0 s 6 = 47 := by
  have hz : (s.extract 0 7).size = min 7 s.size := by rw [ByteArray.size_extract]; omega
  have h7 : http7.size = 7 := rfl
  constructor
  · intro h
    have h1 : 7 ≤ s.size := by rw [h, h7] at hz; omega
    have ha := fun k (h3 : k < 7) => at_extract s 0 7 k (by omega)
    rw [h] at ha
    refine ⟨h1, ?_⟩
    have a0 := ha 0 (by omega); have a1 := ha 1 (by omega); have a2 := ha 2 (by omega); have a3 := ha 3 (by omega); have a4 := ha 4 (by omega); have a5 := ha 5 (by omega); have a6 := ha 6 (by omega)
    simp only [Nat.zero_add] at a0 a1 a2 a3 a4 a5 a6
    exact ⟨a0.symm, a1.symm, a2.symm, a3.symm, a4.symm, a5.symm, a6.symm⟩
  · rintro ⟨h1, a0, a1, a2, a3, a4, a5, a6⟩
    apply eq_of_at (by omega)
    intro j hj
    rw [at_extract _ _ _ _ hj, Nat.zero_add]
    have : j < 7 := by omega
    rcases (show j = 0 ∨ j = 1 ∨ j = 2 ∨ j = 3 ∨ j = 4 ∨ j = 5 ∨ j = 6 from by omega) with rfl | rfl | rfl | rfl | rfl | rfl | rfl
    · rw [a0]; rfl
    · rw [a1]; rfl
    · rw [a2]; rfl
    · rw [a3]; rfl
    · rw [a4]; rfl
    · rw [a5]; rfl
    · rw [a6]; rfl

theorem is_http8 (s : ByteArray) : (s.extract 0 8 = http8) ↔ 8 ≤ s.size ∧ at0 s 0 = 104 ∧ at0 s 1 = 116 ∧ at0 s 2 = 116 ∧ at0 s 3 = 112 ∧ at0 s 4 = 115 ∧ at0 s 5 = 58 ∧ at0 s 6 = 47 ∧ at0 s 7 = 47 := by
  have hz : (s.extract 0 8).size = min 8 s.size := by rw [ByteArray.size_extract]; omega
  have h7 : http8.size = 8 := rfl
  constructor
  · intro h
    have h1 : 8 ≤ s.size := by rw [h, h7] at hz; omega
    have ha := fun k (h3 : k < 8) => at_extract s 0 8 k (by omega)
    rw [h] at ha
    refine ⟨h1, ?_⟩
    have a0 := ha 0 (by omega); have a1 := ha 1 (by omega); have a2 := ha 2 (by omega); have a3 := ha 3 (by omega); have a4 := ha 4 (by omega); have a5 := ha 5 (by omega); have a6 := ha 6 (by omega); have a7 := ha 7 (by omega)
    simp only [Nat.zero_add] at a0 a1 a2 a3 a4 a5 a6 a7
    exact ⟨a0.symm, a1.symm, a2.symm, a3.symm, a4.symm, a5.symm, a6.symm, a7.symm⟩
  · rintro ⟨h1, a0, a1, a2, a3, a4, a5, a6, a7⟩
    apply eq_of_at (by omega)
    intro j hj
    rw [at_extract _ _ _ _ hj, Nat.zero_add]
    have : j < 8 := by omega
    rcases (show j = 0 ∨ j = 1 ∨ j = 2 ∨ j = 3 ∨ j = 4 ∨ j = 5 ∨ j = 6 ∨ j = 7 from by omega) with rfl | rfl | rfl | rfl | rfl | rfl | rfl | rfl
    · rw [a0]; rfl
    · rw [a1]; rfl
    · rw [a2]; rfl
    · rw [a3]; rfl
    · rw [a4]; rfl
    · rw [a5]; rfl
    · rw [a6]; rfl
    · rw [a7]; rfl

theorem good_sch {sc h p q : ByteArray} {n : Int} {a : Bool} (hs : schB sc = false) : goodB sc h n p q a = false := by
  unfold goodB; rw [hs]; simp only [Bool.false_and]
theorem keep_sch {sc h p q : ByteArray} {n : Nat} {a : Bool} (hs : schB sc = false) : keep (some (sc, h, n, p, q, a)) = none := by
  show (if goodB sc h (n : Int) p q a = true then _ else none) = none
  rw [good_sch hs]; rfl

theorem host_sc {s sc : ByteArray} {k : Nat} : ∀ r, hostR s sc k = some r → r.1 = sc := by
  intro r h
  have hp : ∀ h' n k' r, pathR s sc h' n k' = some r → r.1 = sc := by
    intro h' n k' r e
    unfold pathR at e
    split at e
    · cases e; rfl
    · split at e
      · cases e; rfl
      · split at e
        · cases e; rfl
        · cases e
  unfold hostR at h
  simp only at h
  split at h
  · exact hp _ _ _ _ h
  · split at h
    · cases h
    · exact hp _ _ _ _ h
theorem keep_host {s sc : ByteArray} {k : Nat} (hs : schB sc = false) : keep (hostR s sc k) = none := by
  cases e : hostR s sc k with
  | none => rfl
  | some r =>
    obtain ⟨sc', h, n, p, q, a⟩ := r
    have := host_sc _ e
    simp only at this
    subst this
    exact keep_sch hs

theorem auth_empty (sc t : ByteArray) (h : t.size = 0) : authR sc t = none := by
  obtain rfl := size_zero h
  have hg : ∀ n p q a, goodB sc ⟨#[]⟩ n p q a = false := by
    intro n p q a
    unfold goodB
    have : hostOk (⟨#[]⟩ : ByteArray).data.toList = false := by rfl
    rw [this]; simp
  have hc : cutI (⟨#[]⟩ : ByteArray) 58 = none := rfl
  obtain ⟨c1, c2, c3⟩ := cut_none hc
  unfold authR
  have e1 : (⟨#[]⟩ : ByteArray).extract 0 (scanF isEnd (⟨#[]⟩ : ByteArray).data.toList (⟨#[]⟩ : ByteArray).data.toList.length 0) = ⟨#[]⟩ := rfl
  simp only [e1, c3, c1, Bool.false_eq_true, if_false, hg]

theorem read_eq (s : ByteArray) : readB s = specR s := by
  rw [keep_read]
  unfold specR
  by_cases h200 : 200 < s.size
  · rw [if_pos h200, if_pos h200]
  · rw [if_neg h200, if_neg h200]
    obtain ⟨a1, a2, a3, a4⟩ := scan_is isCol s 0 (by omega)
    unfold splitR
    simp only
    generalize scanF isCol s.data.toList s.data.toList.length 0 = c at a1 a2 a3 a4 ⊢
    have hcs : (s.extract 0 c).size = c := by rw [ByteArray.size_extract]; omega
    have hca : ∀ j, j < c → at0 (s.extract 0 c) j = at0 s j := by
      intro j hj; rw [at_extract _ _ _ _ (by omega), Nat.zero_add]
    have noc : ∀ j, j < c → at0 s j ≠ 58 := by
      intro j hj h; have := a3 j (by omega) hj; rw [h] at this; exact absurd this (by decide)
    by_cases hp : Lib.hasPrefix (s.extract c s.size).data.toList [58, 47, 47] = true
    · rw [if_pos hp]
      obtain ⟨hc3, b0, b1, b2⟩ := (pre_iff a2).1 hp
      by_cases h7 : s.extract 0 7 = http7
      · obtain ⟨z, z0, z1, z2, z3, z4, z5, z6⟩ := (is_http7 s).1 h7
        have hc4 : c = 4 := by
          rcases Nat.lt_trichotomy c 4 with h | h | h
          · exfalso
            rcases (show c = 0 ∨ c = 1 ∨ c = 2 ∨ c = 3 from by omega) with rfl | rfl | rfl | rfl
            · rw [z0] at b0; exact absurd b0 (by decide)
            · rw [z1] at b0; exact absurd b0 (by decide)
            · rw [z2] at b0; exact absurd b0 (by decide)
            · rw [z3] at b0; exact absurd b0 (by decide)
          · exact h
          · exact absurd z4 (noc 4 h)
        subst hc4
        have hsc : s.extract 0 4 = http4 := eq_of_at (by rw [hcs]; rfl) (by
          intro j hj
          rw [hca j (by omega)]
          rcases (show j = 0 ∨ j = 1 ∨ j = 2 ∨ j = 3 from by omega) with rfl | rfl | rfl | rfl
          · rw [z0]; rfl
          · rw [z1]; rfl
          · rw [z2]; rfl
          · rw [z3]; rfl)
        rw [hsc, host_eq s http4 7 z]
        by_cases h8 : 7 < s.size
        · rw [if_pos ⟨h8, h7⟩]
        · rw [if_neg (fun h => h8 h.1), if_neg (by omega)]
          exact auth_empty _ _ (by rw [ByteArray.size_extract]; omega)
      · rw [if_neg (fun h => h7 h.2)]
        by_cases h8 : s.extract 0 8 = http8
        · obtain ⟨z, z0, z1, z2, z3, z4, z5, z6, z7⟩ := (is_http8 s).1 h8
          have hc5 : c = 5 := by
            rcases Nat.lt_trichotomy c 5 with h | h | h
            · exfalso
              rcases (show c = 0 ∨ c = 1 ∨ c = 2 ∨ c = 3 ∨ c = 4 from by omega) with rfl | rfl | rfl | rfl | rfl
              · rw [z0] at b0; exact absurd b0 (by decide)
              · rw [z1] at b0; exact absurd b0 (by decide)
              · rw [z2] at b0; exact absurd b0 (by decide)
              · rw [z3] at b0; exact absurd b0 (by decide)
              · rw [z4] at b0; exact absurd b0 (by decide)
            · exact h
            · exact absurd z5 (noc 5 h)
          subst hc5
          have hsc : s.extract 0 5 = http5 := eq_of_at (by rw [hcs]; rfl) (by
            intro j hj
            rw [hca j (by omega)]
            rcases (show j = 0 ∨ j = 1 ∨ j = 2 ∨ j = 3 ∨ j = 4 from by omega) with rfl | rfl | rfl | rfl | rfl
            · rw [z0]; rfl
            · rw [z1]; rfl
            · rw [z2]; rfl
            · rw [z3]; rfl
            · rw [z4]; rfl)
          rw [hsc, host_eq s http5 8 z]
          by_cases h9 : 8 < s.size
          · rw [if_pos ⟨h9, h8⟩]
          · rw [if_neg (fun h => h9 h.1)]
            exact auth_empty _ _ (by rw [ByteArray.size_extract]; omega)
        · rw [if_neg (fun h => h8 h.2)]
          apply keep_host
          cases hb : schB (s.extract 0 c) with
          | false => rfl
          | true =>
            exfalso
            have hlc : (s.extract 0 c).toList = (s.extract 0 c).data.toList := by simp [ByteArray.toList_eq]
            have hlen : (s.extract 0 c).data.toList.length = c := by simpa using hcs
            unfold schB at hb
            rw [hlc] at hb
            simp only [Bool.or_eq_true, beq_iff_eq] at hb
            have hg : ∀ j, j < c → (s.extract 0 c).data.toList[j]?.getD 0 = at0 s j := hca
            rcases hb with hb | hb
            · rw [hb] at hg hlen
              obtain rfl : c = 4 := by simpa using hlen.symm
              exact h7 ((is_http7 s).2 ⟨hc3, (hg 0 (by omega)).symm, (hg 1 (by omega)).symm, (hg 2 (by omega)).symm, (hg 3 (by omega)).symm, b0, b1, b2⟩)
            · rw [hb] at hg hlen
              obtain rfl : c = 5 := by simpa using hlen.symm
              exact h8 ((is_http8 s).2 ⟨hc3, (hg 0 (by omega)).symm, (hg 1 (by omega)).symm, (hg 2 (by omega)).symm, (hg 3 (by omega)).symm, (hg 4 (by omega)).symm, b0, b1, b2⟩)
    · rw [if_neg hp]
      have n7 : ¬ s.extract 0 7 = http7 := by
        intro h7
        obtain ⟨z, z0, z1, z2, z3, z4, z5, z6⟩ := (is_http7 s).1 h7
        have hc4 : c = 4 := by
          rcases Nat.lt_trichotomy c 4 with h | h | h
          · exfalso
            have b0 := a4 (by omega)
            rcases (show c = 0 ∨ c = 1 ∨ c = 2 ∨ c = 3 from by omega) with rfl | rfl | rfl | rfl
            · rw [z0] at b0; exact absurd b0 (by decide)
            · rw [z1] at b0; exact absurd b0 (by decide)
            · rw [z2] at b0; exact absurd b0 (by decide)
            · rw [z3] at b0; exact absurd b0 (by decide)
          · exact h
          · exact absurd z4 (noc 4 h)
        subst hc4
        exact hp ((pre_iff a2).2 ⟨z, z4, z5, z6⟩)
      have n8 : ¬ s.extract 0 8 = http8 := by
        intro h8
        obtain ⟨z, z0, z1, z2, z3, z4, z5, z6, z7⟩ := (is_http8 s).1 h8
        have hc5 : c = 5 := by
          rcases Nat.lt_trichotomy c 5 with h | h | h
          · exfalso
            have b0 := a4 (by omega)
            rcases (show c = 0 ∨ c = 1 ∨ c = 2 ∨ c = 3 ∨ c = 4 from by omega) with rfl | rfl | rfl | rfl | rfl
            · rw [z0] at b0; exact absurd b0 (by decide)
            · rw [z1] at b0; exact absurd b0 (by decide)
            · rw [z2] at b0; exact absurd b0 (by decide)
            · rw [z3] at b0; exact absurd b0 (by decide)
            · rw [z4] at b0; exact absurd b0 (by decide)
          · exact h
          · exact absurd z5 (noc 5 h)
        subst hc5
        exact hp ((pre_iff a2).2 ⟨z, z5, z6, z7⟩)
      rw [if_neg (fun h => n7 h.2), if_neg (fun h => n8 h.2)]
      rfl

end Go.Proofs.YtlgjgdpalflmfaaDoor.Req
