/-
  Walks: impl.UnquoteOf and spec.UnquoteOf tell the same.
-/
import Derived.Test.YtgidmoncocbfiaaDoorFbs
namespace Go.Proofs.YtgidmoncocbfiaaDoor.Unq
open Go.RowKit
open Go.Proofs.YtgidmoncocbfiaaDoor.Own
open Go.Proofs.YtgidmoncocbfiaaDoor.Fbs

/-- What stands within quotes, round by round: up to the place m, from the place k on, acc told so far. -/
def unqF (l : List UInt8) (m : Nat) : Nat → Nat → List UInt8 → Option (List UInt8)
  | 0, _, acc => some acc
  | f + 1, k, acc =>
    if k < m then
      if (l[k]?.getD 0).toNat = 34 then none
      else if (l[k]?.getD 0).toNat = 92 then
        if k + 1 = m then none else unqF l m f (k + 2) (acc ++ [l[k + 1]?.getD 0])
      else unqF l m f (k + 1) (acc ++ [l[k]?.getD 0])
    else some acc

theorem unqF_end {l : List UInt8} {m f k : Nat} {acc : List UInt8} (h : m ≤ k) : unqF l m f k acc = some acc := by
  cases f with
  | zero => rfl
  | succ f => simp only [unqF]; rw [if_neg (by omega)]
theorem unqF_bad {l : List UInt8} {m f k : Nat} {acc : List UInt8} (h : k < m) (hc : (l[k]?.getD 0).toNat = 34) : unqF l m (f + 1) k acc = none := by
  simp only [unqF]; rw [if_pos h, if_pos hc]
theorem unqF_cut {l : List UInt8} {m f k : Nat} {acc : List UInt8} (h : k + 1 = m) (hc : (l[k]?.getD 0).toNat = 92) : unqF l m (f + 1) k acc = none := by
  simp only [unqF]; rw [if_pos (by omega), if_neg (by omega), if_pos hc, if_pos h]
theorem unqF_esc {l : List UInt8} {m f k : Nat} {acc : List UInt8} (h : k + 1 < m) (hc : (l[k]?.getD 0).toNat = 92) : unqF l m (f + 1) k acc = unqF l m f (k + 2) (acc ++ [l[k + 1]?.getD 0]) := by
  simp only [unqF]; rw [if_pos (by omega), if_neg (by omega), if_pos hc, if_neg (by omega)]
theorem unqF_one {l : List UInt8} {m f k : Nat} {acc : List UInt8} (h : k < m) (h1 : (l[k]?.getD 0).toNat ≠ 34) (h2 : (l[k]?.getD 0).toNat ≠ 92) : unqF l m (f + 1) k acc = unqF l m f (k + 1) (acc ++ [l[k]?.getD 0]) := by
  simp only [unqF]; rw [if_pos h, if_neg h1, if_neg h2]

/-- Whether a text stands within quotes. -/
def heldB (l : List UInt8) : Bool := decide (2 ≤ l.length) && decide ((l[0]?.getD 0).toNat = 34) && decide ((l[l.length - 1]?.getD 0).toNat = 34)
def unqO (l : List UInt8) : Option (List UInt8) :=
  if heldB l = true then
    match unqF l (l.length - 1) l.length 1 [] with
    | none => none
    | some r => if r.length ≤ 100 ∧ plainB r = true then some r else none
  else none
def unqV : Option (List UInt8) → Value
  | some r => .tuple #[.string ⟨r.toArray⟩, .bool true]
  | none => .tuple #[.string ⟨#[]⟩, .bool false]
theorem ret_unq {a b : Option (List UInt8)} (h : a = b) : Ending.returned (unqV a) = .returned (unqV b) := by rw [h]

theorem held_facts {s : ByteArray} (h : heldB s.data.toList = true) : ∃ h2 : 2 ≤ s.size, (s[0].toNat : Int) = 34 ∧ (s[s.size - 1].toNat : Int) = 34 := by
  unfold heldB at h
  rw [len_list] at h
  simp only [Bool.and_eq_true, decide_eq_true_eq] at h
  obtain ⟨⟨h1, h2⟩, h3⟩ := h
  refine ⟨h1, ?_, ?_⟩
  · rw [at_list s 0 (by omega)] at h2; omega
  · rw [at_list s (s.size - 1) (by omega)] at h3; omega
theorem held_no {s : ByteArray} (h : heldB s.data.toList = false) : s.size < 2 ∨ ∃ h2 : 2 ≤ s.size, (s[0].toNat : Int) ≠ 34 ∨ ((s[0].toNat : Int) = 34 ∧ (s[s.size - 1].toNat : Int) ≠ 34) := by
  by_cases h2 : 2 ≤ s.size
  · right
    refine ⟨h2, ?_⟩
    unfold heldB at h
    rw [len_list, at_list s 0 (by omega), at_list s (s.size - 1) (by omega), decide_eq_true h2, Bool.true_and] at h
    simp only [Bool.and_eq_false_iff, decide_eq_false_iff_not] at h
    omega
  · left; omega

theorem plain_mem {l : List UInt8} (h : plainB l = true) (j : Nat) (hj : j < l.length) : seenB ((l[j]?.getD 0).toNat : Int) = true := by
  unfold plainB at h
  rw [List.all_eq_true] at h
  have := h l[j] (List.getElem_mem hj)
  rw [List.getElem?_eq_getElem hj]
  exact this
theorem plain_snoc {acc : List UInt8} {c : UInt8} (h : plainB acc = true) (hc : seenB (c.toNat : Int) = true) : plainB (acc ++ [c]) = true := by
  unfold plainB at h ⊢
  rw [List.all_append, h]
  simp [hc]

/-- A text with a byte that can't be seen, within quotes: what is told has it, too, or there is nothing to tell. -/
theorem unqF_plain {l : List UInt8} {m : Nat} : ∀ (f k : Nat) (acc r : List UInt8), m ≤ k + f → unqF l m f k acc = some r → plainB r = true → plainB acc = true ∧ ∀ j, k ≤ j → j < m → seenB ((l[j]?.getD 0).toNat : Int) = true
  | 0, k, acc, r, hm, h, hr => by
    simp only [unqF, Option.some.injEq] at h
    subst h
    exact ⟨hr, fun j h1 h2 => absurd h2 (by omega)⟩
  | f + 1, k, acc, r, hm, h, hr => by
    have hsp : ∀ (c : UInt8), plainB (acc ++ [c]) = true → plainB acc = true ∧ seenB (c.toNat : Int) = true := by
      intro c hc
      unfold plainB at hc ⊢
      rw [List.all_append, Bool.and_eq_true] at hc
      exact ⟨hc.1, by simpa using hc.2⟩
    by_cases hk : k < m
    · by_cases h34 : (l[k]?.getD 0).toNat = 34
      · rw [unqF_bad hk h34] at h; cases h
      · by_cases h92 : (l[k]?.getD 0).toNat = 92
        · by_cases he : k + 1 = m
          · rw [unqF_cut he h92] at h; cases h
          · rw [unqF_esc (by omega) h92] at h
            obtain ⟨a, b⟩ := unqF_plain f (k + 2) _ r (by omega) h hr
            obtain ⟨a1, a2⟩ := hsp _ a
            refine ⟨a1, fun j h1 h2 => ?_⟩
            rcases (show j = k ∨ j = k + 1 ∨ k + 2 ≤ j from by omega) with rfl | rfl | h3
            · rw [h92]; rfl
            · exact a2
            · exact b j h3 h2
        · rw [unqF_one hk h34 h92] at h
          obtain ⟨a, b⟩ := unqF_plain f (k + 1) _ r (by omega) h hr
          obtain ⟨a1, a2⟩ := hsp _ a
          refine ⟨a1, fun j h1 h2 => ?_⟩
          rcases (show j = k ∨ k + 1 ≤ j from by omega) with rfl | h3
          · exact a2
          · exact b j h3 h2
    · rw [unqF_end (by omega)] at h
      simp only [Option.some.injEq] at h
      subst h
      exact ⟨hr, fun j h1 h2 => absurd h2 (by omega)⟩
theorem unq_not_plain {l : List UInt8} (h : plainB l = false) : unqO l = none := by
  unfold unqO
  cases hh : heldB l
  · rfl
  · simp only [if_true]
    cases hu : unqF l (l.length - 1) l.length 1 [] with
    | none => rfl
    | some r =>
      simp only
      by_cases hr : r.length ≤ 100 ∧ plainB r = true
      · exfalso
        obtain ⟨_, b⟩ := unqF_plain l.length 1 [] r (by omega) hu hr.2
        unfold heldB at hh
        simp only [Bool.and_eq_true, decide_eq_true_eq] at hh
        obtain ⟨⟨h1, h2⟩, h3⟩ := hh
        have : plainB l = true := by
          unfold plainB
          refine all_yes fun j hj => ?_
          rcases (show j = 0 ∨ j = l.length - 1 ∨ (1 ≤ j ∧ j < l.length - 1) from by omega) with rfl | rfl | h4
          · rw [h2]; rfl
          · rw [h3]; rfl
          · exact b j h4.1 h4.2
        rw [this] at h; cases h
      · rw [if_neg hr]
/-- Of a text that can be seen what stands within quotes can be, too. -/
theorem unqF_seen {l : List UInt8} {m : Nat} (hl : plainB l = true) (hm : m ≤ l.length) : ∀ (f k : Nat) (acc r : List UInt8), plainB acc = true → unqF l m f k acc = some r → plainB r = true
  | 0, k, acc, r, ha, h => by
    simp only [unqF, Option.some.injEq] at h
    subst h; exact ha
  | f + 1, k, acc, r, ha, h => by
    by_cases hk : k < m
    · by_cases h34 : (l[k]?.getD 0).toNat = 34
      · rw [unqF_bad hk h34] at h; cases h
      · by_cases h92 : (l[k]?.getD 0).toNat = 92
        · by_cases he : k + 1 = m
          · rw [unqF_cut he h92] at h; cases h
          · rw [unqF_esc (by omega) h92] at h
            exact unqF_seen hl hm f (k + 2) _ r (plain_snoc ha (plain_mem hl (k + 1) (by omega))) h
        · rw [unqF_one hk h34 h92] at h
          exact unqF_seen hl hm f (k + 1) _ r (plain_snoc ha (plain_mem hl k (by omega))) h
    · rw [unqF_end (by omega)] at h
      simp only [Option.some.injEq] at h
      subst h; exact ha

theorem shape {w : World} {B : Nat} {v : Value} {l : List UInt8} (h : bytesIn w B v l) : ∃ a c, v = .slice a l.length c := by
  obtain ⟨h1, h2⟩ := h
  rcases h2 with ⟨rfl, h0⟩ | ⟨g, cap, cur, rfl, _⟩
  · exact ⟨none, 0, by rw [h0]⟩
  · exact ⟨_, _, rfl⟩

end Go.Proofs.YtgidmoncocbfiaaDoor.Unq
