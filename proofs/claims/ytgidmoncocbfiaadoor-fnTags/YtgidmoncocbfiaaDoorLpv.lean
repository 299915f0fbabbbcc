/-
  Lists of parts that are joined again by commas are the same lists.
-/
import Derived.Test.YtgidmoncocbfiaaDoorLpu
namespace Go.Proofs.YtgidmoncocbfiaaDoor.Lpu
open Go.RowKit
open Go.Proofs.YtgidmoncocbfiaaDoor.Fbs
open Go.Proofs.YtgidmoncocbfiaaDoor.Tri
open Go.Proofs.YtgidmoncocbfiaaDoor.Lsp

/-- Where the machine is behind a text that has no comma outside. -/
def run : St → List UInt8 → Option St
  | q, [] => some q
  | q, c :: r => if q = .out ∧ c.toNat = 44 then none else run (step q c) r
theorem run_cons (q : St) (c : UInt8) (r : List UInt8) : run q (c :: r) = if q = .out ∧ c.toNat = 44 then none else run (step q c) r := rfl
theorem run_app : ∀ (a : List UInt8) (q : St) (b : List UInt8), run q (a ++ b) = (run q a).bind (fun q' => run q' b)
  | [], q, b => rfl
  | c :: a, q, b => by
    rw [List.cons_append, run_cons, run_cons]
    split
    · rfl
    · exact run_app a _ b
theorem spl_run : ∀ (a : List UInt8) (q q' : St) (acc r : List UInt8), run q a = some q' → spl q acc (a ++ r) = spl q' (acc ++ a) r
  | [], q, q', acc, r, h => by
    have : q = q' := Option.some.inj h
    subst this; simp
  | c :: a, q, q', acc, r, h => by
    unfold run at h
    split at h
    · cases h
    · rename_i hn
      rw [List.cons_append, spl, if_neg hn, spl_run a _ q' _ r h]
      simp
/-- A part. -/
def Part (p : List UInt8) : Prop := run .out p = some .out
theorem spl_parts : ∀ (l : List UInt8) (q : St) (cur : List UInt8) (ps : List (List UInt8)), run .out cur = some q → spl q cur l = some ps → ∀ p ∈ ps, Part p
  | [], q, cur, ps, hr, h => by
    unfold spl at h
    split at h
    · rename_i hq
      cases h
      intro p hp
      have : p = cur := by simpa using hp
      subst this; subst hq; exact hr
    · cases h
  | c :: l, q, cur, ps, hr, h => by
    unfold spl at h
    split at h
    · rename_i hq
      cases hx : spl .out [] l with
      | none => rw [hx] at h; cases h
      | some qs =>
        rw [hx] at h
        have : ps = cur :: qs := (Option.some.inj h).symm
        subst this
        intro p hp
        rcases List.mem_cons.1 hp with rfl | hp
        · obtain ⟨rfl, _⟩ := hq; exact hr
        · exact spl_parts l .out [] qs rfl hx p hp
    · rename_i hn
      refine spl_parts l _ _ ps ?_ h
      rw [run_app, hr]
      show run q [c] = _
      unfold run
      rw [if_neg hn]; rfl

theorem run_blank_left : ∀ (l : List UInt8), run .out (Lib.trimLeftB l 32) = run .out l
  | [] => rfl
  | c :: l => by
    unfold Lib.trimLeftB
    rw [List.dropWhile_cons]
    split
    · rename_i hc
      have hc : c = 32 := by simpa using hc
      subst hc
      have ih := run_blank_left l
      unfold Lib.trimLeftB at ih
      rw [ih]
      rfl
    · rfl
theorem run_blank_snoc {l : List UInt8} (h : Part (l ++ [32])) : Part l := by
  unfold Part at h ⊢
  rw [run_app] at h
  cases hq : run .out l with
  | none => rw [hq] at h; cases h
  | some q =>
    rw [hq] at h
    cases q with
    | out => rfl
    | inn => cases h
    | esc => cases h
theorem part_right (l : List UInt8) (h : Part l) : Part (Lib.trimRightB l 32) := by
  have all : ∀ (n : Nat) (l : List UInt8), l.length ≤ n → Part l → Part (Lib.trimRightB l 32) := by
    intro n
    induction n with
    | zero =>
      intro l hl h
      have : l = [] := List.length_eq_zero_iff.1 (by omega)
      subst this; exact h
    | succ n ih =>
      intro l hl h
      rcases List.eq_nil_or_concat l with rfl | ⟨r, c, rfl⟩
      · exact h
      · rw [List.concat_eq_append] at hl h ⊢
        unfold Lib.trimRightB
        rw [List.reverse_append, List.reverse_singleton, List.singleton_append, List.dropWhile_cons]
        split
        · rename_i hc
          have hc : c = 32 := by simpa using hc
          subst hc
          exact ih r (by simp at hl; omega) (run_blank_snoc h)
        · simpa using h
  exact all l.length l (Nat.le_refl _) h
theorem part_trim {l : List UInt8} (h : Part l) : Part (Lib.trimB l 32) := by
  unfold Lib.trimB Part
  rw [run_blank_left]
  exact part_right l h

theorem drop_mem {l : List UInt8} {p : UInt8 → Bool} {c : UInt8} (h : c ∈ l.dropWhile p) : c ∈ l := (List.dropWhile_suffix p).subset h
theorem trim_mem {l : List UInt8} {c : UInt8} (h : c ∈ Lib.trimB l 32) : c ∈ l := by
  unfold Lib.trimB Lib.trimLeftB Lib.trimRightB at h
  have h1 := drop_mem h
  rw [List.mem_reverse] at h1
  have h2 := drop_mem h1
  rwa [List.mem_reverse] at h2
theorem trim_len (l : List UInt8) : (Lib.trimB l 32).length ≤ l.length := by
  unfold Lib.trimB Lib.trimLeftB Lib.trimRightB
  refine Nat.le_trans (List.dropWhile_sublist _).length_le ?_
  rw [List.length_reverse]
  refine Nat.le_trans (List.dropWhile_sublist _).length_le ?_
  rw [List.length_reverse]
  exact Nat.le_refl _

/-- What is joined by commas. -/
def jn : List (List UInt8) → List UInt8
  | [] => []
  | [p] => p
  | p :: q :: r => p ++ 44 :: jn (q :: r)
theorem jn_snoc : ∀ (ps : List (List UInt8)) (p : List UInt8), ps ≠ [] → jn (ps ++ [p]) = jn ps ++ 44 :: p
  | [], _, h => absurd rfl h
  | [a], p, _ => rfl
  | a :: b :: r, p, _ => by
    have ih := jn_snoc (b :: r) p (by simp)
    simp only [List.cons_append] at ih ⊢
    simp only [jn]
    rw [ih]
    simp
theorem spl_jn : ∀ (ps : List (List UInt8)), ps ≠ [] → (∀ p ∈ ps, Part p) → spl .out [] (jn ps) = some ps
  | [], h, _ => absurd rfl h
  | [p], _, h => by
    have := spl_run p .out .out [] [] (h p (by simp))
    rw [List.append_nil] at this
    show spl .out [] p = _
    rw [this]; simp [spl]
  | p :: q :: r, _, h => by
    have h1 := spl_run p .out .out [] (44 :: jn (q :: r)) (h p (by simp))
    have h2 := spl_jn (q :: r) (by simp) (fun x hx => h x (by simp [hx]))
    show spl .out [] (p ++ 44 :: jn (q :: r)) = _
    rw [h1, spl, if_pos ⟨rfl, by decide⟩, h2]; simp
theorem jn_mem : ∀ (ps : List (List UInt8)) (c : UInt8), c ∈ jn ps → c = 44 ∨ ∃ p ∈ ps, c ∈ p
  | [], c, h => by cases h
  | [p], c, h => .inr ⟨p, by simp, h⟩
  | p :: q :: r, c, h => by
    have h : c ∈ p ++ 44 :: jn (q :: r) := h
    rcases List.mem_append.1 h with h | h
    · exact .inr ⟨p, by simp, h⟩
    · rcases List.mem_cons.1 h with h | h
      · exact .inl h
      · rcases jn_mem (q :: r) c h with h | ⟨x, hx, hc⟩
        · exact .inl h
        · exact .inr ⟨x, List.mem_cons_of_mem _ hx, hc⟩
def tot (ps : List (List UInt8)) : Nat := (ps.map fun p => p.length + 1).sum
theorem jn_len : ∀ (ps : List (List UInt8)), ps ≠ [] → (jn ps).length + 1 = tot ps
  | [], h => absurd rfl h
  | [p], _ => by simp [jn, tot]
  | p :: q :: r, _ => by
    have ih := jn_len (q :: r) (by simp)
    show (p ++ 44 :: jn (q :: r)).length + 1 = _
    unfold tot at ih ⊢
    rw [List.map_cons, List.sum_cons, ← ih]
    simp
    omega
theorem spl_tot : ∀ (l : List UInt8) (q : St) (cur : List UInt8) (ps : List (List UInt8)), spl q cur l = some ps → tot ps = cur.length + l.length + 1 ∧ ps ≠ []
  | [], q, cur, ps, h => by
    unfold spl at h
    split at h
    · cases h; simp [tot]
    · cases h
  | c :: l, q, cur, ps, h => by
    unfold spl at h
    split at h
    · cases hx : spl .out [] l with
      | none => rw [hx] at h; cases h
      | some qs =>
        rw [hx] at h
        have : ps = cur :: qs := (Option.some.inj h).symm
        subst this
        have ih := (spl_tot l .out [] qs hx).1
        unfold tot at ih ⊢
        refine ⟨?_, by simp⟩
        rw [List.map_cons, List.sum_cons, ih]
        simp; omega
    · have ih := spl_tot l _ _ ps h
      refine ⟨?_, ih.2⟩
      rw [ih.1]; simp; omega
theorem spl_mem : ∀ (l : List UInt8) (q : St) (cur : List UInt8) (ps : List (List UInt8)), spl q cur l = some ps → ∀ p ∈ ps, ∀ c ∈ p, c ∈ cur ∨ c ∈ l
  | [], q, cur, ps, h => by
    unfold spl at h
    split at h
    · cases h
      intro p hp c hc
      have : p = cur := by simpa using hp
      subst this; exact .inl hc
    · cases h
  | d :: l, q, cur, ps, h => by
    unfold spl at h
    split at h
    · cases hx : spl .out [] l with
      | none => rw [hx] at h; cases h
      | some qs =>
        rw [hx] at h
        have : ps = cur :: qs := (Option.some.inj h).symm
        subst this
        intro p hp c hc
        rcases List.mem_cons.1 hp with rfl | hp
        · exact .inl hc
        · rcases spl_mem l .out [] qs hx p hp c hc with h | h
          · cases h
          · exact .inr (List.mem_cons_of_mem _ h)
    · intro p hp c hc
      rcases spl_mem l _ _ ps h p hp c hc with h | h
      · rcases List.mem_append.1 h with h | h
        · exact .inl h
        · have : c = d := by simpa using h
          subst this; exact .inr (by simp)
      · exact .inr (List.mem_cons_of_mem _ h)

end Go.Proofs.YtgidmoncocbfiaaDoor.Lpu
