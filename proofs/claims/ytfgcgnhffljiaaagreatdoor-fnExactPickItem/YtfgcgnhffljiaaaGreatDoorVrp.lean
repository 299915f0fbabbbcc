/-
  Pure: the names that an answer varies by: in rising order, each once.
-/
import Derived.Test.YtfgcgnhffljiaaaGreatDoorJnd
import Derived.Test.YtfgcgnhffljiaaaGreatDoorLof
import Derived.Test.YtfgcgnhffljiaaaGreatDoorLsp
import Derived.Lib.SlicesCompact
namespace Go.Proofs.YtfgcgnhffljiaaaGreatDoor.Vrp
open Go.RowKit
open Go.Lib (compact compactUpTo keeps)
open Go.Proofs.YtfgcgnhffljiaaaGreatDoor.Fbs (len_list)
open Go.Proofs.YtfgcgnhffljiaaaGreatDoor.Fch (tokenB)
open Go.Proofs.YtfgcgnhffljiaaaGreatDoor.Fvs
open Go.Proofs.YtfgcgnhffljiaaaGreatDoor.Jnd
open Go.Proofs.YtfgcgnhffljiaaaGreatDoor.Lof (lowS)
open Go.Proofs.YtfgcgnhffljiaaaGreatDoor.Lsp (listL)


def insT (p : List UInt8) : List (List UInt8) → List (List UInt8)
  | [] => [p]
  | x :: t => if x < p then x :: insT p t else if x = p then x :: t else p :: x :: t
def risT (l : List (List UInt8)) : List (List UInt8) := l.foldl (fun a p => insT p a) []

theorem lt_of_not {a b : List UInt8} (h : ¬ a < b) (hn : a ≠ b) : b < a := by
  rcases List.le_iff_lt_or_eq.1 (List.not_lt.1 h) with h | h
  · exact h
  · exact absurd h.symm hn
theorem mem_ins (p q : List UInt8) : ∀ l : List (List UInt8), q ∈ insT p l ↔ q = p ∨ q ∈ l
  | [] => by simp [insT]
  | x :: t => by
    simp only [insT]
    split
    · rw [List.mem_cons, List.mem_cons, mem_ins p q t]; constructor <;> (intro h; rcases h with h | h | h <;> simp [h])
    · split
      · rename_i h; subst h; simp
      · simp
theorem ins_pair (p : List UInt8) : ∀ l : List (List UInt8), l.Pairwise (· < ·) → (insT p l).Pairwise (· < ·)
  | [], _ => by simp [insT]
  | x :: t, h => by
    have hx := (List.pairwise_cons.1 h).1
    have ht := (List.pairwise_cons.1 h).2
    simp only [insT]
    split
    · rename_i hlt
      refine List.pairwise_cons.2 ⟨fun q hq => ?_, ins_pair p t ht⟩
      rcases (mem_ins p q t).1 hq with h | h
      · subst h; exact hlt
      · exact hx q h
    · split
      · exact h
      · rename_i h1 h2
        have h3 := lt_of_not h1 h2
        refine List.pairwise_cons.2 ⟨fun q hq => ?_, h⟩
        rcases List.mem_cons.1 hq with rfl | hq
        · exact h3
        · exact List.lt_trans h3 (hx q hq)
theorem fold_pair : ∀ (l acc : List (List UInt8)), acc.Pairwise (· < ·) → (l.foldl (fun a p => insT p a) acc).Pairwise (· < ·)
  | [], _, h => h
  | p :: t, acc, h => fold_pair t _ (ins_pair p acc h)
theorem fold_mem (q : List UInt8) : ∀ (l acc : List (List UInt8)), q ∈ l.foldl (fun a p => insT p a) acc ↔ q ∈ acc ∨ q ∈ l
  | [], acc => by simp
  | p :: t, acc => by
    rw [List.foldl_cons, fold_mem q t, mem_ins, List.mem_cons]
    constructor
    · rintro ((h | h) | h)
      · exact .inr (.inl h)
      · exact .inl h
      · exact .inr (.inr h)
    · rintro (h | h | h)
      · exact .inl (.inr h)
      · exact .inl (.inl h)
      · exact .inr h
theorem uniq : ∀ (a b : List (List UInt8)), a.Pairwise (· < ·) → b.Pairwise (· < ·) → (∀ q, q ∈ a ↔ q ∈ b) → a = b
  | [], [], _, _, _ => rfl
  | [], y :: b, _, _, h => absurd ((h y).2 (by simp)) (by simp)
  | x :: a, [], _, _, h => absurd ((h x).1 (by simp)) (by simp)
  | x :: a, y :: b, ha, hb, h => by
    obtain ⟨hx, ha'⟩ := List.pairwise_cons.1 ha
    obtain ⟨hy, hb'⟩ := List.pairwise_cons.1 hb
    clear ha hb
    have e : x = y := by
      rcases List.mem_cons.1 ((h x).1 (by simp)) with h1 | h1
      · exact h1
      · rcases List.mem_cons.1 ((h y).2 (by simp)) with h2 | h2
        · exact h2.symm
        · exact absurd (List.lt_trans (hx y h2) (hy x h1)) (List.lt_irrefl x)
    subst e
    congr 1
    refine uniq a b ha' hb' fun q => ?_
    constructor
    · intro hq
      rcases List.mem_cons.1 ((h q).1 (by simp [hq])) with h1 | h1
      · subst h1; exact absurd (hx _ hq) (List.lt_irrefl _)
      · exact h1
    · intro hq
      rcases List.mem_cons.1 ((h q).2 (by simp [hq])) with h1 | h1
      · subst h1; exact absurd (hy _ hq) (List.lt_irrefl _)
      · exact h1

theorem mem_compact (zs : List (List UInt8)) (q : List UInt8) : q ∈ compact zs ↔ q ∈ zs := by
  unfold compact compactUpTo
  rw [List.mem_map]
  constructor
  · rintro ⟨j, hj, rfl⟩
    have hj' := List.mem_range.1 (List.mem_filter.1 hj).1
    rw [getElem!_pos zs.toArray j (by simpa using hj')]
    simp
  · intro h
    obtain ⟨j, hj, rfl⟩ := List.mem_iff_getElem.1 h
    have key : ∀ j, (hj : j < zs.length) → ∃ k, k ∈ (List.range zs.length).filter (keeps zs.toArray) ∧ zs.toArray[k]! = zs[j] := by
      intro j
      induction j using Nat.strongRecOn with
      | ind j ih =>
        intro hj
        by_cases hk : keeps zs.toArray j = true
        · exact ⟨j, List.mem_filter.2 ⟨List.mem_range.2 hj, hk⟩, by rw [getElem!_pos zs.toArray j (by simpa using hj)]; simp⟩
        · have hk' : ¬ (j = 0 ∨ zs.toArray[j]! ≠ zs.toArray[j - 1]!) := fun h => hk (by unfold keeps; exact decide_eq_true h)
          have h0 : j ≠ 0 := fun h => hk' (.inl h)
          have he : zs.toArray[j]! = zs.toArray[j - 1]! := Classical.byContradiction fun h => hk' (.inr h)
          obtain ⟨k, hk1, hk2⟩ := ih (j - 1) (by omega) (by omega)
          refine ⟨k, hk1, hk2.trans ?_⟩
          rw [getElem!_pos zs.toArray j (by simpa using hj), getElem!_pos zs.toArray (j - 1) (by simp; omega)] at he
          simpa using he.symm
    exact key j hj
theorem compact_pair (zs : List (List UInt8)) (h : zs.Pairwise (· ≤ ·)) : (compact zs).Pairwise (· < ·) := by
  unfold compact compactUpTo
  rw [List.pairwise_map]
  refine List.Pairwise.imp_of_mem ?_ ((List.pairwise_lt_range (n := zs.length)).filter _)
  intro i j hi hj hij
  have hi' := List.mem_range.1 (List.mem_filter.1 hi).1
  have hj' := List.mem_range.1 (List.mem_filter.1 hj).1
  have hk := (List.mem_filter.1 hj).2
  unfold keeps at hk
  have hk := of_decide_eq_true hk
  rw [getElem!_pos zs.toArray j (by simpa using hj'), getElem!_pos zs.toArray (j - 1) (by simp; omega)] at hk
  rw [getElem!_pos zs.toArray j (by simpa using hj'), getElem!_pos zs.toArray i (by simpa using hi')]
  have hne : zs[j] ≠ zs[j - 1] := by
    rcases hk with h | h
    · omega
    · simpa using h
  have hP := List.pairwise_iff_getElem.1 h
  have h1 : zs[j - 1] ≤ zs[j] := hP (j - 1) j (by omega) hj' (by omega)
  have h2 : zs[j - 1] < zs[j] := by
    rcases List.le_iff_lt_or_eq.1 h1 with h | h
    · exact h
    · exact absurd h.symm hne
  show zs[i] < zs[j]
  by_cases e : i = j - 1
  · subst e; exact h2
  · have h3 : zs[i] ≤ zs[j - 1] := hP i (j - 1) hi' (by omega) (by omega)
    rcases List.le_iff_lt_or_eq.1 h3 with h | h
    · exact List.lt_trans h h2
    · rw [h]; exact h2
theorem sorted_ms (zs : List (List UInt8)) : (zs.mergeSort fun x y => decide (x ≤ y)).Pairwise (· ≤ ·) := by
  have := List.pairwise_mergeSort (le := fun x y : List UInt8 => decide (x ≤ y)) (fun a b c h1 h2 => by simp only [decide_eq_true_eq] at *; exact List.le_trans h1 h2) (fun a b => by have := List.le_total a b; simp [this]) zs
  exact this.imp fun h => by simpa using h
theorem ris_eq (zs : List (List UInt8)) : compact (zs.mergeSort fun x y => decide (x ≤ y)) = risT zs := by
  refine uniq _ _ (compact_pair _ (sorted_ms zs)) (fold_pair zs [] .nil) fun q => ?_
  rw [mem_compact, List.mem_mergeSort]
  unfold risT
  rw [fold_mem]; simp
/-- Where the names that are less end. -/
theorem ins_at (p : List UInt8) : ∀ (l : List (List UInt8)) (k : Nat), k ≤ l.length → (∀ j, (hj : j < l.length) → j < k → l[j] < p) → (∀ hk : k < l.length, ¬ l[k] < p) → insT p l = if (∃ hk : k < l.length, l[k] = p) then l else l.take k ++ p :: l.drop k
  | [], k, hk, _, _ => by
    have : k = 0 := by simpa using hk
    subst this
    rw [if_neg (by rintro ⟨h, _⟩; simp at h)]; rfl
  | x :: t, 0, _, _, h2 => by
    have hx : ¬ x < p := h2 (by simp)
    simp only [insT]
    rw [if_neg hx]
    by_cases e : x = p
    · rw [if_pos e, if_pos ⟨by simp, e⟩]
    · rw [if_neg e, if_neg (by rintro ⟨_, h⟩; exact e h)]; rfl
  | x :: t, k + 1, hk, h1, h2 => by
    have hx : x < p := h1 0 (by simp) (by omega)
    have ih := ins_at p t k (by simpa using hk) (fun j hj hjk => by have := h1 (j + 1) (by simpa using hj) (by omega); simpa using this) (fun hk' => by have := h2 (by simpa using hk'); simpa using this)
    simp only [insT]
    rw [if_pos hx, ih]
    by_cases e : ∃ hk : k < t.length, t[k] = p
    · rw [if_pos e, if_pos (by obtain ⟨a, b⟩ := e; exact ⟨by simpa using a, by simpa using b⟩)]
    · rw [if_neg e, if_neg (by rintro ⟨a, b⟩; exact e ⟨by simpa using a, by simpa using b⟩)]; simp

/-! The parts of a list. -/
theorem dropW_le (p : UInt8 → Bool) : ∀ l : List UInt8, (l.dropWhile p).length ≤ l.length
  | [] => Nat.le_refl _
  | c :: r => by
    rw [List.dropWhile_cons]
    split
    · have := dropW_le p r; simp; omega
    · exact Nat.le_refl _
theorem trim_le (s : ByteArray) : (Tri.trimS s).size ≤ s.size := by
  show ((Lib.trimB s.data.toList 32).toArray).size ≤ _
  rw [List.size_toArray]
  unfold Lib.trimB Lib.trimLeftB Lib.trimRightB
  have h1 := dropW_le (fun x => x == 32) (List.reverse (List.dropWhile (fun x => x == 32) s.data.toList.reverse))
  have h2 := dropW_le (fun x => x == 32) s.data.toList.reverse
  have h3 : s.data.toList.length = s.size := by simp
  simp only [List.length_reverse] at h1 h2
  omega
theorem part_trim (s : ByteArray) (a b : Nat) : (Tri.trimS (s.extract a b)).size ≤ s.size := by
  have := trim_le (s.extract a b)
  rw [ByteArray.size_extract] at this
  omega
theorem add_le {n k : Nat} {acc : List ByteArray} {x : ByteArray} (h : acc.length ≤ k ∧ ∀ y ∈ acc, y.size ≤ n) (hx : x.size ≤ n) : (Lsp.addT acc x).length ≤ k + 1 ∧ ∀ y ∈ Lsp.addT acc x, y.size ≤ n := by
  unfold Lsp.addT
  split
  · exact ⟨by omega, h.2⟩
  · refine ⟨by rw [List.length_append]; simp; omega, fun y hy => ?_⟩
    rcases List.mem_append.1 hy with hy | hy
    · exact h.2 y hy
    · have : y = x := by simpa using hy
      subst this; exact hx
theorem listF_sz (s : ByteArray) : ∀ (f i fr k : Nat) (op : Bool) (acc l : List ByteArray), Lsp.listF s f i fr op acc = some l → (acc.length ≤ k ∧ ∀ x ∈ acc, x.size ≤ s.size) → l.length ≤ k + f ∧ ∀ x ∈ l, x.size ≤ s.size
  | 0, _, _, _, _, _, _, h, _ => by cases h
  | f + 1, i, fr, k, op, acc, l, h, ha => by
    have up : ∀ {m : Nat}, m ≤ k + f → m ≤ k + (f + 1) := fun h => by omega
    simp only [Lsp.listF] at h
    split at h
    · split at h
      · have := listF_sz s f _ _ _ _ _ _ h (add_le ha (part_trim s _ _))
        exact ⟨by omega, this.2⟩
      · split at h
        · have := listF_sz s f _ _ _ _ _ _ h ha; exact ⟨up this.1, this.2⟩
        · split at h
          · split at h
            · cases h
            · have := listF_sz s f _ _ _ _ _ _ h ha; exact ⟨up this.1, this.2⟩
          · have := listF_sz s f _ _ _ _ _ _ h ha; exact ⟨up this.1, this.2⟩
    · split at h
      · cases h
      · have e : l = Lsp.addT acc (Tri.trimS (s.extract fr i)) := (Option.some.inj h).symm
        rw [e]
        have := add_le ha (part_trim s fr i)
        exact ⟨by omega, this.2⟩
theorem list_sz {s : ByteArray} {l : List ByteArray} (h : listL s = some l) : l.length ≤ s.size + 1 ∧ ∀ x ∈ l, x.size ≤ s.size := by
  have := listF_sz s _ _ _ 0 _ _ _ h ⟨Nat.le_refl _, fun x hx => by cases hx⟩
  exact ⟨by omega, this.2⟩

/-! What is joined is small. -/
theorem vals_parts {l : List (ByteArray × ByteArray)} (h : goodL l = true) (n : ByteArray) : (valsOf n l).length ≤ 40 ∧ ∀ x ∈ valsOf n l, x.size ≤ 300 := by
  obtain ⟨h1, h2⟩ := goodL_all h
  refine ⟨Nat.le_trans (valsOf_len n l) h1, fun x hx => ?_⟩
  unfold valsOf at hx
  rw [List.mem_map] at hx
  obtain ⟨c, hc, rfl⟩ := hx
  have := h2 c (List.mem_filter.1 hc).1
  unfold Fgd.goodF at this
  simp only [Bool.and_eq_true, decide_eq_true_eq] at this
  exact this.1.1.2
theorem lens_low : ∀ (vs : List ByteArray), (∀ x ∈ vs, x.size ≤ 300) → Lib.lens (vs.map (·.data.toList)) ≤ vs.length * 300
  | [], _ => by simp [Lib.lens]
  | x :: r, h => by
    have h1 := lens_low r (fun y hy => h y (by simp [hy]))
    have h2 := h x (by simp)
    have h3 := len_list x
    simp only [Lib.lens, List.map_cons, List.sum_cons, List.length_cons] at h1 ⊢
    omega
theorem join_low {l : List (ByteArray × ByteArray)} (h : goodL l = true) (n : ByteArray) : (joinS (valsOf n l)).size ≤ 20000 := by
  obtain ⟨h1, h2⟩ := vals_parts h n
  show (List.toArray _).size ≤ _
  rw [List.size_toArray]
  generalize valsOf n l = vs at *
  cases vs with
  | nil => simp [Lib.join_nil]
  | cons x r =>
    rw [List.map_cons, Lib.join_cons, List.length_append, Lib.joinTail_length]
    have h4 := lens_low r (fun y hy => h2 y (by simp [hy]))
    have h5 := h2 x (by simp)
    have h6 := len_list x
    rw [List.length_cons] at h1
    rw [List.length_map]
    show _ + (2 * _ + _) ≤ _
    omega

/-! What VaryOf tells. -/
def starT (x : ByteArray) : Bool := x.toList == [42]
def txt (q : List UInt8) : ByteArray := ⟨q.toArray⟩
def nmV (l : List ByteArray) : List (List UInt8) := (l.filter fun x => !starT x).map fun x => (lowS x).data.toList
def okV (l : List ByteArray) : Bool := l.all fun x => tokenB x.data.toList
def anyV (l : List ByteArray) : Bool := l.any starT
def cVary : ByteArray := ⟨#[118, 97, 114, 121]⟩
/-- The names and whether there is the star, where it is a list of tokens. -/
def varyP : Option (List ByteArray) → Option (List ByteArray × Bool)
  | none => none
  | some l => if okV l then some ((risT (nmV l)).map txt, anyV l) else none
def varyL (l : List (ByteArray × ByteArray)) : Option (List ByteArray × Bool) := varyP (listL (joinS (valsOf cVary l)))

theorem txt_data (x : ByteArray) : txt x.data.toList = x := by apply ByteArray.ext; simp [txt]
theorem nm_star {l : List ByteArray} {i : Nat} (h : i < l.length) (hs : starT l[i] = true) : nmV (l.take (i + 1)) = nmV (l.take i) := by
  unfold nmV; rw [List.take_succ_eq_append_getElem h, List.filter_append, List.map_append]; simp [hs]
theorem nm_name {l : List ByteArray} {i : Nat} (h : i < l.length) (hs : starT l[i] = false) : nmV (l.take (i + 1)) = nmV (l.take i) ++ [(lowS l[i]).data.toList] := by
  unfold nmV; rw [List.take_succ_eq_append_getElem h, List.filter_append, List.map_append]; simp [hs]
theorem any_step {l : List ByteArray} {i : Nat} (h : i < l.length) : anyV (l.take (i + 1)) = (anyV (l.take i) || starT l[i]) := by
  unfold anyV; rw [List.take_succ_eq_append_getElem h, List.any_append]; simp
theorem ris_snoc (l : List (List UInt8)) (p : List UInt8) : risT (l ++ [p]) = insT p (risT l) := by unfold risT; rw [List.foldl_append]; rfl
theorem ok_no {l : List ByteArray} {i : Nat} (h : i < l.length) (ht : tokenB l[i].data.toList = false) : okV l = false := by
  unfold okV; rw [List.all_eq_false]; exact ⟨l[i], List.getElem_mem h, by simp [ht]⟩
theorem ok_yes {l : List ByteArray} (h : ∀ j, (hj : j < l.length) → tokenB l[j].data.toList = true) : okV l = true := by
  unfold okV; rw [List.all_eq_true]; intro x hx
  obtain ⟨j, hj, rfl⟩ := List.getElem_of_mem hx
  exact h j hj
theorem star_tok {x : ByteArray} (h : starT x = true) : tokenB x.data.toList = true := by
  have e : x.data.toList = [42] := by have := eq_of_beq (show (x.toList == [42]) = true from h); rwa [ByteArray.toList_eq] at this
  rw [e]; decide
theorem ins_len (p : List UInt8) : ∀ l : List (List UInt8), (insT p l).length ≤ l.length + 1
  | [] => by simp [insT]
  | x :: t => by
    simp only [insT]
    have := ins_len p t
    split
    · simp; omega
    · split <;> simp
theorem fold_len : ∀ (l acc : List (List UInt8)), (l.foldl (fun a p => insT p a) acc).length ≤ acc.length + l.length
  | [], acc => by simp
  | p :: t, acc => by
    have h1 := fold_len t (insT p acc)
    have h2 := ins_len p acc
    rw [List.foldl_cons, List.length_cons]; omega
theorem ris_len (l : List (List UInt8)) : (risT l).length ≤ l.length := by
  have := fold_len l []
  simpa [risT] using this
theorem nm_len (l : List ByteArray) : (nmV l).length ≤ l.length := by
  unfold nmV; rw [List.length_map]; exact List.length_filter_le _ _

end Go.Proofs.YtfgcgnhffljiaaaGreatDoor.Vrp
