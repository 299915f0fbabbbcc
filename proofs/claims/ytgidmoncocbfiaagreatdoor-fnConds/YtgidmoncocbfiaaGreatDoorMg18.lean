/-
  Pure: what the conditions come to: of no field; one of three answers; 304 for those that look alone.
  Lists of parts, by a machine of three states: what is told of parts that are joined again.
  Lists of parts that are joined again by commas are the same lists.
  Walk: spec.ReadTag. Pure: a tag that is told is read again.
  Pure: two tags told in a list are told again. What is the same, both ways.
  Pure: a list of one tag told; the conditions of one field that tells the state's own tag.
-/
import Derived.Test.YtgidmoncocbfiaaGreatDoorCri
import Derived.Test.YtgidmoncocbfiaaGreatDoorMg1
import Derived.Test.YtgidmoncocbfiaaGreatDoorTga
import Derived.Test.YtgidmoncocbfiaaGreatDoorMg2
namespace Go.Proofs.YtgidmoncocbfiaaGreatDoor.Cds
open Go.RowKit
open Go.Proofs.YtgidmoncocbfiaaGreatDoor.Tga Go.Proofs.YtgidmoncocbfiaaGreatDoor.Tgb Go.Proofs.YtgidmoncocbfiaaGreatDoor.Tgx
open Go.Proofs.YtgidmoncocbfiaaGreatDoor.Fvs
open Go.Proofs.YtgidmoncocbfiaaGreatDoor.Cda

theorem codeF_in (lk h1 k1 m1 s1 : Bool) (D1 : Int) (h2 k2 m2 s2 : Bool) (D2 : Int) (dt : Bool) (md : Int) :
    (codeF lk h1 k1 m1 s1 D1 h2 k2 m2 s2 D2 dt md = 0 ∨ codeF lk h1 k1 m1 s1 D1 h2 k2 m2 s2 D2 dt md = 304 ∨ codeF lk h1 k1 m1 s1 D1 h2 k2 m2 s2 D2 dt md = 412) ∧ (codeF lk h1 k1 m1 s1 D1 h2 k2 m2 s2 D2 dt md = 304 → lk = true) := by
  unfold codeF
  generalize (if h1 then k1 && !m1 else s1 && (dt && decide (D1 < md))) = f1
  generalize (dt && decide (md ≤ D2)) = d
  generalize (k2 && m2) = km
  cases f1 <;> cases h2 <;> cases km <;> cases lk <;> cases s2 <;> cases d <;> simp
theorem code_in (lk : Bool) (l : List (ByteArray × ByteArray)) (th tg K : Bool) (T : ByteArray) (dt : Bool) (md : Int) :
    (codeP lk l th tg K T dt md = 0 ∨ codeP lk l th tg K T dt md = 304 ∨ codeP lk l th tg K T dt md = 412) ∧ (codeP lk l th tg K T dt md = 304 → lk = true) := by
  rw [code_parts]
  exact codeF_in _ _ _ _ _ _ _ _ _ _ _ _ _
theorem code_nil (lk th tg K : Bool) (T : ByteArray) (dt : Bool) (md : Int) : codeP lk [] th tg K T dt md = 0 := by
  have h : ∀ n, hasN [] n = false := fun n => by unfold hasN valsOf; simp
  have d : ∀ n, dateP [] n = none := fun n => dateP_not (by unfold valsOf; simp)
  rw [code_parts, h, h, d, d]
  unfold codeF
  simp
/-- Of one If-None-Match, or one If-Match. -/
theorem code_inm {lk : Bool} {l : List (ByteArray × ByteArray)} {th tg K : Bool} {T : ByteArray} {dt : Bool} {md : Int} (h1 : hasN l nIm = false) (d1 : dateP l nIus = none) (h2 : hasN l nInm = true) (h3 : okR (lstN l nInm) = true) (h4 : matN l nInm th tg K T false = true) : codeP lk l th tg K T dt md = if lk then 304 else 412 := by
  rw [code_parts, h1, d1, h2, h3, h4]
  unfold codeF
  simp
theorem code_im {lk : Bool} {l : List (ByteArray × ByteArray)} {th tg K : Bool} {T : ByteArray} {dt : Bool} {md : Int} (h1 : hasN l nIm = true) (h3 : okR (lstN l nIm) = true) (h2 : hasN l nInm = false) (d2 : dateP l nIms = none) : codeP lk l th tg K T dt md = if matN l nIm th tg K T true then 0 else 412 := by
  rw [code_parts, h1, d2, h2, h3]
  unfold codeF
  cases matN l nIm th tg K T true <;> simp

end Go.Proofs.YtgidmoncocbfiaaGreatDoor.Cds

namespace Go.Proofs.YtgidmoncocbfiaaGreatDoor.Lpu
open Go.RowKit
open Go.Proofs.YtgidmoncocbfiaaGreatDoor.Fbs
open Go.Proofs.YtgidmoncocbfiaaGreatDoor.Tri
open Go.Proofs.YtgidmoncocbfiaaGreatDoor.Lsp

/-- Outside quotes, within, behind a backslash. -/
inductive St where | out | inn | esc
deriving DecidableEq
def step : St → UInt8 → St
  | .out, c => if c.toNat = 34 then .inn else .out
  | .inn, c => if c.toNat = 34 then .out else if c.toNat = 92 then .esc else .inn
  | .esc, _ => .inn
def spl : St → List UInt8 → List UInt8 → Option (List (List UInt8))
  | q, cur, [] => if q = .out then some [cur] else none
  | q, cur, c :: r => if q = .out ∧ c.toNat = 44 then (spl .out [] r).map (cur :: ·) else spl (step q c) (cur ++ [c]) r

/-- Parts that are not empty, without blanks at their ends. -/
def clean (ps : List (List UInt8)) : List ByteArray := (ps.map fun p => (⟨(Lib.trimB p 32).toArray⟩ : ByteArray)).filter fun x => decide (x.size ≠ 0)
theorem clean_cons (p : List UInt8) (ps : List (List UInt8)) (acc : List ByteArray) : acc ++ clean (p :: ps) = addT acc ⟨(Lib.trimB p 32).toArray⟩ ++ clean ps := by
  unfold clean addT
  rw [List.map_cons, List.filter_cons]
  by_cases h : (⟨(Lib.trimB p 32).toArray⟩ : ByteArray).size = 0
  · rw [if_pos h, if_neg (by simp [h])]
  · rw [if_neg h, if_pos (by simp [h])]; simp

theorem drop_at (s : ByteArray) (i : Nat) (h : i < s.size) : s.data.toList.drop i = at0 s i :: s.data.toList.drop (i + 1) := by
  have hl : i < s.data.toList.length := by simpa using h
  rw [List.drop_eq_getElem_cons hl]
  unfold at0
  rw [List.getElem?_eq_getElem hl, Option.getD_some]
def seg (s : ByteArray) (fr i : Nat) : List UInt8 := (s.extract fr i).data.toList
theorem seg_eq (s : ByteArray) (fr i : Nat) : seg s fr i = (s.data.toList.take i).drop fr := by
  unfold seg
  simp [List.drop_take]
theorem seg_snoc (s : ByteArray) (fr i : Nat) (hf : fr ≤ i) (h : i < s.size) : seg s fr (i + 1) = seg s fr i ++ [at0 s i] := by
  have hl : i < s.data.toList.length := by simpa using h
  rw [seg_eq, seg_eq, List.take_succ_eq_append_getElem hl, List.drop_append_of_le_length (by rw [List.length_take]; omega)]
  unfold at0
  rw [List.getElem?_eq_getElem hl, Option.getD_some]
theorem seg_nil (s : ByteArray) (i : Nat) (_h : i ≤ s.size) : seg s i i = [] := by
  rw [seg_eq, List.drop_eq_nil_iff, List.length_take]
  omega
theorem trim_seg (s : ByteArray) (fr i : Nat) : trimS (s.extract fr i) = ⟨(Lib.trimB (seg s fr i) 32).toArray⟩ := rfl

theorem map_acc (o : Option (List (List UInt8))) (p : List UInt8) (acc : List ByteArray) : (o.map (p :: ·)).map (fun ps => acc ++ clean ps) = o.map (fun ps => addT acc ⟨(Lib.trimB p 32).toArray⟩ ++ clean ps) := by
  cases o with
  | none => rfl
  | some ps => simp [clean_cons]

theorem list_spl (s : ByteArray) : ∀ (f i fr : Nat) (op : Bool) (acc : List ByteArray), s.size + 1 ≤ i + f → i ≤ s.size → fr ≤ i →
    listF s f i fr op acc = (spl (if op then .inn else .out) (seg s fr i) (s.data.toList.drop i)).map (fun ps => acc ++ clean ps) := by
  intro f
  induction f with
  | zero => intro i fr op acc h1 h2; omega
  | succ f ih =>
    intro i fr op acc h1 h2 h3
    by_cases hi : i < s.size
    · rw [drop_at s i hi]
      have hs := seg_snoc s fr i h3 hi
      cases op
      · by_cases h44 : (at0 s i).toNat = 44
        · rw [listF_comma hi h44, ih _ _ _ _ (by omega) (by omega) (Nat.le_refl _), trim_seg]
          simp only [spl, Bool.false_eq_true, if_false]
          rw [if_pos ⟨trivial, h44⟩, seg_nil s (i + 1) (by omega), map_acc]
        · by_cases h34 : (at0 s i).toNat = 34
          · rw [listF_quote hi h34, ih _ _ _ _ (by omega) (by omega) (by omega), hs]
            simp only [spl, step, Bool.not_false, if_true, Bool.false_eq_true, if_false]
            rw [if_neg (by omega), if_pos h34]
          · rw [listF_one hi (by omega) h34 (by simp), ih _ _ _ _ (by omega) (by omega) (by omega), hs]
            simp only [spl, step, Bool.false_eq_true, if_false]
            rw [if_neg (by omega), if_neg h34]
      · by_cases h34 : (at0 s i).toNat = 34
        · rw [listF_quote hi h34, ih _ _ _ _ (by omega) (by omega) (by omega), hs]
          simp only [spl, step, Bool.not_true, if_true, Bool.false_eq_true, if_false]
          rw [if_neg (by simp), if_pos h34]
        · by_cases h92 : (at0 s i).toNat = 92
          · by_cases hc : i + 1 = s.size
            · rw [listF_cut hc h92, List.drop_eq_nil_of_le (by simp; omega)]
              simp only [spl, step, if_true]
              rw [if_neg (by simp), if_neg h34, if_pos h92]
              rfl
            · rw [listF_esc (by omega) h92, ih _ _ _ _ (by omega) (by omega) (by omega), drop_at s (i + 1) (by omega), seg_snoc s fr (i + 1) (by omega) (by omega), hs]
              simp only [spl, step, if_true]
              rw [if_neg (by simp), if_neg h34, if_pos h92, if_neg (by simp)]
          · rw [listF_one hi (by simp) h34 (by omega), ih _ _ _ _ (by omega) (by omega) (by omega), hs]
            simp only [spl, step, if_true]
            rw [if_neg (by simp), if_neg h34, if_neg h92]
    · obtain rfl : i = s.size := by omega
      rw [List.drop_eq_nil_of_le (by simp)]
      cases op
      · rw [listF_end (Nat.le_refl _), trim_seg]
        simp only [spl, Bool.false_eq_true, if_false, if_true, Option.map_some]
        rw [clean_cons]
        simp [clean]
      · rw [listF_open (Nat.le_refl _)]
        simp [spl]

theorem listL_spl (s : ByteArray) : listL s = (spl .out [] s.data.toList).map clean := by
  unfold listL
  rw [list_spl s _ 0 0 false [] (by omega) (by omega) (by omega), seg_nil s 0 (by omega), List.drop_zero]
  simp

end Go.Proofs.YtgidmoncocbfiaaGreatDoor.Lpu

namespace Go.Proofs.YtgidmoncocbfiaaGreatDoor.Lpu
open Go.RowKit
open Go.Proofs.YtgidmoncocbfiaaGreatDoor.Fbs
open Go.Proofs.YtgidmoncocbfiaaGreatDoor.Tri
open Go.Proofs.YtgidmoncocbfiaaGreatDoor.Lsp

/-- Where the machine is behind a text that has no comma outside. -/
def run : St → List UInt8 → Option St
  | q, [] => some q
  | q, c :: r => if q = .out ∧ c.toNat = 44 then none else run (step q c) r
theorem run_cons (q : St) (c : UInt8) (r : List UInt8) : run q (c :: r) = if q = .out ∧ c.toNat = 44 then none else run (step q c) r := rfl
theorem run_app : ∀ (a : List UInt8) (q : St) (b : List UInt8), run q (a ++ b) = (run q a).bind (fun q' => run q' b)
  | [], q, b => rfl
  | c :: a, q, b => by
    rw [List.cons_append, run_cons, run_cons]
    split
    · rfl
    · exact run_app a _ b
theorem spl_run : ∀ (a : List UInt8) (q q' : St) (acc r : List UInt8), run q a = some q' → spl q acc (a ++ r) = spl q' (acc ++ a) r
  | [], q, q', acc, r, h => by
    have : q = q' := Option.some.inj h
    subst this; simp
  | c :: a, q, q', acc, r, h => by
    unfold run at h
    split at h
    · cases h
    · rename_i hn
      rw [List.cons_append, spl, if_neg hn, spl_run a _ q' _ r h]
      simp
/-- A part. -/
def Part (p : List UInt8) : Prop := run .out p = some .out
theorem spl_parts : ∀ (l : List UInt8) (q : St) (cur : List UInt8) (ps : List (List UInt8)), run .out cur = some q → spl q cur l = some ps → ∀ p ∈ ps, Part p
  | [], q, cur, ps, hr, h => by
    unfold spl at h
    split at h
    · rename_i hq
      cases h
      intro p hp
      have : p = cur := by simpa using hp
      subst this; subst hq; exact hr
    · cases h
  | c :: l, q, cur, ps, hr, h => by
    unfold spl at h
    split at h
    · rename_i hq
      cases hx : spl .out [] l with
      | none => rw [hx] at h; cases h
      | some qs =>
        rw [hx] at h
        have : ps = cur :: qs := (Option.some.inj h).symm
        subst this
        intro p hp
        rcases List.mem_cons.1 hp with rfl | hp
        · obtain ⟨rfl, _⟩ := hq; exact hr
        · exact spl_parts l .out [] qs rfl hx p hp
    · rename_i hn
      refine spl_parts l _ _ ps ?_ h
      rw [run_app, hr]
      show run q [c] = _
      unfold run
      rw [if_neg hn]; rfl

theorem run_blank_left : ∀ (l : List UInt8), run .out (Lib.trimLeftB l 32) = run .out l
  | [] => rfl
  | c :: l => by
    unfold Lib.trimLeftB
    rw [List.dropWhile_cons]
    split
    · rename_i hc
      have hc : c = 32 := by simpa using hc
      subst hc
      have ih := run_blank_left l
      unfold Lib.trimLeftB at ih
      rw [ih]
      rfl
    · rfl
theorem run_blank_snoc {l : List UInt8} (h : Part (l ++ [32])) : Part l := by
  unfold Part at h ⊢
  rw [run_app] at h
  cases hq : run .out l with
  | none => rw [hq] at h; cases h
  | some q =>
    rw [hq] at h
    cases q with
    | out => rfl
    | inn => cases h
    | esc => cases h
theorem part_right (l : List UInt8) (h : Part l) : Part (Lib.trimRightB l 32) := by
  have all : ∀ (n : Nat) (l : List UInt8), l.length ≤ n → Part l → Part (Lib.trimRightB l 32) := by
    intro n
    induction n with
    | zero =>
      intro l hl h
      have : l = [] := List.length_eq_zero_iff.1 (by omega)
      subst this; exact h
    | succ n ih =>
      intro l hl h
      rcases List.eq_nil_or_concat l with rfl | ⟨r, c, rfl⟩
      · exact h
      · rw [List.concat_eq_append] at hl h ⊢
        unfold Lib.trimRightB
        rw [List.reverse_append, List.reverse_singleton, List.singleton_append, List.dropWhile_cons]
        split
        · rename_i hc
          have hc : c = 32 := by simpa using hc
          subst hc
          exact ih r (by simp at hl; omega) (run_blank_snoc h)
        · simpa using h
  exact all l.length l (Nat.le_refl _) h
theorem part_trim {l : List UInt8} (h : Part l) : Part (Lib.trimB l 32) := by
  unfold Lib.trimB Part
  rw [run_blank_left]
  exact part_right l h

theorem drop_mem {l : List UInt8} {p : UInt8 → Bool} {c : UInt8} (h : c ∈ l.dropWhile p) : c ∈ l := (List.dropWhile_suffix p).subset h
theorem trim_mem {l : List UInt8} {c : UInt8} (h : c ∈ Lib.trimB l 32) : c ∈ l := by
  unfold Lib.trimB Lib.trimLeftB Lib.trimRightB at h
  have h1 := drop_mem h
  rw [List.mem_reverse] at h1
  have h2 := drop_mem h1
  rwa [List.mem_reverse] at h2
theorem trim_len (l : List UInt8) : (Lib.trimB l 32).length ≤ l.length := by
  unfold Lib.trimB Lib.trimLeftB Lib.trimRightB
  refine Nat.le_trans (List.dropWhile_sublist _).length_le ?_
  rw [List.length_reverse]
  refine Nat.le_trans (List.dropWhile_sublist _).length_le ?_
  rw [List.length_reverse]
  exact Nat.le_refl _

/-- What is joined by commas. -/
def jn : List (List UInt8) → List UInt8
  | [] => []
  | [p] => p
  | p :: q :: r => p ++ 44 :: jn (q :: r)
theorem jn_snoc : ∀ (ps : List (List UInt8)) (p : List UInt8), ps ≠ [] → jn (ps ++ [p]) = jn ps ++ 44 :: p
  | [], _, h => absurd rfl h
  | [a], p, _ => rfl
  | a :: b :: r, p, _ => by
    have ih := jn_snoc (b :: r) p (by simp)
    simp only [List.cons_append] at ih ⊢
    simp only [jn]
    rw [ih]
    simp
theorem spl_jn : ∀ (ps : List (List UInt8)), ps ≠ [] → (∀ p ∈ ps, Part p) → spl .out [] (jn ps) = some ps
  | [], h, _ => absurd rfl h
  | [p], _, h => by
    have := spl_run p .out .out [] [] (h p (by simp))
    rw [List.append_nil] at this
    show spl .out [] p = _
    rw [this]; simp [spl]
  | p :: q :: r, _, h => by
    have h1 := spl_run p .out .out [] (44 :: jn (q :: r)) (h p (by simp))
    have h2 := spl_jn (q :: r) (by simp) (fun x hx => h x (by simp [hx]))
    show spl .out [] (p ++ 44 :: jn (q :: r)) = _
    rw [h1, spl, if_pos ⟨rfl, by decide⟩, h2]; simp
theorem jn_mem : ∀ (ps : List (List UInt8)) (c : UInt8), c ∈ jn ps → c = 44 ∨ ∃ p ∈ ps, c ∈ p
  | [], c, h => by cases h
  | [p], c, h => .inr ⟨p, by simp, h⟩
  | p :: q :: r, c, h => by
    have h : c ∈ p ++ 44 :: jn (q :: r) := h
    rcases List.mem_append.1 h with h | h
    · exact .inr ⟨p, by simp, h⟩
    · rcases List.mem_cons.1 h with h | h
      · exact .inl h
      · rcases jn_mem (q :: r) c h with h | ⟨x, hx, hc⟩
        · exact .inl h
        · exact .inr ⟨x, List.mem_cons_of_mem _ hx, hc⟩
def tot (ps : List (List UInt8)) : Nat := (ps.map fun p => p.length + 1).sum
theorem jn_len : ∀ (ps : List (List UInt8)), ps ≠ [] → (jn ps).length + 1 = tot ps
  | [], h => absurd rfl h
  | [p], _ => by simp [jn, tot]
  | p :: q :: r, _ => by
    have ih := jn_len (q :: r) (by simp)
    show (p ++ 44 :: jn (q :: r)).length + 1 = _
    unfold tot at ih ⊢
    rw [List.map_cons, List.sum_cons, ← ih]
    simp
    omega
theorem spl_tot : ∀ (l : List UInt8) (q : St) (cur : List UInt8) (ps : List (List UInt8)), spl q cur l = some ps → tot ps = cur.length + l.length + 1 ∧ ps ≠ []
  | [], q, cur, ps, h => by
    unfold spl at h
    split at h
    · cases h; simp [tot]
    · cases h
  | c :: l, q, cur, ps, h => by
    unfold spl at h
    split at h
    · cases hx : spl .out [] l with
      | none => rw [hx] at h; cases h
      | some qs =>
        rw [hx] at h
        have : ps = cur :: qs := (Option.some.inj h).symm
        subst this
        have ih := (spl_tot l .out [] qs hx).1
        unfold tot at ih ⊢
        refine ⟨?_, by simp⟩
        rw [List.map_cons, List.sum_cons, ih]
        simp; omega
    · have ih := spl_tot l _ _ ps h
      refine ⟨?_, ih.2⟩
      rw [ih.1]; simp; omega
theorem spl_mem : ∀ (l : List UInt8) (q : St) (cur : List UInt8) (ps : List (List UInt8)), spl q cur l = some ps → ∀ p ∈ ps, ∀ c ∈ p, c ∈ cur ∨ c ∈ l
  | [], q, cur, ps, h => by
    unfold spl at h
    split at h
    · cases h
      intro p hp c hc
      have : p = cur := by simpa using hp
      subst this; exact .inl hc
    · cases h
  | d :: l, q, cur, ps, h => by
    unfold spl at h
    split at h
    · cases hx : spl .out [] l with
      | none => rw [hx] at h; cases h
      | some qs =>
        rw [hx] at h
        have : ps = cur :: qs := (Option.some.inj h).symm
        subst this
        intro p hp c hc
        rcases List.mem_cons.1 hp with rfl | hp
        · exact .inl hc
        · rcases spl_mem l .out [] qs hx p hp c hc with h | h
          · cases h
          · exact .inr (List.mem_cons_of_mem _ h)
    · intro p hp c hc
      rcases spl_mem l _ _ ps h p hp c hc with h | h
      · rcases List.mem_append.1 h with h | h
        · exact .inl h
        · have : c = d := by simpa using h
          subst this; exact .inr (by simp)
      · exact .inr (List.mem_cons_of_mem _ h)

end Go.Proofs.YtgidmoncocbfiaaGreatDoor.Lpu

namespace Go.Proofs.YtgidmoncocbfiaaGreatDoor.Tga
open Go.RowKit
open Go.Proofs.YtgidmoncocbfiaaGreatDoor.Fbs
open Go.Proofs.YtgidmoncocbfiaaGreatDoor.Unq (heldB)

theorem quo_size (t : ByteArray) : ((⟨#[34]⟩ : ByteArray) ++ t ++ ⟨#[34]⟩).size = t.size + 2 := by
  have c1 : (⟨#[34]⟩ : ByteArray).size = 1 := rfl
  rw [ByteArray.size_append, ByteArray.size_append, c1]; omega
theorem quo_list (t : ByteArray) : ((⟨#[34]⟩ : ByteArray) ++ t ++ ⟨#[34]⟩).data.toList = 34 :: (t.data.toList ++ [34]) := by simp
/-- What is told within quotes is held in them, and read again. -/
theorem inQ_back {t : ByteArray} (h : tagB t = true) : inQ ((⟨#[34]⟩ : ByteArray) ++ t ++ ⟨#[34]⟩) = some t := by
  have hx : ((⟨#[34]⟩ : ByteArray) ++ t ++ ⟨#[34]⟩).extract 1 (((⟨#[34]⟩ : ByteArray) ++ t ++ ⟨#[34]⟩).size - 1) = t := by
    apply ByteArray.ext
    apply Array.ext'
    rw [ByteArray.data_extract, Array.toList_extract, quo_list, quo_size, List.extract_eq_take_drop]
    have e : t.data.toList.length = t.size := by simp
    show (List.drop 1 (34 :: (t.data.toList ++ [34]))).take (t.size + 2 - 1 - 1) = _
    rw [List.drop_succ_cons, List.drop_zero, show t.size + 2 - 1 - 1 = t.data.toList.length from by omega, List.take_left']
    rfl
  have hh : heldB ((⟨#[34]⟩ : ByteArray) ++ t ++ ⟨#[34]⟩).data.toList = true := by
    unfold heldB
    rw [quo_list]
    simp
  unfold inQ
  rw [hx, if_pos ⟨hh, h⟩]

/-- A tag that is told is read again. -/
theorem read_tag (k : Bool) {t : ByteArray} (h : tagB t = true) : readT (tagT k t) = some (k, t) := by
  cases k
  · have hw : weakB (tagT false t) = false := by
      have e : ((tagT false t).extract 0 2).toList = 34 :: ((t.data.toList ++ [34]).take 1) := by
        rw [ByteArray.toList_eq, ByteArray.data_extract, Array.toList_extract, List.extract_eq_take_drop]
        show List.take 2 (List.drop 0 ((⟨#[34]⟩ : ByteArray) ++ t ++ ⟨#[34]⟩).data.toList) = _
        rw [quo_list]; rfl
      unfold weakB
      rw [e]
      simp
    unfold readT
    rw [hw]
    show (inQ ((⟨#[34]⟩ : ByteArray) ++ t ++ ⟨#[34]⟩)).map _ = _
    rw [inQ_back h]; rfl
  · have e0 : (tagT true t).data.toList = 87 :: 47 :: 34 :: (t.data.toList ++ [34]) := by
      show ((⟨#[87, 47, 34]⟩ : ByteArray) ++ t ++ ⟨#[34]⟩).data.toList = _
      simp
    have e1 : (tagT true t).size = t.size + 4 := by
      have a : (tagT true t).data.toList.length = (tagT true t).size := by simp
      have b : t.data.toList.length = t.size := by simp
      rw [e0] at a
      simp only [List.length_cons, List.length_append, List.length_nil] at a
      omega
    have hw : weakB (tagT true t) = true := by
      have e : ((tagT true t).extract 0 2).toList = [87, 47] := by
        rw [ByteArray.toList_eq, ByteArray.data_extract, Array.toList_extract, List.extract_eq_take_drop, e0]; rfl
      unfold weakB
      rw [e, decide_eq_true (by omega)]; rfl
    have hx : (tagT true t).extract 2 (tagT true t).size = (⟨#[34]⟩ : ByteArray) ++ t ++ ⟨#[34]⟩ := by
      apply ByteArray.ext
      apply Array.ext'
      rw [ByteArray.data_extract, Array.toList_extract, List.extract_eq_take_drop, e0, e1, quo_list]
      have b : t.data.toList.length = t.size := by simp
      show (34 :: (t.data.toList ++ [34])).take (t.size + 4 - 2) = _
      apply List.take_of_length_le
      simp only [List.length_cons, List.length_append, List.length_nil]
      omega
    unfold readT
    rw [hw, hx]
    show (inQ _).map _ = _
    rw [inQ_back h]; rfl

end Go.Proofs.YtgidmoncocbfiaaGreatDoor.Tga

namespace Go.Proofs.YtgidmoncocbfiaaGreatDoor.Tgx
open Go.RowKit
open Go.Proofs.YtgidmoncocbfiaaGreatDoor.Fbs
open Go.Proofs.YtgidmoncocbfiaaGreatDoor.Tga Go.Proofs.YtgidmoncocbfiaaGreatDoor.Tgb
open Go.Proofs.YtgidmoncocbfiaaGreatDoor.Lpu

/-- The bytes of a tag told. -/
def tagL (k : Bool) (t : ByteArray) : List UInt8 := (if k then [87, 47] else []) ++ 34 :: (t.data.toList ++ [34])
theorem tagT_list (k : Bool) (t : ByteArray) : (tagT k t).data.toList = tagL k t := by
  unfold tagT tagL
  cases k <;> simp
theorem run_inn : ∀ l : List UInt8, l.all okT = true → run .inn l = some .inn
  | [], _ => rfl
  | c :: r, h => by
    rw [List.all_cons, Bool.and_eq_true] at h
    have hc := of_decide_eq_true h.1
    rw [run_cons, if_neg (by simp)]
    show run (if c.toNat = 34 then .out else if c.toNat = 92 then .esc else .inn) r = _
    rw [if_neg hc.2.2.1, if_neg hc.2.2.2]
    exact run_inn r h.2
theorem tag_okT {t : ByteArray} (h : tagB t = true) : t.data.toList.all okT = true ∧ t.size ≤ 60 := by
  unfold tagB at h
  rw [Bool.and_eq_true] at h
  exact ⟨h.1, of_decide_eq_true h.2⟩
theorem part_tag (k : Bool) {t : ByteArray} (h : tagB t = true) : Part (tagL k t) := by
  unfold Part tagL
  have e : run .out (if k then [87, 47] else ([] : List UInt8)) = some .out := by cases k <;> rfl
  rw [run_app, e]
  show run .out (34 :: (t.data.toList ++ [34])) = _
  rw [run_cons, if_neg (by decide)]
  show run .inn (t.data.toList ++ [34]) = _
  rw [run_app, run_inn _ (tag_okT h).1]
  rfl
theorem part_blank {p : List UInt8} (h : Part p) : Part (32 :: p) := by
  unfold Part at h ⊢
  rw [run_cons, if_neg (by decide)]
  exact h
theorem trim_ends (c : UInt8) (m : List UInt8) (hc : c ≠ 32) : Lib.trimB (c :: (m ++ [34])) 32 = c :: (m ++ [34]) := by
  have e : Lib.trimRightB (c :: (m ++ [34])) 32 = c :: (m ++ [34]) := by
    unfold Lib.trimRightB
    rw [show c :: (m ++ [34]) = (c :: m) ++ [34] from rfl, List.reverse_append]
    show (List.dropWhile _ (34 :: (c :: m).reverse)).reverse = _
    rw [List.dropWhile_cons]
    simp
  unfold Lib.trimB
  rw [e]
  unfold Lib.trimLeftB
  rw [List.dropWhile_cons]
  simp [hc]
theorem trim_blank (c : UInt8) (m : List UInt8) (hc : c ≠ 32) : Lib.trimB (32 :: c :: (m ++ [34])) 32 = c :: (m ++ [34]) := by
  have e : Lib.trimRightB (32 :: c :: (m ++ [34])) 32 = 32 :: c :: (m ++ [34]) := by
    unfold Lib.trimRightB
    rw [show 32 :: c :: (m ++ [34]) = (32 :: c :: m) ++ [34] from rfl, List.reverse_append]
    show (List.dropWhile _ (34 :: (32 :: c :: m).reverse)).reverse = _
    rw [List.dropWhile_cons]
    simp
  unfold Lib.trimB
  rw [e]
  unfold Lib.trimLeftB
  rw [List.dropWhile_cons]
  simp [hc]
theorem tagL_form (k : Bool) (t : ByteArray) : ∃ c m, tagL k t = c :: (m ++ [34]) ∧ c ≠ 32 := by
  unfold tagL
  cases k
  · exact ⟨34, t.data.toList, rfl, by decide⟩
  · exact ⟨87, 47 :: 34 :: t.data.toList, by simp, by decide⟩
theorem trim_tag (k : Bool) (t : ByteArray) : Lib.trimB (tagL k t) 32 = tagL k t ∧ Lib.trimB (32 :: tagL k t) 32 = tagL k t := by
  obtain ⟨c, m, e, hc⟩ := tagL_form k t
  rw [e]
  exact ⟨trim_ends c m hc, trim_blank c m hc⟩
theorem plain_tag (k : Bool) {t : ByteArray} (h : tagB t = true) : plainB (tagL k t) = true := by
  unfold tagL plainB
  have ht : t.data.toList.all (fun c => seenB (c.toNat : Int)) = true := by
    rw [List.all_eq_true]
    intro c hc
    have := of_decide_eq_true (List.all_eq_true.1 (tag_okT h).1 c hc)
    unfold seenB
    rw [decide_eq_true (by omega), decide_eq_true (by omega)]; rfl
  cases k
  · simp only [Bool.false_eq_true, if_false, List.nil_append, List.all_cons, List.all_append, ht]
    rfl
  · simp only [if_true, List.cons_append, List.nil_append, List.all_cons, List.all_append, ht]
    rfl
theorem tagT_size (k : Bool) {t : ByteArray} (h : tagB t = true) : 2 ≤ (tagT k t).size ∧ (tagT k t).size ≤ 64 := by
  have e1 : (tagT k t).data.toList.length = (tagT k t).size := by simp
  have e2 : t.data.toList.length = t.size := by simp
  have := (tag_okT h).2
  rw [tagT_list] at e1
  unfold tagL at e1
  cases k
  · simp only [Bool.false_eq_true, if_false, List.nil_append, List.length_cons, List.length_append, List.length_nil] at e1
    omega
  · simp only [if_true, List.cons_append, List.nil_append, List.length_cons, List.length_append, List.length_nil] at e1
    omega
theorem mk_tag (k : Bool) (t : ByteArray) : (⟨(tagL k t).toArray⟩ : ByteArray) = tagT k t := by
  rw [← tagT_list]

/-- Two tags in a list. -/
theorem two_tags (k1 k2 : Bool) {t1 t2 : ByteArray} (h1 : tagB t1 = true) (h2 : tagB t2 = true) : Lsp.listO ((tagT k1 t1 ++ ⟨#[44, 32]⟩) ++ tagT k2 t2) = some [tagT k1 t1, tagT k2 t2] := by
  have hl : ((tagT k1 t1 ++ ⟨#[44, 32]⟩) ++ tagT k2 t2).data.toList = jn [tagL k1 t1, 32 :: tagL k2 t2] := by
    show _ = tagL k1 t1 ++ 44 :: (32 :: tagL k2 t2)
    rw [← tagT_list, ← tagT_list]
    simp
  have hs : ((tagT k1 t1 ++ ⟨#[44, 32]⟩) ++ tagT k2 t2).size ≤ 300 := by
    have c2 : (⟨#[44, 32]⟩ : ByteArray).size = 2 := rfl
    rw [ByteArray.size_append, ByteArray.size_append, c2]
    have a := (tagT_size k1 h1).2
    have b := (tagT_size k2 h2).2
    omega
  have hp : plainB ((tagT k1 t1 ++ ⟨#[44, 32]⟩) ++ tagT k2 t2).data.toList = true := by
    rw [hl]
    show plainB (tagL k1 t1 ++ 44 :: (32 :: tagL k2 t2)) = true
    have a := plain_tag k1 h1
    have b := plain_tag k2 h2
    unfold plainB at a b ⊢
    rw [List.all_append, a, List.all_cons, List.all_cons, b]
    rfl
  unfold Lsp.listO
  rw [if_pos ⟨hp, hs⟩, listL_spl, hl, spl_jn _ (by simp) (by
    intro p hp
    simp only [List.mem_cons, List.not_mem_nil, or_false] at hp
    rcases hp with rfl | rfl
    · exact part_tag k1 h1
    · exact part_blank (part_tag k2 h2))]
  show some (clean [tagL k1 t1, 32 :: tagL k2 t2]) = _
  unfold clean
  rw [List.map_cons, List.map_cons, List.map_nil, (trim_tag k1 t1).1, (trim_tag k2 t2).2, mk_tag, mk_tag]
  have a := (tagT_size k1 h1).1
  have b := (tagT_size k2 h2).1
  rw [List.filter_cons, if_pos (by simp; intro e; rw [e] at a; exact absurd a (by decide)), List.filter_cons, if_pos (by simp; intro e; rw [e] at b; exact absurd b (by decide)), List.filter_nil]
theorem two_kind (k1 k2 : Bool) {t1 t2 : ByteArray} (h1 : tagB t1 = true) (h2 : tagB t2 = true) : kindR (Lsp.listO ((tagT k1 t1 ++ ⟨#[44, 32]⟩) ++ tagT k2 t2)) = 2 ∧ tagsR (Lsp.listO ((tagT k1 t1 ++ ⟨#[44, 32]⟩) ++ tagT k2 t2)) = [(k1, t1), (k2, t2)] := by
  have hk : kindR (some [tagT k1 t1, tagT k2 t2]) = 2 := by
    apply kind_tags (by simp) (by simp)
    · unfold starB
      simp
    · unfold okAll
      simp [read_tag k1 h1, read_tag k2 h2]
  rw [two_tags k1 k2 h1 h2]
  refine ⟨hk, ?_⟩
  unfold tagsR
  rw [if_pos hk]
  show outs [tagT k1 t1, tagT k2 t2] = _
  unfold outs
  simp [read_tag k1 h1, read_tag k2 h2]

theorem same_comm (t1 t2 : ByteArray) : sameB t1 t2 = sameB t2 t1 := by
  unfold sameB
  rw [Bool.and_comm (tagB t1), Bool.beq_comm]
theorem strong_comm (k1 : Bool) (t1 : ByteArray) (k2 : Bool) (t2 : ByteArray) : strongB k1 t1 k2 t2 = strongB k2 t2 k1 t1 := by
  unfold strongB
  rw [Bool.and_comm (tagB t1), Bool.beq_comm (a := t1.toList)]
  cases k1 <;> cases k2 <;> simp
theorem strong_weak {k1 : Bool} {t1 : ByteArray} {k2 : Bool} {t2 : ByteArray} (h : strongB k1 t1 k2 t2 = true) : sameB t1 t2 = true := by
  unfold strongB at h
  unfold sameB
  revert h
  cases tagB t1 <;> cases tagB t2 <;> cases k1 <;> cases k2 <;> simp
theorem strong_self (k : Bool) {t : ByteArray} (h : tagB t = true) : strongB k t k t = !k := by
  unfold strongB
  rw [h]
  cases k <;> simp

end Go.Proofs.YtgidmoncocbfiaaGreatDoor.Tgx

namespace Go.Proofs.YtgidmoncocbfiaaGreatDoor.Cds
open Go.RowKit
open Go.Proofs.YtgidmoncocbfiaaGreatDoor.Fbs
open Go.Proofs.YtgidmoncocbfiaaGreatDoor.Tga Go.Proofs.YtgidmoncocbfiaaGreatDoor.Tgb Go.Proofs.YtgidmoncocbfiaaGreatDoor.Tgx
open Go.Proofs.YtgidmoncocbfiaaGreatDoor.Lpu
open Go.Proofs.YtgidmoncocbfiaaGreatDoor.Fvs
open Go.Proofs.YtgidmoncocbfiaaGreatDoor.Cda
open Go.Proofs.YtgidmoncocbfiaaGreatDoor.Jnd (joinS)

theorem one_tag (k : Bool) {t : ByteArray} (h : tagB t = true) : Lsp.listO (tagT k t) = some [tagT k t] := by
  have hl : (tagT k t).data.toList = jn [tagL k t] := tagT_list k t
  have hs : (tagT k t).size ≤ 300 := by
    have a := (tagT_size k h).2
    omega
  have hp : plainB (tagT k t).data.toList = true := by
    rw [hl]
    exact plain_tag k h
  unfold Lsp.listO
  rw [if_pos ⟨hp, hs⟩, listL_spl, hl, spl_jn _ (by simp) (by
    intro p hp
    simp only [List.mem_cons, List.not_mem_nil, or_false] at hp
    rcases hp with rfl
    exact part_tag k h)]
  show some (clean [tagL k t]) = _
  unfold clean
  rw [List.map_cons, List.map_nil, (trim_tag k t).1, mk_tag]
  have a := (tagT_size k h).1
  rw [List.filter_cons, if_pos (by simp; intro e; rw [e] at a; exact absurd a (by decide)), List.filter_nil]
theorem one_kind (k : Bool) {t : ByteArray} (h : tagB t = true) : kindR (some [tagT k t]) = 2 ∧ tagsR (some [tagT k t]) = [(k, t)] := by
  have hk : kindR (some [tagT k t]) = 2 := by
    apply kind_tags (by simp) (by simp)
    · unfold starB
      have e : (([tagT k t][0]?).getD (⟨#[]⟩ : ByteArray)) = tagT k t := rfl
      rw [e, ByteArray.toList_eq, tagT_list]
      unfold tagL
      cases k <;> simp
    · unfold okAll
      simp [read_tag k h]
  refine ⟨hk, ?_⟩
  unfold tagsR
  rw [if_pos hk]
  show outs [tagT k t] = _
  unfold outs
  simp [read_tag k h]
def cINM : ByteArray := ⟨#[73, 102, 45, 78, 111, 110, 101, 45, 77, 97, 116, 99, 104]⟩
def cIM : ByteArray := ⟨#[73, 102, 45, 77, 97, 116, 99, 104]⟩
theorem vals_one (n c v : ByteArray) : valsOf n [(c, v)] = if isN n (c, v) then [v] else [] := by
  unfold valsOf
  by_cases h : isN n (c, v) = true
  · rw [if_pos h]; simp [h]
  · rw [if_neg h]; simp [h]
theorem inm_vals (v : ByteArray) : valsOf nIm [(cINM, v)] = [] ∧ valsOf nIus [(cINM, v)] = [] ∧ valsOf nInm [(cINM, v)] = [v] := by
  refine ⟨?_, ?_, ?_⟩
  · rw [vals_one, if_neg (by rw [show isN nIm (cINM, v) = isN nIm (cINM, ⟨#[]⟩) from rfl]; decide)]
  · rw [vals_one, if_neg (by rw [show isN nIus (cINM, v) = isN nIus (cINM, ⟨#[]⟩) from rfl]; decide)]
  · rw [vals_one, if_pos (by rw [show isN nInm (cINM, v) = isN nInm (cINM, ⟨#[]⟩) from rfl]; decide)]
theorem im_vals (v : ByteArray) : valsOf nIm [(cIM, v)] = [v] ∧ valsOf nInm [(cIM, v)] = [] ∧ valsOf nIms [(cIM, v)] = [] := by
  refine ⟨?_, ?_, ?_⟩
  · rw [vals_one, if_pos (by rw [show isN nIm (cIM, v) = isN nIm (cIM, ⟨#[]⟩) from rfl]; decide)]
  · rw [vals_one, if_neg (by rw [show isN nInm (cIM, v) = isN nInm (cIM, ⟨#[]⟩) from rfl]; decide)]
  · rw [vals_one, if_neg (by rw [show isN nIms (cIM, v) = isN nIms (cIM, ⟨#[]⟩) from rfl]; decide)]
theorem match_own (th K : Bool) {T : ByteArray} (h : tagB T = true) (strong : Bool) : matchB (tagsR (Lsp.listO (joinS [tagT K T]))) (oneR (Lsp.listO (joinS [tagT K T]))) th true K T strong = (!strong || !K) ∧ okR (Lsp.listO (joinS [tagT K T])) = true := by
  have e : joinS [tagT K T] = tagT K T := by
    have := Jnd.joinS_first (l := [tagT K T]) (by simp)
    simpa using this
  rw [e, one_tag K h]
  obtain ⟨hk, ht⟩ := one_kind K h
  rw [ht]
  have h1 : oneR (some [tagT K T]) = false := by unfold oneR; rw [hk]; decide
  have h2 : okR (some [tagT K T]) = true := by unfold okR; rw [hk]; decide
  rw [h1, h2]
  refine ⟨?_, rfl⟩
  unfold matchB isIt
  cases strong <;> cases K <;> simp
theorem own_inm {K th : Bool} {T : ByteArray} (h : tagB T = true) (lk dt : Bool) (md : Int) : codeP lk [(cINM, tagT K T)] th true K T dt md = if lk then 304 else 412 := by
  obtain ⟨v1, v2, v3⟩ := inm_vals (tagT K T)
  refine code_inm ?_ ?_ ?_ ?_ ?_
  · unfold hasN; rw [v1]; rfl
  · exact dateP_not (by rw [v2]; simp)
  · unfold hasN; rw [v3]; rfl
  · unfold lstN; rw [v3]; exact (match_own th K h false).2
  · unfold matN lstN; rw [v3]; exact (match_own th K h false).1
theorem own_im {K th : Bool} {T : ByteArray} (h : tagB T = true) (lk dt : Bool) (md : Int) : codeP lk [(cIM, tagT K T)] th true K T dt md = if K then 412 else 0 := by
  obtain ⟨v1, v2, v3⟩ := im_vals (tagT K T)
  rw [code_im (l := [(cIM, tagT K T)]) (by unfold hasN; rw [v1]; rfl) (by unfold lstN; rw [v1]; exact (match_own th K h true).2) (by unfold hasN; rw [v2]; rfl) (dateP_not (by rw [v3]; simp))]
  unfold matN lstN
  rw [v1, (match_own th K h true).1]
  cases K <;> simp

end Go.Proofs.YtgidmoncocbfiaaGreatDoor.Cds

