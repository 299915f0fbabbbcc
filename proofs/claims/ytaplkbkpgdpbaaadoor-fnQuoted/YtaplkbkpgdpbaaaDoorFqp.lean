/-
  What FnQuoted says of quoted texts and of fields that are set.
-/
import Derived.Test.YtaplkbkpgdpbaaaDoorLpw
import Derived.Test.YtaplkbkpgdpbaaaDoorUnq
import Derived.Test.YtaplkbkpgdpbaaaDoorStf
import Derived.Test.YtaplkbkpgdpbaaaDoorJnd
namespace Go.Proofs.YtaplkbkpgdpbaaaDoor.Fqp
open Go.RowKit
open Go.Proofs.YtaplkbkpgdpbaaaDoor.Fbs
open Go.Proofs.YtaplkbkpgdpbaaaDoor.Fch
open Go.Proofs.YtaplkbkpgdpbaaaDoor.Tri
open Go.Proofs.YtaplkbkpgdpbaaaDoor.Lsp
open Go.Proofs.YtaplkbkpgdpbaaaDoor.Lpu
open Go.Proofs.YtaplkbkpgdpbaaaDoor.Quo
open Go.Proofs.YtaplkbkpgdpbaaaDoor.Unq
open Go.Proofs.YtaplkbkpgdpbaaaDoor.Fvs
open Go.Proofs.YtaplkbkpgdpbaaaDoor.Fpl
open Go.Proofs.YtaplkbkpgdpbaaaDoor.Stf
open Go.Proofs.YtaplkbkpgdpbaaaDoor.Jnd
open Go.Proofs.YtaplkbkpgdpbaaaDoor.Fgd (goodF)
open Go.Proofs.YtaplkbkpgdpbaaaDoor.Lof (lowS)
open Go.Proofs.YtaplkbkpgdpbaaaDoor.Chc (Cl left_id right_id cl_trim)

theorem unq_rest (l : List UInt8) (m : Nat) : ∀ (r pre acc : List UInt8) (f : Nat), l = pre ++ (r.flatMap qb ++ [34]) → m = pre.length + (r.flatMap qb).length → m ≤ pre.length + f → unqF l m f pre.length acc = some (acc ++ r)
  | [], pre, acc, f, hl, hm, hf => by
    rw [unqF_end (by simp at hm; omega)]; simp
  | c :: r, pre, acc, f, hl, hm, hf => by
    rw [List.flatMap_cons, List.length_append] at hm
    rw [List.flatMap_cons] at hl
    by_cases hc : c.toNat = 34 ∨ c.toNat = 92
    · have hq : qb c = [92, c] := by unfold qb; rw [if_pos hc]
      rw [hq] at hl hm
      have e0 : l[pre.length]? = some 92 := by rw [hl, List.getElem?_append_right (Nat.le_refl _)]; simp
      have e1 : l[pre.length + 1]? = some c := by rw [hl, List.getElem?_append_right (by omega)]; simp
      have h2 : ([92, c] : List UInt8).length = 2 := rfl
      rw [h2] at hm
      obtain ⟨f, rfl⟩ : ∃ f', f = f' + 1 := ⟨f - 1, by omega⟩
      rw [unqF_esc (by omega) (by rw [e0]; rfl), e1]
      have ih := unq_rest l m r (pre ++ [92, c]) (acc ++ [c]) f (by rw [hl]; simp) (by rw [List.length_append, h2]; omega) (by rw [List.length_append, h2]; omega)
      rw [List.length_append, h2] at ih
      show unqF l m f (pre.length + 2) (acc ++ [(some c).getD 0]) = _
      rw [Option.getD_some, ih]; simp
    · have hq : qb c = [c] := by unfold qb; rw [if_neg hc]
      rw [hq] at hl hm
      have e0 : l[pre.length]? = some c := by rw [hl, List.getElem?_append_right (Nat.le_refl _)]; simp
      have h1 : ([c] : List UInt8).length = 1 := rfl
      rw [h1] at hm
      obtain ⟨f, rfl⟩ : ∃ f', f = f' + 1 := ⟨f - 1, by omega⟩
      rw [unqF_one (by omega) (by rw [e0, Option.getD_some]; omega) (by rw [e0, Option.getD_some]; omega), e0]
      have ih := unq_rest l m r (pre ++ [c]) (acc ++ [c]) f (by rw [hl]; simp) (by rw [List.length_append, h1]; omega) (by rw [List.length_append, h1]; omega)
      rw [List.length_append, h1] at ih
      rw [Option.getD_some, ih]; simp
theorem unq_quo {s : ByteArray} (h : quotable s = true) : unqO (quoB s).data.toList = some s.data.toList := by
  unfold quotable at h
  rw [Bool.and_eq_true] at h
  have hs : s.size ≤ 100 := of_decide_eq_true h.1
  have hl : s.data.toList.length = s.size := by simp
  have hd : (quoB s).data.toList = [34] ++ (s.data.toList.flatMap qb ++ [34]) := by unfold quoB quoL; simp
  have hlen : (quoB s).data.toList.length = (s.data.toList.flatMap qb).length + 2 := by rw [hd]; simp
  have hu := unq_rest (quoB s).data.toList ((s.data.toList.flatMap qb).length + 1) s.data.toList [34] [] ((s.data.toList.flatMap qb).length + 2) hd (by show _ = 1 + _; omega) (by show _ ≤ 1 + _; omega)
  have hh : heldB (quoB s).data.toList = true := by
    unfold heldB
    rw [hlen, hd]
    simp
  unfold unqO
  rw [if_pos hh, hlen]
  show (match unqF (quoB s).data.toList ((s.data.toList.flatMap qb).length + 1) ((s.data.toList.flatMap qb).length + 2) 1 [] with | none => none | some r => _) = _
  have hu' : unqF (quoB s).data.toList ((s.data.toList.flatMap qb).length + 1) ((s.data.toList.flatMap qb).length + 2) 1 [] = some s.data.toList := hu
  rw [hu']
  show (if _ then _ else _) = _
  rw [if_pos ⟨by omega, h.2⟩]

theorem qb_len (l : List UInt8) : (l.flatMap qb).length ≤ 2 * l.length := by
  induction l with
  | nil => simp
  | cons c r ih =>
    have : (qb c).length ≤ 2 := by unfold qb; split <;> simp
    rw [List.flatMap_cons, List.length_append, List.length_cons]
    omega
theorem quo_size (s : ByteArray) (h : s.size ≤ 100) : (quoB s).size ≤ 202 := by
  have := qb_len s.data.toList
  have hs : s.data.toList.length = s.size := by simp
  show (quoL s.data.toList ++ [34]).toArray.size ≤ _
  rw [List.size_toArray, List.length_append]
  unfold quoL
  simp only [List.length_cons, List.length_nil]
  omega

theorem run_qb : ∀ (l : List UInt8), Lpu.run St.inn (l.flatMap qb) = some St.inn
  | [] => rfl
  | c :: r => by
    rw [List.flatMap_cons, run_app]
    have ih := run_qb r
    by_cases hc : c.toNat = 34 ∨ c.toNat = 92
    · have hq : qb c = [92, c] := by unfold qb; rw [if_pos hc]
      rw [hq]
      have : Lpu.run St.inn [92, c] = some St.inn := rfl
      rw [this]; exact ih
    · have hq : qb c = [c] := by unfold qb; rw [if_neg hc]
      rw [hq]
      have : Lpu.run St.inn [c] = some St.inn := by
        rw [run_cons, if_neg (by simp)]
        show some (if c.toNat = 34 then St.out else if c.toNat = 92 then St.esc else St.inn) = _
        rw [if_neg (by omega), if_neg (by omega)]
      rw [this]; exact ih
theorem quo_data (s : ByteArray) : (quoB s).data.toList = 34 :: (s.data.toList.flatMap qb ++ [34]) := by unfold quoB quoL; simp
theorem quo_part (s : ByteArray) : Part (quoB s).data.toList := by
  unfold Part
  rw [quo_data, run_cons, if_neg (by decide), run_app]
  show (Lpu.run St.inn _).bind _ = _
  rw [run_qb]; rfl
theorem quo_cl (s : ByteArray) : Cl (quoB s).data.toList := by
  rw [quo_data]
  refine ⟨fun b hb => ?_, fun b hb => ?_⟩
  · have : (34 : UInt8) = b := by simpa using hb
    subst this; decide
  · rw [← List.cons_append, List.getLast?_append] at hb
    have : (34 : UInt8) = b := by simpa using hb
    subst this; decide
theorem quo_some (s : ByteArray) : (quoB s).size ≠ 0 := by
  have := congrArg List.length (quo_data s)
  have hl : (quoB s).data.toList.length = (quoB s).size := by simp
  rw [hl] at this
  simp at this; omega

/-- A quoted text twice is a list of these two. -/
theorem list_twice (s : ByteArray) : listO ((quoB s ++ (⟨#[44, 32]⟩ : ByteArray)) ++ quoB s) = none ∨ listO ((quoB s ++ (⟨#[44, 32]⟩ : ByteArray)) ++ quoB s) = some [quoB s, quoB s] := by
  unfold listO
  split
  · right
    rw [listL_spl]
    obtain ⟨q, hq⟩ : ∃ q, q = (quoB s).data.toList := ⟨_, rfl⟩
    have hp : Part q := by rw [hq]; exact quo_part s
    have hc : Cl q := by rw [hq]; exact quo_cl s
    have hd : ((quoB s ++ (⟨#[44, 32]⟩ : ByteArray)) ++ quoB s).data.toList = jn [q, 32 :: q] := by
      rw [hq]; simp [jn]
    have hp2 : Part (32 :: q) := by
      unfold Part
      rw [run_cons, if_neg (by decide)]
      exact hp
    rw [hd, spl_jn [q, 32 :: q] (by simp) (by
      intro p h
      rcases List.mem_cons.1 h with rfl | h
      · exact hp
      · rw [List.mem_singleton.1 h]; exact hp2)]
    have t1 : Lib.trimB q 32 = q := trim_id hc
    have hne : q ≠ [] := by rw [hq, quo_data]; simp
    have t2 : Lib.trimB (32 :: q) 32 = q := by
      unfold Lib.trimB
      rw [right_id (l := 32 :: q) (by
        intro b hb
        apply hc.2 b
        cases q with
        | nil => exact absurd rfl hne
        | cons a r => simpa [List.getLast?_cons_cons] using hb)]
      have : Lib.trimLeftB (32 :: q) 32 = Lib.trimLeftB q 32 := by unfold Lib.trimLeftB; rw [List.dropWhile_cons, if_pos (by decide)]
      rw [this, left_id hc.1]
    have e : (⟨q.toArray⟩ : ByteArray) = quoB s := by rw [hq]
    show some (clean [q, 32 :: q]) = _
    have c1 := clean_cons q [32 :: q] []
    have c2 := clean_cons (32 :: q) [] []
    rw [List.nil_append] at c1 c2
    rw [c1, c2, t1, t2, e]
    unfold addT
    rw [if_neg (quo_some s)]
    rfl
  · left; rfl

/-- What is set, one field behind another. -/
def setR (S V : ByteArray) : Bool → List (ByteArray × ByteArray) → List (ByteArray × ByteArray)
  | _, [] => []
  | p, c :: r => if isN S c = true then (if p = true then setR S V p r else (c.1, V) :: setR S V true r) else c :: setR S V p r
theorem fold_setR (S V : ByteArray) : ∀ (l acc : List (ByteArray × ByteArray)) (p : Bool), (l.foldl (stepS S V) (acc, p)).1 = acc ++ setR S V p l
  | [], acc, p => by simp [setR]
  | c :: r, acc, p => by
    rw [List.foldl_cons]
    cases h : isN S c
    · rw [step_no h, fold_setR S V r, setR, if_neg (by rw [h]; decide)]; simp
    · cases p
      · rw [step_new h, fold_setR S V r, setR, if_pos h, if_neg (by decide)]; simp
      · rw [step_old h, fold_setR S V r, setR, if_pos h, if_pos rfl]
theorem setL_is (S V : ByteArray) (l : List (ByteArray × ByteArray)) : setL S V l = setR S V false l ++ (if hasL (lowS S) l = true then [] else [(S, V)]) := by
  unfold setL
  rw [setP_put]
  have e : (setP S V l).1 = setR S V false l := by unfold setP; rw [fold_setR]; rfl
  rw [e]
  split
  · simp
  · rfl
theorem isN_name (n : ByteArray) (x : ByteArray) (a b : ByteArray) : isN n (x, a) = isN n (x, b) := rfl
theorem vals_cons (n : ByteArray) (c : ByteArray × ByteArray) (l : List (ByteArray × ByteArray)) : valsOf n (c :: l) = if isN n c = true then c.2 :: valsOf n l else valsOf n l := by
  unfold valsOf
  rw [List.filter_cons]
  split <;> simp
theorem vals_app (n : ByteArray) (a b : List (ByteArray × ByteArray)) : valsOf n (a ++ b) = valsOf n a ++ valsOf n b := by
  unfold valsOf
  rw [List.filter_append, List.map_append]
theorem vals_true (S V : ByteArray) : ∀ (l : List (ByteArray × ByteArray)), valsOf S (setR S V true l) = []
  | [] => rfl
  | c :: r => by
    rw [setR]
    split
    · rw [if_pos rfl]; exact vals_true S V r
    · rename_i h
      rw [vals_cons, if_neg h]; exact vals_true S V r
theorem vals_false (S V : ByteArray) : ∀ (l : List (ByteArray × ByteArray)), valsOf S (setR S V false l) = if hasL (lowS S) l = true then [V] else []
  | [] => rfl
  | c :: r => by
    have hh : hasL (lowS S) (c :: r) = (isN S c || hasL (lowS S) r) := by simp [hasL, isN]
    rw [setR, hh]
    cases h : isN S c
    · rw [if_neg (by decide), vals_cons, if_neg (by rw [h]; decide), vals_false S V r, Bool.false_or]
    · have h' : isN S (c.1, V) = true := h
      rw [if_pos rfl, if_neg (by decide), vals_cons, if_pos h', vals_true, Bool.true_or, if_pos rfl]
theorem vals_set (S V : ByteArray) (l : List (ByteArray × ByteArray)) : valsOf S (setL S V l) = [V] := by
  rw [setL_is, vals_app, vals_false]
  cases h : hasL (lowS S) l
  · rw [if_neg (by decide), if_neg (by decide), vals_cons, if_pos (by simp [isN])]; rfl
  · rw [if_pos rfl, if_pos rfl]; rfl
theorem vals_other (S V n : ByteArray) (hn : lowS S ≠ lowS n) : ∀ (l : List (ByteArray × ByteArray)) (p : Bool), valsOf n (setR S V p l) = valsOf n l
  | [], _ => rfl
  | c :: r, p => by
    rw [setR]
    cases h : isN S c
    · rw [if_neg (by decide), vals_cons, vals_cons, vals_other S V n hn r p]
    · have hc : isN n c = false := by
        unfold isN at h ⊢
        have := of_decide_eq_true h
        exact decide_eq_false (fun e => hn (by rw [← this, e]))
      have hc' : isN n (c.1, V) = false := hc
      rw [if_pos rfl]
      cases p
      · rw [if_neg (by decide), vals_cons, vals_cons, hc, hc', if_neg (by decide), if_neg (by decide), vals_other S V n hn r true]
      · rw [if_pos rfl, vals_cons, hc, if_neg (by decide), vals_other S V n hn r true]
theorem vals_stay {S V n : ByteArray} {l : List (ByteArray × ByteArray)} (h : valsOf n [(S, V)] = []) : valsOf n (setL S V l) = valsOf n l := by
  have hn : lowS S ≠ lowS n := by
    intro e
    rw [vals_cons, if_pos (by unfold isN; exact decide_eq_true e)] at h
    cases h
  rw [setL_is, vals_app, vals_other S V n hn]
  split
  · simp [valsOf]
  · rw [h]; simp
theorem setR_mem (S V : ByteArray) : ∀ (l : List (ByteArray × ByteArray)) (p : Bool), ∀ c ∈ setR S V p l, c ∈ l ∨ ∃ d ∈ l, c = (d.1, V)
  | [], _, c, h => by cases h
  | d :: r, p, c, h => by
    rw [setR] at h
    split at h
    · split at h
      · rcases setR_mem S V r p c h with h | ⟨e, he, hc⟩
        · exact .inl (List.mem_cons_of_mem _ h)
        · exact .inr ⟨e, List.mem_cons_of_mem _ he, hc⟩
      · rcases List.mem_cons.1 h with h | h
        · exact .inr ⟨d, by simp, h⟩
        · rcases setR_mem S V r true c h with h | ⟨e, he, hc⟩
          · exact .inl (List.mem_cons_of_mem _ h)
          · exact .inr ⟨e, List.mem_cons_of_mem _ he, hc⟩
    · rcases List.mem_cons.1 h with h | h
      · exact .inl (by rw [h]; simp)
      · rcases setR_mem S V r p c h with h | ⟨e, he, hc⟩
        · exact .inl (List.mem_cons_of_mem _ h)
        · exact .inr ⟨e, List.mem_cons_of_mem _ he, hc⟩
theorem good_parts {N V : ByteArray} (h : goodF N V = true) : tokenB N.data.toList = true ∧ ∀ n : ByteArray, tokenB n.data.toList = true → goodF n V = true := by
  unfold goodF at h ⊢
  simp only [Bool.and_eq_true] at h
  refine ⟨h.1.1.1, fun n hn => ?_⟩
  simp only [Bool.and_eq_true]
  exact ⟨⟨⟨hn, h.1.1.2⟩, h.1.2⟩, h.2⟩
theorem goodL_parts {l : List (ByteArray × ByteArray)} (h : goodL l = true) : l.length ≤ 40 ∧ ∀ c ∈ l, goodF c.1 c.2 = true := by
  unfold goodL at h
  rw [Bool.and_eq_true, List.all_eq_true] at h
  exact ⟨of_decide_eq_true h.1, h.2⟩
theorem good_set {S V : ByteArray} {l : List (ByteArray × ByteArray)} (h : goodL l = true) (hf : goodF S V = true) (hl : (setL S V l).length ≤ 40) : goodL (setL S V l) = true := by
  obtain ⟨_, h2⟩ := goodL_parts h
  unfold goodL
  rw [decide_eq_true hl, Bool.true_and, List.all_eq_true]
  intro c hc
  rw [setL_is] at hc
  rcases List.mem_append.1 hc with hc | hc
  · rcases setR_mem S V l false c hc with hc | ⟨d, hd, rfl⟩
    · exact h2 c hc
    · exact (good_parts hf).2 d.1 (good_parts (h2 d hd)).1
  · split at hc
    · cases hc
    · rw [List.mem_singleton.1 hc]; exact hf
theorem set_len (S V : ByteArray) (l : List (ByteArray × ByteArray)) (h : l.length ≤ 41) : (lstF (setO S V l)).length ≤ 42 := by
  have := h
  unfold setO
  split
  · split
    · exact Nat.zero_le _
    · have := setL_len S V l
      show (setL S V l).length ≤ 42
      omega
  · exact Nat.zero_le _
theorem good_sz {l : List (ByteArray × ByteArray)} (h : goodL l = true) : SzF l := by
  intro c hc
  have h2 := (goodL_parts h).2 c hc
  unfold goodF tokenB at h2
  simp only [Bool.and_eq_true, decide_eq_true_eq] at h2
  have h3 : c.1.data.toList.length = c.1.size := by simp
  omega
/-- What is told of what was set. -/
theorem set_told {S V : ByteArray} {l m : List (ByteArray × ByteArray)} (h : setO S V l = some m) :
    valO m S = some [V] ∧ jnO m S = (V, true) ∧ m.length ≤ 40 ∧ goodL l = true ∧ goodL m = true ∧
    (∀ c ∈ l, valO l c.1 = some (valsOf c.1 l) ∧ valO m c.1 = some (valsOf c.1 m) ∧ valO [(S, V)] c.1 = some (valsOf c.1 [(S, V)]) ∧ (valsOf c.1 [(S, V)] = [] → valsOf c.1 m = valsOf c.1 l)) := by
  unfold setO at h
  split at h
  · rename_i hg
    split at h
    · cases h
    · rename_i hl
      have : m = setL S V l := (Option.some.inj h).symm
      subst this
      have hm := good_set hg.1 hg.2 (by omega)
      have hv : valO (setL S V l) S = some [V] := by unfold valO; rw [if_pos ⟨hm, (good_parts hg.2).1⟩, vals_set]
      refine ⟨hv, ?_, by omega, hg.1, hm, fun c hc => ?_⟩
      · unfold jnO
        rw [hv]
        show (joinS [V], decide (0 < [V].length)) = _
        have := joinS_first (l := [V]) (by simp)
        rw [show ([V] : List ByteArray).take 1 = [V] from rfl] at this
        rw [this]; rfl
      · have ht := (good_parts ((goodL_parts hg.1).2 c hc)).1
        have h1 : goodL [(S, V)] = true := by unfold goodL; simp [hg.2]
        refine ⟨by unfold valO; rw [if_pos ⟨hg.1, ht⟩], by unfold valO; rw [if_pos ⟨hm, ht⟩], by unfold valO; rw [if_pos ⟨h1, ht⟩], vals_stay⟩
  · cases h

end Go.Proofs.YtaplkbkpgdpbaaaDoor.Fqp
