/-
  Lists of parts, by a machine of three states: what is told of parts that are joined again.
-/
import Derived.Test.YtgidmoncocbfiaaDoorLsp
namespace Go.Proofs.YtgidmoncocbfiaaDoor.Lpu
open Go.RowKit
open Go.Proofs.YtgidmoncocbfiaaDoor.Fbs
open Go.Proofs.YtgidmoncocbfiaaDoor.Tri
open Go.Proofs.YtgidmoncocbfiaaDoor.Lsp

/-- Outside quotes, within, behind a backslash. -/
inductive St where | out | inn | esc
deriving DecidableEq
def step : St → UInt8 → St
  | .out, c => if c.toNat = 34 then .inn else .out
  | .inn, c => if c.toNat = 34 then .out else if c.toNat = 92 then .esc else .inn
  | .esc, _ => .inn
def spl : St → List UInt8 → List UInt8 → Option (List (List UInt8))
  | q, cur, [] => if q = .out then some [cur] else none
  | q, cur, c :: r => if q = .out ∧ c.toNat = 44 then (spl .out [] r).map (cur :: ·) else spl (step q c) (cur ++ [c]) r

/-- Parts that are not empty, without blanks at their ends. -/
def clean (ps : List (List UInt8)) : List ByteArray := (ps.map fun p => (⟨(Lib.trimB p 32).toArray⟩ : ByteArray)).filter fun x => decide (x.size ≠ 0)
theorem clean_cons (p : List UInt8) (ps : List (List UInt8)) (acc : List ByteArray) : acc ++ clean (p :: ps) = addT acc ⟨(Lib.trimB p 32).toArray⟩ ++ clean ps := by
  unfold clean addT
  rw [List.map_cons, List.filter_cons]
  by_cases h : (⟨(Lib.trimB p 32).toArray⟩ : ByteArray).size = 0
  · rw [if_pos h, if_neg (by simp [h])]
  · rw [if_neg h, if_pos (by simp [h])]; simp

theorem drop_at (s : ByteArray) (i : Nat) (h : i < s.size) : s.data.toList.drop i = at0 s i :: s.data.toList.drop (i + 1) := by
  have hl : i < s.data.toList.length := by simpa using h
  rw [List.drop_eq_getElem_cons hl]
  unfold at0
  rw [List.getElem?_eq_getElem hl, Option.getD_some]
def seg (s : ByteArray) (fr i : Nat) : List UInt8 := (s.extract fr i).data.toList
theorem seg_eq (s : ByteArray) (fr i : Nat) : seg s fr i = (s.data.toList.take i).drop fr := by
  unfold seg
  simp [List.drop_take]
theorem seg_snoc (s : ByteArray) (fr i : Nat) (hf : fr ≤ i) (h : i < s.size) : seg s fr (i + 1) = seg s fr i ++ [at0 s i] := by
  have hl : i < s.data.toList.length := by simpa using h
  rw [seg_eq, seg_eq, List.take_succ_eq_append_getElem hl, List.drop_append_of_le_length (by rw [List.length_take]; omega)]
  unfold at0
  rw [List.getElem?_eq_getElem hl, Option.getD_some]
theorem seg_nil (s : ByteArray) (i : Nat) (_h : i ≤ s.size) : seg s i i = [] := by
  rw [seg_eq, List.drop_eq_nil_iff, List.length_take]
  omega
theorem trim_seg (s : ByteArray) (fr i : Nat) : trimS (s.extract fr i) = ⟨(Lib.trimB (seg s fr i) 32).toArray⟩ := rfl

theorem map_acc (o : Option (List (List UInt8))) (p : List UInt8) (acc : List ByteArray) : (o.map (p :: ·)).map (fun ps => acc ++ clean ps) = o.map (fun ps => addT acc ⟨(Lib.trimB p 32).toArray⟩ ++ clean ps) := by
  cases o with
  | none => rfl
  | some ps => simp [clean_cons]

theorem list_spl (s : ByteArray) : ∀ (f i fr : Nat) (op : Bool) (acc : List ByteArray), s.size + 1 ≤ i + f → i ≤ s.size → fr ≤ i →
    listF s f i fr op acc = (spl (if op then .inn else .out) (seg s fr i) (s.data.toList.drop i)).map (fun ps => acc ++ clean ps) := by
  intro f
  induction f with
  | zero => intro i fr op acc h1 h2; omega
  | succ f ih =>
    intro i fr op acc h1 h2 h3
    by_cases hi : i < s.size
    · rw [drop_at s i hi]
      have hs := seg_snoc s fr i h3 hi
      cases op
      · by_cases h44 : (at0 s i).toNat = 44
        · rw [listF_comma hi h44, ih _ _ _ _ (by omega) (by omega) (Nat.le_refl _), trim_seg]
          simp only [spl, Bool.false_eq_true, if_false]
          rw [if_pos ⟨trivial, h44⟩, seg_nil s (i + 1) (by omega), map_acc]
        · by_cases h34 : (at0 s i).toNat = 34
          · rw [listF_quote hi h34, ih _ _ _ _ (by omega) (by omega) (by omega), hs]
            simp only [spl, step, Bool.not_false, if_true, Bool.false_eq_true, if_false]
            rw [if_neg (by omega), if_pos h34]
          · rw [listF_one hi (by omega) h34 (by simp), ih _ _ _ _ (by omega) (by omega) (by omega), hs]
            simp only [spl, step, Bool.false_eq_true, if_false]
            rw [if_neg (by omega), if_neg h34]
      · by_cases h34 : (at0 s i).toNat = 34
        · rw [listF_quote hi h34, ih _ _ _ _ (by omega) (by omega) (by omega), hs]
          simp only [spl, step, Bool.not_true, if_true, Bool.false_eq_true, if_false]
          rw [if_neg (by simp), if_pos h34]
        · by_cases h92 : (at0 s i).toNat = 92
          · by_cases hc : i + 1 = s.size
            · rw [listF_cut hc h92, List.drop_eq_nil_of_le (by simp; omega)]
              simp only [spl, step, if_true]
              rw [if_neg (by simp), if_neg h34, if_pos h92]
              rfl
            · rw [listF_esc (by omega) h92, ih _ _ _ _ (by omega) (by omega) (by omega), drop_at s (i + 1) (by omega), seg_snoc s fr (i + 1) (by omega) (by omega), hs]
              simp only [spl, step, if_true]
              rw [if_neg (by simp), if_neg h34, if_pos h92, if_neg (by simp)]
          · rw [listF_one hi (by simp) h34 (by omega), ih _ _ _ _ (by omega) (by omega) (by omega), hs]
            simp only [spl, step, if_true]
            rw [if_neg (by simp), if_neg h34, if_neg h92]
    · obtain rfl : i = s.size := by omega
      rw [List.drop_eq_nil_of_le (by simp)]
      cases op
      · rw [listF_end (Nat.le_refl _), trim_seg]
        simp only [spl, Bool.false_eq_true, if_false, if_true, Option.map_some]
        rw [clean_cons]
        simp [clean]
      · rw [listF_open (Nat.le_refl _)]
        simp [spl]

theorem listL_spl (s : ByteArray) : listL s = (spl .out [] s.data.toList).map clean := by
  unfold listL
  rw [list_spl s _ 0 0 false [] (by omega) (by omega) (by omega), seg_nil s 0 (by omega), List.drop_zero]
  simp

end Go.Proofs.YtgidmoncocbfiaaDoor.Lpu
