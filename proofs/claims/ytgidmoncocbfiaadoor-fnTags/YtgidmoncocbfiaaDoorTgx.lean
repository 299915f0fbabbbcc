/-
  Pure: what TagsOf answers of a list's parts. Small walks: spec.l1In, impl.isBetween.
-/
import Derived.Test.YtgidmoncocbfiaaDoorTgb
import Derived.Test.YtgidmoncocbfiaaDoorTga
import Derived.Test.YtgidmoncocbfiaaDoorLsp
namespace Go.Proofs.YtgidmoncocbfiaaDoor.Tgx
open Go.RowKit
open Go.Proofs.YtgidmoncocbfiaaDoor.Fbs (ret_bool)
open Go.Proofs.YtgidmoncocbfiaaDoor.Tga Go.Proofs.YtgidmoncocbfiaaDoor.Tgb

theorem in_yes (n lo hi : Int) (w : World) (h1 : lo ≤ n) (h2 : n ≤ hi) : Calls Tryd.prog 26 #[.int .i64 n, .int .i64 lo, .int .i64 hi] w fun e w' => e = .returned (.bool true) ∧ w' = w := by
  go_enter Tryd.func26, Tryd.ntmps26
  go_wp2
  go_ret
  exact ⟨ret_bool (by first | rfl | exact decide_eq_true h2), rfl⟩
theorem in_no (n lo hi : Int) (w : World) (h1 : n < lo ∨ hi < n) : Calls Tryd.prog 26 #[.int .i64 n, .int .i64 lo, .int .i64 hi] w fun e w' => e = .returned (.bool false) ∧ w' = w := by
  by_cases h2 : n < lo
  · clear h1
    go_enter Tryd.func26, Tryd.ntmps26
    go_wp2
    go_ret
    exact ⟨rfl, rfl⟩
  · have h3 : hi < n := by omega
    clear h1
    go_enter Tryd.func26, Tryd.ntmps26
    go_wp2
    go_ret
    exact ⟨ret_bool (by first | rfl | exact decide_eq_false (by omega)), rfl⟩
theorem between_yes (lo n hi : Int) (w : World) (h1 : lo ≤ n) (h2 : n ≤ hi) : Calls Tryd.prog 24 #[.int .i64 lo, .int .i64 n, .int .i64 hi] w fun e w' => e = .returned (.bool true) ∧ w' = w := by
  go_enter Tryd.func24, Tryd.ntmps24
  go_wp2
  go_ret
  exact ⟨ret_bool (by first | rfl | exact decide_eq_true h2), rfl⟩
theorem between_no (lo n hi : Int) (w : World) (h1 : n < lo ∨ hi < n) : Calls Tryd.prog 24 #[.int .i64 lo, .int .i64 n, .int .i64 hi] w fun e w' => e = .returned (.bool false) ∧ w' = w := by
  by_cases h2 : n < lo
  · clear h1
    go_enter Tryd.func24, Tryd.ntmps24
    go_wp2
    go_ret
    exact ⟨rfl, rfl⟩
  · have h3 : hi < n := by omega
    clear h1
    go_enter Tryd.func24, Tryd.ntmps24
    go_wp2
    go_ret
    exact ⟨ret_bool (by first | rfl | exact decide_eq_false (by omega)), rfl⟩

def okAll (l : List ByteArray) : Bool := l.all fun x => (readT x).isSome
def outs (l : List ByteArray) : List (Bool × ByteArray) := l.filterMap readT
/-- The one part that stands for all tags. -/
def starB (l : List ByteArray) : Bool := decide (l.length = 1) && (((l[0]?).getD (⟨#[]⟩ : ByteArray)).toList == [42])
/-- 0: no list of tags; 1: the star; 2: tags. -/
def kindL (l : List ByteArray) : Nat := if 1 ≤ l.length ∧ l.length ≤ 20 then if starB l then 1 else if okAll l then 2 else 0 else 0
def kindR : Option (List ByteArray) → Nat
  | none => 0
  | some l => kindL l
def tagsR (o : Option (List ByteArray)) : List (Bool × ByteArray) := if kindR o = 2 then outs (o.getD []) else []
def oneR (o : Option (List ByteArray)) : Bool := decide (kindR o = 1)
def okR (o : Option (List ByteArray)) : Bool := decide (kindR o ≠ 0)
/-- What TagsOf answers. -/
def TagsP (w : World) (B : Nat) (e : Ending) (o : Option (List ByteArray)) : Prop := ∃ v, e = .returned (.tuple #[v, .bool (oneR o), .bool (okR o)]) ∧ tagsIn w B v (tagsR o)

theorem kind_none : kindR none = 0 := rfl
theorem kind_len {l : List ByteArray} (h : ¬ (1 ≤ l.length ∧ l.length ≤ 20)) : kindR (some l) = 0 := by show kindL l = _; unfold kindL; rw [if_neg h]
theorem kind_star {l : List ByteArray} (h1 : 1 ≤ l.length) (h2 : l.length ≤ 20) (h : starB l = true) : kindR (some l) = 1 := by show kindL l = _; unfold kindL; rw [if_pos ⟨h1, h2⟩, if_pos h]
theorem kind_bad {l : List ByteArray} (h : starB l = false) (hb : okAll l = false) : kindR (some l) = 0 := by
  show kindL l = _
  unfold kindL
  rw [h, hb]
  split <;> rfl
theorem kind_tags {l : List ByteArray} (h1 : 1 ≤ l.length) (h2 : l.length ≤ 20) (h : starB l = false) (hb : okAll l = true) : kindR (some l) = 2 := by
  show kindL l = _
  unfold kindL
  rw [if_pos ⟨h1, h2⟩, h, hb]; rfl
theorem tagsP_zero {w : World} {B : Nat} {o : Option (List ByteArray)} (h : kindR o = 0) : TagsP w B (.returned (.tuple #[.slice none 0 0, .bool false, .bool false])) o := by
  refine ⟨_, by unfold oneR okR; rw [h]; rfl, ?_⟩
  unfold tagsR
  rw [h]
  exact tagsIn.nil _ _
theorem tagsP_star {w : World} {B : Nat} {o : Option (List ByteArray)} (h : kindR o = 1) : TagsP w B (.returned (.tuple #[.slice none 0 0, .bool true, .bool true])) o := by
  refine ⟨_, by unfold oneR okR; rw [h]; rfl, ?_⟩
  unfold tagsR
  rw [h]
  exact tagsIn.nil _ _
theorem tagsP_tags {w : World} {B : Nat} {l : List ByteArray} {v : Value} (h : kindR (some l) = 2) (hv : tagsIn w B v (outs l)) : TagsP w B (.returned (.tuple #[v, .bool false, .bool true])) (some l) := by
  refine ⟨_, by unfold oneR okR; rw [h]; rfl, ?_⟩
  unfold tagsR
  rw [h]
  exact hv
theorem outs_some {l : List ByteArray} {i : Nat} (h : i < l.length) {c : Bool × ByteArray} (hc : readT l[i] = some c) : outs (l.take (i + 1)) = outs (l.take i) ++ [c] := by
  unfold outs
  rw [List.take_succ_eq_append_getElem h, List.filterMap_append]
  simp [hc]
theorem ok_not {l : List ByteArray} {i : Nat} (h : i < l.length) (hc : readT l[i] = none) : okAll l = false := by
  unfold okAll
  rw [List.all_eq_false]
  exact ⟨l[i], List.getElem_mem h, by rw [hc]; simp⟩
theorem ok_yes {l : List ByteArray} (h : ∀ j, (hj : j < l.length) → (readT l[j]).isSome = true) : okAll l = true := by
  unfold okAll
  rw [List.all_eq_true]
  intro x hx
  obtain ⟨j, hj, rfl⟩ := List.getElem_of_mem hx
  exact h j hj
theorem outs_len (l : List ByteArray) : (outs l).length ≤ l.length := List.length_filterMap_le _ _

/-! The parts of a list are no longer than it. -/

theorem dropW_le (p : UInt8 → Bool) : ∀ l : List UInt8, (l.dropWhile p).length ≤ l.length
  | [] => Nat.le_refl _
  | c :: r => by
    rw [List.dropWhile_cons]
    split
    · have := dropW_le p r; simp; omega
    · exact Nat.le_refl _
theorem trim_le (s : ByteArray) : (Tri.trimS s).size ≤ s.size := by
  show ((Lib.trimB s.data.toList 32).toArray).size ≤ _
  rw [List.size_toArray]
  unfold Lib.trimB Lib.trimLeftB Lib.trimRightB
  have h1 := dropW_le (fun x => x == 32) (List.reverse (List.dropWhile (fun x => x == 32) s.data.toList.reverse))
  have h2 := dropW_le (fun x => x == 32) s.data.toList.reverse
  have h3 : s.data.toList.length = s.size := by simp
  simp only [List.length_reverse] at h1 h2
  omega
theorem add_le {n : Nat} {acc : List ByteArray} {x : ByteArray} (h : ∀ y ∈ acc, y.size ≤ n) (hx : x.size ≤ n) : ∀ y ∈ Lsp.addT acc x, y.size ≤ n := by
  intro y hy
  unfold Lsp.addT at hy
  split at hy
  · exact h y hy
  · rcases List.mem_append.1 hy with hy | hy
    · exact h y hy
    · have : y = x := by simpa using hy
      subst this; exact hx
theorem part_trim (s : ByteArray) (a b : Nat) : (Tri.trimS (s.extract a b)).size ≤ s.size := by
  have := trim_le (s.extract a b)
  rw [ByteArray.size_extract] at this
  omega
theorem listF_sz (s : ByteArray) : ∀ (f i fr : Nat) (op : Bool) (acc l : List ByteArray), Lsp.listF s f i fr op acc = some l → (∀ x ∈ acc, x.size ≤ s.size) → ∀ x ∈ l, x.size ≤ s.size
  | 0, _, _, _, _, _, h, _ => by cases h
  | f + 1, i, fr, op, acc, l, h, ha => by
    simp only [Lsp.listF] at h
    split at h
    · split at h
      · exact listF_sz s f _ _ _ _ _ h (add_le ha (part_trim s _ _))
      · split at h
        · exact listF_sz s f _ _ _ _ _ h ha
        · split at h
          · split at h
            · cases h
            · exact listF_sz s f _ _ _ _ _ h ha
          · exact listF_sz s f _ _ _ _ _ h ha
    · split at h
      · cases h
      · cases h
        exact add_le ha (part_trim s _ _)
theorem part_le {s : ByteArray} {l : List ByteArray} (hs : s.size ≤ 2000000) (h : Lsp.listO s = some l) : ∀ x ∈ l, x.size ≤ 2000000 := by
  unfold Lsp.listO at h
  split at h
  · intro x hx
    exact Nat.le_trans (listF_sz s _ _ _ _ _ _ h (fun _ h => by cases h) x hx) hs
  · cases h

open Go.Proofs.YtgidmoncocbfiaaDoor.Mrk (TV RowT tv_of) in
theorem one_part {w : World} {aP : Option Addr} {x : ByteArray} {lo hi : Nat} (hTV : TV w aP [x] lo hi) : ∃ g, aP = some ⟨g, 0, none⟩ ∧ g < w.heap.size ∧ w.cell? ⟨g, 0, none⟩ = some (.string x) := by
  rcases hTV with h | ⟨g, h1, _, _, h4⟩
  · cases h
  · exact ⟨g, h1, h4.1, h4.2.2 0 _ rfl⟩
open Go.Proofs.YtgidmoncocbfiaaDoor.Mrk (TV RowT tv_of) in
theorem parts_row {w : World} {aP : Option Addr} {l : List ByteArray} {lo hi : Nat} (hn : 1 ≤ l.length) (hTV : TV w aP l lo hi) : ∃ g, aP = some ⟨g, 0, none⟩ ∧ g < w.heap.size ∧ ∀ j, (h : j < l.length) → w.cell? ⟨g, j, none⟩ = some (.string l[j]) := by
  rcases hTV with h | ⟨g, h1, _, _, h4⟩
  · subst h; simp at hn
  · exact ⟨g, h1, h4.1, fun j h => h4.2.2 j _ (List.getElem?_eq_getElem h)⟩
theorem star_one {l : List ByteArray} (h : l.length = 1) (hs : starB l = false) : ((l[0]'(by omega)).toList == [42]) = false := by
  unfold starB at hs
  rw [decide_eq_true h, Bool.true_and] at hs
  have e : ((l[0]?).getD (⟨#[]⟩ : ByteArray)) = l[0]'(by omega) := by rw [List.getElem?_eq_getElem (by omega)]; rfl
  rwa [e] at hs

end Go.Proofs.YtgidmoncocbfiaaDoor.Tgx
