/-
  Walk: spec.l6Join.
-/
import Derived.Test.YtelpmkbjegimpaaDoorSpj
import Derived.Deep.QuietTactic
import Derived.BigQuiet
namespace Go.Proofs.YtelpmkbjegimpaaDoor.Spb
open Go.RowKit
open Go.Proofs.YtelpmkbjegimpaaDoor.Spp (row_at goodL goodL_parts)

theorem spans_drew {w : World} {B : Nat} {v : Value} {l : List (Int × Int)} (h : spansIn w B v l) (m : Nat) : spansIn (w.drewN m) B v l := by
  refine ⟨h.1, ?_⟩
  rcases h.2 with hn | ⟨g, cap, cur, rfl, hbg, hg, rest⟩
  · exact .inl hn
  · exact .inr ⟨g, cap, cur, rfl, hbg, hg, rest⟩
theorem mstep_nil (gap : Int) (s : Int × Int) : mstep gap [] s = [s] := rfl
theorem mstep_more (gap : Int) (D : List (Int × Int)) (t s : Int × Int) : mstep gap (D ++ [t]) s = if s.1 ≤ t.2 + gap then (if t.2 < s.2 then D ++ [(t.1, s.2)] else D ++ [t]) else D ++ [t] ++ [s] := by
  unfold mstep
  rw [List.getLast?_append]
  simp
theorem fold_bd {gap : Int} {l : List (Int × Int)} (h : ∀ c ∈ l, 0 ≤ c.1 ∧ c.1 < c.2 ∧ c.2 ≤ 1000000) : ∀ i, i ≤ l.length → ∀ c ∈ (l.take i).foldl (mstep gap) [], 0 ≤ c.2 ∧ c.2 ≤ 1000000
  | 0, _, c, hc => by simp at hc
  | i + 1, hi, c, hc => by
    rw [join_take l gap i hi] at hc
    have ih := fold_bd (gap := gap) h i (by omega)
    have hs := h l[i] (List.getElem_mem _)
    rcases List.eq_nil_or_concat ((l.take i).foldl (mstep gap) []) with e | ⟨D, t, e⟩
    · rw [e, mstep_nil] at hc
      have : c = l[i] := by simpa using hc
      rw [this]; omega
    · rw [List.concat_eq_append] at e
      rw [e] at ih
      rw [e, mstep_more] at hc
      have hD : ∀ x ∈ D, 0 ≤ x.2 ∧ x.2 ≤ 1000000 := fun x hx => ih x (by simp [hx])
      have ht := ih t (by simp)
      split at hc
      · split at hc
        · rw [List.mem_append] at hc
          rcases hc with hc | hc
          · exact hD c hc
          · have : c = (t.1, l[i].2) := by simpa using hc
            rw [this]; exact ⟨by show 0 ≤ l[i].2; omega, by show l[i].2 ≤ _; omega⟩
        · rw [List.mem_append] at hc
          rcases hc with hc | hc
          · exact hD c hc
          · have : c = t := by simpa using hc
            rw [this]; exact ht
      · rw [List.mem_append, List.mem_append] at hc
        rcases hc with (hc | hc) | hc
        · exact hD c hc
        · have : c = t := by simpa using hc
          rw [this]; exact ht
        · have : c = l[i] := by simpa using hc
          rw [this]; omega
theorem fold_len {gap : Int} {l : List (Int × Int)} : ∀ i, i ≤ l.length → ((l.take i).foldl (mstep gap) []).length ≤ i
  | 0, _ => by simp
  | i + 1, hi => by
    rw [join_take l gap i hi]
    have ih := fold_len (gap := gap) (l := l) i (by omega)
    rcases List.eq_nil_or_concat ((l.take i).foldl (mstep gap) []) with e | ⟨D, t, e⟩
    · rw [e, mstep_nil]; simp
    · rw [List.concat_eq_append] at e
      rw [e] at ih ⊢
      rw [mstep_more]
      rw [List.length_append] at ih
      split
      · split <;> (rw [List.length_append]; simp at ih ⊢; omega)
      · rw [List.length_append, List.length_append]; simp at ih ⊢; omega
theorem spans_set {w : World} {B g n cap : Nat} {D : List (Int × Int)} {F T : Int} (h : spansIn w B (.slice (some ⟨g, 0, none⟩) n cap) (D ++ [(F, T)])) (T' : Int) : spansIn (w.setCell ⟨g, D.length * 2 + 1, none⟩ (.int .i64 T')) B (.slice (some ⟨g, 0, none⟩) n cap) (D ++ [(F, T')]) := by
  unfold spansIn at h ⊢
  have hn : n = (D ++ [(F, T)]).length := by
    rcases h.2 with ⟨h', _⟩ | ⟨_, _, _, h', _⟩
    · cases h'
    · injection h'
  rw [← hn] at h
  have := (World.ownsRow.stored h (D.length * 2 + 1) (.int .i64 T')).1
  rw [show (D ++ [(F, T')]).length = n by rw [hn]; simp]
  rw [flat_snoc, List.set_append_right _ _ (by rw [flat_len]; omega), flat_len, show D.length * 2 + 1 - D.length * 2 = 1 by omega] at this
  rw [flat_snoc]
  exact this
theorem src_none {l : List (Int × Int)} {k : Nat} (w : World) (ad : Addr) (m c : Nat) (hk : l.length ≤ k) (hm : m = l.length - k) : SrcP w (.slice (some ad) m c) (l.drop k) :=
  .inr ⟨ad, c, by rw [List.length_drop, hm], fun j u hj => by rw [List.drop_eq_nil_of_le hk] at hj; simp [flatP] at hj⟩
theorem bdrewN {R : Nat} {W w : World} (h : Below R W w) (n : Nat) : Below R W (w.drewN n) := ⟨h.os, h.tape, h.output, h.size, h.block⟩
/-- What a list of the call's own looks like. -/
theorem spans_form {w : World} {B : Nat} {v : Value} {l : List (Int × Int)} (h : spansIn w B v l) : (v = .slice none 0 0 ∧ l = []) ∨ ∃ g cap, v = .slice (some ⟨g, 0, none⟩) l.length cap ∧ B ≤ g ∧ g < w.heap.size ∧ l.length ≤ cap ∧ ∀ i, (hi : i < l.length) → w.cell? ⟨g, i * 2, none⟩ = some (.int .i64 l[i].1) ∧ w.cell? ⟨g, i * 2 + 1, none⟩ = some (.int .i64 l[i].2) := by
  have hh := h
  rcases h.2 with ⟨rfl, h0⟩ | ⟨g, cap, cur, rfl, hbg, hg, hnc, _⟩
  · exact .inl ⟨rfl, by simpa using h0⟩
  · refine .inr ⟨g, cap, rfl, hbg, (Array.getElem?_eq_some_iff.1 hg).1, hnc, fun i hi => ?_⟩
    obtain ⟨f1, f2⟩ := flat_at l i l[i] (List.getElem?_eq_getElem hi)
    have e1 := World.ownsRow.cells hh (g := g) rfl (i * 2) _ f1
    have e2 := World.ownsRow.cells hh (g := g) rfl (i * 2 + 1) _ f2
    rw [Addr.add_lit, Nat.zero_add] at e1 e2
    exact ⟨e1, e2⟩

end Go.Proofs.YtelpmkbjegimpaaDoor.Spb
