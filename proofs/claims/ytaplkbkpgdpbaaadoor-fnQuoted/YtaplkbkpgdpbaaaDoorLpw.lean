/-
  Lists of parts: what is told of a list that is joined again, and of a quoted text twice.
-/
import Derived.Test.YtaplkbkpgdpbaaaDoorLpv
import Derived.Test.YtaplkbkpgdpbaaaDoorChc
import Derived.Test.YtaplkbkpgdpbaaaDoorQuo
namespace Go.Proofs.YtaplkbkpgdpbaaaDoor.Lpu
open Go.RowKit
open Go.Proofs.YtaplkbkpgdpbaaaDoor.Fbs
open Go.Proofs.YtaplkbkpgdpbaaaDoor.Tri
open Go.Proofs.YtaplkbkpgdpbaaaDoor.Lsp
open Go.Proofs.YtaplkbkpgdpbaaaDoor.Chc (Cl left_id right_id cl_trim)

theorem trim_id {l : List UInt8} (h : Cl l) : Lib.trimB l 32 = l := by
  unfold Lib.trimB
  rw [right_id h.2, left_id h.1]
def lsts (ps : List ByteArray) : List (List UInt8) := ps.map fun x => x.data.toList
def jnB (ps : List ByteArray) : ByteArray := ⟨(jn (lsts ps)).toArray⟩

theorem clean_mem {qs : List (List UInt8)} {x : ByteArray} (h : x ∈ clean qs) : x.size ≠ 0 ∧ ∃ q ∈ qs, x.data.toList = Lib.trimB q 32 := by
  unfold clean at h
  rw [List.mem_filter] at h
  obtain ⟨h1, h2⟩ := h
  rw [List.mem_map] at h1
  obtain ⟨q, hq, rfl⟩ := h1
  exact ⟨of_decide_eq_true h2, q, hq, rfl⟩
theorem clean_tot (qs : List (List UInt8)) : tot (lsts (clean qs)) ≤ tot qs := by
  induction qs with
  | nil => simp [clean, lsts, tot]
  | cons q qs ih =>
    have h := clean_cons q qs []
    rw [List.nil_append] at h
    rw [h]
    have e : ∀ a b : List (List UInt8), tot (a ++ b) = tot a + tot b := fun a b => by unfold tot; rw [List.map_append, List.sum_append]
    have e2 : tot (q :: qs) = q.length + 1 + tot qs := by unfold tot; rw [List.map_cons, List.sum_cons]
    have e3 : lsts (addT [] ⟨(Lib.trimB q 32).toArray⟩ ++ clean qs) = lsts (addT [] ⟨(Lib.trimB q 32).toArray⟩) ++ lsts (clean qs) := by unfold lsts; rw [List.map_append]
    rw [e3, e, e2]
    have : tot (lsts (addT [] ⟨(Lib.trimB q 32).toArray⟩)) ≤ q.length + 1 := by
      unfold addT
      split
      · simp [lsts, tot]
      · have := trim_len q
        simp [lsts, tot]; omega
    omega
theorem clean_self : ∀ (ps : List ByteArray), (∀ x ∈ ps, x.size ≠ 0 ∧ Cl x.data.toList) → clean (lsts ps) = ps
  | [], _ => rfl
  | x :: ps, h => by
    have hx := h x (by simp)
    have ih := clean_self ps (fun y hy => h y (by simp [hy]))
    have hc := clean_cons x.data.toList (lsts ps) []
    rw [List.nil_append, trim_id hx.2, ih] at hc
    show clean (x.data.toList :: lsts ps) = _
    rw [hc]
    unfold addT
    have e : (⟨x.data.toList.toArray⟩ : ByteArray) = x := by apply ByteArray.ext; simp
    rw [e, if_neg hx.1]; rfl

theorem list_again {s : ByteArray} {ps : List ByteArray} (h : listO s = some ps) : listO (jnB ps) = some ps := by
  unfold listO at h
  split at h
  · rename_i hs
    rw [listL_spl] at h
    cases hq : spl .out [] s.data.toList with
    | none => rw [hq] at h; cases h
    | some qs =>
      rw [hq] at h
      have : ps = clean qs := (Option.some.inj h).symm
      subst this
      by_cases h0 : clean qs = []
      · rw [h0]; rfl
      · have hts : ∀ x ∈ clean qs, x.size ≠ 0 ∧ Cl x.data.toList := fun x hx => by
          obtain ⟨h1, q, _, e⟩ := clean_mem hx
          exact ⟨h1, by rw [e]; exact cl_trim q⟩
        have hpt : ∀ p ∈ lsts (clean qs), Part p := by
          intro p hp
          unfold lsts at hp
          rw [List.mem_map] at hp
          obtain ⟨x, hx, rfl⟩ := hp
          obtain ⟨_, q, hqm, e⟩ := clean_mem hx
          rw [e]
          exact part_trim (spl_parts _ .out [] qs rfl hq q hqm)
        have hne : lsts (clean qs) ≠ [] := by unfold lsts; simpa using h0
        have hsp := spl_jn _ hne hpt
        have hln := jn_len _ hne
        have htot := clean_tot qs
        have hst := (spl_tot _ _ _ _ hq).1
        have hl : s.data.toList.length = s.size := by simp
        have hz : (jnB (clean qs)).size = (jn (lsts (clean qs))).length := by unfold jnB; show (jn (lsts (clean qs))).toArray.size = _; rw [List.size_toArray]
        have hd : (jnB (clean qs)).data.toList = jn (lsts (clean qs)) := by unfold jnB; simp
        have hpl : plainB (jnB (clean qs)).data.toList = true := by
          rw [hd]
          unfold plainB
          rw [List.all_eq_true]
          intro c hc
          rcases jn_mem _ c hc with rfl | ⟨p, hp, hcp⟩
          · rfl
          · unfold lsts at hp
            rw [List.mem_map] at hp
            obtain ⟨x, hx, rfl⟩ := hp
            obtain ⟨_, q, hqm, e⟩ := clean_mem hx
            rw [e] at hcp
            rcases spl_mem _ _ _ _ hq q hqm c (trim_mem hcp) with h | h
            · cases h
            · have := hs.1
              unfold plainB at this
              rw [List.all_eq_true] at this
              exact this c h
        unfold listO
        rw [if_pos ⟨hpl, by rw [hz]; simp at hst; omega⟩, listL_spl, hd, hsp]
        show some (clean (lsts (clean qs))) = _
        rw [clean_self _ hts]
  · cases h

/-- How long the parts are, together and with commas between them. -/
theorem jn_bound (s : ByteArray) : ((listO s).getD []).length ≤ 301 ∧ tot (lsts ((listO s).getD [])) ≤ 301 := by
  cases h : listO s with
  | none => exact ⟨Nat.zero_le _, Nat.zero_le _⟩
  | some ps =>
    show ps.length ≤ 301 ∧ tot (lsts ps) ≤ 301
    unfold listO at h
    split at h
    · rename_i hs
      rw [listL_spl] at h
      cases hq : spl .out [] s.data.toList with
      | none => rw [hq] at h; cases h
      | some qs =>
        rw [hq] at h
        have : ps = clean qs := (Option.some.inj h).symm
        subst this
        have h1 := clean_tot qs
        have h2 := (spl_tot _ _ _ _ hq).1
        have hl : s.data.toList.length = s.size := by simp
        have h3 : tot (lsts (clean qs)) ≤ 301 := by simp at h2; omega
        refine ⟨?_, h3⟩
        have h4 : ∀ l : List ByteArray, l.length ≤ tot (lsts l) := by
          intro l
          induction l with
          | nil => exact Nat.zero_le _
          | cons x l ih =>
            show _ ≤ ((x.data.toList :: lsts l).map fun p => p.length + 1).sum
            rw [List.map_cons, List.sum_cons, List.length_cons]
            have : tot (lsts l) = ((lsts l).map fun p => p.length + 1).sum := rfl
            omega
        exact Nat.le_trans (h4 _) h3
    · cases h

theorem jnB_one (ps : List ByteArray) (h : 0 < ps.length) : jnB (ps.take 1) = ps[0] := by
  cases ps with
  | nil => simp at h
  | cons x r => apply ByteArray.ext; simp [jnB, lsts, jn]
theorem jnB_first (ps : List ByteArray) (h : 0 < ps.length) : jnB [] ++ ps[0] = jnB (ps.take 1) := by
  rw [jnB_one ps h]
  apply ByteArray.ext; simp [jnB, lsts, jn]
theorem jnB_step (ps : List ByteArray) (j : Nat) (h : j < ps.length) (h0 : 0 < j) : (jnB (ps.take j) ++ (⟨#[44]⟩ : ByteArray)) ++ ps[j] = jnB (ps.take (j + 1)) := by
  have hne : lsts (ps.take j) ≠ [] := by
    intro e
    have := congrArg List.length e
    unfold lsts at this
    rw [List.length_map, List.length_take, List.length_nil] at this
    omega
  have e : lsts (ps.take (j + 1)) = lsts (ps.take j) ++ [ps[j].data.toList] := by
    unfold lsts
    rw [List.take_succ_eq_append_getElem h, List.map_append]; rfl
  unfold jnB
  rw [e, jn_snoc _ _ hne]
  apply ByteArray.ext
  simp
theorem tot_take (ps : List ByteArray) (j : Nat) : tot (lsts (ps.take j)) ≤ tot (lsts ps) := by
  have h : tot (lsts ps) = tot (lsts (ps.take j)) + tot (lsts (ps.drop j)) := by
    conv => lhs; rw [← List.take_append_drop j ps]
    unfold tot lsts
    rw [List.map_append, List.map_append, List.sum_append]
  omega
theorem jnB_size (ps : List ByteArray) (j : Nat) : (jnB (ps.take j)).size ≤ tot (lsts ps) := by
  have ht := tot_take ps j
  have hz : (jnB (ps.take j)).size = (jn (lsts (ps.take j))).length := by unfold jnB; show (jn (lsts (ps.take j))).toArray.size = _; rw [List.size_toArray]
  by_cases h : lsts (ps.take j) = []
  · rw [hz, h]; exact Nat.zero_le _
  · have := jn_len _ h
    omega
theorem at_size (ps : List ByteArray) (j : Nat) (h : j < ps.length) : ps[j].size ≤ tot (lsts ps) := by
  have h1 := tot_take ps (j + 1)
  have e : tot (lsts (ps.take (j + 1))) = tot (lsts (ps.take j)) + (ps[j].size + 1) := by
    unfold tot lsts
    rw [List.take_succ_eq_append_getElem h, List.map_append, List.map_append, List.sum_append]
    simp
  omega

end Go.Proofs.YtaplkbkpgdpbaaaDoor.Lpu
