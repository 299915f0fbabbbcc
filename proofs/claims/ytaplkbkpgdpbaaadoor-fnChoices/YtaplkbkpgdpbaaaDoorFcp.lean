/-
  The best choice is one of those that are offered, and offered alone it is the best one, too.
-/
import Derived.Test.YtaplkbkpgdpbaaaDoorBsi
namespace Go.Proofs.YtaplkbkpgdpbaaaDoor.Bst
open Go.RowKit
open Go.Proofs.YtaplkbkpgdpbaaaDoor.Fch
open Go.Proofs.YtaplkbkpgdpbaaaDoor.Och

theorem bestF_in (cs : List (ByteArray × Int)) : ∀ (l : List ByteArray) (b : ByteArray) (m : Int), bestF cs l b m = (b, m) ∨ ((bestF cs l b m).1 ∈ l ∧ (bestF cs l b m).2 = wOf cs (bestF cs l b m).1 ∧ m < (bestF cs l b m).2)
  | [], b, m => .inl rfl
  | o :: r, b, m => by
    rw [bestF]
    split
    · rename_i h
      rcases bestF_in cs r o (wOf cs o) with e | ⟨h1, h2, h3⟩
      · rw [e]; exact .inr ⟨by simp, rfl, h⟩
      · exact .inr ⟨List.mem_cons_of_mem _ h1, h2, by omega⟩
    · rcases bestF_in cs r b m with e | ⟨h1, h2, h3⟩
      · exact .inl e
      · exact .inr ⟨List.mem_cons_of_mem _ h1, h2, h3⟩

theorem best_offered {o : Option (List (ByteArray × Int))} {l : List ByteArray} (h : (bestB o l).2 = true) : (bestB o l).1 ∈ l ∧ bestB o [(bestB o l).1] = ((bestB o l).1, true) := by
  cases o with
  | none => exact absurd h (by simp [bestB])
  | some cs =>
    cases ha : areB l
    · exact absurd h (by simp [bestB, ha])
    · have e : bestB (some cs) l = ((bestF cs l ⟨#[]⟩ 0).1, decide (0 < (bestF cs l ⟨#[]⟩ 0).2)) := by
        show (if areB l = true then _ else _) = _
        rw [if_pos ha]
      rw [e] at h ⊢
      have hp : 0 < (bestF cs l ⟨#[]⟩ 0).2 := of_decide_eq_true h
      rcases bestF_in cs l ⟨#[]⟩ 0 with e2 | ⟨h1, h2, _⟩
      · rw [e2] at hp; exact absurd hp (by decide)
      · refine ⟨h1, ?_⟩
        have hB : areB [(bestF cs l ⟨#[]⟩ 0).1] = true := by
          unfold areB at ha ⊢
          rw [Bool.and_eq_true] at ha
          rw [Bool.and_eq_true]
          refine ⟨by simp, ?_⟩
          rw [List.all_eq_true] at ha ⊢
          intro x hx
          have : x = (bestF cs l ⟨#[]⟩ 0).1 := by simpa using hx
          subst this
          exact ha.2 _ h1
        generalize hG : bestF cs l ⟨#[]⟩ 0 = G at h1 h2 hp hB
        show (if areB [G.1] = true then ((bestF cs [G.1] ⟨#[]⟩ 0).1, decide (0 < (bestF cs [G.1] ⟨#[]⟩ 0).2)) else _) = _
        rw [if_pos hB]
        have e3 : bestF cs [G.1] ⟨#[]⟩ 0 = (G.1, wOf cs G.1) := by
          rw [bestF, if_pos (by omega), bestF]
        rw [e3]
        show (G.1, decide (0 < wOf cs G.1)) = _
        rw [← h2, decide_eq_true hp]

end Go.Proofs.YtaplkbkpgdpbaaaDoor.Bst
