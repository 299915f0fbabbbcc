/-
  A scope whose run jumps to several labels: for each label what holds when the run comes there, and a number that each way from label to label makes less. No function of the program.
-/
import Derived.Scope
namespace Go.Proofs.YtlgjgdpalflmfaaDoor.Hop
open Go

/-- What is asked at the end of a part of the scope c: at a jump to a label of c, that label's J; at a jump elsewhere there is no way on; at all other ends Q. -/
def ends (c : Code) (J : Nat → Act → World → Prop) (Q : Exit → Act → World → Prop) (e : Exit) (a : Act) (w : World) : Prop :=
  match e with
  | .goto l => (findLabel c l).isSome = true ∧ J l a w
  | e => Q e a w

section
variable {P : Program} {Q : Exit → Act → World → Prop}

theorem scope_hops {c : Code} {a : Act} {w : World} (J : Nat → Act → World → Prop) (meas : Nat → Act → World → Nat)
    (first : c.wp P (ends c J Q) a w)
    (pass : ∀ l rest, findLabel c l = some rest → ∀ a w, J l a w → rest.wp P (ends c (fun l' a' w' => J l' a' w' ∧ meas l' a' w' < meas l a w) Q) a w) :
    (Code.scope c).wp P Q a w := by
  intro b k cs
  have at_label : ∀ (l : Nat) (rest : Code), findLabel c l = some rest → gotoIn l (.inScope c :: k) = some (.code rest :: .inScope c :: k) := fun l rest h => by
    simp [gotoIn, h]
  -- from a label on, by the number
  have from_label : ∀ (n l : Nat) (rest : Code), findLabel c l = some rest → ∀ a w, meas l a w ≤ n → J l a w →
      ∃ e a' w', Q e a' w' ∧ Arrives P (lone (b.at a (.code rest :: .inScope c :: k)) cs w) b k cs e a' w' := by
    intro n
    induction n with
    | zero =>
      intro l rest hr a w hn hJ
      obtain ⟨e, a₁, w₁, hq, harr⟩ := pass l rest hr a w hJ b (.inScope c :: k) cs
      cases e with
      | goto l' => exact absurd hq.2.2 (by omega)
      | normal => exact ⟨_, a₁, w₁, hq, Steps.trans harr (.one step_inScope)⟩
      | exit id => exact ⟨_, a₁, w₁, hq, fun k' hk => harr k' (by simp [exitTo, hk])⟩
      | ret => exact ⟨_, a₁, w₁, hq, harr⟩
      | panic ch => exact ⟨_, a₁, w₁, hq, harr⟩
      | outgrown => exact ⟨_, a₁, w₁, hq, harr⟩
    | succ n ih =>
      intro l rest hr a w hn hJ
      obtain ⟨e, a₁, w₁, hq, harr⟩ := pass l rest hr a w hJ b (.inScope c :: k) cs
      cases e with
      | goto l' =>
        obtain ⟨hs, hJ', hlt⟩ := hq
        obtain ⟨rest', hr'⟩ := Option.isSome_iff_exists.1 hs
        obtain ⟨e₂, a₂, w₂, hq₂, harr₂⟩ := ih l' rest' hr' a₁ w₁ (by omega) hJ'
        exact ⟨e₂, a₂, w₂, hq₂, .of_steps (harr _ (at_label l' rest' hr')) harr₂⟩
      | normal => exact ⟨_, a₁, w₁, hq, Steps.trans harr (.one step_inScope)⟩
      | exit id => exact ⟨_, a₁, w₁, hq, fun k' hk => harr k' (by simp [exitTo, hk])⟩
      | ret => exact ⟨_, a₁, w₁, hq, harr⟩
      | panic ch => exact ⟨_, a₁, w₁, hq, harr⟩
      | outgrown => exact ⟨_, a₁, w₁, hq, harr⟩
  obtain ⟨e, a₁, w₁, hq, harr⟩ := first b (.inScope c :: k) cs
  cases e with
  | goto l' =>
    obtain ⟨hs, hJ'⟩ := hq
    obtain ⟨rest', hr'⟩ := Option.isSome_iff_exists.1 hs
    obtain ⟨e₂, a₂, w₂, hq₂, harr₂⟩ := from_label _ l' rest' hr' a₁ w₁ (Nat.le_refl _) hJ'
    exact ⟨e₂, a₂, w₂, hq₂, .of_steps (.head step_scope (harr _ (at_label l' rest' hr'))) harr₂⟩
  | normal => exact ⟨_, a₁, w₁, hq, .head step_scope (Steps.trans harr (.one step_inScope))⟩
  | exit id => exact ⟨_, a₁, w₁, hq, fun k' hk => .head step_scope (harr k' (by simp [exitTo, hk]))⟩
  | ret => exact ⟨_, a₁, w₁, hq, .of_steps (.one step_scope) harr⟩
  | panic ch => exact ⟨_, a₁, w₁, hq, .of_steps (.one step_scope) harr⟩
  | outgrown => exact ⟨_, a₁, w₁, hq, .of_steps (.one step_scope) harr⟩
end

end Go.Proofs.YtlgjgdpalflmfaaDoor.Hop
