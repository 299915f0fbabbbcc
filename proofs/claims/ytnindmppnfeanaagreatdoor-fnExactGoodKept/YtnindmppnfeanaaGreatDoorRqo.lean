/-
  Walks: laws' szRequest, toRequest, eqRequest; a request among a law's arguments, opened.
-/
import Derived.Test.YtnindmppnfeanaaGreatDoorFds
import Derived.Lib.SmallJoins
namespace Go.Proofs.YtnindmppnfeanaaGreatDoor.Rqo
open Go.RowKit
open Go.Proofs.YtnindmppnfeanaaGreatDoor.Fbs
open Go.Proofs.YtnindmppnfeanaaGreatDoor.Fdb
open Go.Proofs.YtnindmppnfeanaaGreatDoor.Fds
open Go.Proofs.YtnindmppnfeanaaGreatDoor.Mrk (same_text)

theorem array4 {α : Type} {cs : Array α} (h : cs.size = 4) : ∃ c0 c1 c2 c3, cs = #[c0, c1, c2, c3] := by
  obtain ⟨l⟩ := cs
  match l, h with
  | [c0, c1, c2, c3], _ => exact ⟨c0, c1, c2, c3, rfl⟩
theorem list4 {α : Type} {l : List α} (h : l.length = 4) : ∃ c0 c1 c2 c3, l = [c0, c1, c2, c3] := by
  match l, h with
  | [c0, c1, c2, c3], _ => exact ⟨c0, c1, c2, c3, rfl⟩
theorem cellsL : Tryz.prog.cellsOf 49 = 1 := by kernel_rfl

/-- What a size tells of a request. -/
def ShortR (M T B : ByteArray) (l : List (ByteArray × ByteArray)) : Prop := M.size ≤ 1048576 ∧ T.size ≤ 1048576 ∧ B.size ≤ 1048576 ∧ l.length ≤ 1048576 ∧ ∀ j, (hj : j < l.length) → l[j].1.size ≤ 1048576 ∧ l[j].2.size ≤ 1048576

end Go.Proofs.YtnindmppnfeanaaGreatDoor.Rqo
