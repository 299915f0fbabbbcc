/-
  Walks: the laws' own helpers for an unchunk (szUnchunk, toUnchunk, eqUnchunk); two unchunks compared; impl.GoodUnchunk, spec.GoodUnchunk.
-/
import Derived.Test.YtimfcbjgoilnpaaDoorCqr
import Derived.Test.YtimfcbjgoilnpaaDoorFep
namespace Go.Proofs.YtimfcbjgoilnpaaDoor.Unk
open Go.RowKit
open Go.Proofs.YtimfcbjgoilnpaaDoor.Hex
open Go.Proofs.YtimfcbjgoilnpaaDoor.Rkb (rcL len_eq)
open Go.Proofs.YtimfcbjgoilnpaaDoor.Cqs (rcS rcQ rcC implRead_any)

theorem sz_yes (B R : ByteArray) (d g : Bool) (w : World) (h : B.size + R.size ≤ 1048576) :
    Calls Tryd.prog 19 #[.agg #[.string B, .string R, .bool d, .bool g], .int .i64 1048576] w fun e w' => e = .returned (.int .i64 (1048576 - (B.size : Int) - (R.size : Int))) ∧ Below w.heap.size w w' := by
  go_enter Tryd.func19, Tryd.ntmps19
  go_wp2
  go_ret
  exact ⟨rfl, (Below.refl _ _).alloc (Nat.le_refl _) _⟩
theorem sz_no (B R : ByteArray) (d g : Bool) (w : World) (hB : B.size ≤ maxLen) (hR : R.size ≤ maxLen) (h : ¬ B.size + R.size ≤ 1048576) :
    Calls Tryd.prog 19 #[.agg #[.string B, .string R, .bool d, .bool g], .int .i64 1048576] w fun e w' => e = .returned (.int .i64 (-1)) ∧ Below w.heap.size w w' := by
  unfold maxLen at hB hR
  rcases (show 1048576 < B.size ∨ (B.size ≤ 1048576 ∧ 1048576 < B.size + R.size) from by omega) with h1 | ⟨h0, h1⟩
  all_goals
    go_enter Tryd.func19, Tryd.ntmps19
    go_wp2
    go_ret
    exact ⟨rfl, (Below.refl _ _).alloc (Nat.le_refl _) _⟩
theorem to_any (B R : ByteArray) (d g : Bool) (w : World) :
    Calls Tryd.prog 21 #[.agg #[.string B, .string R, .bool d, .bool g]] w fun e w' => e = .returned (.agg #[.string B, .string R, .bool d, .bool g]) ∧ Below w.heap.size w w' := by
  go_enter Tryd.func21, Tryd.ntmps21
  go_wp2
  exact bodyPost_ret (v := .agg #[.string B, .string R, .bool d, .bool g]) (by simp [results, Tryd.results21, go_sem]) rfl ⟨rfl, by repeat (first | exact Below.refl _ _ | refine Below.alloc ?_ (by simp <;> omega) _ | refine Below.setCell ?_ (by simp <;> omega) _)⟩
/-- eqUnchunk of one unchunk twice. -/
theorem eq_same (B R : ByteArray) (d g : Bool) (w : World) :
    Calls Tryd.prog 25 #[.agg #[.string B, .string R, .bool d, .bool g], .agg #[.string B, .string R, .bool d, .bool g]] w fun e w' => e = .returned (.bool true) ∧ Below w.heap.size w w' := by
  have q1 : (B.toList == B.toList) = true := by simp
  have q2 : (R.toList == R.toList) = true := by simp
  go_enter Tryd.func25, Tryd.ntmps25
  cases d <;> cases g
  all_goals
    go_wp2
    go_ret
    exact ⟨rfl, ((Below.refl _ _).alloc (Nat.le_refl _) _).alloc (by simp) _⟩

def eqU (B R B2 R2 : ByteArray) (d d2 g g2 : Bool) : Bool := (B.toList == B2.toList) && ((R.toList == R2.toList) && ((d == d2) && (g == g2)))
set_option maxHeartbeats 1600000 in
theorem unchunk_eq (B R B2 R2 : ByteArray) (d d2 g g2 : Bool) (wx : World) :
    (binOp .eql 36 (.agg #[.string B, .string R, .bool d, .bool g]) (.agg #[.string B2, .string R2, .bool d2, .bool g2])).run Tryd.prog wx = .ok (.bool (eqU B R B2 R2 d d2 g g2)) wx := by
  unfold eqU
  cases h1 : B.toList == B2.toList
  · simp [go_sem, h1]
  · cases h2 : R.toList == R2.toList
    · simp [go_sem, h1, h2]
    · cases h3 : d == d2
      · simp [go_sem, h1, h2, h3]
      · cases h4 : g == g2
        · simp [go_sem, h1, h2, h3, h4]
        · simp [go_sem, h1, h2, h3, h4]

/-- Whether an unchunk is good. -/
def gU (B R : ByteArray) (d g : Bool) : Bool :=
  decide (R.size ≤ 4000) && (if g then eqU B R ⟨#[]⟩ ⟨#[]⟩ d false g true else if d then decide (B.size ≤ 300) else (B.toList == []) && (rcC R == 1))

end Go.Proofs.YtimfcbjgoilnpaaDoor.Unk
