/-
  Walks: the laws' own helpers for an address: laws.szUrl, laws.toUrl.
-/
import Derived.Test.YtlgjgdpalflmfaaDoorUtx
namespace Go.Proofs.YtlgjgdpalflmfaaDoor.Lwu
open Go.RowKit
open Go.Proofs.YtlgjgdpalflmfaaDoor.Byt
open Go.Proofs.YtlgjgdpalflmfaaDoor.Hex
open Go.Proofs.YtlgjgdpalflmfaaDoor.Enc
open Go.Proofs.YtlgjgdpalflmfaaDoor.Txt

theorem sz_yes (S H P Q : ByteArray) (n : Int) (asks : Bool) (L : Nat) (w : World) (h : S.size + H.size + P.size + Q.size ≤ L) (hL : L ≤ 2000000) :
    Calls Tryd.prog 30 #[.agg #[.string S, .string H, .int .i64 n, .string P, .string Q, .bool asks], .int .i64 L] w fun e w' => e = .returned (.int .i64 ((L : Int) - S.size - H.size - P.size - Q.size)) ∧ Below w.heap.size w w' := by
  go_enter Tryd.func30, Tryd.ntmps30
  go_wp2
  go_ret
  exact ⟨rfl, (Below.refl _ _).alloc (Nat.le_refl _) _⟩

theorem sz_no (S H P Q : ByteArray) (n : Int) (asks : Bool) (L : Nat) (w : World) (hS : S.size ≤ maxLen) (hH : H.size ≤ maxLen) (hP : P.size ≤ maxLen) (hQ : Q.size ≤ maxLen) (h : ¬ S.size + H.size + P.size + Q.size ≤ L) (hL : L ≤ 2000000) :
    Calls Tryd.prog 30 #[.agg #[.string S, .string H, .int .i64 n, .string P, .string Q, .bool asks], .int .i64 L] w fun e w' => e = .returned (.int .i64 (-1)) ∧ Below w.heap.size w w' := by
  unfold maxLen at hS hH hP hQ
  rcases (show L < S.size ∨ (S.size ≤ L ∧ L < S.size + H.size) ∨ (S.size + H.size ≤ L ∧ L < S.size + H.size + P.size) ∨ (S.size + H.size + P.size ≤ L ∧ L < S.size + H.size + P.size + Q.size) from by omega) with h1 | ⟨h0, h1⟩ | ⟨h0, h1⟩ | ⟨h0, h1⟩
  all_goals
    go_enter Tryd.func30, Tryd.ntmps30
    go_wp2
    go_ret
    exact ⟨rfl, (Below.refl _ _).alloc (Nat.le_refl _) _⟩

theorem toUrl_any (S H P Q : ByteArray) (n : Int) (asks : Bool) (w : World) :
    Calls Tryd.prog 32 #[.agg #[.string S, .string H, .int .i64 n, .string P, .string Q, .bool asks]] w fun e w' => e = .returned (.agg #[.string S, .string H, .int .i64 n, .string P, .string Q, .bool asks]) ∧ Below w.heap.size w w' := by
  go_enter Tryd.func32, Tryd.ntmps32
  go_wp2
  exact bodyPost_ret (v := .agg #[.string S, .string H, .int .i64 n, .string P, .string Q, .bool asks]) (by simp [results, Tryd.results32, go_sem]) rfl ⟨rfl, by repeat (first | exact Below.refl _ _ | refine Below.alloc ?_ (by simp <;> omega) _ | refine Below.setCell ?_ (by simp <;> omega) _)⟩

end Go.Proofs.YtlgjgdpalflmfaaDoor.Lwu
