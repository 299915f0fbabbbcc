/-
  Walks: the laws' own helpers for a tag: laws.szTag, laws.toTag; a tag among a law's arguments, opened. The law FnExactReadTag, over what impl.ReadTag answers.
-/
import Derived.Test.YtgidmoncocbfiaaTgb
import Derived.Test.YtgidmoncocbfiaaTgc
import Derived.ProofKit
import Derived.Lib.SmallJoins
namespace Go.Proofs.Ytgidmoncocbfiaa.Tgw
open Go.ChangeShapes Go.WideShapes Go.ChangeAt Go.RowKit
open Go.Proofs.Ytgidmoncocbfiaa.Tga Go.Proofs.Ytgidmoncocbfiaa.Tgb

theorem sz_yes (k : Bool) (S : ByteArray) (L : Nat) (w : World) (h : S.size ≤ L) (hL : L ≤ 2000000) :
    Calls Try.prog 10 #[.agg #[.bool k, .string S], .int .i64 L] w fun e w' => e = .returned (.int .i64 ((L : Int) - S.size)) ∧ Below w.heap.size w w' := by
  go_enter Try.func10, Try.ntmps10
  go_wp2
  go_ret
  exact ⟨rfl, (Below.refl _ _).alloc (Nat.le_refl _) _⟩

theorem sz_no (k : Bool) (S : ByteArray) (L : Nat) (w : World) (hS : S.size ≤ maxLen) (h : ¬ S.size ≤ L) (hL : L ≤ 2000000) :
    Calls Try.prog 10 #[.agg #[.bool k, .string S], .int .i64 L] w fun e w' => e = .returned (.int .i64 (-1)) ∧ Below w.heap.size w w' := by
  unfold maxLen at hS
  go_enter Try.func10, Try.ntmps10
  go_wp2
  go_ret
  exact ⟨rfl, (Below.refl _ _).alloc (Nat.le_refl _) _⟩

theorem toTag_any (k : Bool) (S : ByteArray) (w : World) :
    Calls Try.prog 12 #[.agg #[.bool k, .string S]] w fun e w' => e = .returned (.agg #[.bool k, .string S]) ∧ Below w.heap.size w w' := by
  go_enter Try.func12, Try.ntmps12
  go_wp2
  exact bodyPost_ret (v := .agg #[.bool k, .string S]) (by simp [results, Try.results12, go_sem]) rfl ⟨rfl, by repeat (first | exact Below.refl _ _ | refine Below.alloc ?_ (by simp <;> omega) _ | refine Below.setCell ?_ (by simp <;> omega) _)⟩

set_option maxRecDepth 20000 in
set_option maxHeartbeats 1600000 in
/-- The law FnExactReadTag, over what impl.ReadTag answers. -/
theorem walkReadTag (HIm : ∀ (s : ByteArray) (w : World), s.size ≤ 2000000 → Calls Try.prog 8 #[.string s] w fun e w' => e = .returned (tagV (readT s)) ∧ Below w.heap.size w w')
    (s : ByteArray) (w : World) (hs : s.size ≤ maxLen) :
    Calls Try.prog 3 #[.string s] w fun e w' => e = .returned (.bool true) ∧ Below w.heap.size w w' := by
  unfold maxLen at hs
  by_cases hz : 1048576 < s.size
  · have hd : decide (1048576 < (s.size : Int)) = true := decide_eq_true (by omega)
    go_enter Try.func3, Try.ntmps3
    go_wp2_with fail
    go_ret
    exact ⟨rfl, Below.refl _ _⟩
  have hd : decide (1048576 < (s.size : Int)) = false := decide_eq_false (by omega)
  have HI : Hid _ := fun wx => HIm s wx (by omega)
  have HS : Hid _ := fun wx => specReadTag_any s wx (by omega)
  clear HIm
  obtain ⟨k, t, b, hO⟩ : ∃ k t b, tagV (readT s) = .tuple #[.agg #[.bool k, .string t], .bool b] := by
    cases readT s with
    | none => exact ⟨_, _, _, rfl⟩
    | some c => exact ⟨_, _, _, rfl⟩
  rw [hO] at HI HS
  clear hO
  have HE : Hid _ := fun wx => eqG_one k t wx
  have hbb : (b != b) = false := by simp
  go_enter Try.func3, Try.ntmps3
  go_wp2_with fail
  refine (HS.out _).mono ?_
  rintro e w2 ⟨rfl, hb2⟩
  go_wp2_with fail
  obtain ⟨W, hW⟩ : ∃ W, W = w2.alloc (.cells #[.bool k, .string t] 23) := ⟨_, rfl⟩
  have hn : w2.heap.size < W.heap.size := by rw [hW]; simp
  have hb3 : Below w.heap.size w W := by rw [hW]; exact hb2.alloc hb2.size _
  have x0 : W.cell? ⟨w2.heap.size, 0, none⟩ = some (.bool k) := by rw [hW]; simp [go_sem]
  have x1 : W.cell? ⟨w2.heap.size, 1, none⟩ = some (.string t) := by rw [hW]; simp [go_sem]
  rw [← hW]
  clear hW hb2
  refine (HI.out _).mono ?_
  rintro e w4 ⟨rfl, hb4⟩
  have y0 := (hb4.cell (p := ⟨w2.heap.size, 0, none⟩) hn).trans x0
  have y1 := (hb4.cell (p := ⟨w2.heap.size, 1, none⟩) hn).trans x1
  have hb5 := hb3.trans (hb4.mono hb3.size)
  have hn4 : w2.heap.size < w4.heap.size := Nat.lt_of_lt_of_le hn hb4.size
  clear x0 x1 hb3 hb4 hn
  have HF : Hid (Below w.heap.size w (w4.alloc (.cells #[.bool k, .string t] 23))) := hb5.alloc hb5.size _
  go_wp2_with fail
  refine (HE.out _).mono ?_
  rintro e w6 ⟨rfl, hb6⟩
  go_wp2_with fail
  go_ret
  exact ⟨rfl, HF.out.trans (hb6.mono HF.out.size)⟩

end Go.Proofs.Ytgidmoncocbfiaa.Tgw
