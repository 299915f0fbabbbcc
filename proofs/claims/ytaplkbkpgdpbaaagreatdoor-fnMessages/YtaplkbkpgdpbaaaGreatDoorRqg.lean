/-
  The head of a message with more fields than are good; how long a head is.
-/
import Derived.Test.YtaplkbkpgdpbaaaGreatDoorMg6
namespace Go.Proofs.YtaplkbkpgdpbaaaGreatDoor.Rqb
open Go.RowKit
open Go.Proofs.YtaplkbkpgdpbaaaGreatDoor.Fbs
open Go.Proofs.YtaplkbkpgdpbaaaGreatDoor.Fdb
open Go.Proofs.YtaplkbkpgdpbaaaGreatDoor.Fvs

set_option maxHeartbeats 1600000 in
theorem l4Head_more (f : ByteArray) (a : Option Addr) (ca : Nat) (l : List (ByteArray × ByteArray)) (w : World) (lo hi : Nat) (hf : f.size ≤ 8000000) (hl : l.length ≤ 60) (hz : SzF l) (ha : FV w a l lo hi) :
    Calls Tryz.prog 46 #[.string f, .slice a l.length ca] w fun e w' => e = .returned (.string (headS f l)) ∧ Below w.heap.size w w' := by
  have c2 : (⟨#[13, 10]⟩ : ByteArray).size = 2 := rfl
  have c3 : (⟨#[58, 32]⟩ : ByteArray).size = 2 := rfl
  have hs0 : ¬ 9223372036854775807 < f.size + (⟨#[13, 10]⟩ : ByteArray).size := by rw [c2]; omega
  have hs1 : (f ++ (⟨#[13, 10]⟩ : ByteArray)).size = f.size + 2 := by rw [ByteArray.size_append, c2]
  by_cases h0 : l = []
  · subst h0
    have hs2 : ¬ 9223372036854775807 < (f ++ (⟨#[13, 10]⟩ : ByteArray)).size + (⟨#[13, 10]⟩ : ByteArray).size := by rw [hs1, c2]; omega
    go_enter Tryz.func46, Tryz.ntmps46
    go_wp2_with fail
    go_loop [5, 12] (fun o i => o = .string (f ++ ⟨#[13, 10]⟩) ∧ i = .int .i64 0) (fun _ _ => 0)
    case atStart => exact ⟨rfl, rfl⟩
    case round =>
      obtain ⟨rfl, rfl⟩ := hrel
      go_wp2_with fail
      go_ret
      exact ⟨rfl, Below.refl _ _⟩
  rcases ha with ha | ⟨g, rfl, _, _, ga⟩
  · exact absurd ha h0
  have GA : Hid (RowF w g l) := ga
  clear ga
  go_enter Tryz.func46, Tryz.ntmps46
  go_wp2_with fail
  go_loopw [5, 12] (fun o i wr => ∃ (k : Nat) (S : ByteArray), k ≤ l.length ∧ i = .int .i64 k ∧ o = .string S ∧ S.size ≤ 8000002 + k * 4000004 ∧ Below w.heap.size w wr ∧ Hid (S = rowsS f (l.take k))) (fun _ i _ => l.length - (intOf i).toNat)
  case atStart => exact ⟨0, _, by omega, rfl, rfl, by omega, Below.refl _ _, rfl⟩
  case round =>
    obtain ⟨k, S, hk, rfl, rfl, hS, hbel, HB⟩ := hrel
    by_cases hlt : k < l.length
    · obtain ⟨k1, k2⟩ := (GA.out.below hbel).2.2 k l[k] (List.getElem?_eq_getElem hlt)
      obtain ⟨z1, z2⟩ := hz l[k] (List.getElem_mem hlt)
      have HB' : Hid (S ++ (lineS l[k] ++ crlf) = rowsS f (l.take (k + 1))) := by
        show _ = _
        rw [List.take_succ_eq_append_getElem hlt, rows_snoc, ← HB.out]
      unfold lineS colon crlf at HB'
      generalize l[k] = c at *
      obtain ⟨X, Y⟩ := c
      dsimp only at k1 k2 z1 z2 HB'
      have q1 : ¬ 9223372036854775807 < X.size + (⟨#[58, 32]⟩ : ByteArray).size := by rw [c3]; omega
      have e1 : (X ++ (⟨#[58, 32]⟩ : ByteArray)).size = X.size + 2 := by rw [ByteArray.size_append, c3]
      have q2 : ¬ 9223372036854775807 < (X ++ (⟨#[58, 32]⟩ : ByteArray)).size + Y.size := by rw [e1]; omega
      have e2 : (X ++ (⟨#[58, 32]⟩ : ByteArray) ++ Y).size = X.size + 2 + Y.size := by rw [ByteArray.size_append, e1]
      have q3 : ¬ 9223372036854775807 < (X ++ (⟨#[58, 32]⟩ : ByteArray) ++ Y).size + (⟨#[13, 10]⟩ : ByteArray).size := by rw [e2, c2]; omega
      have e3 : (X ++ (⟨#[58, 32]⟩ : ByteArray) ++ Y ++ (⟨#[13, 10]⟩ : ByteArray)).size = X.size + 2 + Y.size + 2 := by rw [ByteArray.size_append, e2, c2]
      have q4 : ¬ 9223372036854775807 < S.size + (X ++ (⟨#[58, 32]⟩ : ByteArray) ++ Y ++ (⟨#[13, 10]⟩ : ByteArray)).size := by rw [e3]; omega
      have e4 : (S ++ (X ++ (⟨#[58, 32]⟩ : ByteArray) ++ Y ++ (⟨#[13, 10]⟩ : ByteArray))).size ≤ 8000002 + (k + 1) * 4000004 := by rw [ByteArray.size_append, e3]; omega
      clear HB e1 e2 e3 hs0 hs1
      go_wp2_with fail
      go_roundw
      case rel => exact ⟨k + 1, _, by omega, by go_num, rfl, e4, hbel.alloc hbel.size _, HB'⟩
      case measure => simp [intOf]; omega
    · obtain rfl : k = l.length := by omega
      have HB' : Hid (S ++ (⟨#[13, 10]⟩ : ByteArray) = headS f l) := by
        show _ = _
        rw [HB.out, List.take_length]; rfl
      clear HB
      have q5 : ¬ 9223372036854775807 < S.size + (⟨#[13, 10]⟩ : ByteArray).size := by rw [c2]; omega
      go_wp2_with fail
      go_ret
      exact ⟨ret_str HB'.out, hbel⟩

theorem head_size (f : ByteArray) (l : List (ByteArray × ByteArray)) (h : ∀ c ∈ l, c.1.size ≤ 20 ∧ c.2.size ≤ 20) : (headS f l).size ≤ f.size + 4 + 44 * l.length := by
  have all : ∀ k, k ≤ l.length → (rowsS f (l.take k)).size ≤ f.size + 2 + 44 * k := by
    intro k
    induction k with
    | zero => intro _; show (f ++ crlf).size ≤ _; rw [ByteArray.size_append]; have : crlf.size = 2 := rfl; omega
    | succ k ih =>
      intro hk
      have h1 := ih (by omega)
      obtain ⟨z1, z2⟩ := h l[k] (List.getElem_mem (by omega))
      rw [List.take_succ_eq_append_getElem (by omega), rows_snoc, ByteArray.size_append, ByteArray.size_append]
      unfold lineS
      rw [ByteArray.size_append, ByteArray.size_append]
      have c1 : crlf.size = 2 := rfl
      have c2 : colon.size = 2 := rfl
      omega
  have := all l.length (Nat.le_refl _)
  rw [List.take_length] at this
  unfold headS
  rw [ByteArray.size_append]
  have c1 : crlf.size = 2 := rfl
  omega

end Go.Proofs.YtaplkbkpgdpbaaaGreatDoor.Rqb
