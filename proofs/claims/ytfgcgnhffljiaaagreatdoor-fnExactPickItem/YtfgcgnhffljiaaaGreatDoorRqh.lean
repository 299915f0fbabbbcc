/-
  The head of a message: what both programs tell; walk: spec.l4Head.
-/
import Derived.Test.YtfgcgnhffljiaaaGreatDoorRqb
namespace Go.Proofs.YtfgcgnhffljiaaaGreatDoor.Rqb
open Go.RowKit
open Go.Proofs.YtfgcgnhffljiaaaGreatDoor.Fbs
open Go.Proofs.YtfgcgnhffljiaaaGreatDoor.Fdb
open Go.Proofs.YtfgcgnhffljiaaaGreatDoor.Fvs

def crlf : ByteArray := ⟨#[13, 10]⟩
def colon : ByteArray := ⟨#[58, 32]⟩
/-- A field's line. -/
def lineS (c : ByteArray × ByteArray) : ByteArray := c.1 ++ colon ++ c.2
def rowsS (f : ByteArray) (l : List (ByteArray × ByteArray)) : ByteArray := l.foldl (fun s c => s ++ (lineS c ++ crlf)) (f ++ crlf)
/-- A head: its first line, its fields' lines, an empty one. -/
def headS (f : ByteArray) (l : List (ByteArray × ByteArray)) : ByteArray := rowsS f l ++ crlf
theorem rows_snoc (f : ByteArray) (l : List (ByteArray × ByteArray)) (c : ByteArray × ByteArray) : rowsS f (l ++ [c]) = rowsS f l ++ (lineS c ++ crlf) := by
  unfold rowsS; rw [List.foldl_append]; rfl
theorem bapp_assoc (a b c : ByteArray) : a ++ b ++ c = a ++ (b ++ c) := by apply ByteArray.ext; simp [Array.append_assoc]
theorem rows_tail : ∀ (l : List (ByteArray × ByteArray)) (s : ByteArray), (l.foldl (fun s c => s ++ (lineS c ++ crlf)) (s ++ crlf)).data.toList = s.data.toList ++ Lib.joinTail crlf.data.toList (l.map fun c => (lineS c).data.toList) ++ crlf.data.toList
  | [], s => by simp [Lib.joinTail]
  | c :: r, s => by
    rw [List.foldl_cons, show s ++ crlf ++ (lineS c ++ crlf) = (s ++ crlf ++ lineS c) ++ crlf from by simp only [bapp_assoc], rows_tail r]
    simp [Lib.joinTail, List.append_assoc]
/-- The lines joined, as the program tells them. -/
theorem head_join (f : ByteArray) (l : List (ByteArray × ByteArray)) : (⟨(Lib.join ((f :: l.map lineS).map (·.data.toList)) crlf.data.toList).toArray⟩ : ByteArray) ++ crlf ++ crlf = headS f l := by
  unfold headS
  congr 1
  apply ByteArray.ext
  apply Array.ext'
  have h := rows_tail l f
  unfold rowsS
  rw [h, List.map_cons, Lib.join_cons, List.map_map]
  simp [Function.comp_def]

set_option maxHeartbeats 1600000 in
theorem l4Head_any (f : ByteArray) (a : Option Addr) (ca : Nat) (l : List (ByteArray × ByteArray)) (w : World) (lo hi : Nat) (hf : f.size ≤ 8000000) (hl : l.length ≤ 40) (hz : SzF l) (ha : FV w a l lo hi) :
    Calls Tryz.prog 74 #[.string f, .slice a l.length ca] w fun e w' => e = .returned (.string (headS f l)) ∧ Below w.heap.size w w' := by
  have c2 : (⟨#[13, 10]⟩ : ByteArray).size = 2 := rfl
  have c3 : (⟨#[58, 32]⟩ : ByteArray).size = 2 := rfl
  have hs0 : ¬ 9223372036854775807 < f.size + (⟨#[13, 10]⟩ : ByteArray).size := by rw [c2]; omega
  have hs1 : (f ++ (⟨#[13, 10]⟩ : ByteArray)).size = f.size + 2 := by rw [ByteArray.size_append, c2]
  by_cases h0 : l = []
  · subst h0
    have hs2 : ¬ 9223372036854775807 < (f ++ (⟨#[13, 10]⟩ : ByteArray)).size + (⟨#[13, 10]⟩ : ByteArray).size := by rw [hs1, c2]; omega
    go_enter Tryz.func74, Tryz.ntmps74
    go_wp2_with fail
    go_loop [5, 12] (fun o i => o = .string (f ++ ⟨#[13, 10]⟩) ∧ i = .int .i64 0) (fun _ _ => 0)
    case atStart => exact ⟨rfl, rfl⟩
    case round =>
      obtain ⟨rfl, rfl⟩ := hrel
      go_wp2_with fail
      go_ret
      exact ⟨rfl, Below.refl _ _⟩
  rcases ha with ha | ⟨g, rfl, _, _, ga⟩
  · exact absurd ha h0
  have GA : Hid (RowF w g l) := ga
  clear ga
  go_enter Tryz.func74, Tryz.ntmps74
  go_wp2_with fail
  go_loopw [5, 12] (fun o i wr => ∃ (k : Nat) (S : ByteArray), k ≤ l.length ∧ i = .int .i64 k ∧ o = .string S ∧ S.size ≤ 8000002 + k * 4000004 ∧ Below w.heap.size w wr ∧ Hid (S = rowsS f (l.take k))) (fun _ i _ => l.length - (intOf i).toNat)
  case atStart => exact ⟨0, _, by omega, rfl, rfl, by omega, Below.refl _ _, rfl⟩
  case round =>
    obtain ⟨k, S, hk, rfl, rfl, hS, hbel, HB⟩ := hrel
    by_cases hlt : k < l.length
    · obtain ⟨k1, k2⟩ := (GA.out.below hbel).2.2 k l[k] (List.getElem?_eq_getElem hlt)
      obtain ⟨z1, z2⟩ := hz l[k] (List.getElem_mem hlt)
      have HB' : Hid (S ++ (lineS l[k] ++ crlf) = rowsS f (l.take (k + 1))) := by
        show _ = _
        rw [List.take_succ_eq_append_getElem hlt, rows_snoc, ← HB.out]
      unfold lineS colon crlf at HB'
      generalize l[k] = c at *
      obtain ⟨X, Y⟩ := c
      dsimp only at k1 k2 z1 z2 HB'
      have q1 : ¬ 9223372036854775807 < X.size + (⟨#[58, 32]⟩ : ByteArray).size := by rw [c3]; omega
      have e1 : (X ++ (⟨#[58, 32]⟩ : ByteArray)).size = X.size + 2 := by rw [ByteArray.size_append, c3]
      have q2 : ¬ 9223372036854775807 < (X ++ (⟨#[58, 32]⟩ : ByteArray)).size + Y.size := by rw [e1]; omega
      have e2 : (X ++ (⟨#[58, 32]⟩ : ByteArray) ++ Y).size = X.size + 2 + Y.size := by rw [ByteArray.size_append, e1]
      have q3 : ¬ 9223372036854775807 < (X ++ (⟨#[58, 32]⟩ : ByteArray) ++ Y).size + (⟨#[13, 10]⟩ : ByteArray).size := by rw [e2, c2]; omega
      have e3 : (X ++ (⟨#[58, 32]⟩ : ByteArray) ++ Y ++ (⟨#[13, 10]⟩ : ByteArray)).size = X.size + 2 + Y.size + 2 := by rw [ByteArray.size_append, e2, c2]
      have q4 : ¬ 9223372036854775807 < S.size + (X ++ (⟨#[58, 32]⟩ : ByteArray) ++ Y ++ (⟨#[13, 10]⟩ : ByteArray)).size := by rw [e3]; omega
      have e4 : (S ++ (X ++ (⟨#[58, 32]⟩ : ByteArray) ++ Y ++ (⟨#[13, 10]⟩ : ByteArray))).size ≤ 8000002 + (k + 1) * 4000004 := by rw [ByteArray.size_append, e3]; omega
      clear HB e1 e2 e3 hs0 hs1
      go_wp2_with fail
      go_roundw
      case rel => exact ⟨k + 1, _, by omega, by go_num, rfl, e4, hbel.alloc hbel.size _, HB'⟩
      case measure => simp [intOf]; omega
    · obtain rfl : k = l.length := by omega
      have HB' : Hid (S ++ (⟨#[13, 10]⟩ : ByteArray) = headS f l) := by
        show _ = _
        rw [HB.out, List.take_length]; rfl
      clear HB
      have q5 : ¬ 9223372036854775807 < S.size + (⟨#[13, 10]⟩ : ByteArray).size := by rw [c2]; omega
      go_wp2_with fail
      go_ret
      exact ⟨ret_str HB'.out, hbel⟩

end Go.Proofs.YtfgcgnhffljiaaaGreatDoor.Rqb
