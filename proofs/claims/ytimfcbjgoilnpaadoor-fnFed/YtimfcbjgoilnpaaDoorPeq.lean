/-
  Walks: spec.PercentEncode and impl.PercentEncode tell the same: each unreserved byte as it is, each other one as its percent.
-/
import Derived.Test.YtimfcbjgoilnpaaDoorEnc
import Derived.WalkKit
import Derived.WalkLawsBesides
import Derived.WalkSpells
namespace Go.Proofs.YtimfcbjgoilnpaaDoor.Peq
open Go.RowKit
open Go.Proofs.YtimfcbjgoilnpaaDoor.Byt
open Go.Proofs.YtimfcbjgoilnpaaDoor.Hex
open Go.Proofs.YtimfcbjgoilnpaaDoor.Own
open Go.Proofs.YtimfcbjgoilnpaaDoor.Enc

theorem app_list (a b : List UInt8) : (⟨a.toArray⟩ : ByteArray) ++ ⟨b.toArray⟩ = ⟨(a ++ b).toArray⟩ := by
  apply ByteArray.ext; simp

theorem ext_one (s : ByteArray) (k : Nat) (h : k < s.size) : s.extract k (k + 1) = ⟨[s[k]].toArray⟩ := by
  apply ByteArray.ext
  apply Array.ext'
  rw [ByteArray.data_extract, Array.toList_extract, List.extract_eq_take_drop]
  rw [show k + 1 - k = 1 from by omega]
  have h' : k < s.data.toList.length := by simpa using h
  rw [List.drop_eq_getElem_cons h']
  rfl

/-- What PercentEncode tells of a text. -/
def encS (l : List UInt8) : ByteArray := if 60 < l.length then ⟨#[]⟩ else ⟨(encL l).toArray⟩
def encOk (l : List UInt8) : Bool := !decide (60 < l.length)

theorem len_list (s : ByteArray) : s.data.toList.length = s.size := by simp

theorem ret_long {l : List UInt8} (h : 60 < l.length) : Ending.returned (.tuple #[.string ⟨#[]⟩, .bool false]) = .returned (.tuple #[.string (encS l), .bool (encOk l)]) := by
  unfold encS encOk; rw [if_pos h, decide_eq_true h]; rfl
theorem ret_told {l : List UInt8} {A : ByteArray} (h : ¬ 60 < l.length) (hA : A = ⟨(encL l).toArray⟩) : Ending.returned (.tuple #[.string A, .bool true]) = .returned (.tuple #[.string (encS l), .bool (encOk l)]) := by
  unfold encS encOk; rw [if_neg h, decide_eq_false h, hA]; rfl

theorem enc_step (s : ByteArray) (k : Nat) (h : k < s.size) : encL (s.data.toList.take (k + 1)) = encL (s.data.toList.take k) ++ encB s[k] := by
  have h' : k < s.data.toList.length := by simpa using h
  rw [encL_snoc _ _ h']; rfl

theorem enc_size (s : ByteArray) (k : Nat) : (encL (s.data.toList.take k)).length ≤ 3 * k := by
  have h1 := encL_len (s.data.toList.take k)
  have h2 := List.length_take_le k s.data.toList
  omega

end Go.Proofs.YtimfcbjgoilnpaaDoor.Peq
