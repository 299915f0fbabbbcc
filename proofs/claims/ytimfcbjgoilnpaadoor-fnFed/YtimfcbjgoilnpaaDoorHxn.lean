/-
  Numbers in hex digits: what their bytes tell.
-/
import Derived.Test.YtimfcbjgoilnpaaDoorHex
import Derived.Test.YtimfcbjgoilnpaaDoorBop
namespace Go.Proofs.YtimfcbjgoilnpaaDoor.Hxn
open Go.RowKit
open Go.Proofs.YtimfcbjgoilnpaaDoor.Byt
open Go.Proofs.YtimfcbjgoilnpaaDoor.Hex

/-- What hex digits count, one behind another. -/
def hxL (l : List UInt8) : Nat := l.foldl (fun n c => 16 * n + (hexv (c.toNat : Int)).toNat) 0
theorem hxL_snoc (l : List UInt8) (c : UInt8) : hxL (l ++ [c]) = 16 * hxL l + (hexv (c.toNat : Int)).toNat := by simp [hxL]
theorem hxL_take (s : ByteArray) (k : Nat) (h : k < s.size) : hxL (s.data.toList.take (k + 1)) = 16 * hxL (s.data.toList.take k) + (hexv (s[k].toNat : Int)).toNat := by
  have hk : k < s.data.toList.length := by simpa using h
  have e := at_list s k h
  rw [List.getElem?_eq_getElem hk, Option.getD_some] at e
  rw [List.take_succ_eq_append_getElem hk, hxL_snoc, e]
theorem hxL_bd (s : ByteArray) : ∀ k, k ≤ s.size → hxL (s.data.toList.take k) < 16 ^ k
  | 0, _ => by simp [hxL]
  | k + 1, h => by
    have ih := hxL_bd s k (by omega)
    have := hexv_hi (s[k]'(by omega)).toNat
    rw [hxL_take s k (by omega), Nat.pow_succ]
    omega

/-- Whether all bytes are hex digits. -/
def hxAll (l : List UInt8) : Bool := l.all (fun c => decide (0 ≤ hexv (c.toNat : Int)))
theorem hxAll_no {s : ByteArray} {k : Nat} (h : k < s.size) (hn : hexv (s[k].toNat : Int) < 0) : hxAll s.data.toList = false := by
  unfold hxAll
  rw [Bool.eq_false_iff]
  intro ha
  rw [List.all_eq_true] at ha
  have hk : k < s.data.toList.length := by simpa using h
  have e := at_list s k h
  rw [List.getElem?_eq_getElem hk, Option.getD_some] at e
  have := of_decide_eq_true (ha _ (List.getElem_mem hk))
  rw [e] at this
  omega
theorem hxAll_yes {s : ByteArray} (h : ∀ k, (hk : k < s.size) → 0 ≤ hexv (s[k].toNat : Int)) : hxAll s.data.toList = true := by
  unfold hxAll
  rw [List.all_eq_true]
  intro c hc
  obtain ⟨k, hk, rfl⟩ := List.getElem_of_mem hc
  have hk' : k < s.size := by simpa using hk
  have e := at_list s k hk'
  rw [List.getElem?_eq_getElem hk, Option.getD_some] at e
  rw [e]
  exact decide_eq_true (h k hk')

/-- ReadHex's answer. -/
def hxB (s : ByteArray) : Bool := decide (1 ≤ s.size) && decide (s.size ≤ 4) && hxAll s.data.toList
def hxI (s : ByteArray) : Int := if hxB s then (hxL s.data.toList : Int) else 0
def hxV (s : ByteArray) : Value := .tuple #[.int .i64 (hxI s), .bool (hxB s)]
theorem hx_no {s : ByteArray} (h : hxB s = false) : hxV s = .tuple #[.int .i64 0, .bool false] := by unfold hxV hxI; rw [h]; rfl
theorem hx_yes {s : ByteArray} (h : hxB s = true) : hxV s = .tuple #[.int .i64 (hxL s.data.toList : Int), .bool true] := by unfold hxV hxI; rw [h]; rfl
theorem hxB_short {s : ByteArray} (h : s.size < 1) : hxB s = false := by unfold hxB; rw [decide_eq_false (by omega)]; rfl
theorem hxB_long {s : ByteArray} (h : 4 < s.size) : hxB s = false := by unfold hxB; rw [decide_eq_false (show ¬ s.size ≤ 4 by omega), Bool.and_false]; rfl
theorem hxB_bad {s : ByteArray} (h : hxAll s.data.toList = false) : hxB s = false := by unfold hxB; rw [h, Bool.and_false]
theorem hxB_good {s : ByteArray} (h1 : 1 ≤ s.size) (h2 : s.size ≤ 4) (h : hxAll s.data.toList = true) : hxB s = true := by unfold hxB; rw [h, decide_eq_true h1, decide_eq_true h2]; rfl

theorem or_add (n m : Nat) (hn : n < 1048576) (hm : m < 16) : bits BinOp.or IntKind.i64 ((n : Int) * 16) (m : Int) = 16 * (n : Int) + (m : Int) := by
  have e : 2 ^ 4 * n + m = 2 ^ 4 * n ||| m := Nat.two_pow_add_eq_or_of_lt (by omega) n
  have a : (BitVec.ofInt 64 ((n : Int) * 16)).toNat = 2 ^ 4 * n := by rw [BitVec.toNat_ofInt]; omega
  have b : (BitVec.ofInt 64 (m : Int)).toNat = m := by rw [BitVec.toNat_ofInt]; omega
  show IntKind.i64.wrap (((BitVec.ofInt 64 ((n : Int) * 16)) ||| (BitVec.ofInt 64 (m : Int))).toNat : Int) = _
  rw [BitVec.toNat_or, a, b, ← e, IntKind.wrap_i64]
  omega

theorem ret_v {a b : Value} (h : a = b) : Ending.returned a = .returned b := by rw [h]

end Go.Proofs.YtimfcbjgoilnpaaDoor.Hxn
