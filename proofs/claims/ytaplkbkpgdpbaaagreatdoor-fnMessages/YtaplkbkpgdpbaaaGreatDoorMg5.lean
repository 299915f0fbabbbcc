/-
  Walks: impl.readDigits, impl.readWeight, spec.l3Weight: a weight.
  The length that fields tell: what both programs count.
  Walks: numbers of a length: impl.readLength, spec.l2Number.
  The length that fields tell: what LengthOf answers.
-/
import Derived.Test.YtaplkbkpgdpbaaaGreatDoorMg4
import Derived.Test.YtaplkbkpgdpbaaaGreatDoorMg2
import Derived.Lib.Split
namespace Go.Proofs.YtaplkbkpgdpbaaaGreatDoor.Wgt
open Go.RowKit
open Go.Proofs.YtaplkbkpgdpbaaaGreatDoor.Byt
open Go.Proofs.YtaplkbkpgdpbaaaGreatDoor.Fbs
open Go.Proofs.YtaplkbkpgdpbaaaGreatDoor.Fch
open Go.Proofs.YtaplkbkpgdpbaaaGreatDoor.Ctf

theorem isK_dig (b : Int) (h0 : 0 ≤ b) (h1 : b ≤ 255) : isK b 16 = digitB b := by
  obtain ⟨n, rfl⟩ := Int.eq_ofNat_of_zero_le h0
  have all : ∀ n : Nat, n < 256 → isK (n : Int) 16 = digitB (n : Int) := by decide +kernel
  exact all n (by omega)
theorem isDig_any (b : Int) (w : World) (hT : Tab w) (h0 : 0 ≤ b) (h1 : b ≤ 255) :
    Calls Tryz.prog 120 #[.int .u8 b, .int .u8 16] w fun e w' => e = .returned (.bool (digitB b)) ∧ w' = w := by
  rw [← isK_dig b h0 h1]
  exact isKind_any b 16 w hT h0 h1
theorem ret_i {a b : Int} (h : a = b) : Ending.returned (.int .i64 a) = .returned (.int .i64 b) := by rw [h]

/-- Digits behind a number, -1 where a byte is none. -/
def rdL : List UInt8 → Int → Int
  | [], n => n
  | c :: r, n => if digitB (c.toNat : Int) = true then rdL r (n * 10 + ((c.toNat : Int) - 48)) else -1
theorem dig_bd {c : Int} (h : digitB c = true) : 48 ≤ c ∧ c ≤ 57 := by unfold digitB at h; exact of_decide_eq_true h
theorem dig_no {c : Int} (h : digitB c = false) : c < 48 ∨ 57 < c := by unfold digitB at h; have := of_decide_eq_false h; omega

def RdTo (s : ByteArray) (k v : Nat) : Prop := k ≤ s.size ∧ v < 10 ^ k ∧ rdL s.data.toList 0 = rdL (s.data.toList.drop k) v
theorem drop_at {s : ByteArray} {k : Nat} (h : k < s.size) : s.data.toList.drop k = s[k] :: s.data.toList.drop (k + 1) := by
  have h' : k < s.data.toList.length := by simpa using h
  rw [List.drop_eq_getElem_cons h']; rfl

set_option maxHeartbeats 800000 in
theorem readDigits_any (s : ByteArray) (w : World) (hT : Tab w) (hs : s.size ≤ 9) :
    Calls Tryz.prog 132 #[.string s] w fun e w' => e = .returned (.int .i64 (rdL s.data.toList 0)) ∧ w' = w := by
  go_enter Tryz.func132, Tryz.ntmps132
  go_wp2
  go_loop [3, 4] (fun n i => ∃ (k v : Nat), n = .int .i64 v ∧ i = .int .i64 k ∧ Hid (RdTo s k v)) (fun _ i => s.size - (intOf i).toNat)
  case atStart => exact ⟨0, 0, rfl, rfl, by omega, by decide, rfl⟩
  case round =>
    obtain ⟨k, v, rfl, rfl, HX⟩ := hrel
    obtain ⟨hk, hv, hE⟩ := HX.out
    by_cases hlt : k < s.size
    · rw [drop_at hlt] at hE
      have hb := byte_bd s[k]
      have hp : 10 ^ k ≤ 10 ^ 8 := Nat.pow_le_pow_right (by omega) (by omega)
      have hp8 : (10 : Nat) ^ 8 = 100000000 := by decide
      have HC : Hid _ := fun w hT => isDig_any (s[k].toNat : Int) w hT hb.1 hb.2
      cases hd : digitB (s[k].toNat : Int)
      · have HE : Hid (rdL s.data.toList 0 = -1) := by show _ = _; rw [hE, rdL, hd]; rfl
        rw [hd] at HC
        clear hE HX hd hp hp8 hv
        go_wp2_with (go_at_call 120; refine (HC.out _ hT).mono ?_; rintro e w' ⟨rfl, hw⟩; obtain rfl := hw.symm)
        go_ret
        exact ⟨ret_i HE.out.symm, rfl⟩
      · have hbd := dig_bd hd
        have HE : Hid (RdTo s (k + 1) (10 * v + (s[k].toNat - 48))) := by
          refine ⟨by omega, by rw [Nat.pow_succ]; omega, ?_⟩
          rw [hE, rdL, hd, if_pos rfl]
          congr 1; omega
        rw [hd] at HC
        have w1 : IntKind.i64.wrap ((v : Int) * 10) = (v : Int) * 10 := by rw [IntKind.wrap_i64]; omega
        have w2 : IntKind.u8.wrap ((s[k].toNat : Int) - 48) = (s[k].toNat : Int) - 48 := by rw [IntKind.wrap_u8]; omega
        have w3 : IntKind.i64.wrap ((s[k].toNat : Int) - 48) = (s[k].toNat : Int) - 48 := by rw [IntKind.wrap_i64]; omega
        have w4 : IntKind.i64.wrap ((v : Int) * 10 + ((s[k].toNat : Int) - 48)) = (v : Int) * 10 + ((s[k].toNat : Int) - 48) := by rw [IntKind.wrap_i64]; omega
        clear hE HX hd
        go_wp2_with (go_at_call 120; refine (HC.out _ hT).mono ?_; rintro e w' ⟨rfl, hw⟩; obtain rfl := hw.symm)
        go_round
        case rel => exact ⟨k + 1, _, by congr 1; omega, by go_num, HE⟩
        case measure => simp [intOf]; omega
    · have HE : Hid (rdL s.data.toList 0 = v) := by
        show _ = _
        rw [hE, List.drop_eq_nil_of_le (by simp; omega)]; rfl
      clear hE HX
      go_wp2
      go_ret
      exact ⟨ret_i HE.out.symm, rfl⟩

/-- Digits behind the dot of a weight. -/
def wF : List UInt8 → Int → Int → Int
  | [], n, _ => if 1000 < n then -1 else n
  | c :: r, n, b => if digitB (c.toNat : Int) = true then wF r (n + b * ((c.toNat : Int) - 48)) (b / 10) else -1
def wG : List UInt8 → Int → Int
  | [], n => wF [] n 100
  | d :: r, n => if d.toNat = 46 then wF r n 100 else -1
/-- A weight in thousandths, -1 where it is none. -/
def wS : List UInt8 → Int
  | [] => -1
  | a :: r => if (a.toNat = 48 ∨ a.toNat = 49) ∧ r.length ≠ 1 ∧ r.length ≤ 4 then wG r (1000 * ((a.toNat : Int) - 48)) else -1

def bO (k : Nat) : Int := if k ≤ 2 then 100 else if k = 3 then 10 else if k = 4 then 1 else 0
def WTo (s : ByteArray) (k : Nat) (v : Int) : Prop := 1 ≤ k ∧ k ≤ s.size ∧ 0 ≤ v ∧ v ≤ 1000 + 1000 * (k : Int) ∧ wS s.data.toList = if k = 1 then wG (s.data.toList.drop 1) v else wF (s.data.toList.drop k) v (bO k)

theorem empty_cmp {T : ByteArray} (h : T.size = 0) : (T.toList == []) = true := by
  have : T = ⟨#[]⟩ := by
    apply ByteArray.ext
    have h2 : T.data.size = 0 := h
    exact Array.eq_empty_of_size_eq_zero h2
  rw [this]; decide +kernel
theorem some_cmp {T : ByteArray} (h : T.size ≠ 0) : (T.toList == []) = false := by
  rw [beq_eq_false_iff_ne]
  intro e
  apply h
  rw [ByteArray.toList_eq] at e
  have h2 : T.data = #[] := by simpa using e
  show T.data.size = 0
  rw [h2]; rfl

def d4 (a x y z : UInt8) : Int := 1000 * ((a.toNat : Int) - 48) + 100 * ((x.toNat : Int) - 48) + 10 * ((y.toNat : Int) - 48) + ((z.toNat : Int) - 48)
theorem rd4 (a x y z : UInt8) : rdL [a, x, y, z] 0 = if (digitB (a.toNat : Int) && digitB (x.toNat : Int) && digitB (y.toNat : Int) && digitB (z.toNat : Int)) = true then d4 a x y z else -1 := by
  unfold d4
  cases h1 : digitB (a.toNat : Int)
  · simp [rdL, h1]
  · cases h2 : digitB (x.toNat : Int)
    · simp [rdL, h1, h2]
    · cases h3 : digitB (y.toNat : Int)
      · simp [rdL, h1, h2, h3]
      · cases h4 : digitB (z.toNat : Int)
        · simp [rdL, h1, h2, h3, h4]
        · simp [rdL, h1, h2, h3, h4]; omega
def Fits (R W : Int) : Prop := (0 ≤ R ∧ R ≤ 1000 ∧ W = R) ∨ (¬ (0 ≤ R ∧ R ≤ 1000) ∧ W = -1)
theorem wF3 (x y z : UInt8) (n : Int) : wF [x, y, z] n 100 = if (digitB (x.toNat : Int) && digitB (y.toNat : Int) && digitB (z.toNat : Int)) = true then (if 1000 < n + 100 * ((x.toNat : Int) - 48) + 10 * ((y.toNat : Int) - 48) + ((z.toNat : Int) - 48) then -1 else n + 100 * ((x.toNat : Int) - 48) + 10 * ((y.toNat : Int) - 48) + ((z.toNat : Int) - 48)) else -1 := by
  cases h2 : digitB (x.toNat : Int)
  · simp [wF, h2]
  · cases h3 : digitB (y.toNat : Int)
    · simp [wF, h2, h3]
    · cases h4 : digitB (z.toNat : Int)
      · simp [wF, h2, h3, h4]
      · simp [wF, h2, h3, h4]
theorem wF2 (x y : UInt8) (n : Int) : wF [x, y] n 100 = wF [x, y, 48] n 100 := by
  have h4 : digitB 48 = true := by decide
  cases h2 : digitB (x.toNat : Int)
  · simp [wF, h2]
  · cases h3 : digitB (y.toNat : Int)
    · simp [wF, h2, h3]
    · simp [wF, h2, h3, h4]
theorem wF1 (x : UInt8) (n : Int) : wF [x] n 100 = wF [x, 48, 48] n 100 := by
  have h4 : digitB 48 = true := by decide
  cases h2 : digitB (x.toNat : Int)
  · simp [wF, h2]
  · simp [wF, h2, h4]
theorem wF0 (n : Int) : wF [] n 100 = wF [48, 48, 48] n 100 := by
  have h4 : digitB 48 = true := by decide
  simp [wF, h4]
theorem fits3 (a x y z : UInt8) : Fits (rdL [a, x, y, z] 0) (if a.toNat = 48 ∨ a.toNat = 49 then wF [x, y, z] (1000 * ((a.toNat : Int) - 48)) 100 else -1) := by
  rw [rd4, wF3]
  unfold Fits d4
  have hb := byte_bd a
  cases hd : (digitB (x.toNat : Int) && digitB (y.toNat : Int) && digitB (z.toNat : Int))
  · right
    have hn : (digitB (a.toNat : Int) && digitB (x.toNat : Int) && digitB (y.toNat : Int) && digitB (z.toNat : Int)) = false := by
      rw [Bool.and_assoc, Bool.and_assoc, ← Bool.and_assoc (digitB (x.toNat : Int)), hd, Bool.and_false]
    rw [hn]
    refine ⟨by simp, by split <;> simp⟩
  · have hx : digitB (x.toNat : Int) = true ∧ digitB (y.toNat : Int) = true ∧ digitB (z.toNat : Int) = true := by
      simp only [Bool.and_eq_true] at hd; exact ⟨hd.1.1, hd.1.2, hd.2⟩
    have b1 := dig_bd hx.1
    have b2 := dig_bd hx.2.1
    have b3 := dig_bd hx.2.2
    rw [if_pos rfl, hx.1, hx.2.1, hx.2.2]
    cases ha : digitB (a.toNat : Int)
    · have := dig_no ha
      right
      rw [if_neg (show ¬ (a.toNat = 48 ∨ a.toNat = 49) from by omega)]
      exact ⟨by simp, rfl⟩
    · have := dig_bd ha
      simp only [Bool.and_true, if_true]
      by_cases h : a.toNat = 48 ∨ a.toNat = 49
      · rw [if_pos h]
        by_cases hg : 1000 < 1000 * ((a.toNat : Int) - 48) + 100 * ((x.toNat : Int) - 48) + 10 * ((y.toNat : Int) - 48) + ((z.toNat : Int) - 48)
        · rw [if_pos hg]; right; exact ⟨by omega, rfl⟩
        · rw [if_neg hg]; left; exact ⟨by omega, by omega, rfl⟩
      · rw [if_neg h]; right; exact ⟨by omega, rfl⟩

/-- The digits that impl.readWeight reads. -/
def dgs (A Z : ByteArray) : ByteArray := A ++ (Z ++ ⟨#[48, 48, 48]⟩).extract 0 3

theorem wS_cons (a : UInt8) (r : List UInt8) : wS (a :: r) = if a.toNat = 48 ∨ a.toNat = 49 then (if r.length ≠ 1 ∧ r.length ≤ 4 then wG r (1000 * ((a.toNat : Int) - 48)) else -1) else -1 := by
  show (if (a.toNat = 48 ∨ a.toNat = 49) ∧ r.length ≠ 1 ∧ r.length ≤ 4 then wG r (1000 * ((a.toNat : Int) - 48)) else -1) = _
  by_cases h : a.toNat = 48 ∨ a.toNat = 49
  · by_cases h2 : r.length ≠ 1 ∧ r.length ≤ 4
    · rw [if_pos ⟨h, h2⟩, if_pos h, if_pos h2]
    · rw [if_neg (fun x => h2 x.2), if_pos h, if_neg h2]
  · rw [if_neg (fun x => h x.1), if_neg h]

theorem dgs_list (A Z : ByteArray) : (dgs A Z).data.toList = A.data.toList ++ (Z.data.toList ++ [48, 48, 48]).take 3 := by
  unfold dgs
  rw [ByteArray.data_append, Array.toList_append, Lib.extract_from_zero, ByteArray.data_append, Array.toList_append]

/-- The first byte, and what stands behind the dot. -/
theorem fits_all (a : UInt8) (r : List UInt8) (hl : r = [] ∨ ∃ t, r = 46 :: t ∧ 1 ≤ t.length ∧ t.length ≤ 3) (A Z : ByteArray) (hA : A.data.toList = [a]) (hZ : Z.data.toList = r.drop 1) : Fits (rdL (dgs A Z).data.toList 0) (wS (a :: r)) := by
  rw [dgs_list, hA, hZ, wS_cons]
  rcases hl with rfl | ⟨t, rfl, h1, h2⟩
  · have := fits3 a 48 48 48
    rw [← wF0] at this
    simpa [wG] using this
  · rw [if_pos (show (46 :: t).length ≠ 1 ∧ (46 :: t).length ≤ 4 from by simp only [List.length_cons]; omega)]
    have e : wG (46 :: t) (1000 * ((a.toNat : Int) - 48)) = wF t (1000 * ((a.toNat : Int) - 48)) 100 := by
      show (if (46 : UInt8).toNat = 46 then wF t (1000 * ((a.toNat : Int) - 48)) 100 else -1) = _
      rw [if_pos (by decide)]
    rw [e]
    rcases t with _ | ⟨x, _ | ⟨y, _ | ⟨z, _ | ⟨q, t⟩⟩⟩⟩
    · simp at h1
    · rw [wF1]; exact fits3 a x 48 48
    · rw [wF2]; exact fits3 a x y 48
    · exact fits3 a x y z
    · simp only [List.length_cons] at h2; omega

end Go.Proofs.YtaplkbkpgdpbaaaGreatDoor.Wgt

namespace Go.Proofs.YtaplkbkpgdpbaaaGreatDoor.Lnp
open Go.RowKit
open Go.Proofs.YtaplkbkpgdpbaaaGreatDoor.Lsp (listO)
open Go.Proofs.YtaplkbkpgdpbaaaGreatDoor.Wgt (rdL)

/-- A number of at most nine digits, below 0 for none. -/
def numS (p : ByteArray) : Int := if p.size ≤ 9 then rdL p.data.toList 0 else -1
/-- All parts the same number: it; -2 where they aren't; n so far, -1 for none. -/
def lenF : List ByteArray → Int → Int
  | [], n => n
  | p :: r, n => if numS p < 0 ∨ (0 ≤ n ∧ n ≠ numS p) then -2 else lenF r (numS p)
theorem lenF_bad {p : ByteArray} {r : List ByteArray} {n : Int} (h : numS p < 0 ∨ (0 ≤ n ∧ n ≠ numS p)) : lenF (p :: r) n = -2 := by rw [lenF, if_pos h]
theorem lenF_go {p : ByteArray} {r : List ByteArray} {n : Int} (h : ¬ (numS p < 0 ∨ (0 ≤ n ∧ n ≠ numS p))) : lenF (p :: r) n = lenF r (numS p) := by rw [lenF, if_neg h]
theorem lenF_ge : ∀ {l : List ByteArray} {n : Int}, 0 ≤ n → lenF l n = -2 ∨ lenF l n = n
  | [], _, _ => .inr rfl
  | p :: r, n, hn => by
    by_cases h : numS p < 0 ∨ (0 ≤ n ∧ n ≠ numS p)
    · exact .inl (lenF_bad h)
    · rw [lenF_go h]
      have e : n = numS p := by
        by_cases e : n = numS p
        · exact e
        · exact absurd (.inr ⟨hn, e⟩) h
      rw [← e]
      exact lenF_ge hn
theorem lenF_append : ∀ (l r : List ByteArray) (n : Int), -1 ≤ n → (lenF l n = -2 → lenF (l ++ r) n = -2) ∧ (lenF l n ≠ -2 → lenF (l ++ r) n = lenF r (lenF l n))
  | [], r, n, hn => ⟨fun h => by
      have h : n = -2 := h
      omega, fun _ => rfl⟩
  | p :: l, r, n, hn => by
    by_cases h : numS p < 0 ∨ (0 ≤ n ∧ n ≠ numS p)
    · rw [List.cons_append, lenF_bad h, lenF_bad h]
      exact ⟨fun _ => rfl, fun h => absurd rfl h⟩
    · rw [List.cons_append, lenF_go h, lenF_go h]
      exact lenF_append l r _ (by omega)

/-- What the values of the field tell: -1 for none, -2 where it is not right. -/
def lenV : List ByteArray → Int → Int
  | [], n => n
  | v :: r, n =>
    match listO v with
    | none => -2
    | some [] => -2
    | some (p :: ps) => if lenF (p :: ps) n = -2 then -2 else lenV r (lenF (p :: ps) n)
/-- All parts of all values, in a row: none where one is no list, or has no part. -/
def partsV : List ByteArray → Option (List ByteArray)
  | [] => some []
  | v :: r =>
    match listO v with
    | none => none
    | some [] => none
    | some (p :: ps) => (partsV r).map (fun q => (p :: ps) ++ q)
theorem lenF_low : ∀ (l : List ByteArray) (n : Int), -1 ≤ n → lenF l n ≠ -2 → -1 ≤ lenF l n
  | [], n, hn, _ => hn
  | p :: l, n, hn, h => by
    by_cases hb : numS p < 0 ∨ (0 ≤ n ∧ n ≠ numS p)
    · rw [lenF_bad hb] at h; exact absurd rfl h
    · rw [lenF_go hb] at h ⊢
      exact lenF_low l _ (by omega) h
theorem lenV_parts : ∀ (l : List ByteArray) (n : Int), -1 ≤ n → lenV l n = match partsV l with | none => -2 | some q => lenF q n
  | [], n, _ => rfl
  | v :: r, n, hn => by
    rw [lenV, partsV]
    cases hl : listO v with
    | none => rfl
    | some ps =>
      cases ps with
      | nil => rfl
      | cons p ps =>
        show (if lenF (p :: ps) n = -2 then -2 else lenV r (lenF (p :: ps) n)) = match (partsV r).map (fun q => (p :: ps) ++ q) with | none => -2 | some q => lenF q n
        by_cases hb : lenF (p :: ps) n = -2
        · rw [if_pos hb]
          cases partsV r with
          | none => rfl
          | some q => exact ((lenF_append (p :: ps) q n hn).1 hb).symm
        · rw [if_neg hb, lenV_parts r _ (lenF_low _ _ hn hb)]
          cases partsV r with
          | none => rfl
          | some q => exact ((lenF_append (p :: ps) q n hn).2 hb).symm

end Go.Proofs.YtaplkbkpgdpbaaaGreatDoor.Lnp

namespace Go.Proofs.YtaplkbkpgdpbaaaGreatDoor.Lnp
open Go.RowKit
open Go.Proofs.YtaplkbkpgdpbaaaGreatDoor.Fbs
open Go.Proofs.YtaplkbkpgdpbaaaGreatDoor.Byt
open Go.Proofs.YtaplkbkpgdpbaaaGreatDoor.Fch
open Go.Proofs.YtaplkbkpgdpbaaaGreatDoor.Wgt (rdL RdTo drop_at dig_bd ret_i readDigits_any)

theorem readLength_any (s : ByteArray) (w : World) (hT : Tab w) :
    Calls Tryz.prog 90 #[.string s] w fun e w' => e = .returned (.int .i64 (numS s)) ∧ w' = w := by
  by_cases h : 9 < s.size
  · have HN : Hid (numS s = -1) := by show _ = _; unfold numS; rw [if_neg (by omega)]
    have hd : decide (9 < (s.size : Int)) = true := decide_eq_true (by omega)
    go_enter Tryz.func90, Tryz.ntmps90
    go_wp2_with fail
    go_ret
    exact ⟨ret_i HN.out.symm, rfl⟩
  · have HN : Hid (numS s = rdL s.data.toList 0) := by show _ = _; unfold numS; rw [if_pos (by omega)]
    have hd : decide (9 < (s.size : Int)) = false := decide_eq_false (by omega)
    have HR : Hid _ := readDigits_any s w hT (by omega)
    go_enter Tryz.func90, Tryz.ntmps90
    go_wp2_with fail
    refine (Calls.mono HR.out ?_)
    rintro e w1 ⟨rfl, hw⟩
    obtain rfl := hw.symm
    go_wp2_with fail
    go_ret
    exact ⟨ret_i HN.out.symm, rfl⟩

set_option maxHeartbeats 800000 in
theorem l2Num_small (s : ByteArray) (w : World) (hs : s.size ≤ 9) :
    Calls Tryz.prog 140 #[.string s, .int .i64 0, .int .i64 s.size] w fun e w' => e = .returned (.int .i64 (rdL s.data.toList 0)) ∧ w' = w := by
  go_enter Tryz.func140, Tryz.ntmps140
  go_wp2_with fail
  go_loop [7, 8] (fun n i => ∃ (k v : Nat), n = .int .i64 v ∧ i = .int .i64 k ∧ Hid (RdTo s k v)) (fun _ i => s.size - (intOf i).toNat)
  case atStart => exact ⟨0, 0, rfl, rfl, by omega, by decide, rfl⟩
  case round =>
    obtain ⟨k, v, rfl, rfl, HX⟩ := hrel
    obtain ⟨hk, hv, hE⟩ := HX.out
    by_cases hlt : k < s.size
    · rw [drop_at hlt] at hE
      have hb := byte_bd s[k]
      have hp : 10 ^ k ≤ 10 ^ 8 := Nat.pow_le_pow_right (by omega) (by omega)
      have hp8 : (10 : Nat) ^ 8 = 100000000 := by decide
      have HC : Hid _ := fun w => l1Digit_any (s[k].toNat : Int) w
      cases hd : digitB (s[k].toNat : Int)
      · have HE : Hid (rdL s.data.toList 0 = -1) := by show _ = _; rw [hE, rdL, hd]; rfl
        rw [hd] at HC
        clear hE HX hd hp hp8 hv
        go_wp2_with (go_at_call 162; refine (HC.out _).mono ?_; rintro e w' ⟨rfl, hw⟩; obtain rfl := hw.symm)
        go_ret
        exact ⟨ret_i HE.out.symm, rfl⟩
      · have hbd := dig_bd hd
        have HE : Hid (RdTo s (k + 1) (10 * v + (s[k].toNat - 48))) := by
          refine ⟨by omega, by rw [Nat.pow_succ]; omega, ?_⟩
          rw [hE, rdL, hd, if_pos rfl]
          congr 1; omega
        rw [hd] at HC
        have w1 : IntKind.i64.wrap (10 * (v : Int)) = 10 * (v : Int) := by rw [IntKind.wrap_i64]; omega
        have w2 : IntKind.u8.wrap ((s[k].toNat : Int) - 48) = (s[k].toNat : Int) - 48 := by rw [IntKind.wrap_u8]; omega
        have w3 : IntKind.i64.wrap ((s[k].toNat : Int) - 48) = (s[k].toNat : Int) - 48 := by rw [IntKind.wrap_i64]; omega
        have w4 : IntKind.i64.wrap (10 * (v : Int) + ((s[k].toNat : Int) - 48)) = 10 * (v : Int) + ((s[k].toNat : Int) - 48) := by rw [IntKind.wrap_i64]; omega
        clear hE HX hd
        go_wp2_with (go_at_call 162; refine (HC.out _).mono ?_; rintro e w' ⟨rfl, hw⟩; obtain rfl := hw.symm)
        go_round
        case rel => exact ⟨k + 1, _, by congr 1; omega, by go_num, HE⟩
        case measure => simp [intOf]; omega
    · have HE : Hid (rdL s.data.toList 0 = v) := by
        show _ = _
        rw [hE, List.drop_eq_nil_of_le (by simp; omega)]; rfl
      clear hE HX
      go_wp2_with fail
      go_ret
      exact ⟨ret_i HE.out.symm, rfl⟩

set_option maxHeartbeats 800000 in
theorem l2Num_long (s : ByteArray) (w : World) (hs : s.size ≤ 2000000) :
    Calls Tryz.prog 140 #[.string s, .int .i64 0, .int .i64 s.size] w fun e w' => (∃ v : Int, e = .returned (.int .i64 v)) ∧ w' = w := by
  go_enter Tryz.func140, Tryz.ntmps140
  go_wp2_with fail
  go_loop [7, 8] (fun n i => ∃ (k : Nat) (v : Int), n = .int .i64 v ∧ i = .int .i64 k ∧ k ≤ s.size) (fun _ i => s.size - (intOf i).toNat)
  case atStart => exact ⟨0, 0, rfl, rfl, Nat.zero_le _⟩
  case round =>
    obtain ⟨k, v, rfl, rfl, hk⟩ := hrel
    by_cases hlt : k < s.size
    · have hb := byte_bd s[k]
      have HC : Hid _ := fun w => l1Digit_any (s[k].toNat : Int) w
      cases hd : digitB (s[k].toNat : Int)
      · rw [hd] at HC
        clear hd
        go_wp2_with (go_at_call 162; refine (HC.out _).mono ?_; rintro e w' ⟨rfl, hw⟩; obtain rfl := hw.symm)
        go_ret
        exact ⟨⟨_, rfl⟩, rfl⟩
      · rw [hd] at HC
        clear hd
        go_wp2_with (go_at_call 162; refine (HC.out _).mono ?_; rintro e w' ⟨rfl, hw⟩; obtain rfl := hw.symm)
        go_round
        case rel => exact ⟨k + 1, _, rfl, by go_num, by omega⟩
        case measure => simp [intOf]; omega
    · go_wp2_with fail
      go_ret
      exact ⟨⟨_, rfl⟩, rfl⟩

end Go.Proofs.YtaplkbkpgdpbaaaGreatDoor.Lnp

namespace Go.Proofs.YtaplkbkpgdpbaaaGreatDoor.Lnp
open Go.RowKit
open Go.Proofs.YtaplkbkpgdpbaaaGreatDoor.Fbs
open Go.Proofs.YtaplkbkpgdpbaaaGreatDoor.Fgd (goodF)
open Go.Proofs.YtaplkbkpgdpbaaaGreatDoor.Fvs
open Go.Proofs.YtaplkbkpgdpbaaaGreatDoor.Lsp (listO listL listF addT)

theorem addT_some {acc : List ByteArray} {x : ByteArray} (h : ∀ y ∈ acc, y.size ≠ 0) : ∀ y ∈ addT acc x, y.size ≠ 0 := by
  intro y hy
  unfold addT at hy
  split at hy
  · exact h y hy
  · rename_i hx
    rcases List.mem_append.1 hy with hy | hy
    · exact h y hy
    · have : y = x := by simpa using hy
      subst this; exact hx
theorem listF_some {s : ByteArray} : ∀ (f i fr : Nat) (op : Bool) (acc r : List ByteArray), (∀ y ∈ acc, y.size ≠ 0) → listF s f i fr op acc = some r → ∀ y ∈ r, y.size ≠ 0
  | 0, _, _, _, _, _, _, h => by cases h
  | f + 1, i, fr, op, acc, r, ha, h => by
    unfold listF at h
    split at h
    · split at h
      · exact listF_some f _ _ _ _ r (addT_some ha) h
      · split at h
        · exact listF_some f _ _ _ _ r ha h
        · split at h
          · split at h
            · cases h
            · exact listF_some f _ _ _ _ r ha h
          · exact listF_some f _ _ _ _ r ha h
    · split at h
      · cases h
      · have : addT acc (Tri.trimS (s.extract fr i)) = r := Option.some.inj h
        subst this
        exact addT_some ha
theorem listL_some {s : ByteArray} {r : List ByteArray} (h : listL s = some r) : ∀ y ∈ r, y.size ≠ 0 := listF_some _ _ _ _ _ _ (fun y hy => by cases hy) h

theorem addT_sz {acc : List ByteArray} {x : ByteArray} {n : Nat} (h : ∀ y ∈ acc, y.size ≤ n) (hx : x.size ≤ n) : ∀ y ∈ addT acc x, y.size ≤ n := by
  intro y hy
  unfold addT at hy
  split at hy
  · exact h y hy
  · rcases List.mem_append.1 hy with hy | hy
    · exact h y hy
    · have : y = x := by simpa using hy
      subst this; exact hx
theorem cut_sz (s : ByteArray) (a b : Nat) : (Tri.trimS (s.extract a b)).size ≤ s.size := by
  refine Nat.le_trans (Tri.trimS_size _) ?_
  rw [ByteArray.size_extract]; omega
theorem listF_sz {s : ByteArray} : ∀ (f i fr : Nat) (op : Bool) (acc r : List ByteArray), (∀ y ∈ acc, y.size ≤ s.size) → listF s f i fr op acc = some r → ∀ y ∈ r, y.size ≤ s.size
  | 0, _, _, _, _, _, _, h => by cases h
  | f + 1, i, fr, op, acc, r, ha, h => by
    unfold listF at h
    split at h
    · split at h
      · exact listF_sz f _ _ _ _ r (addT_sz ha (cut_sz s _ _)) h
      · split at h
        · exact listF_sz f _ _ _ _ r ha h
        · split at h
          · split at h
            · cases h
            · exact listF_sz f _ _ _ _ r ha h
          · exact listF_sz f _ _ _ _ r ha h
    · split at h
      · cases h
      · have : addT acc (Tri.trimS (s.extract fr i)) = r := Option.some.inj h
        subst this
        exact addT_sz ha (cut_sz s _ _)
theorem listO_sz {s : ByteArray} {r : List ByteArray} (h : listO s = some r) : ∀ y ∈ r, y.size ≤ 2000000 := by
  unfold listO at h
  split at h
  · rename_i hh
    intro y hy
    have := listF_sz _ _ _ _ _ _ (fun y hy => by cases hy) h y hy
    omega
  · cases h

def clen : ByteArray := ⟨#[99, 111, 110, 116, 101, 110, 116, 45, 108, 101, 110, 103, 116, 104]⟩
/-- What the fields' length is: -1 for none, -2 where it is not right. -/
def lnV (l : List (ByteArray × ByteArray)) : Int := lenV (valsOf clen l) (-1)
def lnO (l : List (ByteArray × ByteArray)) : Int × Bool :=
  if goodL l = true then (if lnV l = -2 then (0, false) else if lnV l < 0 then (0, true) else (lnV l, true)) else (0, false)
theorem lnO_bad {l : List (ByteArray × ByteArray)} (h : goodL l = false) : lnO l = (0, false) := by unfold lnO; rw [if_neg (by simp [h])]
theorem lnO_wrong {l : List (ByteArray × ByteArray)} (h : lnV l = -2) : lnO l = (0, false) := by
  unfold lnO
  split
  · first | rfl | simp
  · rfl
theorem lnO_none {l : List (ByteArray × ByteArray)} (hg : goodL l = true) (h : lnV l = -1) : lnO l = (0, true) := by
  unfold lnO
  rw [if_pos hg, if_neg (by omega), if_pos (by omega)]
theorem lnO_is {l : List (ByteArray × ByteArray)} (hg : goodL l = true) (h : 0 ≤ lnV l) : lnO l = (lnV l, true) := by
  unfold lnO
  rw [if_pos hg, if_neg (by omega), if_neg (by omega)]
theorem ret_len {a b : Int} {p q : Bool} (h : a = b) (h2 : p = q) : Ending.returned (.tuple #[.int .i64 a, .bool p]) = .returned (.tuple #[.int .i64 b, .bool q]) := by rw [h, h2]
/-- A good field's value is a text that is read as a list. -/
theorem vals_list {n : ByteArray} {l : List (ByteArray × ByteArray)} (hg : goodL l = true) : ∀ x ∈ valsOf n l, listO x = listL x ∧ x.size ≤ 300 := by
  intro x hx
  unfold valsOf at hx
  obtain ⟨c, hc, rfl⟩ := List.mem_map.1 hx
  have h := (goodL_all hg).2 c (List.mem_filter.1 hc).1
  have hp : plainB c.2.data.toList = true ∧ c.2.size ≤ 300 := by
    unfold goodF at h
    simp only [Bool.and_eq_true, decide_eq_true_eq] at h
    exact ⟨h.1.2, h.1.1.2⟩
  refine ⟨?_, hp.2⟩
  unfold listO
  rw [if_pos hp]
theorem lenV_none {v : ByteArray} {r : List ByteArray} {n : Int} (h : listO v = none) : lenV (v :: r) n = -2 := by rw [lenV, h]
theorem lenV_empty {v : ByteArray} {r : List ByteArray} {n : Int} (h : listO v = some []) : lenV (v :: r) n = -2 := by rw [lenV, h]
theorem lenV_bad {v : ByteArray} {r ps : List ByteArray} {n : Int} (h : listO v = some ps) (hb : lenF ps n = -2) : lenV (v :: r) n = -2 := by
  rw [lenV, h]
  cases ps with
  | nil => rfl
  | cons p ps => exact if_pos hb
theorem lenV_go {v : ByteArray} {r ps : List ByteArray} {n : Int} (h : listO v = some ps) (h0 : ps ≠ []) (hb : lenF ps n ≠ -2) : lenV (v :: r) n = lenV r (lenF ps n) := by
  rw [lenV, h]
  cases ps with
  | nil => exact absurd rfl h0
  | cons p ps => exact if_neg hb

end Go.Proofs.YtaplkbkpgdpbaaaGreatDoor.Lnp

