/-
  Walks: impl.readDigits, impl.readWeight, spec.l3Weight: a weight.
-/
import Derived.Test.YtfgcgnhffljiaaaGreatDoorCtf
import Derived.Test.YtfgcgnhffljiaaaGreatDoorFch
import Derived.Lib.Split
namespace Go.Proofs.YtfgcgnhffljiaaaGreatDoor.Wgt
open Go.RowKit
open Go.Proofs.YtfgcgnhffljiaaaGreatDoor.Byt
open Go.Proofs.YtfgcgnhffljiaaaGreatDoor.Fbs
open Go.Proofs.YtfgcgnhffljiaaaGreatDoor.Fch
open Go.Proofs.YtfgcgnhffljiaaaGreatDoor.Ctf

theorem isK_dig (b : Int) (h0 : 0 ≤ b) (h1 : b ≤ 255) : isK b 16 = digitB b := by
  obtain ⟨n, rfl⟩ := Int.eq_ofNat_of_zero_le h0
  have all : ∀ n : Nat, n < 256 → isK (n : Int) 16 = digitB (n : Int) := by decide +kernel
  exact all n (by omega)
theorem isDig_any (b : Int) (w : World) (hT : Tab w) (h0 : 0 ≤ b) (h1 : b ≤ 255) :
    Calls Tryz.prog 86 #[.int .u8 b, .int .u8 16] w fun e w' => e = .returned (.bool (digitB b)) ∧ w' = w := by
  rw [← isK_dig b h0 h1]
  exact isKind_any b 16 w hT h0 h1
theorem ret_i {a b : Int} (h : a = b) : Ending.returned (.int .i64 a) = .returned (.int .i64 b) := by rw [h]

/-- Digits behind a number, -1 where a byte is none. -/
def rdL : List UInt8 → Int → Int
  | [], n => n
  | c :: r, n => if digitB (c.toNat : Int) = true then rdL r (n * 10 + ((c.toNat : Int) - 48)) else -1
theorem dig_bd {c : Int} (h : digitB c = true) : 48 ≤ c ∧ c ≤ 57 := by unfold digitB at h; exact of_decide_eq_true h
theorem dig_no {c : Int} (h : digitB c = false) : c < 48 ∨ 57 < c := by unfold digitB at h; have := of_decide_eq_false h; omega

def RdTo (s : ByteArray) (k v : Nat) : Prop := k ≤ s.size ∧ v < 10 ^ k ∧ rdL s.data.toList 0 = rdL (s.data.toList.drop k) v
theorem drop_at {s : ByteArray} {k : Nat} (h : k < s.size) : s.data.toList.drop k = s[k] :: s.data.toList.drop (k + 1) := by
  have h' : k < s.data.toList.length := by simpa using h
  rw [List.drop_eq_getElem_cons h']; rfl

set_option maxHeartbeats 800000 in
theorem readDigits_any (s : ByteArray) (w : World) (hT : Tab w) (hs : s.size ≤ 9) :
    Calls Tryz.prog 174 #[.string s] w fun e w' => e = .returned (.int .i64 (rdL s.data.toList 0)) ∧ w' = w := by
  go_enter Tryz.func174, Tryz.ntmps174
  go_wp2
  go_loop [3, 4] (fun n i => ∃ (k v : Nat), n = .int .i64 v ∧ i = .int .i64 k ∧ Hid (RdTo s k v)) (fun _ i => s.size - (intOf i).toNat)
  case atStart => exact ⟨0, 0, rfl, rfl, by omega, by decide, rfl⟩
  case round =>
    obtain ⟨k, v, rfl, rfl, HX⟩ := hrel
    obtain ⟨hk, hv, hE⟩ := HX.out
    by_cases hlt : k < s.size
    · rw [drop_at hlt] at hE
      have hb := byte_bd s[k]
      have hp : 10 ^ k ≤ 10 ^ 8 := Nat.pow_le_pow_right (by omega) (by omega)
      have hp8 : (10 : Nat) ^ 8 = 100000000 := by decide
      have HC : Hid _ := fun w hT => isDig_any (s[k].toNat : Int) w hT hb.1 hb.2
      cases hd : digitB (s[k].toNat : Int)
      · have HE : Hid (rdL s.data.toList 0 = -1) := by show _ = _; rw [hE, rdL, hd]; rfl
        rw [hd] at HC
        clear hE HX hd hp hp8 hv
        go_wp2_with (go_at_call 86; refine (HC.out _ hT).mono ?_; rintro e w' ⟨rfl, hw⟩; obtain rfl := hw.symm)
        go_ret
        exact ⟨ret_i HE.out.symm, rfl⟩
      · have hbd := dig_bd hd
        have HE : Hid (RdTo s (k + 1) (10 * v + (s[k].toNat - 48))) := by
          refine ⟨by omega, by rw [Nat.pow_succ]; omega, ?_⟩
          rw [hE, rdL, hd, if_pos rfl]
          congr 1; omega
        rw [hd] at HC
        have w1 : IntKind.i64.wrap ((v : Int) * 10) = (v : Int) * 10 := by rw [IntKind.wrap_i64]; omega
        have w2 : IntKind.u8.wrap ((s[k].toNat : Int) - 48) = (s[k].toNat : Int) - 48 := by rw [IntKind.wrap_u8]; omega
        have w3 : IntKind.i64.wrap ((s[k].toNat : Int) - 48) = (s[k].toNat : Int) - 48 := by rw [IntKind.wrap_i64]; omega
        have w4 : IntKind.i64.wrap ((v : Int) * 10 + ((s[k].toNat : Int) - 48)) = (v : Int) * 10 + ((s[k].toNat : Int) - 48) := by rw [IntKind.wrap_i64]; omega
        clear hE HX hd
        go_wp2_with (go_at_call 86; refine (HC.out _ hT).mono ?_; rintro e w' ⟨rfl, hw⟩; obtain rfl := hw.symm)
        go_round
        case rel => exact ⟨k + 1, _, by congr 1; omega, by go_num, HE⟩
        case measure => simp [intOf]; omega
    · have HE : Hid (rdL s.data.toList 0 = v) := by
        show _ = _
        rw [hE, List.drop_eq_nil_of_le (by simp; omega)]; rfl
      clear hE HX
      go_wp2
      go_ret
      exact ⟨ret_i HE.out.symm, rfl⟩

/-- Digits behind the dot of a weight. -/
def wF : List UInt8 → Int → Int → Int
  | [], n, _ => if 1000 < n then -1 else n
  | c :: r, n, b => if digitB (c.toNat : Int) = true then wF r (n + b * ((c.toNat : Int) - 48)) (b / 10) else -1
def wG : List UInt8 → Int → Int
  | [], n => wF [] n 100
  | d :: r, n => if d.toNat = 46 then wF r n 100 else -1
/-- A weight in thousandths, -1 where it is none. -/
def wS : List UInt8 → Int
  | [] => -1
  | a :: r => if (a.toNat = 48 ∨ a.toNat = 49) ∧ r.length ≠ 1 ∧ r.length ≤ 4 then wG r (1000 * ((a.toNat : Int) - 48)) else -1

def bO (k : Nat) : Int := if k ≤ 2 then 100 else if k = 3 then 10 else if k = 4 then 1 else 0
def WTo (s : ByteArray) (k : Nat) (v : Int) : Prop := 1 ≤ k ∧ k ≤ s.size ∧ 0 ≤ v ∧ v ≤ 1000 + 1000 * (k : Int) ∧ wS s.data.toList = if k = 1 then wG (s.data.toList.drop 1) v else wF (s.data.toList.drop k) v (bO k)

theorem empty_cmp {T : ByteArray} (h : T.size = 0) : (T.toList == []) = true := by
  have : T = ⟨#[]⟩ := by
    apply ByteArray.ext
    have h2 : T.data.size = 0 := h
    exact Array.eq_empty_of_size_eq_zero h2
  rw [this]; decide +kernel
theorem some_cmp {T : ByteArray} (h : T.size ≠ 0) : (T.toList == []) = false := by
  rw [beq_eq_false_iff_ne]
  intro e
  apply h
  rw [ByteArray.toList_eq] at e
  have h2 : T.data = #[] := by simpa using e
  show T.data.size = 0
  rw [h2]; rfl

def d4 (a x y z : UInt8) : Int := 1000 * ((a.toNat : Int) - 48) + 100 * ((x.toNat : Int) - 48) + 10 * ((y.toNat : Int) - 48) + ((z.toNat : Int) - 48)
theorem rd4 (a x y z : UInt8) : rdL [a, x, y, z] 0 = if (digitB (a.toNat : Int) && digitB (x.toNat : Int) && digitB (y.toNat : Int) && digitB (z.toNat : Int)) = true then d4 a x y z else -1 := by
  unfold d4
  cases h1 : digitB (a.toNat : Int)
  · simp [rdL, h1]
  · cases h2 : digitB (x.toNat : Int)
    · simp [rdL, h1, h2]
    · cases h3 : digitB (y.toNat : Int)
      · simp [rdL, h1, h2, h3]
      · cases h4 : digitB (z.toNat : Int)
        · simp [rdL, h1, h2, h3, h4]
        · simp [rdL, h1, h2, h3, h4]; omega
def Fits (R W : Int) : Prop := (0 ≤ R ∧ R ≤ 1000 ∧ W = R) ∨ (¬ (0 ≤ R ∧ R ≤ 1000) ∧ W = -1)
theorem wF3 (x y z : UInt8) (n : Int) : wF [x, y, z] n 100 = if (digitB (x.toNat : Int) && digitB (y.toNat : Int) && digitB (z.toNat : Int)) = true then (if 1000 < n + 100 * ((x.toNat : Int) - 48) + 10 * ((y.toNat : Int) - 48) + ((z.toNat : Int) - 48) then -1 else n + 100 * ((x.toNat : Int) - 48) + 10 * ((y.toNat : Int) - 48) + ((z.toNat : Int) - 48)) else -1 := by
  cases h2 : digitB (x.toNat : Int)
  · simp [wF, h2]
  · cases h3 : digitB (y.toNat : Int)
    · simp [wF, h2, h3]
    · cases h4 : digitB (z.toNat : Int)
      · simp [wF, h2, h3, h4]
      · simp [wF, h2, h3, h4]
theorem wF2 (x y : UInt8) (n : Int) : wF [x, y] n 100 = wF [x, y, 48] n 100 := by
  have h4 : digitB 48 = true := by decide
  cases h2 : digitB (x.toNat : Int)
  · simp [wF, h2]
  · cases h3 : digitB (y.toNat : Int)
    · simp [wF, h2, h3]
    · simp [wF, h2, h3, h4]
theorem wF1 (x : UInt8) (n : Int) : wF [x] n 100 = wF [x, 48, 48] n 100 := by
  have h4 : digitB 48 = true := by decide
  cases h2 : digitB (x.toNat : Int)
  · simp [wF, h2]
  · simp [wF, h2, h4]
theorem wF0 (n : Int) : wF [] n 100 = wF [48, 48, 48] n 100 := by
  have h4 : digitB 48 = true := by decide
  simp [wF, h4]
theorem fits3 (a x y z : UInt8) : Fits (rdL [a, x, y, z] 0) (if a.toNat = 48 ∨ a.toNat = 49 then wF [x, y, z] (1000 * ((a.toNat : Int) - 48)) 100 else -1) := by
  rw [rd4, wF3]
  unfold Fits d4
  have hb := byte_bd a
  cases hd : (digitB (x.toNat : Int) && digitB (y.toNat : Int) && digitB (z.toNat : Int))
  · right
    have hn : (digitB (a.toNat : Int) && digitB (x.toNat : Int) && digitB (y.toNat : Int) && digitB (z.toNat : Int)) = false := by
      rw [Bool.and_assoc, Bool.and_assoc, ← Bool.and_assoc (digitB (x.toNat : Int)), hd, Bool.and_false]
    rw [hn]
    refine ⟨by simp, by split <;> simp⟩
  · have hx : digitB (x.toNat : Int) = true ∧ digitB (y.toNat : Int) = true ∧ digitB (z.toNat : Int) = true := by
      simp only [Bool.and_eq_true] at hd; exact ⟨hd.1.1, hd.1.2, hd.2⟩
    have b1 := dig_bd hx.1
    have b2 := dig_bd hx.2.1
    have b3 := dig_bd hx.2.2
    rw [if_pos rfl, hx.1, hx.2.1, hx.2.2]
    cases ha : digitB (a.toNat : Int)
    · have := dig_no ha
      right
      rw [if_neg (show ¬ (a.toNat = 48 ∨ a.toNat = 49) from by omega)]
      exact ⟨by simp, rfl⟩
    · have := dig_bd ha
      simp only [Bool.and_true, if_true]
      by_cases h : a.toNat = 48 ∨ a.toNat = 49
      · rw [if_pos h]
        by_cases hg : 1000 < 1000 * ((a.toNat : Int) - 48) + 100 * ((x.toNat : Int) - 48) + 10 * ((y.toNat : Int) - 48) + ((z.toNat : Int) - 48)
        · rw [if_pos hg]; right; exact ⟨by omega, rfl⟩
        · rw [if_neg hg]; left; exact ⟨by omega, by omega, rfl⟩
      · rw [if_neg h]; right; exact ⟨by omega, rfl⟩

/-- The digits that impl.readWeight reads. -/
def dgs (A Z : ByteArray) : ByteArray := A ++ (Z ++ ⟨#[48, 48, 48]⟩).extract 0 3

theorem wS_cons (a : UInt8) (r : List UInt8) : wS (a :: r) = if a.toNat = 48 ∨ a.toNat = 49 then (if r.length ≠ 1 ∧ r.length ≤ 4 then wG r (1000 * ((a.toNat : Int) - 48)) else -1) else -1 := by
  show (if (a.toNat = 48 ∨ a.toNat = 49) ∧ r.length ≠ 1 ∧ r.length ≤ 4 then wG r (1000 * ((a.toNat : Int) - 48)) else -1) = _
  by_cases h : a.toNat = 48 ∨ a.toNat = 49
  · by_cases h2 : r.length ≠ 1 ∧ r.length ≤ 4
    · rw [if_pos ⟨h, h2⟩, if_pos h, if_pos h2]
    · rw [if_neg (fun x => h2 x.2), if_pos h, if_neg h2]
  · rw [if_neg (fun x => h x.1), if_neg h]

theorem dgs_list (A Z : ByteArray) : (dgs A Z).data.toList = A.data.toList ++ (Z.data.toList ++ [48, 48, 48]).take 3 := by
  unfold dgs
  rw [ByteArray.data_append, Array.toList_append, Lib.extract_from_zero, ByteArray.data_append, Array.toList_append]

/-- The first byte, and what stands behind the dot. -/
theorem fits_all (a : UInt8) (r : List UInt8) (hl : r = [] ∨ ∃ t, r = 46 :: t ∧ 1 ≤ t.length ∧ t.length ≤ 3) (A Z : ByteArray) (hA : A.data.toList = [a]) (hZ : Z.data.toList = r.drop 1) : Fits (rdL (dgs A Z).data.toList 0) (wS (a :: r)) := by
  rw [dgs_list, hA, hZ, wS_cons]
  rcases hl with rfl | ⟨t, rfl, h1, h2⟩
  · have := fits3 a 48 48 48
    rw [← wF0] at this
    simpa [wG] using this
  · rw [if_pos (show (46 :: t).length ≠ 1 ∧ (46 :: t).length ≤ 4 from by simp only [List.length_cons]; omega)]
    have e : wG (46 :: t) (1000 * ((a.toNat : Int) - 48)) = wF t (1000 * ((a.toNat : Int) - 48)) 100 := by
      show (if (46 : UInt8).toNat = 46 then wF t (1000 * ((a.toNat : Int) - 48)) 100 else -1) = _
      rw [if_pos (by decide)]
    rw [e]
    rcases t with _ | ⟨x, _ | ⟨y, _ | ⟨z, _ | ⟨q, t⟩⟩⟩⟩
    · simp at h1
    · rw [wF1]; exact fits3 a x 48 48
    · rw [wF2]; exact fits3 a x y 48
    · exact fits3 a x y z
    · simp only [List.length_cons] at h2; omega

end Go.Proofs.YtfgcgnhffljiaaaGreatDoor.Wgt
