/-
  Walk: spec.l1Cut: a text cut at the first of a byte; where the library cuts it (for the texts on fields).
  Walks: impl.readDigits, impl.readWeight, spec.l3Weight: a weight.
  Pure: the bytes of a date that is told; what is read of them.
-/
import Derived.Test.YtgidmoncocbfiaaGreatDoorMg1
import Derived.Below
import Derived.Deep.QuietTactic
import Derived.BigQuiet
import Derived.Deep.RegionLaw
import Derived.WalkKit
import Derived.WalkLawsBesides
import Derived.WalkSpells
import Derived.Lib.IndexLaws
import Derived.Lib.CutLaws
import Derived.Test.YtgidmoncocbfiaaGreatDoorMg4
import Derived.Lib.Split
import Derived.Test.YtgidmoncocbfiaaGreatDoorDtt
namespace Go.Proofs.YtgidmoncocbfiaaGreatDoor.Ctf
open Go.RowKit
open Go.Proofs.YtgidmoncocbfiaaGreatDoor.Fbs

/-- Where a byte stands first: its place, or none. -/
def firstAt (l : List UInt8) (c : UInt8) : Nat → Nat → Option Nat
  | 0, _ => none
  | f + 1, k => if k < l.length then (if l[k]?.getD 0 = c then some k else firstAt l c f (k + 1)) else none

def cutI (s : ByteArray) (c : UInt8) : Option Nat := firstAt s.data.toList c s.data.toList.length 0
def cutA (s : ByteArray) (c : UInt8) : ByteArray := match cutI s c with | some k => s.extract 0 k | none => s
def cutZ (s : ByteArray) (c : UInt8) : ByteArray := match cutI s c with | some k => s.extract (k + 1) s.size | none => ⟨#[]⟩
def cutB (s : ByteArray) (c : UInt8) : Bool := (cutI s c).isSome

theorem cut_some {s : ByteArray} {c : UInt8} {k : Nat} (h : cutI s c = some k) : cutA s c = s.extract 0 k ∧ cutZ s c = s.extract (k + 1) s.size ∧ cutB s c = true := by
  unfold cutA cutZ cutB; rw [h]; exact ⟨rfl, rfl, rfl⟩
theorem cut_none {s : ByteArray} {c : UInt8} (h : cutI s c = none) : cutA s c = s ∧ cutZ s c = ⟨#[]⟩ ∧ cutB s c = false := by
  unfold cutA cutZ cutB; rw [h]; exact ⟨rfl, rfl, rfl⟩

theorem first_end {l : List UInt8} {c : UInt8} {f k : Nat} (h : l.length ≤ k) : firstAt l c f k = none := by
  cases f with
  | zero => rfl
  | succ f => simp only [firstAt]; rw [if_neg (by omega)]
theorem first_hit {l : List UInt8} {c : UInt8} {f k : Nat} (h : k < l.length) (hc : l[k]?.getD 0 = c) : firstAt l c (f + 1) k = some k := by
  simp only [firstAt]; rw [if_pos h, if_pos hc]
theorem first_miss {l : List UInt8} {c : UInt8} {f k : Nat} (h : k < l.length) (hc : l[k]?.getD 0 ≠ c) : firstAt l c (f + 1) k = firstAt l c f (k + 1) := by
  simp only [firstAt]; rw [if_pos h, if_neg hc]

theorem below_drewN (w : World) (n : Nat) : Below w.heap.size w (w.drewN n) := ⟨rfl, rfl, rfl, Nat.le_refl _, fun _ _ => rfl⟩

theorem ret_three {a b a' b' : ByteArray} {x x' : Bool} (h1 : a = a') (h2 : b = b') (h3 : x = x') : Ending.returned (.tuple #[.string a, .string b, .bool x]) = .returned (.tuple #[.string a', .string b', .bool x']) := by rw [h1, h2, h3]

set_option maxHeartbeats 800000 in
theorem l1Cut_any (s : ByteArray) (c : UInt8) (w : World) (hs : s.size ≤ 2000000) :
    Calls Tryz.prog 100 #[.string s, .int .u8 (c.toNat : Int)] w fun e w' => e = .returned (.tuple #[.string (cutA s c), .string (cutZ s c), .bool (cutB s c)]) ∧ Below w.heap.size w w' := by
  go_enter Tryz.func100, Tryz.ntmps100
  go_wp2
  go_loop [7] (fun i => ∃ k f : Nat, k ≤ s.size ∧ s.size ≤ k + f ∧ i = .int .i64 k ∧ Hid (cutI s c = firstAt s.data.toList c f k)) (fun i => s.size - (intOf i).toNat)
  case atStart => exact ⟨0, s.data.toList.length, by omega, by rw [len_list]; omega, rfl, rfl⟩
  case round =>
    obtain ⟨k, f, hk, hf, rfl, HD⟩ := hrel
    by_cases hlt : k < s.size
    · have e0 := at_list s k hlt
      obtain ⟨f', rfl⟩ : ∃ f', f = f' + 1 := ⟨f - 1, by omega⟩
      by_cases hc : s[k] = c
      · have HR := cut_some (s := s) (c := c) (k := k) (by rw [HD.out]; exact first_hit (by rw [len_list]; exact hlt) (by rw [e0]; exact hc))
        have HR' : Hid (cutA s c = s.extract 0 k ∧ cutZ s c = s.extract (k + 1) s.size ∧ cutB s c = true) := HR
        have hc' : ((s[k].toNat : Int) == (c.toNat : Int)) = true := by rw [hc]; simp
        clear HD HR e0 hc
        go_wp2
        go_quiet (fail)
        go_wp2
        go_ret3
        exact ⟨ret_three HR'.out.1.symm HR'.out.2.1.symm HR'.out.2.2.symm, below_drewN w _⟩
      · have HD' : Hid (cutI s c = firstAt s.data.toList c f' (k + 1)) := by
          show _ = _; rw [HD.out]; exact first_miss (by rw [len_list]; exact hlt) (by rw [e0]; exact hc)
        have hc' : ((s[k].toNat : Int) == (c.toNat : Int)) = false := by
          rw [beq_eq_false_iff_ne]; intro e; exact hc (UInt8.toNat_inj.1 (by omega))
        clear HD e0 hc
        go_wp2
        go_round
        case rel => exact ⟨k + 1, f', by omega, by omega, by go_num, HD'⟩
        case measure => simp [intOf]; omega
    · have HR := cut_none (s := s) (c := c) (by rw [HD.out]; exact first_end (by rw [len_list]; omega))
      have HR' : Hid (cutA s c = s ∧ cutZ s c = ⟨#[]⟩ ∧ cutB s c = false) := HR
      clear HD HR
      go_wp2
      go_ret3
      exact ⟨ret_three HR'.out.1.symm HR'.out.2.1.symm HR'.out.2.2.symm, Below.refl _ _⟩

theorem first_spec {l : List UInt8} {c : UInt8} : ∀ (f k r : Nat), firstAt l c f k = some r → k ≤ r ∧ r < l.length ∧ l[r]?.getD 0 = c ∧ ∀ j, k ≤ j → j < r → l[j]?.getD 0 ≠ c
  | 0, k, r, h => by simp [firstAt] at h
  | f + 1, k, r, h => by
    by_cases h1 : k < l.length
    · by_cases h2 : l[k]?.getD 0 = c
      · rw [first_hit h1 h2] at h
        obtain rfl := Option.some.inj h
        exact ⟨Nat.le_refl _, h1, h2, fun j a b => by omega⟩
      · rw [first_miss h1 h2] at h
        obtain ⟨a, b, d, e⟩ := first_spec f (k + 1) r h
        refine ⟨by omega, b, d, fun j x y => ?_⟩
        by_cases e1 : j = k
        · rw [e1]; exact h2
        · exact e j (by omega) y
    · rw [first_end (by omega)] at h; cases h
theorem first_no {l : List UInt8} {c : UInt8} : ∀ (f k : Nat), l.length ≤ k + f → firstAt l c f k = none → ∀ j, k ≤ j → j < l.length → l[j]?.getD 0 ≠ c
  | 0, k, hf, h, j, a, b => by omega
  | f + 1, k, hf, h, j, a, b => by
    by_cases h1 : k < l.length
    · by_cases h2 : l[k]?.getD 0 = c
      · rw [first_hit h1 h2] at h; cases h
      · rw [first_miss h1 h2] at h
        by_cases e1 : j = k
        · rw [e1]; exact h2
        · exact first_no f (k + 1) (by omega) h j (by omega) b
    · omega

theorem occ_one (l : List UInt8) (c : UInt8) (j : Nat) (h : j < l.length) : Lib.occAt l [c] j = (l[j]?.getD 0 == c) := by
  unfold Lib.occAt
  rw [List.drop_eq_getElem_cons h]
  simp [List.isPrefixOf, h]
  exact Bool.eq_iff_iff.2 ⟨fun e => by simp at e ⊢; exact e.symm, fun e => by simp at e ⊢; exact e.symm⟩

theorem cut_is (s : ByteArray) (c : UInt8) :
    (⟨(Lib.cut s.data.toList [c]).1.toArray⟩ : ByteArray) = cutA s c ∧ (⟨(Lib.cut s.data.toList [c]).2.1.toArray⟩ : ByteArray) = cutZ s c ∧ (Lib.cut s.data.toList [c]).2.2 = cutB s c := by
  have hl : s.data.toList.length = s.size := by simp
  cases h : cutI s c with
  | some k =>
    obtain ⟨a, b, d, e⟩ := first_spec _ _ _ h
    have hi : Lib.indexB s ⟨#[c]⟩ = k := by
      refine Lib.index_hit (sub := [c]) (fun j hj => ?_) (by omega) ?_
      · rw [occ_one _ _ _ (by omega)]
        have := e j (Nat.zero_le _) hj
        simpa using this
      · rw [occ_one _ _ _ b, d]; simp
    have := Lib.cutB_hit s ⟨#[c]⟩ k hi
    obtain ⟨q1, q2, q3⟩ := cut_some h
    rw [q1, q2, q3]
    exact this
  | none =>
    have e := first_no _ _ (by omega) h
    have hi : Lib.indexB s ⟨#[c]⟩ = -1 := by
      refine Lib.index_past (s := s.data.toList) (sub := [c]) (i := s.data.toList.length) (by simp) (fun j hj => ?_) (by simp)
      rw [occ_one _ _ _ hj]
      have := e j (Nat.zero_le _) hj
      simpa using this
    have := Lib.cutB_miss s ⟨#[c]⟩ hi
    obtain ⟨q1, q2, q3⟩ := cut_none h
    rw [q1, q2, q3]
    exact this

end Go.Proofs.YtgidmoncocbfiaaGreatDoor.Ctf

namespace Go.Proofs.YtgidmoncocbfiaaGreatDoor.Wgt
open Go.RowKit
open Go.Proofs.YtgidmoncocbfiaaGreatDoor.Byt
open Go.Proofs.YtgidmoncocbfiaaGreatDoor.Fbs
open Go.Proofs.YtgidmoncocbfiaaGreatDoor.Fch
open Go.Proofs.YtgidmoncocbfiaaGreatDoor.Ctf

theorem isK_dig (b : Int) (h0 : 0 ≤ b) (h1 : b ≤ 255) : isK b 16 = digitB b := by
  obtain ⟨n, rfl⟩ := Int.eq_ofNat_of_zero_le h0
  have all : ∀ n : Nat, n < 256 → isK (n : Int) 16 = digitB (n : Int) := by decide +kernel
  exact all n (by omega)
theorem isDig_any (b : Int) (w : World) (hT : Tab w) (h0 : 0 ≤ b) (h1 : b ≤ 255) :
    Calls Tryz.prog 50 #[.int .u8 b, .int .u8 16] w fun e w' => e = .returned (.bool (digitB b)) ∧ w' = w := by
  rw [← isK_dig b h0 h1]
  exact isKind_any b 16 w hT h0 h1
theorem ret_i {a b : Int} (h : a = b) : Ending.returned (.int .i64 a) = .returned (.int .i64 b) := by rw [h]

/-- Digits behind a number, -1 where a byte is none. -/
def rdL : List UInt8 → Int → Int
  | [], n => n
  | c :: r, n => if digitB (c.toNat : Int) = true then rdL r (n * 10 + ((c.toNat : Int) - 48)) else -1
theorem dig_bd {c : Int} (h : digitB c = true) : 48 ≤ c ∧ c ≤ 57 := by unfold digitB at h; exact of_decide_eq_true h
theorem dig_no {c : Int} (h : digitB c = false) : c < 48 ∨ 57 < c := by unfold digitB at h; have := of_decide_eq_false h; omega

def RdTo (s : ByteArray) (k v : Nat) : Prop := k ≤ s.size ∧ v < 10 ^ k ∧ rdL s.data.toList 0 = rdL (s.data.toList.drop k) v
theorem drop_at {s : ByteArray} {k : Nat} (h : k < s.size) : s.data.toList.drop k = s[k] :: s.data.toList.drop (k + 1) := by
  have h' : k < s.data.toList.length := by simpa using h
  rw [List.drop_eq_getElem_cons h']; rfl

set_option maxHeartbeats 800000 in
theorem readDigits_any (s : ByteArray) (w : World) (hT : Tab w) (hs : s.size ≤ 9) :
    Calls Tryz.prog 144 #[.string s] w fun e w' => e = .returned (.int .i64 (rdL s.data.toList 0)) ∧ w' = w := by
  go_enter Tryz.func144, Tryz.ntmps144
  go_wp2
  go_loop [3, 4] (fun n i => ∃ (k v : Nat), n = .int .i64 v ∧ i = .int .i64 k ∧ Hid (RdTo s k v)) (fun _ i => s.size - (intOf i).toNat)
  case atStart => exact ⟨0, 0, rfl, rfl, by omega, by decide, rfl⟩
  case round =>
    obtain ⟨k, v, rfl, rfl, HX⟩ := hrel
    obtain ⟨hk, hv, hE⟩ := HX.out
    by_cases hlt : k < s.size
    · rw [drop_at hlt] at hE
      have hb := byte_bd s[k]
      have hp : 10 ^ k ≤ 10 ^ 8 := Nat.pow_le_pow_right (by omega) (by omega)
      have hp8 : (10 : Nat) ^ 8 = 100000000 := by decide
      have HC : Hid _ := fun w hT => isDig_any (s[k].toNat : Int) w hT hb.1 hb.2
      cases hd : digitB (s[k].toNat : Int)
      · have HE : Hid (rdL s.data.toList 0 = -1) := by show _ = _; rw [hE, rdL, hd]; rfl
        rw [hd] at HC
        clear hE HX hd hp hp8 hv
        go_wp2_with (go_at_call 50; refine (HC.out _ hT).mono ?_; rintro e w' ⟨rfl, hw⟩; obtain rfl := hw.symm)
        go_ret
        exact ⟨ret_i HE.out.symm, rfl⟩
      · have hbd := dig_bd hd
        have HE : Hid (RdTo s (k + 1) (10 * v + (s[k].toNat - 48))) := by
          refine ⟨by omega, by rw [Nat.pow_succ]; omega, ?_⟩
          rw [hE, rdL, hd, if_pos rfl]
          congr 1; omega
        rw [hd] at HC
        have w1 : IntKind.i64.wrap ((v : Int) * 10) = (v : Int) * 10 := by rw [IntKind.wrap_i64]; omega
        have w2 : IntKind.u8.wrap ((s[k].toNat : Int) - 48) = (s[k].toNat : Int) - 48 := by rw [IntKind.wrap_u8]; omega
        have w3 : IntKind.i64.wrap ((s[k].toNat : Int) - 48) = (s[k].toNat : Int) - 48 := by rw [IntKind.wrap_i64]; omega
        have w4 : IntKind.i64.wrap ((v : Int) * 10 + ((s[k].toNat : Int) - 48)) = (v : Int) * 10 + ((s[k].toNat : Int) - 48) := by rw [IntKind.wrap_i64]; omega
        clear hE HX hd
        go_wp2_with (go_at_call 50; refine (HC.out _ hT).mono ?_; rintro e w' ⟨rfl, hw⟩; obtain rfl := hw.symm)
        go_round
        case rel => exact ⟨k + 1, _, by congr 1; omega, by go_num, HE⟩
        case measure => simp [intOf]; omega
    · have HE : Hid (rdL s.data.toList 0 = v) := by
        show _ = _
        rw [hE, List.drop_eq_nil_of_le (by simp; omega)]; rfl
      clear hE HX
      go_wp2
      go_ret
      exact ⟨ret_i HE.out.symm, rfl⟩

/-- Digits behind the dot of a weight. -/
def wF : List UInt8 → Int → Int → Int
  | [], n, _ => if 1000 < n then -1 else n
  | c :: r, n, b => if digitB (c.toNat : Int) = true then wF r (n + b * ((c.toNat : Int) - 48)) (b / 10) else -1
def wG : List UInt8 → Int → Int
  | [], n => wF [] n 100
  | d :: r, n => if d.toNat = 46 then wF r n 100 else -1
/-- A weight in thousandths, -1 where it is none. -/
def wS : List UInt8 → Int
  | [] => -1
  | a :: r => if (a.toNat = 48 ∨ a.toNat = 49) ∧ r.length ≠ 1 ∧ r.length ≤ 4 then wG r (1000 * ((a.toNat : Int) - 48)) else -1

def bO (k : Nat) : Int := if k ≤ 2 then 100 else if k = 3 then 10 else if k = 4 then 1 else 0
def WTo (s : ByteArray) (k : Nat) (v : Int) : Prop := 1 ≤ k ∧ k ≤ s.size ∧ 0 ≤ v ∧ v ≤ 1000 + 1000 * (k : Int) ∧ wS s.data.toList = if k = 1 then wG (s.data.toList.drop 1) v else wF (s.data.toList.drop k) v (bO k)

theorem empty_cmp {T : ByteArray} (h : T.size = 0) : (T.toList == []) = true := by
  have : T = ⟨#[]⟩ := by
    apply ByteArray.ext
    have h2 : T.data.size = 0 := h
    exact Array.eq_empty_of_size_eq_zero h2
  rw [this]; decide +kernel
theorem some_cmp {T : ByteArray} (h : T.size ≠ 0) : (T.toList == []) = false := by
  rw [beq_eq_false_iff_ne]
  intro e
  apply h
  rw [ByteArray.toList_eq] at e
  have h2 : T.data = #[] := by simpa using e
  show T.data.size = 0
  rw [h2]; rfl

def d4 (a x y z : UInt8) : Int := 1000 * ((a.toNat : Int) - 48) + 100 * ((x.toNat : Int) - 48) + 10 * ((y.toNat : Int) - 48) + ((z.toNat : Int) - 48)
theorem rd4 (a x y z : UInt8) : rdL [a, x, y, z] 0 = if (digitB (a.toNat : Int) && digitB (x.toNat : Int) && digitB (y.toNat : Int) && digitB (z.toNat : Int)) = true then d4 a x y z else -1 := by
  unfold d4
  cases h1 : digitB (a.toNat : Int)
  · simp [rdL, h1]
  · cases h2 : digitB (x.toNat : Int)
    · simp [rdL, h1, h2]
    · cases h3 : digitB (y.toNat : Int)
      · simp [rdL, h1, h2, h3]
      · cases h4 : digitB (z.toNat : Int)
        · simp [rdL, h1, h2, h3, h4]
        · simp [rdL, h1, h2, h3, h4]; omega
def Fits (R W : Int) : Prop := (0 ≤ R ∧ R ≤ 1000 ∧ W = R) ∨ (¬ (0 ≤ R ∧ R ≤ 1000) ∧ W = -1)
theorem wF3 (x y z : UInt8) (n : Int) : wF [x, y, z] n 100 = if (digitB (x.toNat : Int) && digitB (y.toNat : Int) && digitB (z.toNat : Int)) = true then (if 1000 < n + 100 * ((x.toNat : Int) - 48) + 10 * ((y.toNat : Int) - 48) + ((z.toNat : Int) - 48) then -1 else n + 100 * ((x.toNat : Int) - 48) + 10 * ((y.toNat : Int) - 48) + ((z.toNat : Int) - 48)) else -1 := by
  cases h2 : digitB (x.toNat : Int)
  · simp [wF, h2]
  · cases h3 : digitB (y.toNat : Int)
    · simp [wF, h2, h3]
    · cases h4 : digitB (z.toNat : Int)
      · simp [wF, h2, h3, h4]
      · simp [wF, h2, h3, h4]
theorem wF2 (x y : UInt8) (n : Int) : wF [x, y] n 100 = wF [x, y, 48] n 100 := by
  have h4 : digitB 48 = true := by decide
  cases h2 : digitB (x.toNat : Int)
  · simp [wF, h2]
  · cases h3 : digitB (y.toNat : Int)
    · simp [wF, h2, h3]
    · simp [wF, h2, h3, h4]
theorem wF1 (x : UInt8) (n : Int) : wF [x] n 100 = wF [x, 48, 48] n 100 := by
  have h4 : digitB 48 = true := by decide
  cases h2 : digitB (x.toNat : Int)
  · simp [wF, h2]
  · simp [wF, h2, h4]
theorem wF0 (n : Int) : wF [] n 100 = wF [48, 48, 48] n 100 := by
  have h4 : digitB 48 = true := by decide
  simp [wF, h4]
theorem fits3 (a x y z : UInt8) : Fits (rdL [a, x, y, z] 0) (if a.toNat = 48 ∨ a.toNat = 49 then wF [x, y, z] (1000 * ((a.toNat : Int) - 48)) 100 else -1) := by
  rw [rd4, wF3]
  unfold Fits d4
  have hb := byte_bd a
  cases hd : (digitB (x.toNat : Int) && digitB (y.toNat : Int) && digitB (z.toNat : Int))
  · right
    have hn : (digitB (a.toNat : Int) && digitB (x.toNat : Int) && digitB (y.toNat : Int) && digitB (z.toNat : Int)) = false := by
      rw [Bool.and_assoc, Bool.and_assoc, ← Bool.and_assoc (digitB (x.toNat : Int)), hd, Bool.and_false]
    rw [hn]
    refine ⟨by simp, by split <;> simp⟩
  · have hx : digitB (x.toNat : Int) = true ∧ digitB (y.toNat : Int) = true ∧ digitB (z.toNat : Int) = true := by
      simp only [Bool.and_eq_true] at hd; exact ⟨hd.1.1, hd.1.2, hd.2⟩
    have b1 := dig_bd hx.1
    have b2 := dig_bd hx.2.1
    have b3 := dig_bd hx.2.2
    rw [if_pos rfl, hx.1, hx.2.1, hx.2.2]
    cases ha : digitB (a.toNat : Int)
    · have := dig_no ha
      right
      rw [if_neg (show ¬ (a.toNat = 48 ∨ a.toNat = 49) from by omega)]
      exact ⟨by simp, rfl⟩
    · have := dig_bd ha
      simp only [Bool.and_true, if_true]
      by_cases h : a.toNat = 48 ∨ a.toNat = 49
      · rw [if_pos h]
        by_cases hg : 1000 < 1000 * ((a.toNat : Int) - 48) + 100 * ((x.toNat : Int) - 48) + 10 * ((y.toNat : Int) - 48) + ((z.toNat : Int) - 48)
        · rw [if_pos hg]; right; exact ⟨by omega, rfl⟩
        · rw [if_neg hg]; left; exact ⟨by omega, by omega, rfl⟩
      · rw [if_neg h]; right; exact ⟨by omega, rfl⟩

/-- The digits that impl.readWeight reads. -/
def dgs (A Z : ByteArray) : ByteArray := A ++ (Z ++ ⟨#[48, 48, 48]⟩).extract 0 3

theorem wS_cons (a : UInt8) (r : List UInt8) : wS (a :: r) = if a.toNat = 48 ∨ a.toNat = 49 then (if r.length ≠ 1 ∧ r.length ≤ 4 then wG r (1000 * ((a.toNat : Int) - 48)) else -1) else -1 := by
  show (if (a.toNat = 48 ∨ a.toNat = 49) ∧ r.length ≠ 1 ∧ r.length ≤ 4 then wG r (1000 * ((a.toNat : Int) - 48)) else -1) = _
  by_cases h : a.toNat = 48 ∨ a.toNat = 49
  · by_cases h2 : r.length ≠ 1 ∧ r.length ≤ 4
    · rw [if_pos ⟨h, h2⟩, if_pos h, if_pos h2]
    · rw [if_neg (fun x => h2 x.2), if_pos h, if_neg h2]
  · rw [if_neg (fun x => h x.1), if_neg h]

theorem dgs_list (A Z : ByteArray) : (dgs A Z).data.toList = A.data.toList ++ (Z.data.toList ++ [48, 48, 48]).take 3 := by
  unfold dgs
  rw [ByteArray.data_append, Array.toList_append, Lib.extract_from_zero, ByteArray.data_append, Array.toList_append]

/-- The first byte, and what stands behind the dot. -/
theorem fits_all (a : UInt8) (r : List UInt8) (hl : r = [] ∨ ∃ t, r = 46 :: t ∧ 1 ≤ t.length ∧ t.length ≤ 3) (A Z : ByteArray) (hA : A.data.toList = [a]) (hZ : Z.data.toList = r.drop 1) : Fits (rdL (dgs A Z).data.toList 0) (wS (a :: r)) := by
  rw [dgs_list, hA, hZ, wS_cons]
  rcases hl with rfl | ⟨t, rfl, h1, h2⟩
  · have := fits3 a 48 48 48
    rw [← wF0] at this
    simpa [wG] using this
  · rw [if_pos (show (46 :: t).length ≠ 1 ∧ (46 :: t).length ≤ 4 from by simp only [List.length_cons]; omega)]
    have e : wG (46 :: t) (1000 * ((a.toNat : Int) - 48)) = wF t (1000 * ((a.toNat : Int) - 48)) 100 := by
      show (if (46 : UInt8).toNat = 46 then wF t (1000 * ((a.toNat : Int) - 48)) 100 else -1) = _
      rw [if_pos (by decide)]
    rw [e]
    rcases t with _ | ⟨x, _ | ⟨y, _ | ⟨z, _ | ⟨q, t⟩⟩⟩⟩
    · simp at h1
    · rw [wF1]; exact fits3 a x 48 48
    · rw [wF2]; exact fits3 a x y 48
    · exact fits3 a x y z
    · simp only [List.length_cons] at h2; omega

end Go.Proofs.YtgidmoncocbfiaaGreatDoor.Wgt

namespace Go.Proofs.YtgidmoncocbfiaaGreatDoor.Dua
open Go.RowKit
open Go.Proofs.YtgidmoncocbfiaaGreatDoor.Num (num two num_one num_more clockB col)
open Go.Proofs.YtgidmoncocbfiaaGreatDoor.Nam
open Go.Proofs.YtgidmoncocbfiaaGreatDoor.Dwa
open Go.Proofs.YtgidmoncocbfiaaGreatDoor.Wgt (rdL)
open Go.Proofs.YtgidmoncocbfiaaGreatDoor.Byt (digitB)

/-- A digit. -/
def dg (n : Nat) : UInt8 := UInt8.ofNat (48 + n)
theorem dg_nat {n : Nat} (h : n < 10) : (dg n).toNat = 48 + n := by unfold dg; rw [UInt8.toNat_ofNat']; omega
theorem dg_is {n : Nat} (h : n < 10) : digitB ((dg n).toNat : Int) = true := by
  rw [dg_nat h]; unfold digitB; exact decide_eq_true (by omega)
theorem rd_dg {n : Nat} (h : n < 10) (r : List UInt8) (a : Int) : rdL (dg n :: r) a = rdL r (a * 10 + n) := by
  rw [rdL, if_pos (dg_is h), dg_nat h]
  congr 1; omega
theorem num1 {n : Nat} (h : n < 10) : num n = ⟨#[dg n]⟩ := num_one h
theorem two_bytes {n : Nat} (h : n < 100) : two n = ⟨[dg (n / 10), dg (n % 10)].toArray⟩ := by
  unfold two
  rw [num1 (by omega), num1 (by omega)]
  apply ByteArray.ext; simp
theorem num4 {y : Nat} (h1 : 1000 ≤ y) (h2 : y < 10000) : num y = ⟨[dg (y / 1000), dg (y / 100 % 10), dg (y / 10 % 10), dg (y % 10)].toArray⟩ := by
  have a : num y = num (y / 10) ++ ⟨#[dg (y % 10)]⟩ := num_more (by omega)
  have b : num (y / 10) = num (y / 10 / 10) ++ ⟨#[dg (y / 10 % 10)]⟩ := num_more (by omega)
  have c : num (y / 10 / 10) = num (y / 10 / 10 / 10) ++ ⟨#[dg (y / 10 / 10 % 10)]⟩ := num_more (by omega)
  rw [a, b, c, num1 (by omega), show y / 10 / 10 / 10 = y / 1000 from by omega, show y / 10 / 10 % 10 = y / 100 % 10 from by omega]
  apply ByteArray.ext; simp
theorem sname_bytes : ∀ k, k < 7 → ∃ a b c : UInt8, sname k = ⟨[a, b, c].toArray⟩ := by
  intro k hk
  refine ⟨(sname k).data.toList.getD 0 0, (sname k).data.toList.getD 1 0, (sname k).data.toList.getD 2 0, ?_⟩
  have : k = 0 ∨ k = 1 ∨ k = 2 ∨ k = 3 ∨ k = 4 ∨ k = 5 ∨ k = 6 := by omega
  rcases this with rfl | rfl | rfl | rfl | rfl | rfl | rfl <;> decide

theorem ext_lit (l : List UInt8) (i j : Nat) : (⟨l.toArray⟩ : ByteArray).extract i j = ⟨((l.drop i).take (j - i)).toArray⟩ := by
  apply ByteArray.ext
  apply Array.ext'
  rw [ByteArray.data_extract, Array.toList_extract, List.extract_eq_take_drop]

/-- The pieces of a date told. -/
theorem usual_pieces (k y d h i s : Nat) (m : Int) (hk : k < 7) (hy1 : 1000 ≤ y) (hy2 : y < 10000) (hm1 : 1 ≤ m) (hm2 : m ≤ 12) (hd : d < 100) (hh : h < 100) (hi : i < 100) (hs : s < 100) :
    (usualB k y m d h i s).size = 29 ∧ (usualB k y m d h i s).extract 12 16 = num y ∧ (usualB k y m d h i s).extract 8 11 = mname m ∧ (usualB k y m d h i s).extract 5 7 = two d ∧ (usualB k y m d h i s).extract 17 25 = clockB h i s := by
  obtain ⟨a, b, c, hsn⟩ := sname_bytes k hk
  obtain ⟨m0, m1, m2, hmn⟩ : ∃ a b c : UInt8, mname m = ⟨[a, b, c].toArray⟩ := by
    have : m = 1 ∨ m = 2 ∨ m = 3 ∨ m = 4 ∨ m = 5 ∨ m = 6 ∨ m = 7 ∨ m = 8 ∨ m = 9 ∨ m = 10 ∨ m = 11 ∨ m = 12 := by omega
    rcases this with rfl | rfl | rfl | rfl | rfl | rfl | rfl | rfl | rfl | rfl | rfl | rfl <;> exact ⟨_, _, _, rfl⟩
  have hc : clockB h i s = ⟨[dg (h / 10), dg (h % 10), 58, dg (i / 10), dg (i % 10), 58, dg (s / 10), dg (s % 10)].toArray⟩ := by
    unfold clockB col
    rw [two_bytes hh, two_bytes hi, two_bytes hs]
    apply ByteArray.ext; simp
  have hu : usualB k y m d h i s = ⟨([a, b, c, 44, 32, dg (d / 10), dg (d % 10), 32, m0, m1, m2, 32, dg (y / 1000), dg (y / 100 % 10), dg (y / 10 % 10), dg (y % 10), 32, dg (h / 10), dg (h % 10), 58, dg (i / 10), dg (i % 10), 58, dg (s / 10), dg (s % 10), 32, 71, 77, 84] : List UInt8).toArray⟩ := by
    unfold usualB csp sp gmt
    rw [hsn, hmn, hc, two_bytes hd, num4 hy1 hy2]
    apply ByteArray.ext; simp
  rw [hu, num4 hy1 hy2, hmn, hc, two_bytes hd]
  refine ⟨rfl, ?_, ?_, ?_, ?_⟩ <;> rw [ext_lit] <;> rfl

/-- The pieces of its time. -/
theorem usual_clock (k y d h i s : Nat) (m : Int) (hk : k < 7) (hy1 : 1000 ≤ y) (hy2 : y < 10000) (hm1 : 1 ≤ m) (hm2 : m ≤ 12) (hd : d < 100) (hh : h < 100) (hi : i < 100) (hs : s < 100) :
    (usualB k y m d h i s).extract 17 19 = two h ∧ (usualB k y m d h i s).extract 20 22 = two i ∧ (usualB k y m d h i s).extract 23 25 = two s := by
  obtain ⟨a, b, c, hsn⟩ := sname_bytes k hk
  obtain ⟨m0, m1, m2, hmn⟩ : ∃ a b c : UInt8, mname m = ⟨[a, b, c].toArray⟩ := by
    have : m = 1 ∨ m = 2 ∨ m = 3 ∨ m = 4 ∨ m = 5 ∨ m = 6 ∨ m = 7 ∨ m = 8 ∨ m = 9 ∨ m = 10 ∨ m = 11 ∨ m = 12 := by omega
    rcases this with rfl | rfl | rfl | rfl | rfl | rfl | rfl | rfl | rfl | rfl | rfl | rfl <;> exact ⟨_, _, _, rfl⟩
  have hu : usualB k y m d h i s = ⟨([a, b, c, 44, 32, dg (d / 10), dg (d % 10), 32, m0, m1, m2, 32, dg (y / 1000), dg (y / 100 % 10), dg (y / 10 % 10), dg (y % 10), 32, dg (h / 10), dg (h % 10), 58, dg (i / 10), dg (i % 10), 58, dg (s / 10), dg (s % 10), 32, 71, 77, 84] : List UInt8).toArray⟩ := by
    unfold usualB csp sp gmt clockB col
    rw [hsn, hmn, two_bytes hd, num4 hy1 hy2, two_bytes hh, two_bytes hi, two_bytes hs]
    apply ByteArray.ext; simp
  rw [hu, two_bytes hh, two_bytes hi, two_bytes hs]
  refine ⟨?_, ?_, ?_⟩ <;> rw [ext_lit] <;> rfl

theorem rd_two {n : Nat} (h : n < 100) : rdL (two n).data.toList 0 = n := by
  rw [two_bytes h]
  show rdL [dg (n / 10), dg (n % 10)] 0 = n
  rw [rd_dg (by omega), rd_dg (by omega), rdL]
  omega
theorem rd_num4 {y : Nat} (h1 : 1000 ≤ y) (h2 : y < 10000) : rdL (num y).data.toList 0 = y := by
  rw [num4 h1 h2]
  show rdL [dg (y / 1000), dg (y / 100 % 10), dg (y / 10 % 10), dg (y % 10)] 0 = y
  rw [rd_dg (by omega), rd_dg (by omega), rd_dg (by omega), rd_dg (by omega), rdL]
  omega
theorem clock_pieces (h i s : Nat) (hh : h < 100) (hi : i < 100) (hs : s < 100) : (clockB h i s).size = 8 ∧ (clockB h i s).extract 0 2 = two h ∧ (clockB h i s).extract 3 5 = two i ∧ (clockB h i s).extract 6 8 = two s := by
  have hc : clockB h i s = ⟨[dg (h / 10), dg (h % 10), 58, dg (i / 10), dg (i % 10), 58, dg (s / 10), dg (s % 10)].toArray⟩ := by
    unfold clockB col
    rw [two_bytes hh, two_bytes hi, two_bytes hs]
    apply ByteArray.ext; simp
  rw [hc, two_bytes hh, two_bytes hi, two_bytes hs]
  refine ⟨rfl, ?_, ?_, ?_⟩ <;> rw [ext_lit] <;> rfl
theorem two_size2 {n : Nat} (h : n < 100) : (two n).size = 2 := by rw [two_bytes h]; rfl
theorem num_size4 {y : Nat} (h1 : 1000 ≤ y) (h2 : y < 10000) : (num y).size = 4 := by rw [num4 h1 h2]; rfl

end Go.Proofs.YtgidmoncocbfiaaGreatDoor.Dua

