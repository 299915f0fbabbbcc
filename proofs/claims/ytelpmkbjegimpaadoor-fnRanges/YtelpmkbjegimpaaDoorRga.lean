/-
  Pure: digits read, with noughts ahead and without; how long digits run.
-/
import Derived.Test.YtelpmkbjegimpaaDoorWgt
import Derived.Test.YtelpmkbjegimpaaDoorNum
import Derived.Test.YtelpmkbjegimpaaDoorLpv
namespace Go.Proofs.YtelpmkbjegimpaaDoor.Rga
open Go.RowKit
open Go.Proofs.YtelpmkbjegimpaaDoor.Byt (digitB)
open Go.Proofs.YtelpmkbjegimpaaDoor.Wgt (rdL dig_bd dig_no)
open Go.Proofs.YtelpmkbjegimpaaDoor.Num (num num_one num_more)
open Go.Proofs.YtelpmkbjegimpaaDoor.Lpu

def isD (c : UInt8) : Bool := digitB (c.toNat : Int)
theorem isD_iff {c : UInt8} : isD c = true ↔ 48 ≤ c.toNat ∧ c.toNat ≤ 57 := by
  unfold isD
  constructor
  · intro h; have := dig_bd h; omega
  · intro h
    cases hd : digitB (c.toNat : Int)
    · have := dig_no hd; omega
    · rfl

theorem rd_cons (c : UInt8) (r : List UInt8) (n : Int) : rdL (c :: r) n = if isD c = true then rdL r (n * 10 + ((c.toNat : Int) - 48)) else -1 := rfl
/-- Noughts ahead change nothing. -/
theorem rd_zeros : ∀ (l : List UInt8), rdL (Lib.trimLeftB l 48) 0 = rdL l 0
  | [] => rfl
  | c :: r => by
    unfold Lib.trimLeftB
    by_cases h : c = 48
    · subst h
      rw [List.dropWhile_cons_of_pos (by simp), rd_cons, if_pos (by decide)]
      have := rd_zeros r
      unfold Lib.trimLeftB at this
      rw [this]; rfl
    · rw [List.dropWhile_cons_of_neg (by simpa using h)]
theorem rd_bad : ∀ (l : List UInt8) (n : Int), (∃ c ∈ l, isD c = false) → rdL l n = -1
  | [], _, h => by obtain ⟨c, hc, _⟩ := h; cases hc
  | c :: r, n, h => by
    rw [rd_cons]
    by_cases hc : isD c = true
    · rw [if_pos hc]
      obtain ⟨d, hd, hdd⟩ := h
      rcases List.mem_cons.1 hd with rfl | hd
      · rw [hc] at hdd; cases hdd
      · exact rd_bad r _ ⟨d, hd, hdd⟩
    · rw [if_neg hc]
theorem rd_snoc : ∀ (a : List UInt8) (c : UInt8) (n : Int), (∀ x ∈ a, isD x = true) → rdL (a ++ [c]) n = rdL [c] (rdL a n)
  | [], _, _, _ => rfl
  | x :: a, c, n, h => by
    rw [List.cons_append, rd_cons, if_pos (h x (by simp)), rd_snoc a c _ (fun y hy => h y (by simp [hy])), rd_cons x a n, if_pos (h x (by simp))]
theorem num_told : ∀ (f n : Nat), n < 10 ^ (f + 1) → (∀ x ∈ (num n).data.toList, isD x = true) ∧ rdL (num n).data.toList 0 = (n : Int) ∧ 0 < (num n).size
  | f, n, h => by
    by_cases h1 : n < 10
    · rw [num_one h1]
      have hb : (UInt8.ofNat (48 + n)).toNat = 48 + n := by rw [UInt8.toNat_ofNat']; omega
      refine ⟨fun x hx => ?_, ?_, by show 0 < 1; omega⟩
      · have : x = UInt8.ofNat (48 + n) := by simpa using hx
        rw [this, isD_iff, hb]; omega
      · show rdL [UInt8.ofNat (48 + n)] 0 = _
        rw [rd_cons, if_pos (by rw [isD_iff, hb]; omega), hb]
        show (0 : Int) * 10 + _ = _
        omega
    · cases f with
      | zero => exfalso; simp at h; omega
      | succ f =>
        obtain ⟨i1, i2, i3⟩ := num_told f (n / 10) (by rw [Nat.pow_succ] at h; omega)
        have hb : (UInt8.ofNat (48 + n % 10)).toNat = 48 + n % 10 := by rw [UInt8.toNat_ofNat']; omega
        have e : (num n).data.toList = (num (n / 10)).data.toList ++ [UInt8.ofNat (48 + n % 10)] := by rw [num_more h1]; simp
        rw [e]
        refine ⟨fun x hx => ?_, ?_, ?_⟩
        · rcases List.mem_append.1 hx with hx | hx
          · exact i1 x hx
          · have : x = UInt8.ofNat (48 + n % 10) := by simpa using hx
            rw [this, isD_iff, hb]; omega
        · rw [rd_snoc _ _ _ i1, i2, rd_cons, if_pos (by rw [isD_iff, hb]; omega), hb]
          show ((n / 10 : Nat) : Int) * 10 + _ = _
          omega
        · rw [num_more h1, ByteArray.size_append]; omega

/-- A number as the program reads it: noughts ahead do not count. -/
def numP (s : ByteArray) : Int := if s.size = 0 ∨ 9 < (Lib.trimLeftB s.data.toList 48).length then -1 else rdL s.data.toList 0
/-- A number as the specification reads it. -/
def numQ (s : ByteArray) : Int := if 9 < s.size ∨ s.size = 0 then -1 else rdL s.data.toList 0
theorem zeros_len (l : List UInt8) : (Lib.trimLeftB l 48).length ≤ l.length := (List.dropWhile_sublist _).length_le
theorem num_same {s : ByteArray} (h : 9 < s.size → ∃ c ∈ s.data.toList, isD c = false) : numP s = numQ s := by
  unfold numP numQ
  have hz := zeros_len s.data.toList
  have hl : s.data.toList.length = s.size := by simp
  by_cases h0 : s.size = 0
  · rw [if_pos (Or.inl h0), if_pos (Or.inr h0)]
  · by_cases h9 : 9 < s.size
    · have hb := rd_bad s.data.toList 0 (h h9)
      rw [hb, ite_self, if_pos (Or.inl h9)]
    · rw [if_neg (by omega), if_neg (by omega)]

/-! How long digits run: each digit one more, each other byte two fewer. -/
def wt (c : UInt8) : Int := if isD c = true then 1 else -2
def Sm (l : List UInt8) : Int := (l.map wt).sum
theorem sm_app (a b : List UInt8) : Sm (a ++ b) = Sm a + Sm b := by simp [Sm, List.sum_append]
theorem sm_one (c : UInt8) : Sm [c] = wt c := by simp [Sm]
theorem wt_bd (c : UInt8) : -2 ≤ wt c ∧ wt c ≤ 1 := by unfold wt; split <;> omega
theorem sm_digits : ∀ (l : List UInt8), (∀ c ∈ l, isD c = true) → Sm l = l.length
  | [], _ => rfl
  | c :: r, h => by
    have := sm_digits r (fun x hx => h x (by simp [hx]))
    rw [show c :: r = [c] ++ r from rfl, sm_app, sm_one, this]
    unfold wt
    rw [if_pos (h c (by simp))]
    simp; omega
/-- No stretch of it weighs more than K. -/
def MS (K : Int) (l : List UInt8) : Prop := ∀ i j, i ≤ j → Sm (l.take j) - Sm (l.take i) ≤ K
theorem MS.infix {K : Int} {u y v : List UInt8} (h : MS K (u ++ y ++ v)) (hy : ∀ c ∈ y, isD c = true) : (y.length : Int) ≤ K := by
  have := h u.length (u.length + y.length) (by omega)
  rw [List.append_assoc, List.take_left, ← List.append_assoc, show u.length + y.length = (u ++ y).length by simp, List.take_left, sm_app, sm_digits y hy] at this
  omega
/-- A byte more, less, or another one. -/
def Ed (t T : List UInt8) : Prop := ∃ a x y b : List UInt8, x.length ≤ 1 ∧ y.length ≤ 1 ∧ t = a ++ x ++ b ∧ T = a ++ y ++ b
theorem sm_small {y : List UInt8} (h : y.length ≤ 1) : -2 ≤ Sm y ∧ Sm y ≤ 1 := by
  match y, h with
  | [], _ => exact ⟨by decide, by decide⟩
  | [c], _ => rw [sm_one]; exact wt_bd c
theorem take_mid (a y b : List UInt8) (j : Nat) (hj : a.length + y.length ≤ j) : (a ++ y ++ b).take j = a ++ y ++ b.take (j - (a.length + y.length)) := by
  rw [List.take_append, List.take_of_length_le (by rw [List.length_append]; exact hj), List.length_append]
theorem MS.edit {K : Int} {t T : List UInt8} (h : MS K t) (he : Ed t T) : MS (K + 3) T := by
  obtain ⟨a, x, y, b, hx, hy, rfl, rfl⟩ := he
  intro i j hij
  have sx := sm_small hx
  have sy := sm_small hy
  have low : ∀ k, k ≤ a.length → ∀ z : List UInt8, (a ++ z ++ b).take k = a.take k := fun k hk z => by rw [List.append_assoc, List.take_append_of_le_length hk]
  have high : ∀ k, a.length + y.length ≤ k → Sm ((a ++ y ++ b).take k) = Sm ((a ++ x ++ b).take (k - y.length + x.length)) - Sm x + Sm y := by
    intro k hk
    rw [take_mid a y b k hk, take_mid a x b (k - y.length + x.length) (by omega), sm_app, sm_app, sm_app, sm_app, show k - y.length + x.length - (a.length + x.length) = k - (a.length + y.length) by omega]
    omega
  by_cases hj : j ≤ a.length
  · rw [low j hj y, low i (by omega) y]
    have := h i j hij
    rw [low j hj x, low i (by omega) x] at this
    omega
  · rw [high j (by omega)]
    by_cases hi : i ≤ a.length
    · rw [low i hi y, ← low i hi x]
      have := h i (j - y.length + x.length) (by omega)
      omega
    · rw [high i (by omega)]
      have := h (i - y.length + x.length) (j - y.length + x.length) (by omega)
      omega
/-- A text that may stand ahead of another one: no stretch weighs more than 2, none to its end more than 0. -/
def Gd (l : List UInt8) : Prop := MS 2 l ∧ ∀ i, Sm l - Sm (l.take i) ≤ 0
theorem Gd.app {a b : List UInt8} (ha : Gd a) (hb : Gd b) : Gd (a ++ b) := by
  have low : ∀ k, k ≤ a.length → (a ++ b).take k = a.take k := fun k hk => List.take_append_of_le_length hk
  have high : ∀ k, a.length ≤ k → Sm ((a ++ b).take k) = Sm a + Sm (b.take (k - a.length)) := fun k hk => by rw [List.take_append, List.take_of_length_le hk, sm_app]
  refine ⟨fun i j hij => ?_, fun i => ?_⟩
  · by_cases hj : j ≤ a.length
    · rw [low j hj, low i (by omega)]; exact ha.1 i j hij
    · rw [high j (by omega)]
      by_cases hi : i ≤ a.length
      · rw [low i hi]
        have h1 := ha.2 i
        have h2 := hb.1 0 (j - a.length) (by omega)
        have : Sm (b.take 0) = 0 := rfl
        omega
      · rw [high i (by omega)]
        have := hb.1 (i - a.length) (j - a.length) (by omega)
        omega
  · rw [sm_app]
    by_cases hi : i ≤ a.length
    · rw [low i hi]
      have h1 := ha.2 i
      have h2 := hb.2 0
      have : Sm (b.take 0) = 0 := rfl
      omega
    · rw [high i (by omega)]
      have := hb.2 (i - a.length)
      omega
theorem gd_nil : Gd [] := ⟨fun i j _ => by simp [Sm], fun i => by simp [Sm]⟩
/-- At most two digits and a byte that is none. -/
theorem gd_word {d : List UInt8} {c : UInt8} (hd : d.length ≤ 2) (hc : isD c = false) : Gd (d ++ [c]) := by
  have wc : wt c = -2 := by unfold wt; rw [hc]; rfl
  have key : ∀ l : List UInt8, l.length ≤ 2 → ∀ i j, i ≤ j → Sm (l.take j) - Sm (l.take i) ≤ 2 ∧ Sm l - Sm (l.take i) ≤ 2 := by
    intro l hl i j hij
    have up : ∀ k : List UInt8, Sm k ≤ k.length := by
      intro k
      induction k with
      | nil => exact Int.le_refl _
      | cons x r ih =>
        rw [show x :: r = [x] ++ r from rfl, sm_app, sm_one]
        have := (wt_bd x).2
        simp; omega
    have parts : ∀ k, Sm l - Sm (l.take k) ≤ 2 := by
      intro k
      have e := sm_app (l.take k) (l.drop k)
      rw [List.take_append_drop] at e
      have := up (l.drop k)
      rw [List.length_drop] at this
      omega
    refine ⟨?_, parts i⟩
    have e : l.take j = l.take i ++ (l.take j).drop i := by
      conv => lhs; rw [← List.take_append_drop i (l.take j), List.take_take, Nat.min_eq_left hij]
    have := up ((l.take j).drop i)
    rw [List.length_drop, List.length_take] at this
    rw [e, sm_app]
    omega
  have low : ∀ k, k ≤ d.length → (d ++ [c]).take k = d.take k := fun k hk => List.take_append_of_le_length hk
  have high : ∀ k, d.length < k → (d ++ [c]).take k = d ++ [c] := fun k hk => List.take_of_length_le (by rw [List.length_append]; simp; omega)
  refine ⟨fun i j hij => ?_, fun i => ?_⟩
  · by_cases hj : j ≤ d.length
    · rw [low j hj, low i (by omega)]; exact (key d hd i j hij).1
    · rw [high j (by omega)]
      by_cases hi : i ≤ d.length
      · rw [low i hi, sm_app, sm_one, wc]
        have := (key d hd i i (Nat.le_refl _)).2
        omega
      · rw [high i (by omega)]; omega
  · by_cases hi : i ≤ d.length
    · rw [low i hi, sm_app, sm_one, wc]
      have := (key d hd i i (Nat.le_refl _)).2
      omega
    · rw [high i (by omega)]; omega

end Go.Proofs.YtelpmkbjegimpaaDoor.Rga
