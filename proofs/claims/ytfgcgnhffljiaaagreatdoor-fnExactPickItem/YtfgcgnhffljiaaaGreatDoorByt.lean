/-
  Plain facts on bytes, hex digits and percents: no program.
-/
namespace Go.Proofs.YtfgcgnhffljiaaaGreatDoor.Byt

def hexv (n : Int) : Int :=
  if 48 ≤ n ∧ n ≤ 57 then n - 48 else if 97 ≤ n ∧ n ≤ 102 then n - 97 + 10 else if 65 ≤ n ∧ n ≤ 70 then n - 65 + 10 else -1

theorem hexv_d {n : Int} (h : 48 ≤ n ∧ n ≤ 57) : hexv n = n - 48 := by unfold hexv; rw [if_pos h]
theorem hexv_l {n : Int} (h : 97 ≤ n ∧ n ≤ 102) : hexv n = n - 97 + 10 := by unfold hexv; rw [if_neg (by omega), if_pos h]
theorem hexv_u {n : Int} (h : 65 ≤ n ∧ n ≤ 70) : hexv n = n - 65 + 10 := by unfold hexv; rw [if_neg (by omega), if_neg (by omega), if_pos h]
theorem hexv_no {n : Int} (h1 : ¬ (48 ≤ n ∧ n ≤ 57)) (h2 : ¬ (97 ≤ n ∧ n ≤ 102)) (h3 : ¬ (65 ≤ n ∧ n ≤ 70)) : hexv n = -1 := by unfold hexv; rw [if_neg h1, if_neg h2, if_neg h3]

theorem hexv_lo (n : Int) : -1 ≤ hexv n := by unfold hexv; split <;> (try split) <;> (try split) <;> omega
theorem hexv_hi (n : Int) : hexv n ≤ 15 := by unfold hexv; split <;> (try split) <;> (try split) <;> omega

/-- The byte of a percent and two hex digits at a place, -1 where there is none. -/
def pct (l : List UInt8) (k : Nat) : Int :=
  if k + 2 < l.length ∧ ((l[k]?.getD 0).toNat : Int) = 37 ∧ 0 ≤ hexv ((l[k + 1]?.getD 0).toNat : Int) ∧ 0 ≤ hexv ((l[k + 2]?.getD 0).toNat : Int)
  then 16 * hexv ((l[k + 1]?.getD 0).toNat : Int) + hexv ((l[k + 2]?.getD 0).toNat : Int) else -1

theorem pct_short {l : List UInt8} {k : Nat} (h : ¬ k + 2 < l.length) : pct l k = -1 := by unfold pct; rw [if_neg (by omega)]
theorem pct_other {l : List UInt8} {k : Nat} (h : ((l[k]?.getD 0).toNat : Int) ≠ 37) : pct l k = -1 := by unfold pct; rw [if_neg (by omega)]
theorem pct_one {l : List UInt8} {k : Nat} (h : hexv ((l[k + 1]?.getD 0).toNat : Int) < 0) : pct l k = -1 := by unfold pct; rw [if_neg (by omega)]
theorem pct_two {l : List UInt8} {k : Nat} (h : hexv ((l[k + 2]?.getD 0).toNat : Int) < 0) : pct l k = -1 := by unfold pct; rw [if_neg (by omega)]
theorem pct_is {l : List UInt8} {k : Nat} (h : k + 2 < l.length) (hc : ((l[k]?.getD 0).toNat : Int) = 37) (h1 : 0 ≤ hexv ((l[k + 1]?.getD 0).toNat : Int)) (h2 : 0 ≤ hexv ((l[k + 2]?.getD 0).toNat : Int)) :
    pct l k = 16 * hexv ((l[k + 1]?.getD 0).toNat : Int) + hexv ((l[k + 2]?.getD 0).toNat : Int) := by unfold pct; rw [if_pos ⟨h, hc, h1, h2⟩]
theorem pct_facts {l : List UInt8} {k : Nat} (h : 0 ≤ pct l k) : k + 2 < l.length ∧ ((l[k]?.getD 0).toNat : Int) = 37 ∧ 0 ≤ hexv ((l[k + 1]?.getD 0).toNat : Int) ∧ 0 ≤ hexv ((l[k + 2]?.getD 0).toNat : Int) := by
  unfold pct at h; split at h
  · assumption
  · omega

theorem pct_lo (l : List UInt8) (k : Nat) : -1 ≤ pct l k := by unfold pct; split <;> omega
theorem pct_hi (l : List UInt8) (k : Nat) : pct l k ≤ 255 := by
  unfold pct; split
  · have := hexv_hi ((l[k + 1]?.getD 0).toNat : Int); have := hexv_hi ((l[k + 2]?.getD 0).toNat : Int); omega
  · omega

/-- What is told of a text by its percents, round by round: 'fuel' rounds from the place k on, 'acc' told so far; none where a '%' has no two hex digits behind. -/
def decF (l : List UInt8) : Nat → Nat → List UInt8 → Option (List UInt8)
  | 0, _, acc => some acc
  | f + 1, k, acc =>
    if k < l.length then
      if ((l[k]?.getD 0).toNat : Int) = 37 then
        if pct l k < 0 then none else decF l f (k + 3) (acc ++ [UInt8.ofNat (pct l k).toNat])
      else decF l f (k + 1) (acc ++ [l[k]?.getD 0])
    else some acc

theorem decF_end {l : List UInt8} {f k : Nat} {acc : List UInt8} (h : l.length ≤ k) : decF l f k acc = some acc := by
  cases f with
  | zero => rfl
  | succ f => simp only [decF]; rw [if_neg (by omega)]

theorem decF_plain {l : List UInt8} {f k : Nat} {acc : List UInt8} (h : k < l.length) (hc : ((l[k]?.getD 0).toNat : Int) ≠ 37) : decF l (f + 1) k acc = decF l f (k + 1) (acc ++ [l[k]?.getD 0]) := by
  simp only [decF]; rw [if_pos h, if_neg hc]

theorem decF_pct {l : List UInt8} {f k : Nat} {acc : List UInt8} (h : k < l.length) (hc : ((l[k]?.getD 0).toNat : Int) = 37) (hp : 0 ≤ pct l k) : decF l (f + 1) k acc = decF l f (k + 3) (acc ++ [UInt8.ofNat (pct l k).toNat]) := by
  simp only [decF]; rw [if_pos h, if_pos hc, if_neg (by omega)]

theorem decF_bad {l : List UInt8} {f k : Nat} {acc : List UInt8} (h : k < l.length) (hc : ((l[k]?.getD 0).toNat : Int) = 37) (hp : pct l k < 0) : decF l (f + 1) k acc = none := by
  simp only [decF]; rw [if_pos h, if_pos hc, if_pos hp]

/-- What PercentDecode tells of a text. -/
def decO (l : List UInt8) : Option (List UInt8) := if 200 < l.length then none else decF l l.length 0 []
def decS (l : List UInt8) : ByteArray := ⟨((decO l).getD []).toArray⟩
def decB (l : List UInt8) : Bool := (decO l).isSome

theorem decSB_none {l : List UInt8} (h : decO l = none) : decS l = ⟨#[]⟩ ∧ decB l = false := by unfold decS decB; rw [h]; exact ⟨rfl, rfl⟩
theorem decSB_some {l r : List UInt8} (h : decO l = some r) : decS l = ⟨r.toArray⟩ ∧ decB l = true := by unfold decS decB; rw [h]; exact ⟨rfl, rfl⟩

/-- The table of the bytes' kinds, as the text writes it. -/
def kinds : List Int := [0, 0, 0, 0, 0, 0, 0, 0, 0, 0, 0, 0, 0, 0, 0, 0, 0, 0, 0, 0, 0, 0, 0, 0, 0, 0, 0, 0, 0, 0, 0, 0, 0, 4, 0, 0, 4, 0, 4, 4, 4, 4, 4, 4, 4, 7, 7, 0, 31, 31, 31, 31, 31, 31, 31, 31, 31, 31, 4, 4, 0, 4, 0, 0, 4, 15, 15, 15, 15, 15, 15, 7, 7, 7, 7, 7, 7, 7, 7, 7, 7, 7, 7, 7, 7, 7, 7, 7, 7, 7, 7, 0, 0, 0, 0, 6, 0, 15, 15, 15, 15, 15, 15, 7, 7, 7, 7, 7, 7, 7, 7, 7, 7, 7, 7, 7, 7, 7, 7, 7, 7, 7, 7, 0, 0, 0, 6, 0]

def kd (n : Nat) : Int := kinds.getD n 0

/-- Letters, digits, '-', '.', '_', '~'. -/
def freeB (b : Int) : Bool := decide ((97 ≤ b ∧ b ≤ 122) ∨ (65 ≤ b ∧ b ≤ 90) ∨ (48 ≤ b ∧ b ≤ 57) ∨ b = 45 ∨ b = 46 ∨ b = 95 ∨ b = 126)

/-- A hex digit, with great letters. -/
def hexd (n : Nat) : UInt8 := UInt8.ofNat (if n < 10 then 48 + n else 55 + n)

/-- A byte's percent. -/
def pc (c : UInt8) : List UInt8 := [37, hexd (c.toNat / 16), hexd (c.toNat % 16)]

/-- A byte as PercentEncode tells it. -/
def encB (c : UInt8) : List UInt8 := if freeB (c.toNat : Int) then [c] else pc c

theorem encB_len (c : UInt8) : (encB c).length ≤ 3 := by unfold encB; split <;> simp [pc]

def encL (l : List UInt8) : List UInt8 := l.flatMap encB

theorem encL_len (l : List UInt8) : (encL l).length ≤ 3 * l.length := by
  induction l with
  | nil => simp [encL]
  | cons c r ih => have := encB_len c; simp only [encL, List.flatMap_cons, List.length_append, List.length_cons] at ih ⊢; omega

theorem encL_snoc (l : List UInt8) (k : Nat) (h : k < l.length) : encL (l.take (k + 1)) = encL (l.take k) ++ encB l[k] := by
  unfold encL
  rw [List.take_succ_eq_append_getElem h, List.flatMap_append]
  simp only [List.flatMap_cons, List.flatMap_nil, List.append_nil]

theorem kd_bd : ∀ n, n < 128 → 0 ≤ kd n ∧ kd n ≤ 255 := by decide +kernel

end Go.Proofs.YtfgcgnhffljiaaaGreatDoor.Byt
