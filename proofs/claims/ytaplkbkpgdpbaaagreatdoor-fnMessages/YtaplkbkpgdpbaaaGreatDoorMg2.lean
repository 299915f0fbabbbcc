/-
  Walks: the bytes of a token: impl.isKind, impl.isToken; spec.l1Letter, l1Digit, l1Has, l3TokenByte, l3Token.
  Walks: impl.GoodField and spec.GoodField tell the same.
  Walks: the laws' own helpers for a field: laws.szField, laws.toField; a field among a law's arguments, opened.
  Walks: a text in small letters, for the texts on fields: impl.smallLetters and spec.l1Lower tell the same.
  Lists of fields that the call itself makes: what an append of a field leaves; how they are read.
-/
import Derived.Test.YtaplkbkpgdpbaaaGreatDoorMg1
import Derived.Test.YtaplkbkpgdpbaaaGreatDoorShelf
import Derived.Below
import Derived.Lib.TrimByte
import Derived.Deep.QuietTactic
import Derived.BigQuiet
import Derived.ProofKit
import Derived.Lib.SmallJoins
import Derived.Deep.RegionLaw
namespace Go.Proofs.YtaplkbkpgdpbaaaGreatDoor.Fch
open Go.RowKit
open Go.Proofs.YtaplkbkpgdpbaaaGreatDoor.Byt
open Go.Proofs.YtaplkbkpgdpbaaaGreatDoor.Fbs

/-- The table's cells hold its numbers. -/
def Tab (w : World) : Prop := ∀ i, i < 128 → w.cell? ⟨2, i, none⟩ = some (.int .u8 (kd i))

theorem Tab.below {B : Nat} {w w' : World} (h : Tab w) (hb : Below B w w') (hB : 2 < B) : Tab w' :=
  fun i hi => (hb.cell (p := ⟨2, i, none⟩) hB).trans (h i hi)

theorem Tab.lt {w : World} (h : Tab w) : 2 < w.heap.size := World.block_lt_of_cell? w _ (h 0 (by omega))
theorem Tab.alloc {w : World} (h : Tab w) (o : Obj) : Tab (w.alloc o) := h.below ((Below.refl w.heap.size w).alloc (Nat.le_refl _) o) h.lt

def isK (b k : Int) : Bool := decide (b < 128) && (bits BinOp.and .u8 (kd b.toNat) k != 0)

theorem isKind_any (b k : Int) (w : World) (hT : Tab w) (h0 : 0 ≤ b) (h1 : b ≤ 255) :
    Calls Tryz.prog 120 #[.int .u8 b, .int .u8 k] w fun e w' => e = .returned (.bool (isK b k)) ∧ w' = w := by
  obtain ⟨n, rfl⟩ := Int.eq_ofNat_of_zero_le h0
  by_cases h : (n : Int) < 128
  · have hc := hT n (by omega)
    go_enter Tryz.func120, Tryz.ntmps120
    go_wp2
    go_ret
    exact ⟨by simp [isK, h], rfl⟩
  · go_enter Tryz.func120, Tryz.ntmps120
    go_wp2
    go_ret
    exact ⟨by simp [isK]; intro h'; omega, rfl⟩

theorem isK_free (b : Int) (h0 : 0 ≤ b) (h1 : b ≤ 255) : isK b 2 = freeB b := by
  obtain ⟨n, rfl⟩ := Int.eq_ofNat_of_zero_le h0
  have all : ∀ n : Nat, n < 256 → isK (n : Int) 2 = freeB (n : Int) := by decide +kernel
  exact all n (by omega)

theorem isFree_any (b : Int) (w : World) (hT : Tab w) (h0 : 0 ≤ b) (h1 : b ≤ 255) :
    Calls Tryz.prog 120 #[.int .u8 b, .int .u8 2] w fun e w' => e = .returned (.bool (freeB b)) ∧ w' = w := by
  rw [← isK_free b h0 h1]
  exact isKind_any b 2 w hT h0 h1

theorem l1Letter_any (b : Int) (w : World) :
    Calls Tryz.prog 161 #[.int .u8 b] w fun e w' => e = .returned (.bool (letterB b)) ∧ w' = w := by
  rcases (show (97 ≤ b ∧ b ≤ 122) ∨ (65 ≤ b ∧ b ≤ 90) ∨ b < 65 ∨ (90 < b ∧ b < 97) ∨ 122 < b from by omega) with h | h | h | h | h
  · have HF : Hid (letterB b = true) := by show _ = _; simp [letterB]; omega
    obtain ⟨h1, h2⟩ := h
    go_enter Tryz.func161, Tryz.ntmps161
    go_wp2
    go_ret
    exact ⟨ret_bool HF.out.symm, rfl⟩
  · have HF : Hid (letterB b = true) := by show _ = _; simp [letterB]; omega
    obtain ⟨h1, h2⟩ := h
    go_enter Tryz.func161, Tryz.ntmps161
    go_wp2
    go_ret
    exact ⟨ret_bool HF.out.symm, rfl⟩
  · have HF : Hid (letterB b = false) := by show _ = _; simp [letterB]; omega
    go_enter Tryz.func161, Tryz.ntmps161
    go_wp2
    go_ret
    exact ⟨ret_bool HF.out.symm, rfl⟩
  · have HF : Hid (letterB b = false) := by show _ = _; simp [letterB]; omega
    obtain ⟨h1, h2⟩ := h
    have h3 : decide (b ≤ 90) = false := by simp; omega
    go_enter Tryz.func161, Tryz.ntmps161
    go_wp2
    go_ret
    exact ⟨ret_bool (by rw [HF.out]; first | done | (simp; done) | (simp; omega)), rfl⟩
  · have HF : Hid (letterB b = false) := by show _ = _; simp [letterB]; omega
    go_enter Tryz.func161, Tryz.ntmps161
    go_wp2
    go_ret
    exact ⟨ret_bool (by rw [HF.out]; first | done | (simp; done) | (simp; omega)), rfl⟩

theorem l1Digit_any (b : Int) (w : World) :
    Calls Tryz.prog 162 #[.int .u8 b] w fun e w' => e = .returned (.bool (digitB b)) ∧ w' = w := by
  by_cases h : 48 ≤ b
  · have HF : Hid (digitB b = decide (b ≤ 57)) := by show _ = _; simp [digitB, h]
    go_enter Tryz.func162, Tryz.ntmps162
    go_wp2
    go_ret
    exact ⟨ret_bool HF.out.symm, rfl⟩
  · have HF : Hid (digitB b = false) := by show _ = _; simp [digitB]; omega
    go_enter Tryz.func162, Tryz.ntmps162
    go_wp2
    go_ret
    exact ⟨ret_bool HF.out.symm, rfl⟩

set_option maxHeartbeats 400000 in
theorem l1Has_any (s : ByteArray) (b : Int) (w : World) (hs : s.size ≤ 2000000) :
    Calls Tryz.prog 163 #[.string s, .int .u8 b] w fun e w' => e = .returned (.bool (hasB s.data.toList b)) ∧ w' = w := by
  go_enter Tryz.func163, Tryz.ntmps163
  go_wp2
  go_loop [5] (fun i => ∃ k : Nat, k ≤ s.size ∧ i = .int .i64 k ∧ Hid (∀ j, j < k → ((s.data.toList[j]?.getD 0).toNat : Int) ≠ b)) (fun i => s.size - (intOf i).toNat)
  case atStart => exact ⟨0, by omega, rfl, fun j hj => absurd hj (by omega)⟩
  case round =>
    obtain ⟨k, hk, rfl, HA⟩ := hrel
    by_cases hlt : k < s.size
    · have e0 := at_list s k hlt
      by_cases hf : (s[k].toNat : Int) = b
      · have HF : Hid (hasB s.data.toList b = true) := hasB_yes (k := k) (by rw [len_list]; exact hlt) (by rw [e0]; exact hf)
        have hf' : ((s[k].toNat : Int) == b) = true := by simpa using hf
        clear HA e0 hf
        go_wp2
        go_ret
        exact ⟨ret_bool HF.out.symm, rfl⟩
      · have HA' : Hid (∀ j, j < k + 1 → ((s.data.toList[j]?.getD 0).toNat : Int) ≠ b) := by
          intro j hj
          by_cases hjk : j = k
          · subst hjk; rw [e0]; exact hf
          · exact HA.out j (by omega)
        have hf' : ((s[k].toNat : Int) == b) = false := by simpa using hf
        clear HA e0 hf
        go_wp2
        go_round
        case rel => exact ⟨k + 1, by omega, by go_num, HA'⟩
        case measure => simp [intOf]; omega
    · have HF : Hid (hasB s.data.toList b = false) := hasB_no (fun j hj => HA.out j (by rw [len_list] at hj; omega))
      clear HA
      go_wp2
      go_ret
      exact ⟨ret_bool HF.out.symm, rfl⟩

theorem to_byte (c : UInt8) : ((c.toNat : Int)).toNat.toUInt8 = c := by simp

/-- 'strings.IndexByte(t, c) < 0'. -/
theorem indexByte_any (t : ByteArray) (c : UInt8) (w : World) :
    Calls Tryz.prog 121 #[.string t, .int .u8 (c.toNat : Int)] w fun e w' => (∃ n : Int, e = .returned (.int .i64 n) ∧ decide (n < 0) = !hasB t.data.toList (c.toNat : Int)) ∧ w' = w := by
  refine (Tryz.strings_IndexByte t (c.toNat : Int) w).mono ?_
  rintro e w' ⟨rfl, rfl⟩
  rw [to_byte]
  exact ⟨⟨_, rfl, index_neg _ _⟩, rfl⟩

/-- What a token's bytes are. -/
def otherL : List UInt8 := [33, 35, 36, 37, 38, 39, 42, 43, 94, 124, 96]
def signsL : List UInt8 := [33, 35, 36, 37, 38, 39, 42, 43, 45, 46, 94, 95, 124, 126]
def tokB (b : Int) : Bool := freeB b || hasB otherL b
theorem tokB_spec (b : Int) (h0 : 0 ≤ b) (h1 : b ≤ 255) : tokB b = (letterB b || digitB b || hasB signsL b || b == 96) := by
  obtain ⟨n, rfl⟩ := Int.eq_ofNat_of_zero_le h0
  have all : ∀ n : Nat, n < 256 → tokB (n : Int) = (letterB (n : Int) || digitB (n : Int) || hasB signsL (n : Int) || (n : Int) == 96) := by decide +kernel
  exact all n (by omega)
def tokenB (l : List UInt8) : Bool := decide (1 ≤ l.length ∧ l.length ≤ 60) && l.all (fun c => tokB (c.toNat : Int))

theorem otherS : (⟨#[33, 35, 36, 37, 38, 39, 42, 43, 94, 124, 96]⟩ : ByteArray).data.toList = otherL := rfl

theorem indexOther (c : UInt8) (w : World) :
    Calls Tryz.prog 121 #[.string ⟨#[33, 35, 36, 37, 38, 39, 42, 43, 94, 124, 96]⟩, .int .u8 (c.toNat : Int)] w fun e w' => (∃ n : Int, e = .returned (.int .i64 n) ∧ decide (n < 0) = !hasB otherL (c.toNat : Int)) ∧ w' = w :=
  indexByte_any ⟨#[33, 35, 36, 37, 38, 39, 42, 43, 94, 124, 96]⟩ c w

theorem isBetween_any (a n b : Int) (w : World) :
    Calls Tryz.prog 113 #[.int .i64 a, .int .i64 n, .int .i64 b] w fun e w' => e = .returned (.bool (decide (a ≤ n) && decide (n ≤ b))) ∧ w' = w := by
  by_cases h : a ≤ n
  · rw [decide_eq_true h, Bool.true_and]
    go_enter Tryz.func113, Tryz.ntmps113
    go_wp2
    go_ret
    exact ⟨rfl, rfl⟩
  · rw [decide_eq_false h, Bool.false_and]
    go_enter Tryz.func113, Tryz.ntmps113
    go_wp2
    go_ret
    exact ⟨rfl, rfl⟩
theorem l1In_any (n a b : Int) (w : World) :
    Calls Tryz.prog 67 #[.int .i64 n, .int .i64 a, .int .i64 b] w fun e w' => e = .returned (.bool (decide (a ≤ n) && decide (n ≤ b))) ∧ w' = w := by
  by_cases h : a ≤ n
  · rw [decide_eq_true h, Bool.true_and]
    go_enter Tryz.func67, Tryz.ntmps67
    go_wp2
    go_ret
    exact ⟨rfl, rfl⟩
  · rw [decide_eq_false h, Bool.false_and]
    go_enter Tryz.func67, Tryz.ntmps67
    go_wp2
    go_ret
    exact ⟨rfl, rfl⟩

set_option maxHeartbeats 800000 in
theorem isToken_any (s : ByteArray) (w : World) (hT : Tab w) :
    Calls Tryz.prog 80 #[.string s] w fun e w' => e = .returned (.bool (tokenB s.data.toList)) ∧ w' = w := by
  have hlen := len_list s
  by_cases h : 1 ≤ s.size ∧ s.size ≤ 60
  · have hR : tokenB s.data.toList = s.data.toList.all (fun c => tokB (c.toNat : Int)) := by
      unfold tokenB; rw [decide_eq_true (by omega)]; rfl
    have HR : Hid (tokenB s.data.toList = s.data.toList.all (fun c => tokB (c.toNat : Int))) := hR
    clear hR hlen
    obtain ⟨ha, hb⟩ := h
    have C := isBetween_any 1 s.size 60 w
    rw [decide_eq_true (show (1 : Int) ≤ (s.size : Int) from by omega), decide_eq_true (show (s.size : Int) ≤ 60 from by omega)] at C
    go_enter Tryz.func80, Tryz.ntmps80
    go_wp2_with (go_at_call 113; refine C.mono ?_; rintro e w' ⟨rfl, hw⟩; obtain rfl := hw.symm)
    go_loop [3] (fun i => ∃ k : Nat, k ≤ s.size ∧ i = .int .i64 k ∧ Hid (∀ j, j < k → tokB ((s.data.toList[j]?.getD 0).toNat : Int) = true)) (fun i => s.size - (intOf i).toNat)
    case atStart => exact ⟨0, by omega, rfl, fun j hj => absurd hj (by omega)⟩
    case round =>
      obtain ⟨k, hk, rfl, HA⟩ := hrel
      by_cases hlt : k < s.size
      · have e0 := at_list s k hlt
        cases h1 : freeB (s[k].toNat : Int)
        · cases h2 : hasB otherL (s[k].toNat : Int)
          · have HF : Hid (tokenB s.data.toList = false) := by
              show _ = _
              rw [HR.out]
              exact Fbs.all_no (k := k) (by rw [len_list]; exact hlt) (by rw [e0]; unfold tokB; rw [h1, h2]; rfl)
            clear HA e0 HR
            go_wp2_with (first
              | (go_at_call 120; refine (isFree_any _ _ hT (byte_bd _).1 (byte_bd _).2).mono ?_; rintro e w' ⟨rfl, hw⟩; obtain rfl := hw.symm)
              | (go_at_call 121; refine (indexByte_any _ s[k] _).mono ?_; rintro e w' ⟨⟨n, rfl, hn0⟩, hw⟩; obtain rfl := hw.symm; have hn : decide (n < 0) = !hasB otherL (s[k].toNat : Int) := hn0; clear hn0; rw [h2] at hn))
            go_ret
            exact ⟨ret_bool HF.out.symm, rfl⟩
          · have HA' : Hid (∀ j, j < k + 1 → tokB ((s.data.toList[j]?.getD 0).toNat : Int) = true) := by
              intro j hj
              by_cases hjk : j = k
              · subst hjk; rw [e0]; unfold tokB; rw [h1, h2]; rfl
              · exact HA.out j (by omega)
            clear HA e0
            go_wp2_with (first
              | (go_at_call 120; refine (isFree_any _ _ hT (byte_bd _).1 (byte_bd _).2).mono ?_; rintro e w' ⟨rfl, hw⟩; obtain rfl := hw.symm)
              | (go_at_call 121; refine (indexByte_any _ s[k] _).mono ?_; rintro e w' ⟨⟨n, rfl, hn0⟩, hw⟩; obtain rfl := hw.symm; have hn : decide (n < 0) = !hasB otherL (s[k].toNat : Int) := hn0; clear hn0; rw [h2] at hn))
            go_round
            case rel => exact ⟨k + 1, by omega, by go_num, HA'⟩
            case measure => simp [intOf]; omega
        · have HA' : Hid (∀ j, j < k + 1 → tokB ((s.data.toList[j]?.getD 0).toNat : Int) = true) := by
            intro j hj
            by_cases hjk : j = k
            · subst hjk; rw [e0]; unfold tokB; rw [h1]; rfl
            · exact HA.out j (by omega)
          clear HA e0
          go_wp2_with (go_at_call 120; refine (isFree_any _ _ hT (byte_bd _).1 (byte_bd _).2).mono ?_; rintro e w' ⟨rfl, hw⟩; obtain rfl := hw.symm)
          go_round
          case rel => exact ⟨k + 1, by omega, by go_num, HA'⟩
          case measure => simp [intOf]; omega
      · have HF : Hid (tokenB s.data.toList = true) := by
          show _ = _
          rw [HR.out]
          exact Fbs.all_yes (fun j hj => HA.out j (by rw [len_list] at hj; omega))
        clear HA HR
        go_wp2
        go_ret
        exact ⟨ret_bool HF.out.symm, rfl⟩
  · have HF : Hid (tokenB s.data.toList = false) := by
      show _ = _
      unfold tokenB; rw [decide_eq_false (by omega)]; rfl
    clear hlen
    rcases (show s.size < 1 ∨ (1 ≤ s.size ∧ 60 < s.size) from by omega) with h2 | ⟨h1, h2⟩
    · have C := isBetween_any 1 s.size 60 w
      rw [decide_eq_false (show ¬ (1 : Int) ≤ (s.size : Int) from by omega)] at C
      clear h
      go_enter Tryz.func80, Tryz.ntmps80
      go_wp2_with (go_at_call 113; refine C.mono ?_; rintro e w' ⟨rfl, hw⟩; obtain rfl := hw.symm)
      go_ret
      exact ⟨ret_bool HF.out.symm, rfl⟩
    · have C := isBetween_any 1 s.size 60 w
      rw [decide_eq_true (show (1 : Int) ≤ (s.size : Int) from by omega), decide_eq_false (show ¬ (s.size : Int) ≤ 60 from by omega)] at C
      clear h
      go_enter Tryz.func80, Tryz.ntmps80
      go_wp2_with (go_at_call 113; refine C.mono ?_; rintro e w' ⟨rfl, hw⟩; obtain rfl := hw.symm)
      go_ret
      exact ⟨ret_bool HF.out.symm, rfl⟩

theorem hasSigns (b : Int) (w : World) :
    Calls Tryz.prog 163 #[.string ⟨#[33, 35, 36, 37, 38, 39, 42, 43, 45, 46, 94, 95, 124, 126]⟩, .int .u8 b] w fun e w' => e = .returned (.bool (hasB signsL b)) ∧ w' = w :=
  l1Has_any ⟨#[33, 35, 36, 37, 38, 39, 42, 43, 45, 46, 94, 95, 124, 126]⟩ b w (by decide)

theorem l3TokenByte_any (b : Int) (w : World) (h0 : 0 ≤ b) (h1 : b ≤ 255) :
    Calls Tryz.prog 137 #[.int .u8 b] w fun e w' => e = .returned (.bool (tokB b)) ∧ w' = w := by
  rw [tokB_spec b h0 h1]
  have L := l1Letter_any b w
  have D := l1Digit_any b w
  have S := hasSigns b w
  cases hl : letterB b
  · rw [hl] at L
    cases hd : digitB b
    · rw [hd] at D
      cases hs : hasB signsL b
      · rw [hs] at S
        go_enter Tryz.func137, Tryz.ntmps137
        go_wp2_with (first
          | (go_at_call 161; refine L.mono ?_; rintro e w' ⟨rfl, hw⟩; obtain rfl := hw.symm)
          | (go_at_call 162; refine D.mono ?_; rintro e w' ⟨rfl, hw⟩; obtain rfl := hw.symm)
          | (go_at_call 163; refine S.mono ?_; rintro e w' ⟨rfl, hw⟩; obtain rfl := hw.symm))
        go_ret
        exact ⟨rfl, rfl⟩
      · rw [hs] at S
        go_enter Tryz.func137, Tryz.ntmps137
        go_wp2_with (first
          | (go_at_call 161; refine L.mono ?_; rintro e w' ⟨rfl, hw⟩; obtain rfl := hw.symm)
          | (go_at_call 162; refine D.mono ?_; rintro e w' ⟨rfl, hw⟩; obtain rfl := hw.symm)
          | (go_at_call 163; refine S.mono ?_; rintro e w' ⟨rfl, hw⟩; obtain rfl := hw.symm))
        go_ret
        exact ⟨rfl, rfl⟩
    · rw [hd] at D
      go_enter Tryz.func137, Tryz.ntmps137
      go_wp2_with (first
        | (go_at_call 161; refine L.mono ?_; rintro e w' ⟨rfl, hw⟩; obtain rfl := hw.symm)
        | (go_at_call 162; refine D.mono ?_; rintro e w' ⟨rfl, hw⟩; obtain rfl := hw.symm))
      go_ret
      exact ⟨rfl, rfl⟩
  · rw [hl] at L
    go_enter Tryz.func137, Tryz.ntmps137
    go_wp2_with (go_at_call 161; refine L.mono ?_; rintro e w' ⟨rfl, hw⟩; obtain rfl := hw.symm)
    go_ret
    exact ⟨rfl, rfl⟩

set_option maxHeartbeats 800000 in
theorem l3Token_any (s : ByteArray) (w : World) (hs : s.size ≤ 2000000) :
    Calls Tryz.prog 103 #[.string s] w fun e w' => e = .returned (.bool (tokenB s.data.toList)) ∧ w' = w := by
  have hlen := len_list s
  have HN : Hid (∀ k, k < s.size → tokB ((s.data.toList[k]?.getD 0).toNat : Int) = false → tokenB s.data.toList = false) := by
    intro k hk hb
    unfold tokenB
    rw [Fbs.all_no (k := k) (by omega) hb, Bool.and_false]
  have HY : Hid ((∀ j, j < s.size → tokB ((s.data.toList[j]?.getD 0).toNat : Int) = true) → tokenB s.data.toList = decide (1 ≤ s.size ∧ s.size ≤ 60)) := by
    intro h
    unfold tokenB
    rw [Fbs.all_yes (fun j hj => h j (by omega)), Bool.and_true, hlen]
  clear hlen
  go_enter Tryz.func103, Tryz.ntmps103
  go_wp2_with fail
  go_loop [3] (fun i => ∃ k : Nat, k ≤ s.size ∧ i = .int .i64 k ∧ Hid (∀ j, j < k → tokB ((s.data.toList[j]?.getD 0).toNat : Int) = true)) (fun i => s.size - (intOf i).toNat)
  case atStart => exact ⟨0, by omega, rfl, fun j hj => absurd hj (by omega)⟩
  case round =>
    obtain ⟨k, hk, rfl, HA⟩ := hrel
    by_cases hlt : k < s.size
    · have e0 := at_list s k hlt
      have B := l3TokenByte_any (s[k].toNat : Int) w (byte_bd _).1 (byte_bd _).2
      cases h1 : tokB (s[k].toNat : Int)
      · have HF : Hid (tokenB s.data.toList = false) := HN.out k hlt (by rw [e0]; exact h1)
        rw [h1] at B
        clear HA e0 HN HY
        go_wp2_with (go_at_call 137; refine B.mono ?_; rintro e w' ⟨rfl, hw⟩; obtain rfl := hw.symm)
        go_ret
        exact ⟨ret_bool HF.out.symm, rfl⟩
      · have HA' : Hid (∀ j, j < k + 1 → tokB ((s.data.toList[j]?.getD 0).toNat : Int) = true) := by
          intro j hj
          by_cases hjk : j = k
          · subst hjk; rw [e0]; exact h1
          · exact HA.out j (by omega)
        rw [h1] at B
        clear HA e0
        go_wp2_with (go_at_call 137; refine B.mono ?_; rintro e w' ⟨rfl, hw⟩; obtain rfl := hw.symm)
        go_round
        case rel => exact ⟨k + 1, by omega, by go_num, HA'⟩
        case measure => simp [intOf]; omega
    · have hR := HY.out (fun j hj => HA.out j (by omega))
      have HR : Hid (tokenB s.data.toList = decide (1 ≤ s.size ∧ s.size ≤ 60)) := hR
      clear HA HN HY hR
      have C := l1In_any s.size 1 60 w
      have HR2 : Hid ((decide ((1 : Int) ≤ (s.size : Int)) && decide ((s.size : Int) ≤ 60)) = tokenB s.data.toList) := by
        show _ = _
        rw [HR.out, Bool.eq_iff_iff]
        simp only [Bool.and_eq_true, decide_eq_true_eq]
        omega
      rw [HR2.out] at C
      clear HR HR2
      go_wp2_with (go_at_call 67; refine C.mono ?_; rintro e w' ⟨rfl, hw⟩; obtain rfl := hw.symm)
      go_ret
      exact ⟨rfl, rfl⟩

end Go.Proofs.YtaplkbkpgdpbaaaGreatDoor.Fch

namespace Go.Proofs.YtaplkbkpgdpbaaaGreatDoor.Fgd
open Go.RowKit
open Go.Proofs.YtaplkbkpgdpbaaaGreatDoor.Byt
open Go.Proofs.YtaplkbkpgdpbaaaGreatDoor.Fbs
open Go.Proofs.YtaplkbkpgdpbaaaGreatDoor.Fch

/-- No blank at either end. -/
def edgeB (l : List UInt8) : Bool := decide (l.length = 0) || (decide ((l[0]?.getD 0).toNat ≠ 32) && decide ((l[l.length - 1]?.getD 0).toNat ≠ 32))
/-- Whether a field is good. -/
def goodF (N V : ByteArray) : Bool := tokenB N.data.toList && decide (V.size ≤ 300) && plainB V.data.toList && edgeB V.data.toList

theorem dropW_le (p : UInt8 → Bool) : ∀ l : List UInt8, (l.dropWhile p).length ≤ l.length
  | [] => Nat.le_refl _
  | c :: r => by
    rw [List.dropWhile_cons]
    split
    · have := dropW_le p r; simp; omega
    · exact Nat.le_refl _
theorem dropW_self (p : UInt8 → Bool) (c : UInt8) (r : List UInt8) : ((c :: r).dropWhile p = c :: r) ↔ p c = false := by
  rw [List.dropWhile_cons]
  cases h : p c
  · simp
  · simp only [if_true]
    constructor
    · intro e
      have := dropW_le p r
      rw [e] at this
      simp at this; omega
    · intro e; cases e
theorem trimR_le (l : List UInt8) (c : UInt8) : (Lib.trimRightB l c).length ≤ l.length := by
  unfold Lib.trimRightB
  have := dropW_le (· == c) l.reverse
  simpa using this
theorem trim_parts (l : List UInt8) (c : UInt8) : Lib.trimB l c = l ↔ Lib.trimRightB l c = l ∧ Lib.trimLeftB l c = l := by
  constructor
  · intro h
    have h1 : (Lib.trimB l c).length ≤ (Lib.trimRightB l c).length := dropW_le _ _
    have h2 := trimR_le l c
    rw [h] at h1
    have h3 : Lib.trimRightB l c = l := by
      have hs : l.reverse.dropWhile (· == c) <:+ l.reverse := List.dropWhile_suffix _
      have := hs.eq_of_length (by
        have e : (Lib.trimRightB l c).length = (l.reverse.dropWhile (· == c)).length := by unfold Lib.trimRightB; simp
        simp only [List.length_reverse]; omega)
      unfold Lib.trimRightB
      rw [this, List.reverse_reverse]
    refine ⟨h3, ?_⟩
    unfold Lib.trimB at h
    rw [h3] at h
    exact h
  · rintro ⟨h1, h2⟩
    unfold Lib.trimB
    rw [h1, h2]
theorem left_self (l : List UInt8) (c : UInt8) : Lib.trimLeftB l c = l ↔ (l = [] ∨ l[0]?.getD 0 ≠ c ∨ (l = [])) := by
  cases l with
  | nil => simp [Lib.trimLeftB]
  | cons b r =>
    unfold Lib.trimLeftB
    rw [dropW_self]
    simp
theorem right_self (l : List UInt8) (c : UInt8) : Lib.trimRightB l c = l ↔ (l = [] ∨ l[l.length - 1]?.getD 0 ≠ c) := by
  unfold Lib.trimRightB
  have e : (l.reverse.dropWhile (· == c)).reverse = l ↔ l.reverse.dropWhile (· == c) = l.reverse := by
    constructor
    · intro h; rw [← List.reverse_reverse (l.reverse.dropWhile (· == c)), h]
    · intro h; rw [h, List.reverse_reverse]
  rw [e]
  cases hr : l.reverse with
  | nil =>
    have : l = [] := by simpa using hr
    subst this; simp
  | cons b r =>
    rw [dropW_self]
    have hl : l = r.reverse ++ [b] := by rw [← List.reverse_reverse l, hr]; simp
    subst hl
    simp
theorem trim_edge (l : List UInt8) : Lib.trimB l 32 = l ↔ edgeB l = true := by
  rw [trim_parts, left_self, right_self]
  unfold edgeB
  cases l with
  | nil => simp
  | cons b r =>
    have h1 : ∀ c : UInt8, (c ≠ 32) ↔ (c.toNat ≠ 32) := by
      intro c
      constructor
      · intro h e; exact h (UInt8.toNat_inj.1 e)
      · intro h e; subst e; exact h rfl
    simp only [List.length_cons, Bool.or_eq_true, Bool.and_eq_true, decide_eq_true_eq, h1]
    constructor
    · rintro ⟨h, h'⟩
      right
      refine ⟨?_, ?_⟩
      · rcases h' with h' | h' | h'
        · cases h'
        · exact h'
        · cases h'
      · rcases h with h | h
        · cases h
        · exact h
    · rintro (h | ⟨h, h'⟩)
      · omega
      · exact ⟨Or.inr h', Or.inr (Or.inl h)⟩
theorem list_of (s : ByteArray) : s.toList = s.data.toList := by simp [ByteArray.toList_eq]
theorem trim_cmp (V : ByteArray) : (V.toList == (⟨(Lib.trimB V.data.toList 32).toArray⟩ : ByteArray).toList) = edgeB V.data.toList := by
  rw [list_of, list_of, Bool.eq_iff_iff, ← trim_edge]
  simp only [beq_iff_eq]
  exact eq_comm

theorem below_drewN (w : World) (n : Nat) : Below w.heap.size w (w.drewN n) := ⟨rfl, rfl, rfl, Nat.le_refl _, fun _ _ => rfl⟩

theorem trim_any (V : ByteArray) (w : World) (n : Nat) (hV : V.size ≤ 2000000) :
    Calls Tryz.prog 126 #[.string V, .string ⟨#[32]⟩] (w.drewN n) fun e w' => e = .returned (.string ⟨(Lib.trimB V.data.toList 32).toArray⟩) ∧ ∃ m, w' = (w.drewN n).drewN m := by
  refine (Tryz.strings_Trim_one V 32 (by decide) (w.drewN n) (by omega)).mono ?_
  rintro e w' ⟨rfl, rfl | rfl⟩
  · exact ⟨rfl, 0, rfl⟩
  · exact ⟨rfl, 1, rfl⟩

set_option maxHeartbeats 800000 in
theorem implGoodF_any (N V : ByteArray) (w : World) (hT : Tab w) (hV : V.size ≤ 2000000) :
    Calls Tryz.prog 141 #[.agg #[.string N, .string V]] w fun e w' => e = .returned (.bool (goodF N V)) ∧ Below w.heap.size w w' := by
  have hT1 := hT.alloc (.cells #[.string N, .string V] 102)
  have C : Hid (∀ n, Calls Tryz.prog 80 #[.string N] ((w.alloc (.cells #[.string N, .string V] 102)).drewN n) fun e w' => e = .returned (.bool (tokenB N.data.toList)) ∧ w' = (w.alloc (.cells #[.string N, .string V] 102)).drewN n) :=
    fun n => isToken_any N ((w.alloc (.cells #[.string N, .string V] 102)).drewN n) (fun i hi => hT1 i hi)
  have P : Hid (∀ n, Calls Tryz.prog 114 #[.string V] ((w.alloc (.cells #[.string N, .string V] 102)).drewN n) fun e w' => e = .returned (.bool (plainB V.data.toList)) ∧ w' = (w.alloc (.cells #[.string N, .string V] 102)).drewN n) :=
    fun n => isPlain_any V ((w.alloc (.cells #[.string N, .string V] 102)).drewN n) hV
  have hfin : Below w.heap.size w (w.alloc (.cells #[.string N, .string V] 102)) := (Below.refl _ _).alloc (Nat.le_refl _) _
  have hcmp := trim_cmp V
  have X : Hid (∀ n, Calls Tryz.prog 126 #[.string V, .string ⟨#[32]⟩] ((w.alloc (.cells #[.string N, .string V] 102)).drewN n) fun e w' => e = .returned (.string ⟨(Lib.trimB V.data.toList 32).toArray⟩) ∧ ∃ m, w' = ((w.alloc (.cells #[.string N, .string V] 102)).drewN n).drewN m) :=
    fun n => trim_any V (w.alloc (.cells #[.string N, .string V] 102)) n hV
  generalize (⟨(Lib.trimB V.data.toList 32).toArray⟩ : ByteArray) = T at hcmp X
  clear hT1
  unfold goodF
  cases ht : tokenB N.data.toList
  · rw [ht] at C
    go_enter Tryz.func141, Tryz.ntmps141
    go_wp2_with fail
    go_quiet ((first
      | (go_at_call 80; exact Calls.quiet_of_same (C.out _))
      | (go_at_call 114; exact Calls.quiet_of_same (P.out _))
      | (go_at_call 126; exact Calls.quiet_of (X.out _))))
    go_wp2
    go_ret
    exact ⟨rfl, hfin.trans ((below_drewN _ _).mono hfin.size)⟩
  · rw [ht] at C
    by_cases hz : V.size ≤ 300
    · rw [decide_eq_true hz]
      have hz' : decide ((V.size : Int) ≤ 300) = true := decide_eq_true (by omega)
      cases hp : plainB V.data.toList
      · rw [hp] at P
        go_enter Tryz.func141, Tryz.ntmps141
        go_wp2_with fail
        go_quiet ((first
          | (go_at_call 80; exact Calls.quiet_of_same (C.out _))
          | (go_at_call 114; exact Calls.quiet_of_same (P.out _))
          | (go_at_call 126; exact Calls.quiet_of (X.out _))))
        go_wp2
        go_ret
        exact ⟨rfl, hfin.trans ((below_drewN _ _).mono hfin.size)⟩
      · rw [hp] at P
        go_enter Tryz.func141, Tryz.ntmps141
        go_wp2_with fail
        go_quiet ((first
          | (go_at_call 80; exact Calls.quiet_of_same (C.out _))
          | (go_at_call 114; exact Calls.quiet_of_same (P.out _))
          | (go_at_call 126; exact Calls.quiet_of (X.out _))))
        go_wp2
        go_ret
        exact ⟨ret_bool (by first | rfl | exact hcmp | (rw [hcmp]; rfl)), hfin.trans ((below_drewN _ _).mono hfin.size)⟩
    · rw [decide_eq_false hz]
      have hz' : decide ((V.size : Int) ≤ 300) = false := decide_eq_false (by omega)
      go_enter Tryz.func141, Tryz.ntmps141
      go_wp2_with fail
      go_quiet ((first
        | (go_at_call 80; exact Calls.quiet_of_same (C.out _))
        | (go_at_call 114; exact Calls.quiet_of_same (P.out _))
        | (go_at_call 126; exact Calls.quiet_of (X.out _))))
      go_wp2
      go_ret
      exact ⟨rfl, hfin.trans ((below_drewN _ _).mono hfin.size)⟩

set_option maxHeartbeats 800000 in
theorem specGoodF_any (N V : ByteArray) (w : World) (hN : N.size ≤ 2000000) (hV : V.size ≤ 2000000) :
    Calls Tryz.prog 105 #[.agg #[.string N, .string V]] w fun e w' => e = .returned (.bool (goodF N V)) ∧ Below w.heap.size w w' := by
  have C := l3Token_any N (w.alloc (.cells #[.string N, .string V] 102)) hN
  have P := l3Printed_any V (w.alloc (.cells #[.string N, .string V] 102)) hV
  have hfin : Below w.heap.size w (w.alloc (.cells #[.string N, .string V] 102)) := (Below.refl _ _).alloc (Nat.le_refl _) _
  cases ht : tokenB N.data.toList
  · rw [ht] at C
    have HR : goodF N V = false := by unfold goodF; rw [ht]; rfl
    rw [HR]
    go_enter Tryz.func105, Tryz.ntmps105
    go_wp2_with (go_at_call 103; refine C.mono ?_; rintro e w' ⟨rfl, hw⟩; obtain rfl := hw.symm)
    go_ret
    exact ⟨rfl, hfin⟩
  · rw [ht] at C
    cases hp : plainB V.data.toList
    · rw [hp] at P
      have HR : goodF N V = false := by unfold goodF; rw [ht, hp, Bool.and_false, Bool.false_and]
      rw [HR]
      go_enter Tryz.func105, Tryz.ntmps105
      go_wp2_with (first
        | (go_at_call 103; refine C.mono ?_; rintro e w' ⟨rfl, hw⟩; obtain rfl := hw.symm)
        | (go_at_call 109; refine P.mono ?_; rintro e w' ⟨rfl, hw⟩; obtain rfl := hw.symm))
      go_ret
      exact ⟨rfl, hfin⟩
    · rw [hp] at P
      have HG : goodF N V = (decide (V.size ≤ 300) && edgeB V.data.toList) := by unfold goodF; rw [ht, hp]; simp
      by_cases hz : V.size ≤ 300
      · have hz' : decide (V.size ≤ 300) = true := decide_eq_true hz
        rw [HG, hz', Bool.true_and]
        by_cases h0 : V.size = 0
        · have HR : edgeB V.data.toList = true := by unfold edgeB; rw [len_list, decide_eq_true h0]; rfl
          rw [HR]
          have h0' : ((V.size : Int) == 0) = true := by simpa using h0
          clear hp ht HR HG
          go_enter Tryz.func105, Tryz.ntmps105
          go_wp2_with (first
            | (go_at_call 103; refine C.mono ?_; rintro e w' ⟨rfl, hw⟩; obtain rfl := hw.symm)
            | (go_at_call 109; refine P.mono ?_; rintro e w' ⟨rfl, hw⟩; obtain rfl := hw.symm))
          go_ret
          exact ⟨rfl, hfin⟩
        · have h0' : ((V.size : Int) == 0) = false := by simpa using h0
          have e0 := at_list V 0 (by omega)
          have e1 := at_list V (V.size - 1) (by omega)
          by_cases ha : (V[0].toNat : Int) = 32
          · have HR : edgeB V.data.toList = false := by unfold edgeB; rw [len_list, decide_eq_false h0, e0, decide_eq_false (show ¬ V[0].toNat ≠ 32 from by omega)]; rfl
            rw [HR]
            have ha' : ((V[0].toNat : Int) != 32) = false := by simpa using ha
            clear hp ht HR HG e0 e1 ha
            go_enter Tryz.func105, Tryz.ntmps105
            go_wp2_with (first
              | (go_at_call 103; refine C.mono ?_; rintro e w' ⟨rfl, hw⟩; obtain rfl := hw.symm)
              | (go_at_call 109; refine P.mono ?_; rintro e w' ⟨rfl, hw⟩; obtain rfl := hw.symm))
            go_ret
            exact ⟨rfl, hfin⟩
          · have HR : edgeB V.data.toList = ((V[V.size - 1].toNat : Int) != 32) := by
              unfold edgeB
              rw [len_list, decide_eq_false h0, e0, e1, decide_eq_true (show V[0].toNat ≠ 32 from by omega), Bool.false_or, Bool.true_and, Bool.eq_iff_iff]
              simp only [decide_eq_true_eq, bne_iff_ne]
              omega
            rw [HR]
            have ha' : ((V[0].toNat : Int) != 32) = true := by simpa using ha
            clear hp ht HR HG e0 e1
            go_enter Tryz.func105, Tryz.ntmps105
            go_wp2_with (first
              | (go_at_call 103; refine C.mono ?_; rintro e w' ⟨rfl, hw⟩; obtain rfl := hw.symm)
              | (go_at_call 109; refine P.mono ?_; rintro e w' ⟨rfl, hw⟩; obtain rfl := hw.symm))
            go_ret
            exact ⟨rfl, hfin⟩
      · rw [HG, decide_eq_false hz, Bool.false_and]
        clear hp ht HG
        go_enter Tryz.func105, Tryz.ntmps105
        go_wp2_with (first
          | (go_at_call 103; refine C.mono ?_; rintro e w' ⟨rfl, hw⟩; obtain rfl := hw.symm)
          | (go_at_call 109; refine P.mono ?_; rintro e w' ⟨rfl, hw⟩; obtain rfl := hw.symm))
        go_ret
        exact ⟨rfl, hfin⟩

end Go.Proofs.YtaplkbkpgdpbaaaGreatDoor.Fgd

namespace Go.Proofs.YtaplkbkpgdpbaaaGreatDoor.Lwf
open Go.ChangeShapes Go.WideShapes Go.ChangeAt Go.RowKit

theorem sz_yes (S V : ByteArray) (L : Nat) (w : World) (h : S.size + V.size ≤ L) (hL : L ≤ 2000000) :
    Calls Tryz.prog 110 #[.agg #[.string S, .string V], .int .i64 L] w fun e w' => e = .returned (.int .i64 ((L : Int) - S.size - V.size)) ∧ Below w.heap.size w w' := by
  go_enter Tryz.func110, Tryz.ntmps110
  go_wp2
  go_ret
  exact ⟨rfl, (Below.refl _ _).alloc (Nat.le_refl _) _⟩

theorem sz_no (S V : ByteArray) (L : Nat) (w : World) (hS : S.size ≤ maxLen) (hV : V.size ≤ maxLen) (h : ¬ S.size + V.size ≤ L) (hL : L ≤ 2000000) :
    Calls Tryz.prog 110 #[.agg #[.string S, .string V], .int .i64 L] w fun e w' => e = .returned (.int .i64 (-1)) ∧ Below w.heap.size w w' := by
  unfold maxLen at hS hV
  rcases (show L < S.size ∨ (S.size ≤ L ∧ L < S.size + V.size) from by omega) with h1 | ⟨h0, h1⟩
  all_goals
    go_enter Tryz.func110, Tryz.ntmps110
    go_wp2
    go_ret
    exact ⟨rfl, (Below.refl _ _).alloc (Nat.le_refl _) _⟩

theorem toField_any (S V : ByteArray) (w : World) :
    Calls Tryz.prog 111 #[.agg #[.string S, .string V]] w fun e w' => e = .returned (.agg #[.string S, .string V]) ∧ Below w.heap.size w w' := by
  go_enter Tryz.func111, Tryz.ntmps111
  go_wp2
  exact bodyPost_ret (v := .agg #[.string S, .string V]) (by simp [results, Tryz.results111, go_sem]) rfl ⟨rfl, by repeat (first | exact Below.refl _ _ | refine Below.alloc ?_ (by simp <;> omega) _ | refine Below.setCell ?_ (by simp <;> omega) _)⟩

theorem array2 {α : Type} {cs : Array α} (h : cs.size = 2) : ∃ c0 c1, cs = #[c0, c1] := by
  obtain ⟨l⟩ := cs
  match l, h with
  | [c0, c1], _ => exact ⟨c0, c1, rfl⟩
theorem list2 {α : Type} {l : List α} (h : l.length = 2) : ∃ c0 c1, l = [c0, c1] := by
  match l, h with
  | [c0, c1], _ => exact ⟨c0, c1, rfl⟩

theorem cellsF : Tryz.prog.cellsOf 135 = 2 := by kernel_rfl
theorem cellsS : Tryz.prog.cellsOf 9 = 1 := by kernel_rfl

set_option maxRecDepth 100000 in
theorem open_field {H : Type} {enc : TypeId × Value → H} {W : World} {r : Reach} {b0 base : Nat} {sp : Nat → Bool} {held : Bool} {v : Value} {d : DataW H} {p : List MemPlace}
    (hv : Value.okWide Tryz.prog W r b0 135 v) (h : DataW.Trod enc Tryz.prog W base sp held 135 v d p) :
    ∃ (S V : ByteArray), v = .agg #[.string S, .string V] ∧ S.size ≤ maxLen ∧ V.size ≤ maxLen := by
  obtain ⟨cs, rfl, hsz⟩ := okWide_struct Tryz.underlying135 hv
  obtain ⟨c0, c1, rfl⟩ := array2 (hsz.trans cellsF)
  obtain ⟨fuel, hf⟩ := h
  obtain ⟨xs, n, _, _, hl, hlen, hg⟩ := DataW.trod_struct Tryz.underlying135 hf
  obtain ⟨y0, y1, rfl⟩ := list2 (show xs.length = 2 from hlen)
  have g0 := hg 0 _ rfl
  have g1 := hg 1 _ rfl
  obtain ⟨S, e0, _, k0⟩ := DataW.trod_string Tryz.underlying9 g0
  obtain ⟨V, e1, _, k1⟩ := DataW.trod_string Tryz.underlying9 g1
  simp [cellsS, Value.cells] at e0 e1
  subst e0 e1
  exact ⟨S, V, rfl, k0, k1⟩

end Go.Proofs.YtaplkbkpgdpbaaaGreatDoor.Lwf

namespace Go.Proofs.YtaplkbkpgdpbaaaGreatDoor.Lof
open Go.RowKit
open Go.Proofs.YtaplkbkpgdpbaaaGreatDoor.Byt
open Go.Proofs.YtaplkbkpgdpbaaaGreatDoor.Fbs
open Go.Proofs.YtaplkbkpgdpbaaaGreatDoor.Own

/-- A great letter as a small one. -/
def lowB (c : UInt8) : UInt8 := if 65 ≤ c.toNat ∧ c.toNat ≤ 90 then UInt8.ofNat (c.toNat + 32) else c
def lowS (s : ByteArray) : ByteArray := ⟨(s.data.toList.map lowB).toArray⟩
theorem lowB_yes {c : UInt8} (h1 : 65 ≤ c.toNat) (h2 : c.toNat ≤ 90) : ((lowB c).toNat : Int) = (c.toNat : Int) + 32 := by
  unfold lowB; rw [if_pos ⟨h1, h2⟩, UInt8.toNat_ofNat']; omega
theorem lowB_no {c : UInt8} (h : ¬ (65 ≤ c.toNat ∧ c.toNat ≤ 90)) : lowB c = c := by unfold lowB; rw [if_neg h]
theorem lowS_size (s : ByteArray) : (lowS s).size = s.size := by
  show (s.data.toList.map lowB).toArray.size = s.size
  simp

/-- A byte of the text behind k rounds. -/
def lowAt (s : ByteArray) (k j : Nat) : UInt8 := if j < k then lowB (s.data.toList.getD j 0) else s.data.toList.getD j 0
theorem getD_at (s : ByteArray) (k : Nat) (h : k < s.size) : s.data.toList.getD k 0 = s[k] := by
  have := at_list s k h
  simpa [List.getD] using this

theorem bytes_of (s : ByteArray) (w : World) : ∃ g w1, (convert 9 22 (.string s)).run Tryz.prog w = .ok (.slice (some ⟨w.heap.size, 0, none⟩) s.size g) w1 ∧ s.size ≤ g ∧ Below w.heap.size w w1 ∧ w.heap.size < w1.heap.size ∧
    (∀ j, j < s.size → w1.cell? ⟨w.heap.size, j, none⟩ = some (.int .u8 ((lowAt s 0 j).toNat : Int))) ∧ (∀ j, j < s.size → w1.frozen? ⟨w.heap.size, j, none⟩ = false) := by
  refine ⟨_, _, run_bytes_of_string w 9 22 5 s Tryz.underlying9 Tryz.underlying22 Tryz.underlying5, grownCap_ge _ _ _ _, ((Below.refl _ _).drew).alloc (Nat.le_refl _) _, by simp, fun j hj => ?_, fun j hj => ?_⟩
  · have := World.cell?_alloc_mark w.drew (bytesRow s (grownCap w s.size 0 5)) 5 ((bytesRow s (grownCap w s.size 0 5)).size, (bytesRow s (grownCap w s.size 0 5)).size + 1) j
    refine Eq.trans this ?_
    rw [bytesRow_at s _ j hj]
    unfold lowAt
    rw [if_neg (by omega), getD_at s j hj]
    rfl
  · have := World.frozen?_alloc_mark w.drew (bytesRow s (grownCap w s.size 0 5)) 5 (bytesRow s (grownCap w s.size 0 5)).size ((bytesRow s (grownCap w s.size 0 5)).size + 1) j
    refine Eq.trans this ?_
    have hsz : j < (bytesRow s (grownCap w s.size 0 5)).size := by
      have := bytesRow_at s (grownCap w s.size 0 5) j hj
      exact (Array.getElem?_eq_some_iff.1 this).1
    rw [decide_eq_false (by omega)]; rfl

theorem text_of (s : ByteArray) (w1 : World) (b g : Nat) (h : ∀ j, j < s.size → w1.cell? ⟨b, j, none⟩ = some (.int .u8 ((lowAt s s.size j).toNat : Int))) :
    (convert 22 9 (.slice (some ⟨b, 0, none⟩) s.size g)).run Tryz.prog w1 = .ok (.string (lowS s)) w1 := by
  have hl : (s.data.toList.map lowB).length = s.size := by simp
  have := run_convert_bytes_back w1 22 9 5 ⟨b, 0, none⟩ g (s.data.toList.map lowB) Tryz.underlying22 Tryz.underlying5 Tryz.underlying9 (fun j hj => by
    rw [Addr.add_lit, Nat.zero_add]
    have hj' : j < s.size := by rw [← hl]; exact hj
    rw [h j hj']
    unfold lowAt
    rw [if_pos hj', getD_at s j hj']
    congr 3
    simp
    rfl)
  rw [hl] at this
  exact this

theorem lowAt_ne {s : ByteArray} {k j : Nat} (h : j ≠ k) : lowAt s (k + 1) j = lowAt s k j := by
  unfold lowAt
  by_cases h1 : j < k
  · rw [if_pos h1, if_pos (by omega)]
  · rw [if_neg h1, if_neg (by omega)]
theorem lowAt_self {s : ByteArray} {k : Nat} (h : k < s.size) : lowAt s k k = s[k] ∧ lowAt s (k + 1) k = lowB s[k] := by
  unfold lowAt
  rw [if_neg (by omega), if_pos (by omega), getD_at s k h]
  exact ⟨rfl, rfl⟩

/-- The cells behind a round that leaves them. -/
theorem low_stay {s : ByteArray} {k B : Nat} {wr : World} (h : k < s.size) (hn : ¬ (65 ≤ s[k].toNat ∧ s[k].toNat ≤ 90)) (hc : ∀ j, j < s.size → wr.cell? ⟨B, j, none⟩ = some (.int .u8 ((lowAt s k j).toNat : Int))) :
    ∀ j, j < s.size → wr.cell? ⟨B, j, none⟩ = some (.int .u8 ((lowAt s (k + 1) j).toNat : Int)) := by
  intro j hj
  rw [hc j hj]
  by_cases e : j = k
  · subst e; rw [(lowAt_self h).1, (lowAt_self h).2, lowB_no hn]
  · rw [lowAt_ne e]
/-- The cells behind a round that turns one. -/
theorem low_set {s : ByteArray} {k B : Nat} {wr : World} {x : Int} (h : k < s.size) (hx : x = ((lowB s[k]).toNat : Int)) (hc : ∀ j, j < s.size → wr.cell? ⟨B, j, none⟩ = some (.int .u8 ((lowAt s k j).toNat : Int))) :
    ∀ j, j < s.size → (wr.setCell ⟨B, k, none⟩ (.int .u8 x)).cell? ⟨B, j, none⟩ = some (.int .u8 ((lowAt s (k + 1) j).toNat : Int)) := by
  intro j hj
  by_cases e : j = k
  · subst e
    rw [(lowAt_self h).2, ← hx]
    simp [go_sem, hc j hj]
  · rw [lowAt_ne e, ← hc j hj]
    simp [go_sem]

set_option maxRecDepth 20000 in
set_option maxHeartbeats 800000 in
theorem implLow_any (s : ByteArray) (w : World) (hs : s.size ≤ 2000000) :
    Calls Tryz.prog 118 #[.string s] w fun e w' => e = .returned (.string (lowS s)) ∧ Below w.heap.size w w' := by
  obtain ⟨g, w1, hcv, hg, hb1, hs1, hc1, hf1⟩ := bytes_of s w
  have HC : Hid _ := hc1
  have HF : Hid _ := hf1
  have HB : Hid _ := hb1
  clear hc1 hf1 hb1
  go_enter Tryz.func118, Tryz.ntmps118
  go_wp2
  go_loopw [10] (fun i wr => ∃ k : Nat, k ≤ s.size ∧ i = .int .i64 k ∧ w.heap.size < wr.heap.size ∧ Hid (Below w.heap.size w wr) ∧ Hid (∀ j, j < s.size → wr.cell? ⟨w.heap.size, j, none⟩ = some (.int .u8 ((lowAt s k j).toNat : Int))) ∧ Hid (∀ j, j < s.size → wr.frozen? ⟨w.heap.size, j, none⟩ = false))
    (fun i _ => s.size - (intOf i).toNat)
  case atStart => exact ⟨0, by omega, rfl, hs1, HB, HC, HF⟩
  case round =>
    obtain ⟨k, hk, rfl, hs2, HB2, HC2, HF2⟩ := hrel
    clear HC HF HB hcv
    by_cases hlt : k < s.size
    · have hck := HC2.out k hlt
      rw [(lowAt_self hlt).1] at hck
      have hfk := HF2.out k hlt
      have hbd := byte_bd s[k]
      obtain ⟨b, hb⟩ : ∃ b, b = s[k] := ⟨_, rfl⟩
      rw [← hb] at hck hbd
      have HBQ : Hid (b = s[k]) := hb
      clear hb
      rcases (show (b.toNat < 65) ∨ (65 ≤ b.toNat ∧ 90 < b.toNat) ∨ (65 ≤ b.toNat ∧ b.toNat ≤ 90) from by omega) with h1 | ⟨h1, h2⟩ | ⟨h1, h2⟩
      · go_wp2
        go_roundw
        case rel => exact ⟨k + 1, by omega, by go_num, hs2, HB2, low_stay hlt (by rw [← HBQ.out]; omega) HC2.out, HF2⟩
        case measure => simp [intOf]; omega
      · have hd : decide ((b.toNat : Int) ≤ 90) = false := decide_eq_false (by omega)
        go_wp2
        go_roundw
        case rel => exact ⟨k + 1, by omega, by go_num, hs2, HB2, low_stay hlt (by rw [← HBQ.out]; omega) HC2.out, HF2⟩
        case measure => simp [intOf]; omega
      · have hd : decide ((b.toNat : Int) ≤ 90) = true := decide_eq_true (by omega)
        go_wp2
        go_roundw
        case rel => exact ⟨k + 1, by omega, by go_num, by simpa [World.setCell] using hs2, Below.setCell HB2.out (Nat.le_refl _) _, low_set hlt (by rw [← HBQ.out, lowB_yes h1 h2]; try omega) HC2.out, fun j hj => by simp [go_sem, HF2.out j hj]⟩
        case measure => simp [intOf]; omega
    · obtain rfl : k = s.size := by omega
      have hcv := text_of s wr w.heap.size g HC2.out
      go_wp2
      go_ret
      exact ⟨rfl, HB2.out⟩

set_option maxRecDepth 20000 in
set_option maxHeartbeats 800000 in
theorem specLow_any (s : ByteArray) (w : World) (hs : s.size ≤ 2000000) :
    Calls Tryz.prog 138 #[.string s] w fun e w' => e = .returned (.string (lowS s)) ∧ Below w.heap.size w w' := by
  obtain ⟨g, w1, hcv, hg, hb1, hs1, hc1, hf1⟩ := bytes_of s w
  have HC : Hid _ := hc1
  have HF : Hid _ := hf1
  have HB : Hid _ := hb1
  clear hc1 hf1 hb1
  go_enter Tryz.func138, Tryz.ntmps138
  go_wp2
  go_loopw [9] (fun i wr => ∃ k : Nat, k ≤ s.size ∧ i = .int .i64 k ∧ w.heap.size < wr.heap.size ∧ Hid (Below w.heap.size w wr) ∧ Hid (∀ j, j < s.size → wr.cell? ⟨w.heap.size, j, none⟩ = some (.int .u8 ((lowAt s k j).toNat : Int))) ∧ Hid (∀ j, j < s.size → wr.frozen? ⟨w.heap.size, j, none⟩ = false))
    (fun i _ => s.size - (intOf i).toNat)
  case atStart => exact ⟨0, by omega, rfl, hs1, HB, HC, HF⟩
  case round =>
    obtain ⟨k, hk, rfl, hs2, HB2, HC2, HF2⟩ := hrel
    clear HC HF HB hcv
    by_cases hlt : k < s.size
    · have hck := HC2.out k hlt
      rw [(lowAt_self hlt).1] at hck
      have hfk := HF2.out k hlt
      have hbd := byte_bd s[k]
      obtain ⟨b, hb⟩ : ∃ b, b = s[k] := ⟨_, rfl⟩
      rw [← hb] at hck hbd
      have HBQ : Hid (b = s[k]) := hb
      clear hb
      rcases (show (b.toNat < 65) ∨ (65 ≤ b.toNat ∧ 90 < b.toNat) ∨ (65 ≤ b.toNat ∧ b.toNat ≤ 90) from by omega) with h1 | ⟨h1, h2⟩ | ⟨h1, h2⟩
      · go_wp2
        go_roundw
        case rel => exact ⟨k + 1, by omega, by go_num, hs2, HB2, low_stay hlt (by rw [← HBQ.out]; omega) HC2.out, HF2⟩
        case measure => simp [intOf]; omega
      · have hd : decide ((b.toNat : Int) ≤ 90) = false := decide_eq_false (by omega)
        go_wp2
        go_roundw
        case rel => exact ⟨k + 1, by omega, by go_num, hs2, HB2, low_stay hlt (by rw [← HBQ.out]; omega) HC2.out, HF2⟩
        case measure => simp [intOf]; omega
      · have hd : decide ((b.toNat : Int) ≤ 90) = true := decide_eq_true (by omega)
        go_wp2
        go_roundw
        case rel => exact ⟨k + 1, by omega, by go_num, by simpa [World.setCell] using hs2, Below.setCell HB2.out (Nat.le_refl _) _, low_set hlt (by rw [← HBQ.out, lowB_yes h1 h2]; try omega) HC2.out, fun j hj => by simp [go_sem, HF2.out j hj]⟩
        case measure => simp [intOf]; omega
    · obtain rfl : k = s.size := by omega
      have hcv := text_of s wr w.heap.size g HC2.out
      go_wp2
      go_ret
      exact ⟨rfl, HB2.out⟩

end Go.Proofs.YtaplkbkpgdpbaaaGreatDoor.Lof

namespace Go.Proofs.YtaplkbkpgdpbaaaGreatDoor.Fdb
open Go.RowKit
open Go.Proofs.YtaplkbkpgdpbaaaGreatDoor.Fbs
open Go.Proofs.YtaplkbkpgdpbaaaGreatDoor.Mrk (mk markText_any same_text below_drewN grown_below grown_of grown_set below_grown)

theorem infoF : (Tryz.prog.info? 102).map (fun i => (i.zero, i.size, i.bytes)) = some (some (.agg #[.string ⟨#[]⟩, .string ⟨#[]⟩]), 2, 32) := by kernel_rfl

/-- The cells of a list of fields. -/
def flatF (l : List (ByteArray × ByteArray)) : List Value := l.flatMap fun c => [.string c.1, .string c.2]
theorem flat_len (l : List (ByteArray × ByteArray)) : (flatF l).length = l.length * 2 := by
  induction l with
  | nil => rfl
  | cons c r ih => simp only [flatF, List.flatMap_cons, List.length_append, List.length_cons, List.length_nil] at ih ⊢; omega
theorem flat_snoc (l : List (ByteArray × ByteArray)) (c : ByteArray × ByteArray) : flatF (l ++ [c]) = flatF l ++ [.string c.1, .string c.2] := by simp [flatF]

/-- The value v holds the fields l, in memory of the call's own from block B on. -/
def fieldsIn (w : World) (B : Nat) (v : Value) (l : List (ByteArray × ByteArray)) : Prop := w.ownsRow B 102 2 v l.length (flatF l)

theorem fieldsIn.below {w w' : World} {B : Nat} {v : Value} {l : List (ByteArray × ByteArray)} (h : fieldsIn w B v l) (hb : Below w.heap.size w w') : fieldsIn w' B v l := by
  refine ⟨h.1, ?_⟩
  rcases h.2 with hn | ⟨g, cap, cur, rfl, hbg, hg, rest⟩
  · exact .inl hn
  · exact .inr ⟨g, cap, cur, rfl, hbg, (hb.block g (Array.getElem?_eq_some_iff.1 hg).1).trans hg, rest⟩
theorem fieldsIn.nil (w : World) (B : Nat) : fieldsIn w B (.slice none 0 0) [] := ⟨rfl, .inl ⟨rfl, rfl⟩⟩

/-- 'append(v, c)' of one field, for the walk. -/
theorem wpList_append_field (wr : World) {ops : Array Oper} {rest : List Oper} {o : Oper} {a : Act} {Q : Exit → Act → World → Prop} (hgd : o.guard = none) (s x : Operand)
    (ho : o.op = .call { callee := .builtin .append, args := #[s, x], argTypes := #[23, 23] })
    (B : Nat) (v : Value) (l : List (ByteArray × ByteArray)) (hs : a.eval s = v) (hown : fieldsIn wr B v l)
    (X z : ByteArray) (cap : Nat) (hx : a.eval x = .slice (some ⟨wr.heap.size, 0, none⟩) 1 cap)
    (hb : l.length + 1 ≤ 1000000) (hbase : B ≤ wr.heap.size) (B0 : Nat) (hB0 : B0 ≤ B) (W : World) (hbel : Below B0 W wr)
    (h : ∀ v' w', fieldsIn w' B v' (l ++ [(X, z)]) → Below B0 W w' → wpList Tryz.prog ops Q rest (a.put o.dst v') w') : wpList Tryz.prog ops Q (o :: rest) a (wr.alloc (.cells #[.string X, .string z] 102)) := by
  obtain ⟨i0, hi, hz0, hz1, hz2⟩ := info_parts infoF
  refine wpList_append_own _ hgd s x 23 ho B 102 i0 (.agg #[.string ⟨#[]⟩, .string ⟨#[]⟩]) 2 32 Tryz.underlying23 hi hz0 hz1 hz2 rfl (by decide) v l.length _ hs (World.ownsRow.alloc hown _) ⟨wr.heap.size, 0, none⟩ 1 cap [.string X, .string z] hx rfl ?_ ?_
    (by unfold maxLen; omega) (by omega) (by simp; omega) ?_
  · intro j u hj
    match j, hj with
    | 0, hj => simp at hj; subst hj; simp [Addr.add]
    | 1, hj => simp at hj; subst hj; simp [Addr.add]
  · intro u hu; simp at hu; rcases hu with rfl | rfl <;> rfl
  · intro v' w' hown' hg _
    refine h v' w' ?_ ((hbel.alloc (by omega) _).grown hg (by simp; omega) (fun k hk => Nat.le_trans hB0 (World.ownsRow.lt hown k hk).1))
    unfold fieldsIn
    rw [List.length_append, flat_snoc]
    exact hown'

theorem fieldsIn.made (w : World) (B : Nat) (h : B ≤ w.heap.size) : fieldsIn (w.alloc (.cells #[] 102)) B (.slice (some ⟨w.heap.size, 0, none⟩) 0 0) [] :=
  ⟨rfl, .inr ⟨w.heap.size, 0, #[], rfl, h, by show (w.heap.push _)[w.heap.size]? = _; simp, Nat.le_refl _, by decide, rfl, rfl⟩⟩
theorem fieldsIn.alloc {w : World} {B : Nat} {v : Value} {l : List (ByteArray × ByteArray)} (h : fieldsIn w B v l) (o : Obj) : fieldsIn (w.alloc o) B v l := World.ownsRow.alloc h o
theorem fieldsIn.base {w : World} {B B' : Nat} {v : Value} {l : List (ByteArray × ByteArray)} (h : fieldsIn w B v l) (hB : B' ≤ B) : fieldsIn w B' v l := by
  refine ⟨h.1, ?_⟩
  rcases h.2 with hn | ⟨g, cap, cur, rfl, hbg, rest⟩
  · exact .inl hn
  · exact .inr ⟨g, cap, cur, rfl, Nat.le_trans hB hbg, rest⟩

theorem flat_at : ∀ (l : List (ByteArray × ByteArray)) (i : Nat) (c : ByteArray × ByteArray), l[i]? = some c → (flatF l)[i * 2]? = some (.string c.1) ∧ (flatF l)[i * 2 + 1]? = some (.string c.2)
  | [], i, c, h => by simp at h
  | d :: r, 0, c, h => by
    have : d = c := by simpa using h
    subst this
    exact ⟨rfl, rfl⟩
  | d :: r, i + 1, c, h => by
    have := flat_at r i c (by simpa using h)
    have e : flatF (d :: r) = .string d.1 :: .string d.2 :: flatF r := rfl
    rw [e, show (i + 1) * 2 = i * 2 + 1 + 1 from by omega, show i * 2 + 1 + 1 + 1 = (i * 2 + 1) + 1 + 1 from rfl]
    simpa using this

/-- A row of fields in a block. -/
def RowF (w : World) (g : Nat) (l : List (ByteArray × ByteArray)) : Prop := g < w.heap.size ∧ (∀ i, w.frozen? ⟨g, i, none⟩ = false) ∧ ∀ i c, l[i]? = some c → w.cell? ⟨g, i * 2, none⟩ = some (.string c.1) ∧ w.cell? ⟨g, i * 2 + 1, none⟩ = some (.string c.2)
/-- A list of fields: empty, or in a block from lo on and below hi. -/
def FV (w : World) (a : Option Addr) (l : List (ByteArray × ByteArray)) (lo hi : Nat) : Prop := l = [] ∨ ∃ g, a = some ⟨g, 0, none⟩ ∧ lo ≤ g ∧ g < hi ∧ RowF w g l

theorem RowF.below {w w' : World} {g : Nat} {l : List (ByteArray × ByteArray)} (h : RowF w g l) (hb : Below w.heap.size w w') : RowF w' g l :=
  ⟨Nat.lt_of_lt_of_le h.1 hb.size, fun i => (hb.frozen (p := ⟨g, i, none⟩) h.1).trans (h.2.1 i), fun i c hc => ⟨(hb.cell (p := ⟨g, i * 2, none⟩) h.1).trans (h.2.2 i c hc).1, (hb.cell (p := ⟨g, i * 2 + 1, none⟩) h.1).trans (h.2.2 i c hc).2⟩⟩
theorem FV.below {w w' : World} {a : Option Addr} {l : List (ByteArray × ByteArray)} {lo hi : Nat} (h : FV w a l lo hi) (hb : Below w.heap.size w w') : FV w' a l lo hi := by
  rcases h with h | ⟨g, h1, h2, h3, h4⟩
  · exact .inl h
  · exact .inr ⟨g, h1, h2, h3, h4.below hb⟩
theorem fv_of {w : World} {B : Nat} {v : Value} {l : List (ByteArray × ByteArray)} (h : fieldsIn w B v l) : ∃ a cap, v = .slice a l.length cap ∧ FV w a l B w.heap.size := by
  have hh := h
  rcases h.2 with ⟨rfl, h0⟩ | ⟨g, cap, cur, rfl, hbg, hg, hnc, hcm, hcs, htake⟩
  · have hl : l = [] := by simpa using h0
    subst hl
    exact ⟨none, 0, rfl, .inl rfl⟩
  · refine ⟨_, _, rfl, .inr ⟨g, rfl, hbg, (Array.getElem?_eq_some_iff.1 hg).1, (Array.getElem?_eq_some_iff.1 hg).1, fun i => by simp [World.frozen?, hg], fun i c hc => ?_⟩⟩
    obtain ⟨f1, f2⟩ := flat_at l i c hc
    have e1 := World.ownsRow.cells hh (g := g) rfl (i * 2) _ f1
    have e2 := World.ownsRow.cells hh (g := g) rfl (i * 2 + 1) _ f2
    rw [Addr.add_lit, Nat.zero_add] at e1 e2
    exact ⟨e1, e2⟩


theorem FV.kept {w w' : World} {a : Option Addr} {l : List (ByteArray × ByteArray)} {lo hi : Nat} (h : FV w a l lo hi) {row : Option Nat} (hg : w.grownBy w' row) (hr : ∀ g, row = some g → hi ≤ g) : FV w' a l lo hi := by
  rcases h with h | ⟨g, h1, h2, h3, h4, h5, h6⟩
  · exact .inl h
  · have hb : w'.heap[g]? = w.heap[g]? := hg.block g h4 (fun e => by have := hr g e.symm; omega)
    have hc : ∀ i, w'.cell? ⟨g, i, none⟩ = w.cell? ⟨g, i, none⟩ := fun i => by unfold World.cell?; rw [hb]
    refine .inr ⟨g, h1, h2, h3, Nat.lt_of_lt_of_le h4 hg.size, fun i => ?_, fun i c hi => ⟨(hc _).trans (h6 i c hi).1, (hc _).trans (h6 i c hi).2⟩⟩
    have := h5 i
    unfold World.frozen? at this ⊢
    rwa [hb]
theorem FV.wide {w : World} {a : Option Addr} {l : List (ByteArray × ByteArray)} {lo hi lo' hi' : Nat} (h : FV w a l lo hi) (h1 : lo' ≤ lo) (h2 : hi ≤ hi') : FV w a l lo' hi' := by
  rcases h with h | ⟨g, e, g1, g2, hr⟩
  · exact .inl h
  · exact .inr ⟨g, e, by omega, by omega, hr⟩

theorem eqF_one (X z : ByteArray) (w : World) :
    Calls Tryz.prog 112 #[.agg #[.string X, .string z], .agg #[.string X, .string z]] w fun e w' => e = .returned (.bool true) ∧ Below w.heap.size w w' := by
  have hs := same_text X
  have hs2 := same_text z
  go_enter Tryz.func112, Tryz.ntmps112
  go_wp2
  go_ret
  exact ⟨rfl, ((Below.refl _ _).alloc (Nat.le_refl _) _).alloc (by simp) _⟩

set_option maxHeartbeats 800000 in
theorem eqFS_any (a b : Option Addr) (ca cb : Nat) (l : List (ByteArray × ByteArray)) (w : World) (lo hi lo' hi' : Nat) (hl : l.length ≤ 2000000) (ha : FV w a l lo hi) (hb : FV w b l lo' hi') :
    Calls Tryz.prog 73 #[.slice a l.length ca, .slice b l.length cb] w fun e w' => e = .returned (.bool true) ∧ Below w.heap.size w w' := by
  by_cases h0 : l = []
  · subst h0
    go_enter Tryz.func73, Tryz.ntmps73
    go_wp2_with fail
    go_loop [5] (fun i => i = .int .i64 0) (fun _ => 0)
    case atStart => rfl
    case round =>
      obtain rfl := hrel
      go_wp2_with fail
      go_ret
      exact ⟨rfl, Below.refl _ _⟩
  · rcases ha with ha | ⟨g, rfl, _, _, ga⟩
    · exact absurd ha h0
    rcases hb with hb | ⟨g', rfl, _, _, gb⟩
    · exact absurd hb h0
    have GA : Hid (RowF w g l) := ga
    have GB : Hid (RowF w g' l) := gb
    go_enter Tryz.func73, Tryz.ntmps73
    go_wp2_with fail
    go_loopw [5] (fun i wr => ∃ k : Nat, k ≤ l.length ∧ i = .int .i64 k ∧ Below w.heap.size w wr) (fun i _ => l.length - (intOf i).toNat)
    case atStart => exact ⟨0, by omega, rfl, Below.refl _ _⟩
    case round =>
      obtain ⟨k, hk, rfl, hbel⟩ := hrel
      by_cases hlt : k < l.length
      · obtain ⟨ca1, ca2⟩ := (GA.out.below hbel).2.2 k l[k] (List.getElem?_eq_getElem hlt)
        obtain ⟨cb1, cb2⟩ := (GB.out.below hbel).2.2 k l[k] (List.getElem?_eq_getElem hlt)
        have HE : Hid _ := eqF_one l[k].1 l[k].2
        go_wp2_with fail
        go_region_with (go_at_call 112; refine (HE.out _).mono ?_; rintro e w2 ⟨rfl, hb2⟩)
        all_goals
          go_wp2_with fail
          go_roundw
          case rel => exact ⟨k + 1, by omega, by go_num, hbel.drew.trans (hb2.mono hbel.size)⟩
          case measure => simp [intOf]; omega
      · go_wp2_with fail
        go_ret
        exact ⟨rfl, hbel⟩


end Go.Proofs.YtaplkbkpgdpbaaaGreatDoor.Fdb

