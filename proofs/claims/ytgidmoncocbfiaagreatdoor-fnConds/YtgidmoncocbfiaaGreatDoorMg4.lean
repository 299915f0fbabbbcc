/-
  Walks: the bytes of a token: impl.isKind, impl.isToken; spec.l1Letter, l1Digit, l1Has, l3TokenByte, l3Token.
  States. Walks: impl.isState, spec.l7State.
  Walk: spec.l7Matches.
-/
import Derived.Test.YtgidmoncocbfiaaGreatDoorMg1
import Derived.Test.YtgidmoncocbfiaaGreatDoorMg3
import Derived.Test.YtgidmoncocbfiaaGreatDoorShelf
import Derived.Below
import Derived.Test.YtgidmoncocbfiaaGreatDoorMg2
import Derived.DeepKeys
import Derived.Laws.StructEq
namespace Go.Proofs.YtgidmoncocbfiaaGreatDoor.Fch
open Go.RowKit
open Go.Proofs.YtgidmoncocbfiaaGreatDoor.Byt
open Go.Proofs.YtgidmoncocbfiaaGreatDoor.Fbs

/-- The table's cells hold its numbers. -/
def Tab (w : World) : Prop := ∀ i, i < 128 → w.cell? ⟨0, i, none⟩ = some (.int .u8 (kd i))

theorem Tab.below {B : Nat} {w w' : World} (h : Tab w) (hb : Below B w w') (hB : 0 < B) : Tab w' :=
  fun i hi => (hb.cell (p := ⟨0, i, none⟩) hB).trans (h i hi)

theorem Tab.lt {w : World} (h : Tab w) : 0 < w.heap.size := World.block_lt_of_cell? w _ (h 0 (by omega))
theorem Tab.alloc {w : World} (h : Tab w) (o : Obj) : Tab (w.alloc o) := h.below ((Below.refl w.heap.size w).alloc (Nat.le_refl _) o) h.lt

def isK (b k : Int) : Bool := decide (b < 128) && (bits BinOp.and .u8 (kd b.toNat) k != 0)

theorem isKind_any (b k : Int) (w : World) (hT : Tab w) (h0 : 0 ≤ b) (h1 : b ≤ 255) :
    Calls Tryz.prog 50 #[.int .u8 b, .int .u8 k] w fun e w' => e = .returned (.bool (isK b k)) ∧ w' = w := by
  obtain ⟨n, rfl⟩ := Int.eq_ofNat_of_zero_le h0
  by_cases h : (n : Int) < 128
  · have hc := hT n (by omega)
    go_enter Tryz.func50, Tryz.ntmps50
    go_wp2
    go_ret
    exact ⟨by simp [isK, h], rfl⟩
  · go_enter Tryz.func50, Tryz.ntmps50
    go_wp2
    go_ret
    exact ⟨by simp [isK]; intro h'; omega, rfl⟩

theorem isK_free (b : Int) (h0 : 0 ≤ b) (h1 : b ≤ 255) : isK b 2 = freeB b := by
  obtain ⟨n, rfl⟩ := Int.eq_ofNat_of_zero_le h0
  have all : ∀ n : Nat, n < 256 → isK (n : Int) 2 = freeB (n : Int) := by decide +kernel
  exact all n (by omega)

theorem isFree_any (b : Int) (w : World) (hT : Tab w) (h0 : 0 ≤ b) (h1 : b ≤ 255) :
    Calls Tryz.prog 50 #[.int .u8 b, .int .u8 2] w fun e w' => e = .returned (.bool (freeB b)) ∧ w' = w := by
  rw [← isK_free b h0 h1]
  exact isKind_any b 2 w hT h0 h1

theorem l1Letter_any (b : Int) (w : World) :
    Calls Tryz.prog 82 #[.int .u8 b] w fun e w' => e = .returned (.bool (letterB b)) ∧ w' = w := by
  rcases (show (97 ≤ b ∧ b ≤ 122) ∨ (65 ≤ b ∧ b ≤ 90) ∨ b < 65 ∨ (90 < b ∧ b < 97) ∨ 122 < b from by omega) with h | h | h | h | h
  · have HF : Hid (letterB b = true) := by show _ = _; simp [letterB]; omega
    obtain ⟨h1, h2⟩ := h
    go_enter Tryz.func82, Tryz.ntmps82
    go_wp2
    go_ret
    exact ⟨ret_bool HF.out.symm, rfl⟩
  · have HF : Hid (letterB b = true) := by show _ = _; simp [letterB]; omega
    obtain ⟨h1, h2⟩ := h
    go_enter Tryz.func82, Tryz.ntmps82
    go_wp2
    go_ret
    exact ⟨ret_bool HF.out.symm, rfl⟩
  · have HF : Hid (letterB b = false) := by show _ = _; simp [letterB]; omega
    go_enter Tryz.func82, Tryz.ntmps82
    go_wp2
    go_ret
    exact ⟨ret_bool HF.out.symm, rfl⟩
  · have HF : Hid (letterB b = false) := by show _ = _; simp [letterB]; omega
    obtain ⟨h1, h2⟩ := h
    have h3 : decide (b ≤ 90) = false := by simp; omega
    go_enter Tryz.func82, Tryz.ntmps82
    go_wp2
    go_ret
    exact ⟨ret_bool (by rw [HF.out]; first | done | (simp; done) | (simp; omega)), rfl⟩
  · have HF : Hid (letterB b = false) := by show _ = _; simp [letterB]; omega
    go_enter Tryz.func82, Tryz.ntmps82
    go_wp2
    go_ret
    exact ⟨ret_bool (by rw [HF.out]; first | done | (simp; done) | (simp; omega)), rfl⟩

theorem l1Digit_any (b : Int) (w : World) :
    Calls Tryz.prog 83 #[.int .u8 b] w fun e w' => e = .returned (.bool (digitB b)) ∧ w' = w := by
  by_cases h : 48 ≤ b
  · have HF : Hid (digitB b = decide (b ≤ 57)) := by show _ = _; simp [digitB, h]
    go_enter Tryz.func83, Tryz.ntmps83
    go_wp2
    go_ret
    exact ⟨ret_bool HF.out.symm, rfl⟩
  · have HF : Hid (digitB b = false) := by show _ = _; simp [digitB]; omega
    go_enter Tryz.func83, Tryz.ntmps83
    go_wp2
    go_ret
    exact ⟨ret_bool HF.out.symm, rfl⟩

set_option maxHeartbeats 400000 in
theorem l1Has_any (s : ByteArray) (b : Int) (w : World) (hs : s.size ≤ 2000000) :
    Calls Tryz.prog 84 #[.string s, .int .u8 b] w fun e w' => e = .returned (.bool (hasB s.data.toList b)) ∧ w' = w := by
  go_enter Tryz.func84, Tryz.ntmps84
  go_wp2
  go_loop [5] (fun i => ∃ k : Nat, k ≤ s.size ∧ i = .int .i64 k ∧ Hid (∀ j, j < k → ((s.data.toList[j]?.getD 0).toNat : Int) ≠ b)) (fun i => s.size - (intOf i).toNat)
  case atStart => exact ⟨0, by omega, rfl, fun j hj => absurd hj (by omega)⟩
  case round =>
    obtain ⟨k, hk, rfl, HA⟩ := hrel
    by_cases hlt : k < s.size
    · have e0 := at_list s k hlt
      by_cases hf : (s[k].toNat : Int) = b
      · have HF : Hid (hasB s.data.toList b = true) := hasB_yes (k := k) (by rw [len_list]; exact hlt) (by rw [e0]; exact hf)
        have hf' : ((s[k].toNat : Int) == b) = true := by simpa using hf
        clear HA e0 hf
        go_wp2
        go_ret
        exact ⟨ret_bool HF.out.symm, rfl⟩
      · have HA' : Hid (∀ j, j < k + 1 → ((s.data.toList[j]?.getD 0).toNat : Int) ≠ b) := by
          intro j hj
          by_cases hjk : j = k
          · subst hjk; rw [e0]; exact hf
          · exact HA.out j (by omega)
        have hf' : ((s[k].toNat : Int) == b) = false := by simpa using hf
        clear HA e0 hf
        go_wp2
        go_round
        case rel => exact ⟨k + 1, by omega, by go_num, HA'⟩
        case measure => simp [intOf]; omega
    · have HF : Hid (hasB s.data.toList b = false) := hasB_no (fun j hj => HA.out j (by rw [len_list] at hj; omega))
      clear HA
      go_wp2
      go_ret
      exact ⟨ret_bool HF.out.symm, rfl⟩

theorem to_byte (c : UInt8) : ((c.toNat : Int)).toNat.toUInt8 = c := by simp

/-- 'strings.IndexByte(t, c) < 0'. -/
theorem indexByte_any (t : ByteArray) (c : UInt8) (w : World) :
    Calls Tryz.prog 51 #[.string t, .int .u8 (c.toNat : Int)] w fun e w' => (∃ n : Int, e = .returned (.int .i64 n) ∧ decide (n < 0) = !hasB t.data.toList (c.toNat : Int)) ∧ w' = w := by
  refine (Tryz.strings_IndexByte t (c.toNat : Int) w).mono ?_
  rintro e w' ⟨rfl, rfl⟩
  rw [to_byte]
  exact ⟨⟨_, rfl, index_neg _ _⟩, rfl⟩

/-- What a token's bytes are. -/
def otherL : List UInt8 := [33, 35, 36, 37, 38, 39, 42, 43, 94, 124, 96]
def signsL : List UInt8 := [33, 35, 36, 37, 38, 39, 42, 43, 45, 46, 94, 95, 124, 126]
def tokB (b : Int) : Bool := freeB b || hasB otherL b
theorem tokB_spec (b : Int) (h0 : 0 ≤ b) (h1 : b ≤ 255) : tokB b = (letterB b || digitB b || hasB signsL b || b == 96) := by
  obtain ⟨n, rfl⟩ := Int.eq_ofNat_of_zero_le h0
  have all : ∀ n : Nat, n < 256 → tokB (n : Int) = (letterB (n : Int) || digitB (n : Int) || hasB signsL (n : Int) || (n : Int) == 96) := by decide +kernel
  exact all n (by omega)
def tokenB (l : List UInt8) : Bool := decide (1 ≤ l.length ∧ l.length ≤ 60) && l.all (fun c => tokB (c.toNat : Int))

theorem otherS : (⟨#[33, 35, 36, 37, 38, 39, 42, 43, 94, 124, 96]⟩ : ByteArray).data.toList = otherL := rfl

theorem indexOther (c : UInt8) (w : World) :
    Calls Tryz.prog 51 #[.string ⟨#[33, 35, 36, 37, 38, 39, 42, 43, 94, 124, 96]⟩, .int .u8 (c.toNat : Int)] w fun e w' => (∃ n : Int, e = .returned (.int .i64 n) ∧ decide (n < 0) = !hasB otherL (c.toNat : Int)) ∧ w' = w :=
  indexByte_any ⟨#[33, 35, 36, 37, 38, 39, 42, 43, 94, 124, 96]⟩ c w

theorem isBetween_any (a n b : Int) (w : World) :
    Calls Tryz.prog 49 #[.int .i64 a, .int .i64 n, .int .i64 b] w fun e w' => e = .returned (.bool (decide (a ≤ n) && decide (n ≤ b))) ∧ w' = w := by
  by_cases h : a ≤ n
  · rw [decide_eq_true h, Bool.true_and]
    go_enter Tryz.func49, Tryz.ntmps49
    go_wp2
    go_ret
    exact ⟨rfl, rfl⟩
  · rw [decide_eq_false h, Bool.false_and]
    go_enter Tryz.func49, Tryz.ntmps49
    go_wp2
    go_ret
    exact ⟨rfl, rfl⟩
theorem l1In_any (n a b : Int) (w : World) :
    Calls Tryz.prog 29 #[.int .i64 n, .int .i64 a, .int .i64 b] w fun e w' => e = .returned (.bool (decide (a ≤ n) && decide (n ≤ b))) ∧ w' = w := by
  by_cases h : a ≤ n
  · rw [decide_eq_true h, Bool.true_and]
    go_enter Tryz.func29, Tryz.ntmps29
    go_wp2
    go_ret
    exact ⟨rfl, rfl⟩
  · rw [decide_eq_false h, Bool.false_and]
    go_enter Tryz.func29, Tryz.ntmps29
    go_wp2
    go_ret
    exact ⟨rfl, rfl⟩

set_option maxHeartbeats 800000 in
theorem isToken_any (s : ByteArray) (w : World) (hT : Tab w) :
    Calls Tryz.prog 22 #[.string s] w fun e w' => e = .returned (.bool (tokenB s.data.toList)) ∧ w' = w := by
  have hlen := len_list s
  by_cases h : 1 ≤ s.size ∧ s.size ≤ 60
  · have hR : tokenB s.data.toList = s.data.toList.all (fun c => tokB (c.toNat : Int)) := by
      unfold tokenB; rw [decide_eq_true (by omega)]; rfl
    have HR : Hid (tokenB s.data.toList = s.data.toList.all (fun c => tokB (c.toNat : Int))) := hR
    clear hR hlen
    obtain ⟨ha, hb⟩ := h
    have C := isBetween_any 1 s.size 60 w
    rw [decide_eq_true (show (1 : Int) ≤ (s.size : Int) from by omega), decide_eq_true (show (s.size : Int) ≤ 60 from by omega)] at C
    go_enter Tryz.func22, Tryz.ntmps22
    go_wp2_with (go_at_call 49; refine C.mono ?_; rintro e w' ⟨rfl, hw⟩; obtain rfl := hw.symm)
    go_loop [3] (fun i => ∃ k : Nat, k ≤ s.size ∧ i = .int .i64 k ∧ Hid (∀ j, j < k → tokB ((s.data.toList[j]?.getD 0).toNat : Int) = true)) (fun i => s.size - (intOf i).toNat)
    case atStart => exact ⟨0, by omega, rfl, fun j hj => absurd hj (by omega)⟩
    case round =>
      obtain ⟨k, hk, rfl, HA⟩ := hrel
      by_cases hlt : k < s.size
      · have e0 := at_list s k hlt
        cases h1 : freeB (s[k].toNat : Int)
        · cases h2 : hasB otherL (s[k].toNat : Int)
          · have HF : Hid (tokenB s.data.toList = false) := by
              show _ = _
              rw [HR.out]
              exact Fbs.all_no (k := k) (by rw [len_list]; exact hlt) (by rw [e0]; unfold tokB; rw [h1, h2]; rfl)
            clear HA e0 HR
            go_wp2_with (first
              | (go_at_call 50; refine (isFree_any _ _ hT (byte_bd _).1 (byte_bd _).2).mono ?_; rintro e w' ⟨rfl, hw⟩; obtain rfl := hw.symm)
              | (go_at_call 51; refine (indexByte_any _ s[k] _).mono ?_; rintro e w' ⟨⟨n, rfl, hn0⟩, hw⟩; obtain rfl := hw.symm; have hn : decide (n < 0) = !hasB otherL (s[k].toNat : Int) := hn0; clear hn0; rw [h2] at hn))
            go_ret
            exact ⟨ret_bool HF.out.symm, rfl⟩
          · have HA' : Hid (∀ j, j < k + 1 → tokB ((s.data.toList[j]?.getD 0).toNat : Int) = true) := by
              intro j hj
              by_cases hjk : j = k
              · subst hjk; rw [e0]; unfold tokB; rw [h1, h2]; rfl
              · exact HA.out j (by omega)
            clear HA e0
            go_wp2_with (first
              | (go_at_call 50; refine (isFree_any _ _ hT (byte_bd _).1 (byte_bd _).2).mono ?_; rintro e w' ⟨rfl, hw⟩; obtain rfl := hw.symm)
              | (go_at_call 51; refine (indexByte_any _ s[k] _).mono ?_; rintro e w' ⟨⟨n, rfl, hn0⟩, hw⟩; obtain rfl := hw.symm; have hn : decide (n < 0) = !hasB otherL (s[k].toNat : Int) := hn0; clear hn0; rw [h2] at hn))
            go_round
            case rel => exact ⟨k + 1, by omega, by go_num, HA'⟩
            case measure => simp [intOf]; omega
        · have HA' : Hid (∀ j, j < k + 1 → tokB ((s.data.toList[j]?.getD 0).toNat : Int) = true) := by
            intro j hj
            by_cases hjk : j = k
            · subst hjk; rw [e0]; unfold tokB; rw [h1]; rfl
            · exact HA.out j (by omega)
          clear HA e0
          go_wp2_with (go_at_call 50; refine (isFree_any _ _ hT (byte_bd _).1 (byte_bd _).2).mono ?_; rintro e w' ⟨rfl, hw⟩; obtain rfl := hw.symm)
          go_round
          case rel => exact ⟨k + 1, by omega, by go_num, HA'⟩
          case measure => simp [intOf]; omega
      · have HF : Hid (tokenB s.data.toList = true) := by
          show _ = _
          rw [HR.out]
          exact Fbs.all_yes (fun j hj => HA.out j (by rw [len_list] at hj; omega))
        clear HA HR
        go_wp2
        go_ret
        exact ⟨ret_bool HF.out.symm, rfl⟩
  · have HF : Hid (tokenB s.data.toList = false) := by
      show _ = _
      unfold tokenB; rw [decide_eq_false (by omega)]; rfl
    clear hlen
    rcases (show s.size < 1 ∨ (1 ≤ s.size ∧ 60 < s.size) from by omega) with h2 | ⟨h1, h2⟩
    · have C := isBetween_any 1 s.size 60 w
      rw [decide_eq_false (show ¬ (1 : Int) ≤ (s.size : Int) from by omega)] at C
      clear h
      go_enter Tryz.func22, Tryz.ntmps22
      go_wp2_with (go_at_call 49; refine C.mono ?_; rintro e w' ⟨rfl, hw⟩; obtain rfl := hw.symm)
      go_ret
      exact ⟨ret_bool HF.out.symm, rfl⟩
    · have C := isBetween_any 1 s.size 60 w
      rw [decide_eq_true (show (1 : Int) ≤ (s.size : Int) from by omega), decide_eq_false (show ¬ (s.size : Int) ≤ 60 from by omega)] at C
      clear h
      go_enter Tryz.func22, Tryz.ntmps22
      go_wp2_with (go_at_call 49; refine C.mono ?_; rintro e w' ⟨rfl, hw⟩; obtain rfl := hw.symm)
      go_ret
      exact ⟨ret_bool HF.out.symm, rfl⟩

theorem hasSigns (b : Int) (w : World) :
    Calls Tryz.prog 84 #[.string ⟨#[33, 35, 36, 37, 38, 39, 42, 43, 45, 46, 94, 95, 124, 126]⟩, .int .u8 b] w fun e w' => e = .returned (.bool (hasB signsL b)) ∧ w' = w :=
  l1Has_any ⟨#[33, 35, 36, 37, 38, 39, 42, 43, 45, 46, 94, 95, 124, 126]⟩ b w (by decide)

theorem l3TokenByte_any (b : Int) (w : World) (h0 : 0 ≤ b) (h1 : b ≤ 255) :
    Calls Tryz.prog 57 #[.int .u8 b] w fun e w' => e = .returned (.bool (tokB b)) ∧ w' = w := by
  rw [tokB_spec b h0 h1]
  have L := l1Letter_any b w
  have D := l1Digit_any b w
  have S := hasSigns b w
  cases hl : letterB b
  · rw [hl] at L
    cases hd : digitB b
    · rw [hd] at D
      cases hs : hasB signsL b
      · rw [hs] at S
        go_enter Tryz.func57, Tryz.ntmps57
        go_wp2_with (first
          | (go_at_call 82; refine L.mono ?_; rintro e w' ⟨rfl, hw⟩; obtain rfl := hw.symm)
          | (go_at_call 83; refine D.mono ?_; rintro e w' ⟨rfl, hw⟩; obtain rfl := hw.symm)
          | (go_at_call 84; refine S.mono ?_; rintro e w' ⟨rfl, hw⟩; obtain rfl := hw.symm))
        go_ret
        exact ⟨rfl, rfl⟩
      · rw [hs] at S
        go_enter Tryz.func57, Tryz.ntmps57
        go_wp2_with (first
          | (go_at_call 82; refine L.mono ?_; rintro e w' ⟨rfl, hw⟩; obtain rfl := hw.symm)
          | (go_at_call 83; refine D.mono ?_; rintro e w' ⟨rfl, hw⟩; obtain rfl := hw.symm)
          | (go_at_call 84; refine S.mono ?_; rintro e w' ⟨rfl, hw⟩; obtain rfl := hw.symm))
        go_ret
        exact ⟨rfl, rfl⟩
    · rw [hd] at D
      go_enter Tryz.func57, Tryz.ntmps57
      go_wp2_with (first
        | (go_at_call 82; refine L.mono ?_; rintro e w' ⟨rfl, hw⟩; obtain rfl := hw.symm)
        | (go_at_call 83; refine D.mono ?_; rintro e w' ⟨rfl, hw⟩; obtain rfl := hw.symm))
      go_ret
      exact ⟨rfl, rfl⟩
  · rw [hl] at L
    go_enter Tryz.func57, Tryz.ntmps57
    go_wp2_with (go_at_call 82; refine L.mono ?_; rintro e w' ⟨rfl, hw⟩; obtain rfl := hw.symm)
    go_ret
    exact ⟨rfl, rfl⟩

set_option maxHeartbeats 800000 in
theorem l3Token_any (s : ByteArray) (w : World) (hs : s.size ≤ 2000000) :
    Calls Tryz.prog 26 #[.string s] w fun e w' => e = .returned (.bool (tokenB s.data.toList)) ∧ w' = w := by
  have hlen := len_list s
  have HN : Hid (∀ k, k < s.size → tokB ((s.data.toList[k]?.getD 0).toNat : Int) = false → tokenB s.data.toList = false) := by
    intro k hk hb
    unfold tokenB
    rw [Fbs.all_no (k := k) (by omega) hb, Bool.and_false]
  have HY : Hid ((∀ j, j < s.size → tokB ((s.data.toList[j]?.getD 0).toNat : Int) = true) → tokenB s.data.toList = decide (1 ≤ s.size ∧ s.size ≤ 60)) := by
    intro h
    unfold tokenB
    rw [Fbs.all_yes (fun j hj => h j (by omega)), Bool.and_true, hlen]
  clear hlen
  go_enter Tryz.func26, Tryz.ntmps26
  go_wp2_with fail
  go_loop [3] (fun i => ∃ k : Nat, k ≤ s.size ∧ i = .int .i64 k ∧ Hid (∀ j, j < k → tokB ((s.data.toList[j]?.getD 0).toNat : Int) = true)) (fun i => s.size - (intOf i).toNat)
  case atStart => exact ⟨0, by omega, rfl, fun j hj => absurd hj (by omega)⟩
  case round =>
    obtain ⟨k, hk, rfl, HA⟩ := hrel
    by_cases hlt : k < s.size
    · have e0 := at_list s k hlt
      have B := l3TokenByte_any (s[k].toNat : Int) w (byte_bd _).1 (byte_bd _).2
      cases h1 : tokB (s[k].toNat : Int)
      · have HF : Hid (tokenB s.data.toList = false) := HN.out k hlt (by rw [e0]; exact h1)
        rw [h1] at B
        clear HA e0 HN HY
        go_wp2_with (go_at_call 57; refine B.mono ?_; rintro e w' ⟨rfl, hw⟩; obtain rfl := hw.symm)
        go_ret
        exact ⟨ret_bool HF.out.symm, rfl⟩
      · have HA' : Hid (∀ j, j < k + 1 → tokB ((s.data.toList[j]?.getD 0).toNat : Int) = true) := by
          intro j hj
          by_cases hjk : j = k
          · subst hjk; rw [e0]; exact h1
          · exact HA.out j (by omega)
        rw [h1] at B
        clear HA e0
        go_wp2_with (go_at_call 57; refine B.mono ?_; rintro e w' ⟨rfl, hw⟩; obtain rfl := hw.symm)
        go_round
        case rel => exact ⟨k + 1, by omega, by go_num, HA'⟩
        case measure => simp [intOf]; omega
    · have hR := HY.out (fun j hj => HA.out j (by omega))
      have HR : Hid (tokenB s.data.toList = decide (1 ≤ s.size ∧ s.size ≤ 60)) := hR
      clear HA HN HY hR
      have C := l1In_any s.size 1 60 w
      have HR2 : Hid ((decide ((1 : Int) ≤ (s.size : Int)) && decide ((s.size : Int) ≤ 60)) = tokenB s.data.toList) := by
        show _ = _
        rw [HR.out, Bool.eq_iff_iff]
        simp only [Bool.and_eq_true, decide_eq_true_eq]
        omega
      rw [HR2.out] at C
      clear HR HR2
      go_wp2_with (go_at_call 29; refine C.mono ?_; rintro e w' ⟨rfl, hw⟩; obtain rfl := hw.symm)
      go_ret
      exact ⟨rfl, rfl⟩

end Go.Proofs.YtgidmoncocbfiaaGreatDoor.Fch

namespace Go.Proofs.YtgidmoncocbfiaaGreatDoor.Cds
open Go.RowKit
open Go.Proofs.YtgidmoncocbfiaaGreatDoor.Fbs (ret_bool)
open Go.Proofs.YtgidmoncocbfiaaGreatDoor.Tga

/-- A state's value. -/
abbrev stV (th tg k : Bool) (T : ByteArray) (dt : Bool) (md : Int) : Value := .agg #[.bool th, .bool tg, .bool k, .string T, .bool dt, .int .i64 md]
def noTag (k : Bool) (T : ByteArray) : Bool := !k && (T.toList == [])
def inB (md : Int) : Bool := decide (0 ≤ md) && decide (md ≤ 253402300799)
/-- A good state. -/
def stB (th tg k : Bool) (T : ByteArray) (dt : Bool) (md : Int) : Bool :=
  if th then (tagB T && (tg || noTag k T)) && (inB md && (dt || (md == 0))) else !tg && (noTag k T && (!dt && (md == 0)))

set_option maxRecDepth 20000 in
set_option maxHeartbeats 1600000 in
theorem isState_any (th tg k : Bool) (T : ByteArray) (dt : Bool) (md : Int) (w : World) (hT : T.size ≤ 2000000) :
    Calls Tryz.prog 53 #[stV th tg k T dt md] w fun e w' => e = .returned (.bool (stB th tg k T dt md)) ∧ Below w.heap.size w w' := by
  have HG : Hid _ := fun wx => Tgi.isTag_any k T wx hT
  have HI : Hid _ := fun wx => Fch.isBetween_any 0 md 253402300799 wx
  have HB : Hid (Below w.heap.size w (w.alloc (.cells #[.bool th, .bool tg, .bool k, .string T, .bool dt, .int .i64 md] 27))) := (Below.refl _ _).alloc (Nat.le_refl _) _
  cases th
  · clear HG HI
    go_enter Tryz.func53, Tryz.ntmps53
    go_wp2_with fail
    all_goals
      go_ret
      refine ⟨ret_bool ?_, (Below.refl _ _).alloc (Nat.le_refl _) _⟩
      simp_all [stB, noTag]
  · generalize hG : tagB T = G at HG
    generalize hI : (decide ((0 : Int) ≤ md) && decide (md ≤ 253402300799)) = I at HI
    have HR : Hid (stB true tg k T dt md = ((G && (tg || noTag k T)) && (I && (dt || (md == 0))))) := by
      show _ = _
      unfold stB inB
      rw [hG, hI]; rfl
    generalize stB true tg k T dt md = R at HR ⊢
    have HZ : T.toList = [] → G = true := by
      intro e
      have : T = ⟨#[]⟩ := by
        apply ByteArray.ext; apply Array.ext'
        rw [← ByteArray.toList_eq, e]
      subst this
      rw [← hG]
      decide
    have HZI : md = 0 → I = true := by
      intro e
      subst e
      rw [← hI]
      decide
    have HZ2 : Hid (T.toList = [] → G = true) := HZ
    have HI2 : Hid (md = 0 → I = true) := HZI
    clear hG hI HB HZ HZI
    cases tg
    · -- no tag
      clear HG
      cases k
      all_goals cases dt
      all_goals
        go_enter Tryz.func53, Tryz.ntmps53
        go_wp2_with (go_at_call 49; refine Calls.mono (HI.out _) ?_; rintro e w' ⟨rfl, hw⟩; obtain rfl := hw.symm)
        all_goals
          go_ret
          refine ⟨ret_bool ?_, (Below.refl _ _).alloc (Nat.le_refl _) _⟩
          have h1 := HR.out
          have h2 := HZ2.out
          have h3 := HI2.out
          simp_all [noTag]
    · obtain ⟨W, hW⟩ : ∃ W, W = w.alloc (.cells #[.bool true, .bool true, .bool k, .string T, .bool dt, .int .i64 md] 27) := ⟨_, rfl⟩
      have hn : w.heap.size < W.heap.size := by rw [hW]; simp
      have x2 : W.cell? ⟨w.heap.size, 2, none⟩ = some (.bool k) := by rw [hW]; simp [go_sem]
      have x3 : W.cell? ⟨w.heap.size, 3, none⟩ = some (.string T) := by rw [hW]; simp [go_sem]
      have x4 : W.cell? ⟨w.heap.size, 4, none⟩ = some (.bool dt) := by rw [hW]; simp [go_sem]
      have x5 : W.cell? ⟨w.heap.size, 5, none⟩ = some (.int .i64 md) := by rw [hW]; simp [go_sem]
      have HB : Hid (Below w.heap.size w W) := by show Below _ _ _; rw [hW]; exact (Below.refl _ _).alloc (Nat.le_refl _) _
      go_enter Tryz.func53, Tryz.ntmps53
      go_wp2_with fail
      rw [← hW]
      clear hW
      refine Calls.mono (HG.out _) ?_
      rintro e w2 ⟨rfl, hb2⟩
      have y2 := (hb2.cell (p := ⟨w.heap.size, 2, none⟩) hn).trans x2
      have y3 := (hb2.cell (p := ⟨w.heap.size, 3, none⟩) hn).trans x3
      have y4 := (hb2.cell (p := ⟨w.heap.size, 4, none⟩) hn).trans x4
      have y5 := (hb2.cell (p := ⟨w.heap.size, 5, none⟩) hn).trans x5
      have HB2 : Hid (Below w.heap.size w w2) := HB.out.trans (hb2.mono HB.out.size)
      clear x2 x3 x4 x5 hb2 hn HB HG
      cases G
      all_goals cases dt
      all_goals
        go_wp2_with (go_at_call 49; refine Calls.mono (HI.out _) ?_; rintro e w' ⟨rfl, hw⟩; obtain rfl := hw.symm)
        all_goals
          go_ret
          refine ⟨ret_bool ?_, HB2.out⟩
          have h1 := HR.out
          have h2 := HZ2.out
          have h3 := HI2.out
          simp_all [noTag]

set_option maxRecDepth 20000 in
set_option maxHeartbeats 1600000 in
theorem l7State_any (th tg k : Bool) (T : ByteArray) (dt : Bool) (md : Int) (w : World) (hT : T.size ≤ 2000000) :
    Calls Tryz.prog 28 #[stV th tg k T dt md] w fun e w' => e = .returned (.bool (stB th tg k T dt md)) ∧ Below w.heap.size w w' := by
  have HG : Hid _ := fun wx => l7Tag_any k T wx hT
  have HI : Hid _ := fun wx => Fch.l1In_any md 0 253402300799 wx
  cases th
  · clear HG HI
    go_enter Tryz.func28, Tryz.ntmps28
    go_wp2_with fail
    all_goals
      go_ret
      refine ⟨ret_bool ?_, (Below.refl _ _).alloc (Nat.le_refl _) _⟩
      simp_all [stB, noTag]
  · generalize hG : tagB T = G at HG
    generalize hI : (decide ((0 : Int) ≤ md) && decide (md ≤ 253402300799)) = I at HI
    have HR : Hid (stB true tg k T dt md = ((G && (tg || noTag k T)) && (I && (dt || (md == 0))))) := by
      show _ = _
      unfold stB inB
      rw [hG, hI]; rfl
    generalize stB true tg k T dt md = R at HR ⊢
    clear hG hI
    obtain ⟨W, hW⟩ : ∃ W, W = w.alloc (.cells #[.bool true, .bool tg, .bool k, .string T, .bool dt, .int .i64 md] 27) := ⟨_, rfl⟩
    have hn : w.heap.size < W.heap.size := by rw [hW]; simp
    have x1 : W.cell? ⟨w.heap.size, 1, none⟩ = some (.bool tg) := by rw [hW]; simp [go_sem]
    have x2 : W.cell? ⟨w.heap.size, 2, none⟩ = some (.bool k) := by rw [hW]; simp [go_sem]
    have x3 : W.cell? ⟨w.heap.size, 3, none⟩ = some (.string T) := by rw [hW]; simp [go_sem]
    have x4 : W.cell? ⟨w.heap.size, 4, none⟩ = some (.bool dt) := by rw [hW]; simp [go_sem]
    have x5 : W.cell? ⟨w.heap.size, 5, none⟩ = some (.int .i64 md) := by rw [hW]; simp [go_sem]
    have HB : Hid (Below w.heap.size w W) := by show Below _ _ _; rw [hW]; exact (Below.refl _ _).alloc (Nat.le_refl _) _
    go_enter Tryz.func28, Tryz.ntmps28
    go_wp2_with fail
    rw [← hW]
    clear hW
    refine Calls.mono (HG.out _) ?_
    rintro e w2 ⟨rfl, hb2⟩
    have y1 := (hb2.cell (p := ⟨w.heap.size, 1, none⟩) hn).trans x1
    have y2 := (hb2.cell (p := ⟨w.heap.size, 2, none⟩) hn).trans x2
    have y3 := (hb2.cell (p := ⟨w.heap.size, 3, none⟩) hn).trans x3
    have y4 := (hb2.cell (p := ⟨w.heap.size, 4, none⟩) hn).trans x4
    have y5 := (hb2.cell (p := ⟨w.heap.size, 5, none⟩) hn).trans x5
    have HB2 : Hid (Below w.heap.size w w2) := HB.out.trans (hb2.mono HB.out.size)
    clear x1 x2 x3 x4 x5 hb2 hn HB HG
    cases G
    all_goals cases tg
    all_goals cases k
    all_goals
      go_wp2_with (go_at_call 29; refine Calls.mono (HI.out _) ?_; rintro e w' ⟨rfl, hw⟩; obtain rfl := hw.symm)
      all_goals
        go_ret
        refine ⟨ret_bool ?_, HB2.out⟩
        have h1 := HR.out
        simp_all [noTag]

end Go.Proofs.YtgidmoncocbfiaaGreatDoor.Cds

namespace Go.Proofs.YtgidmoncocbfiaaGreatDoor.Cds
open Go.RowKit
open Go.Proofs.YtgidmoncocbfiaaGreatDoor.Fbs (ret_bool)
open Go.Proofs.YtgidmoncocbfiaaGreatDoor.Tga Go.Proofs.YtgidmoncocbfiaaGreatDoor.Tgb

/-- Whether a tag that is asked for is the state's. -/
def isIt (tg K : Bool) (T : ByteArray) (strong : Bool) (c : Bool × ByteArray) : Bool := tg && ((c.2.toList == T.toList) && (!strong || (!c.1 && !K)))
def matchB (l : List (Bool × ByteArray)) (any th tg K : Bool) (T : ByteArray) (strong : Bool) : Bool := if any then th else l.any (isIt tg K T strong)
theorem any_no {l : List (Bool × ByteArray)} {p : Bool × ByteArray → Bool} (h : ∀ j, (hj : j < l.length) → p l[j] = false) : l.any p = false := by
  rw [List.any_eq_false]
  intro x hx
  obtain ⟨j, hj, rfl⟩ := List.getElem_of_mem hx
  simp [h j hj]
theorem any_yes {l : List (Bool × ByteArray)} {p : Bool × ByteArray → Bool} {j : Nat} (hj : j < l.length) (h : p l[j] = true) : l.any p = true := by
  rw [List.any_eq_true]
  exact ⟨l[j], List.getElem_mem hj, h⟩

set_option maxRecDepth 20000 in
set_option maxHeartbeats 1600000 in
theorem l7Matches_any (a : Option Addr) (ca : Nat) (l : List (Bool × ByteArray)) (any th tg K : Bool) (T : ByteArray) (dt : Bool) (md : Int) (strong : Bool) (w : World) (lo hi : Nat) (hl : l.length ≤ 1000) (ha : GV w a l lo hi) :
    Calls Tryz.prog 36 #[.slice a l.length ca, .bool any, stV th tg K T dt md, .bool strong] w fun e w' => e = .returned (.bool (matchB l any th tg K T strong)) ∧ Below w.heap.size w w' := by
  have HB0 : Hid (Below w.heap.size w (w.alloc (.cells #[.bool th, .bool tg, .bool K, .string T, .bool dt, .int .i64 md] 27))) := (Below.refl _ _).alloc (Nat.le_refl _) _
  cases any
  rotate_left
  · go_enter Tryz.func36, Tryz.ntmps36
    go_wp2_with fail
    go_ret
    exact ⟨rfl, HB0.out⟩
  obtain ⟨W, hW⟩ : ∃ W, W = w.alloc (.cells #[.bool th, .bool tg, .bool K, .string T, .bool dt, .int .i64 md] 27) := ⟨_, rfl⟩
  have hn : w.heap.size < W.heap.size := by rw [hW]; simp
  have x1 : W.cell? ⟨w.heap.size, 1, none⟩ = some (.bool tg) := by rw [hW]; simp [go_sem]
  have x2 : W.cell? ⟨w.heap.size, 2, none⟩ = some (.bool K) := by rw [hW]; simp [go_sem]
  have x3 : W.cell? ⟨w.heap.size, 3, none⟩ = some (.string T) := by rw [hW]; simp [go_sem]
  rw [← hW] at HB0
  have HA : Hid (GV W a l lo hi) := by show GV _ _ _ _ _; rw [hW]; exact ha.below ((Below.refl _ _).alloc (Nat.le_refl _) _)
  clear ha
  go_enter Tryz.func36, Tryz.ntmps36
  go_wp2_with fail
  rw [← hW]
  clear hW
  go_loopw [16] (fun cv wr => ∃ i : Nat, i ≤ l.length ∧ cv = .int .i64 i ∧ Hid (∀ j, (hj : j < l.length) → j < i → isIt tg K T strong l[j] = false) ∧ Hid (Below W.heap.size W wr)) (fun cv _ => l.length - (intOf cv).toNat)
  case atStart => exact ⟨0, by omega, rfl, fun j _ h => absurd h (by omega), Below.refl _ _⟩
  case round =>
    obtain ⟨i, hi, rfl, HN, HW⟩ := hrel
    have HZ : Hid (Below w.heap.size w wr) := HB0.out.trans (HW.out.mono HB0.out.size)
    have y1 := (HW.out.cell (p := ⟨w.heap.size, 1, none⟩) hn).trans x1
    have y2 := (HW.out.cell (p := ⟨w.heap.size, 2, none⟩) hn).trans x2
    have y3 := (HW.out.cell (p := ⟨w.heap.size, 3, none⟩) hn).trans x3
    clear x1 x2 x3
    by_cases hlt : i < l.length
    · obtain ⟨g, rfl, hr⟩ : ∃ g, a = some ⟨g, 0, none⟩ ∧ RowG W g l := by
        rcases HA.out with h | ⟨g, h1, _, _, h4⟩
        · rw [h] at hlt; simp at hlt
        · exact ⟨g, h1, h4⟩
      obtain ⟨c0, c1⟩ := (hr.below HW.out).2.2 i l[i] (List.getElem?_eq_getElem hlt)
      have hn2 : w.heap.size < wr.heap.size := Nat.lt_of_lt_of_le hn HW.out.size
      have HNx : Hid (isIt tg K T strong l[i] = false → ∀ j, (hj : j < l.length) → j < i + 1 → isIt tg K T strong l[j] = false) := by
        intro h j hj hji
        by_cases e : j = i
        · subst e; exact h
        · exact HN.out j hj (by omega)
      have HYx : Hid (isIt tg K T strong l[i] = true → matchB l false th tg K T strong = true) := fun h => any_yes hlt h
      obtain ⟨X, hX⟩ : ∃ X, X = l[i].1 := ⟨_, rfl⟩
      obtain ⟨z, hz⟩ : ∃ z, z = l[i].2 := ⟨_, rfl⟩
      rw [← hX] at c0
      rw [← hz] at c1
      have hM : isIt tg K T strong l[i] = (tg && ((z.toList == T.toList) && (!strong || (!X && !K)))) := by rw [hX, hz]; rfl
      rw [hM] at HNx HYx
      have HW2 : Hid (Below W.heap.size W (wr.alloc (.cells #[.bool X, .string z] 25))) := HW.out.alloc HW.out.size _
      have HZ2 : Hid (Below w.heap.size w (wr.alloc (.cells #[.bool X, .string z] 25))) := HZ.out.alloc HZ.out.size _
      clear hM hX hz HN HW HZ hr HA
      cases tg
      · have HNy : Hid _ := HNx.out rfl
        clear HNx HYx
        go_wp2_with fail
        refine ⟨⟨i + 1, by omega, by go_num, HNy, HW2⟩, ?_⟩
        simp [intOf]; omega
      cases he : (z.toList == T.toList)
      · rw [he] at HNx
        have HNy : Hid _ := HNx.out rfl
        clear HNx HYx
        go_wp2_with fail
        refine ⟨⟨i + 1, by omega, by go_num, HNy, HW2⟩, ?_⟩
        simp [intOf]; omega
      rw [he] at HNx HYx
      cases strong
      · have HYy : Hid _ := HYx.out rfl
        clear HNx HYx
        go_wp2_with fail
        go_ret
        exact ⟨ret_bool HYy.out.symm, HZ2.out⟩
      cases X
      rotate_left
      · have HNy : Hid _ := HNx.out rfl
        clear HNx HYx
        go_wp2_with fail
        refine ⟨⟨i + 1, by omega, by go_num, HNy, HW2⟩, ?_⟩
        simp [intOf]; omega
      cases K
      · have HYy : Hid _ := HYx.out rfl
        clear HNx HYx
        go_wp2_with fail
        go_ret
        exact ⟨ret_bool HYy.out.symm, HZ2.out⟩
      · have HNy : Hid _ := HNx.out rfl
        clear HNx HYx
        go_wp2_with fail
        refine ⟨⟨i + 1, by omega, by go_num, HNy, HW2⟩, ?_⟩
        simp [intOf]; omega
    · obtain rfl : i = l.length := by omega
      have HR : Hid (matchB l false th tg K T strong = false) := any_no (fun j hj => HN.out j hj hj)
      clear HN HA
      go_wp2_with fail
      go_ret
      exact ⟨ret_bool HR.out.symm, HZ.out⟩

end Go.Proofs.YtgidmoncocbfiaaGreatDoor.Cds

