/-
  Walks: the bytes of a token: impl.isKind, impl.isToken; spec.l1Letter, l1Digit, l1Has, l3TokenByte, l3Token.
-/
import Derived.Test.YtfgcgnhffljiaaaGreatDoorFbs
import Derived.Test.YtfgcgnhffljiaaaGreatDoorChb
import Derived.Test.YtfgcgnhffljiaaaGreatDoorShelf
import Derived.Below
namespace Go.Proofs.YtfgcgnhffljiaaaGreatDoor.Fch
open Go.RowKit
open Go.Proofs.YtfgcgnhffljiaaaGreatDoor.Byt
open Go.Proofs.YtfgcgnhffljiaaaGreatDoor.Fbs

/-- The table's cells hold its numbers. -/
def Tab (w : World) : Prop := ∀ i, i < 128 → w.cell? ⟨0, i, none⟩ = some (.int .u8 (kd i))

theorem Tab.below {B : Nat} {w w' : World} (h : Tab w) (hb : Below B w w') (hB : 0 < B) : Tab w' :=
  fun i hi => (hb.cell (p := ⟨0, i, none⟩) hB).trans (h i hi)

theorem Tab.lt {w : World} (h : Tab w) : 0 < w.heap.size := World.block_lt_of_cell? w _ (h 0 (by omega))
theorem Tab.alloc {w : World} (h : Tab w) (o : Obj) : Tab (w.alloc o) := h.below ((Below.refl w.heap.size w).alloc (Nat.le_refl _) o) h.lt

def isK (b k : Int) : Bool := decide (b < 128) && (bits BinOp.and .u8 (kd b.toNat) k != 0)

theorem isKind_any (b k : Int) (w : World) (hT : Tab w) (h0 : 0 ≤ b) (h1 : b ≤ 255) :
    Calls Tryz.prog 86 #[.int .u8 b, .int .u8 k] w fun e w' => e = .returned (.bool (isK b k)) ∧ w' = w := by
  obtain ⟨n, rfl⟩ := Int.eq_ofNat_of_zero_le h0
  by_cases h : (n : Int) < 128
  · have hc := hT n (by omega)
    go_enter Tryz.func86, Tryz.ntmps86
    go_wp2
    go_ret
    exact ⟨by simp [isK, h], rfl⟩
  · go_enter Tryz.func86, Tryz.ntmps86
    go_wp2
    go_ret
    exact ⟨by simp [isK]; intro h'; omega, rfl⟩

theorem isK_free (b : Int) (h0 : 0 ≤ b) (h1 : b ≤ 255) : isK b 2 = freeB b := by
  obtain ⟨n, rfl⟩ := Int.eq_ofNat_of_zero_le h0
  have all : ∀ n : Nat, n < 256 → isK (n : Int) 2 = freeB (n : Int) := by decide +kernel
  exact all n (by omega)

theorem isFree_any (b : Int) (w : World) (hT : Tab w) (h0 : 0 ≤ b) (h1 : b ≤ 255) :
    Calls Tryz.prog 86 #[.int .u8 b, .int .u8 2] w fun e w' => e = .returned (.bool (freeB b)) ∧ w' = w := by
  rw [← isK_free b h0 h1]
  exact isKind_any b 2 w hT h0 h1

theorem l1Letter_any (b : Int) (w : World) :
    Calls Tryz.prog 137 #[.int .u8 b] w fun e w' => e = .returned (.bool (letterB b)) ∧ w' = w := by
  rcases (show (97 ≤ b ∧ b ≤ 122) ∨ (65 ≤ b ∧ b ≤ 90) ∨ b < 65 ∨ (90 < b ∧ b < 97) ∨ 122 < b from by omega) with h | h | h | h | h
  · have HF : Hid (letterB b = true) := by show _ = _; simp [letterB]; omega
    obtain ⟨h1, h2⟩ := h
    go_enter Tryz.func137, Tryz.ntmps137
    go_wp2
    go_ret
    exact ⟨ret_bool HF.out.symm, rfl⟩
  · have HF : Hid (letterB b = true) := by show _ = _; simp [letterB]; omega
    obtain ⟨h1, h2⟩ := h
    go_enter Tryz.func137, Tryz.ntmps137
    go_wp2
    go_ret
    exact ⟨ret_bool HF.out.symm, rfl⟩
  · have HF : Hid (letterB b = false) := by show _ = _; simp [letterB]; omega
    go_enter Tryz.func137, Tryz.ntmps137
    go_wp2
    go_ret
    exact ⟨ret_bool HF.out.symm, rfl⟩
  · have HF : Hid (letterB b = false) := by show _ = _; simp [letterB]; omega
    obtain ⟨h1, h2⟩ := h
    have h3 : decide (b ≤ 90) = false := by simp; omega
    go_enter Tryz.func137, Tryz.ntmps137
    go_wp2
    go_ret
    exact ⟨ret_bool (by rw [HF.out]; first | done | (simp; done) | (simp; omega)), rfl⟩
  · have HF : Hid (letterB b = false) := by show _ = _; simp [letterB]; omega
    go_enter Tryz.func137, Tryz.ntmps137
    go_wp2
    go_ret
    exact ⟨ret_bool (by rw [HF.out]; first | done | (simp; done) | (simp; omega)), rfl⟩

theorem l1Digit_any (b : Int) (w : World) :
    Calls Tryz.prog 138 #[.int .u8 b] w fun e w' => e = .returned (.bool (digitB b)) ∧ w' = w := by
  by_cases h : 48 ≤ b
  · have HF : Hid (digitB b = decide (b ≤ 57)) := by show _ = _; simp [digitB, h]
    go_enter Tryz.func138, Tryz.ntmps138
    go_wp2
    go_ret
    exact ⟨ret_bool HF.out.symm, rfl⟩
  · have HF : Hid (digitB b = false) := by show _ = _; simp [digitB]; omega
    go_enter Tryz.func138, Tryz.ntmps138
    go_wp2
    go_ret
    exact ⟨ret_bool HF.out.symm, rfl⟩

set_option maxHeartbeats 400000 in
theorem l1Has_any (s : ByteArray) (b : Int) (w : World) (hs : s.size ≤ 2000000) :
    Calls Tryz.prog 139 #[.string s, .int .u8 b] w fun e w' => e = .returned (.bool (hasB s.data.toList b)) ∧ w' = w := by
  go_enter Tryz.func139, Tryz.ntmps139
  go_wp2
  go_loop [5] (fun i => ∃ k : Nat, k ≤ s.size ∧ i = .int .i64 k ∧ Hid (∀ j, j < k → ((s.data.toList[j]?.getD 0).toNat : Int) ≠ b)) (fun i => s.size - (intOf i).toNat)
  case atStart => exact ⟨0, by omega, rfl, fun j hj => absurd hj (by omega)⟩
  case round =>
    obtain ⟨k, hk, rfl, HA⟩ := hrel
    by_cases hlt : k < s.size
    · have e0 := at_list s k hlt
      by_cases hf : (s[k].toNat : Int) = b
      · have HF : Hid (hasB s.data.toList b = true) := hasB_yes (k := k) (by rw [len_list]; exact hlt) (by rw [e0]; exact hf)
        have hf' : ((s[k].toNat : Int) == b) = true := by simpa using hf
        clear HA e0 hf
        go_wp2
        go_ret
        exact ⟨ret_bool HF.out.symm, rfl⟩
      · have HA' : Hid (∀ j, j < k + 1 → ((s.data.toList[j]?.getD 0).toNat : Int) ≠ b) := by
          intro j hj
          by_cases hjk : j = k
          · subst hjk; rw [e0]; exact hf
          · exact HA.out j (by omega)
        have hf' : ((s[k].toNat : Int) == b) = false := by simpa using hf
        clear HA e0 hf
        go_wp2
        go_round
        case rel => exact ⟨k + 1, by omega, by go_num, HA'⟩
        case measure => simp [intOf]; omega
    · have HF : Hid (hasB s.data.toList b = false) := hasB_no (fun j hj => HA.out j (by rw [len_list] at hj; omega))
      clear HA
      go_wp2
      go_ret
      exact ⟨ret_bool HF.out.symm, rfl⟩

theorem to_byte (c : UInt8) : ((c.toNat : Int)).toNat.toUInt8 = c := by simp

/-- 'strings.IndexByte(t, c) < 0'. -/
theorem indexByte_any (t : ByteArray) (c : UInt8) (w : World) :
    Calls Tryz.prog 87 #[.string t, .int .u8 (c.toNat : Int)] w fun e w' => (∃ n : Int, e = .returned (.int .i64 n) ∧ decide (n < 0) = !hasB t.data.toList (c.toNat : Int)) ∧ w' = w := by
  refine (Tryz.strings_IndexByte t (c.toNat : Int) w).mono ?_
  rintro e w' ⟨rfl, rfl⟩
  rw [to_byte]
  exact ⟨⟨_, rfl, index_neg _ _⟩, rfl⟩

/-- What a token's bytes are. -/
def otherL : List UInt8 := [33, 35, 36, 37, 38, 39, 42, 43, 94, 124, 96]
def signsL : List UInt8 := [33, 35, 36, 37, 38, 39, 42, 43, 45, 46, 94, 95, 124, 126]
def tokB (b : Int) : Bool := freeB b || hasB otherL b
theorem tokB_spec (b : Int) (h0 : 0 ≤ b) (h1 : b ≤ 255) : tokB b = (letterB b || digitB b || hasB signsL b || b == 96) := by
  obtain ⟨n, rfl⟩ := Int.eq_ofNat_of_zero_le h0
  have all : ∀ n : Nat, n < 256 → tokB (n : Int) = (letterB (n : Int) || digitB (n : Int) || hasB signsL (n : Int) || (n : Int) == 96) := by decide +kernel
  exact all n (by omega)
def tokenB (l : List UInt8) : Bool := decide (1 ≤ l.length ∧ l.length ≤ 60) && l.all (fun c => tokB (c.toNat : Int))

theorem otherS : (⟨#[33, 35, 36, 37, 38, 39, 42, 43, 94, 124, 96]⟩ : ByteArray).data.toList = otherL := rfl

theorem indexOther (c : UInt8) (w : World) :
    Calls Tryz.prog 87 #[.string ⟨#[33, 35, 36, 37, 38, 39, 42, 43, 94, 124, 96]⟩, .int .u8 (c.toNat : Int)] w fun e w' => (∃ n : Int, e = .returned (.int .i64 n) ∧ decide (n < 0) = !hasB otherL (c.toNat : Int)) ∧ w' = w :=
  indexByte_any ⟨#[33, 35, 36, 37, 38, 39, 42, 43, 94, 124, 96]⟩ c w

theorem isBetween_any (a n b : Int) (w : World) :
    Calls Tryz.prog 85 #[.int .i64 a, .int .i64 n, .int .i64 b] w fun e w' => e = .returned (.bool (decide (a ≤ n) && decide (n ≤ b))) ∧ w' = w := by
  by_cases h : a ≤ n
  · rw [decide_eq_true h, Bool.true_and]
    go_enter Tryz.func85, Tryz.ntmps85
    go_wp2
    go_ret
    exact ⟨rfl, rfl⟩
  · rw [decide_eq_false h, Bool.false_and]
    go_enter Tryz.func85, Tryz.ntmps85
    go_wp2
    go_ret
    exact ⟨rfl, rfl⟩
theorem l1In_any (n a b : Int) (w : World) :
    Calls Tryz.prog 70 #[.int .i64 n, .int .i64 a, .int .i64 b] w fun e w' => e = .returned (.bool (decide (a ≤ n) && decide (n ≤ b))) ∧ w' = w := by
  by_cases h : a ≤ n
  · rw [decide_eq_true h, Bool.true_and]
    go_enter Tryz.func70, Tryz.ntmps70
    go_wp2
    go_ret
    exact ⟨rfl, rfl⟩
  · rw [decide_eq_false h, Bool.false_and]
    go_enter Tryz.func70, Tryz.ntmps70
    go_wp2
    go_ret
    exact ⟨rfl, rfl⟩

set_option maxHeartbeats 800000 in
theorem isToken_any (s : ByteArray) (w : World) (hT : Tab w) :
    Calls Tryz.prog 44 #[.string s] w fun e w' => e = .returned (.bool (tokenB s.data.toList)) ∧ w' = w := by
  have hlen := len_list s
  by_cases h : 1 ≤ s.size ∧ s.size ≤ 60
  · have hR : tokenB s.data.toList = s.data.toList.all (fun c => tokB (c.toNat : Int)) := by
      unfold tokenB; rw [decide_eq_true (by omega)]; rfl
    have HR : Hid (tokenB s.data.toList = s.data.toList.all (fun c => tokB (c.toNat : Int))) := hR
    clear hR hlen
    obtain ⟨ha, hb⟩ := h
    have C := isBetween_any 1 s.size 60 w
    rw [decide_eq_true (show (1 : Int) ≤ (s.size : Int) from by omega), decide_eq_true (show (s.size : Int) ≤ 60 from by omega)] at C
    go_enter Tryz.func44, Tryz.ntmps44
    go_wp2_with (go_at_call 85; refine C.mono ?_; rintro e w' ⟨rfl, hw⟩; obtain rfl := hw.symm)
    go_loop [3] (fun i => ∃ k : Nat, k ≤ s.size ∧ i = .int .i64 k ∧ Hid (∀ j, j < k → tokB ((s.data.toList[j]?.getD 0).toNat : Int) = true)) (fun i => s.size - (intOf i).toNat)
    case atStart => exact ⟨0, by omega, rfl, fun j hj => absurd hj (by omega)⟩
    case round =>
      obtain ⟨k, hk, rfl, HA⟩ := hrel
      by_cases hlt : k < s.size
      · have e0 := at_list s k hlt
        cases h1 : freeB (s[k].toNat : Int)
        · cases h2 : hasB otherL (s[k].toNat : Int)
          · have HF : Hid (tokenB s.data.toList = false) := by
              show _ = _
              rw [HR.out]
              exact Fbs.all_no (k := k) (by rw [len_list]; exact hlt) (by rw [e0]; unfold tokB; rw [h1, h2]; rfl)
            clear HA e0 HR
            go_wp2_with (first
              | (go_at_call 86; refine (isFree_any _ _ hT (byte_bd _).1 (byte_bd _).2).mono ?_; rintro e w' ⟨rfl, hw⟩; obtain rfl := hw.symm)
              | (go_at_call 87; refine (indexByte_any _ s[k] _).mono ?_; rintro e w' ⟨⟨n, rfl, hn0⟩, hw⟩; obtain rfl := hw.symm; have hn : decide (n < 0) = !hasB otherL (s[k].toNat : Int) := hn0; clear hn0; rw [h2] at hn))
            go_ret
            exact ⟨ret_bool HF.out.symm, rfl⟩
          · have HA' : Hid (∀ j, j < k + 1 → tokB ((s.data.toList[j]?.getD 0).toNat : Int) = true) := by
              intro j hj
              by_cases hjk : j = k
              · subst hjk; rw [e0]; unfold tokB; rw [h1, h2]; rfl
              · exact HA.out j (by omega)
            clear HA e0
            go_wp2_with (first
              | (go_at_call 86; refine (isFree_any _ _ hT (byte_bd _).1 (byte_bd _).2).mono ?_; rintro e w' ⟨rfl, hw⟩; obtain rfl := hw.symm)
              | (go_at_call 87; refine (indexByte_any _ s[k] _).mono ?_; rintro e w' ⟨⟨n, rfl, hn0⟩, hw⟩; obtain rfl := hw.symm; have hn : decide (n < 0) = !hasB otherL (s[k].toNat : Int) := hn0; clear hn0; rw [h2] at hn))
            go_round
            case rel => exact ⟨k + 1, by omega, by go_num, HA'⟩
            case measure => simp [intOf]; omega
        · have HA' : Hid (∀ j, j < k + 1 → tokB ((s.data.toList[j]?.getD 0).toNat : Int) = true) := by
            intro j hj
            by_cases hjk : j = k
            · subst hjk; rw [e0]; unfold tokB; rw [h1]; rfl
            · exact HA.out j (by omega)
          clear HA e0
          go_wp2_with (go_at_call 86; refine (isFree_any _ _ hT (byte_bd _).1 (byte_bd _).2).mono ?_; rintro e w' ⟨rfl, hw⟩; obtain rfl := hw.symm)
          go_round
          case rel => exact ⟨k + 1, by omega, by go_num, HA'⟩
          case measure => simp [intOf]; omega
      · have HF : Hid (tokenB s.data.toList = true) := by
          show _ = _
          rw [HR.out]
          exact Fbs.all_yes (fun j hj => HA.out j (by rw [len_list] at hj; omega))
        clear HA HR
        go_wp2
        go_ret
        exact ⟨ret_bool HF.out.symm, rfl⟩
  · have HF : Hid (tokenB s.data.toList = false) := by
      show _ = _
      unfold tokenB; rw [decide_eq_false (by omega)]; rfl
    clear hlen
    rcases (show s.size < 1 ∨ (1 ≤ s.size ∧ 60 < s.size) from by omega) with h2 | ⟨h1, h2⟩
    · have C := isBetween_any 1 s.size 60 w
      rw [decide_eq_false (show ¬ (1 : Int) ≤ (s.size : Int) from by omega)] at C
      clear h
      go_enter Tryz.func44, Tryz.ntmps44
      go_wp2_with (go_at_call 85; refine C.mono ?_; rintro e w' ⟨rfl, hw⟩; obtain rfl := hw.symm)
      go_ret
      exact ⟨ret_bool HF.out.symm, rfl⟩
    · have C := isBetween_any 1 s.size 60 w
      rw [decide_eq_true (show (1 : Int) ≤ (s.size : Int) from by omega), decide_eq_false (show ¬ (s.size : Int) ≤ 60 from by omega)] at C
      clear h
      go_enter Tryz.func44, Tryz.ntmps44
      go_wp2_with (go_at_call 85; refine C.mono ?_; rintro e w' ⟨rfl, hw⟩; obtain rfl := hw.symm)
      go_ret
      exact ⟨ret_bool HF.out.symm, rfl⟩

theorem hasSigns (b : Int) (w : World) :
    Calls Tryz.prog 139 #[.string ⟨#[33, 35, 36, 37, 38, 39, 42, 43, 45, 46, 94, 95, 124, 126]⟩, .int .u8 b] w fun e w' => e = .returned (.bool (hasB signsL b)) ∧ w' = w :=
  l1Has_any ⟨#[33, 35, 36, 37, 38, 39, 42, 43, 45, 46, 94, 95, 124, 126]⟩ b w (by decide)

theorem l3TokenByte_any (b : Int) (w : World) (h0 : 0 ≤ b) (h1 : b ≤ 255) :
    Calls Tryz.prog 108 #[.int .u8 b] w fun e w' => e = .returned (.bool (tokB b)) ∧ w' = w := by
  rw [tokB_spec b h0 h1]
  have L := l1Letter_any b w
  have D := l1Digit_any b w
  have S := hasSigns b w
  cases hl : letterB b
  · rw [hl] at L
    cases hd : digitB b
    · rw [hd] at D
      cases hs : hasB signsL b
      · rw [hs] at S
        go_enter Tryz.func108, Tryz.ntmps108
        go_wp2_with (first
          | (go_at_call 137; refine L.mono ?_; rintro e w' ⟨rfl, hw⟩; obtain rfl := hw.symm)
          | (go_at_call 138; refine D.mono ?_; rintro e w' ⟨rfl, hw⟩; obtain rfl := hw.symm)
          | (go_at_call 139; refine S.mono ?_; rintro e w' ⟨rfl, hw⟩; obtain rfl := hw.symm))
        go_ret
        exact ⟨rfl, rfl⟩
      · rw [hs] at S
        go_enter Tryz.func108, Tryz.ntmps108
        go_wp2_with (first
          | (go_at_call 137; refine L.mono ?_; rintro e w' ⟨rfl, hw⟩; obtain rfl := hw.symm)
          | (go_at_call 138; refine D.mono ?_; rintro e w' ⟨rfl, hw⟩; obtain rfl := hw.symm)
          | (go_at_call 139; refine S.mono ?_; rintro e w' ⟨rfl, hw⟩; obtain rfl := hw.symm))
        go_ret
        exact ⟨rfl, rfl⟩
    · rw [hd] at D
      go_enter Tryz.func108, Tryz.ntmps108
      go_wp2_with (first
        | (go_at_call 137; refine L.mono ?_; rintro e w' ⟨rfl, hw⟩; obtain rfl := hw.symm)
        | (go_at_call 138; refine D.mono ?_; rintro e w' ⟨rfl, hw⟩; obtain rfl := hw.symm))
      go_ret
      exact ⟨rfl, rfl⟩
  · rw [hl] at L
    go_enter Tryz.func108, Tryz.ntmps108
    go_wp2_with (go_at_call 137; refine L.mono ?_; rintro e w' ⟨rfl, hw⟩; obtain rfl := hw.symm)
    go_ret
    exact ⟨rfl, rfl⟩

set_option maxHeartbeats 800000 in
theorem l3Token_any (s : ByteArray) (w : World) (hs : s.size ≤ 2000000) :
    Calls Tryz.prog 78 #[.string s] w fun e w' => e = .returned (.bool (tokenB s.data.toList)) ∧ w' = w := by
  have hlen := len_list s
  have HN : Hid (∀ k, k < s.size → tokB ((s.data.toList[k]?.getD 0).toNat : Int) = false → tokenB s.data.toList = false) := by
    intro k hk hb
    unfold tokenB
    rw [Fbs.all_no (k := k) (by omega) hb, Bool.and_false]
  have HY : Hid ((∀ j, j < s.size → tokB ((s.data.toList[j]?.getD 0).toNat : Int) = true) → tokenB s.data.toList = decide (1 ≤ s.size ∧ s.size ≤ 60)) := by
    intro h
    unfold tokenB
    rw [Fbs.all_yes (fun j hj => h j (by omega)), Bool.and_true, hlen]
  clear hlen
  go_enter Tryz.func78, Tryz.ntmps78
  go_wp2_with fail
  go_loop [3] (fun i => ∃ k : Nat, k ≤ s.size ∧ i = .int .i64 k ∧ Hid (∀ j, j < k → tokB ((s.data.toList[j]?.getD 0).toNat : Int) = true)) (fun i => s.size - (intOf i).toNat)
  case atStart => exact ⟨0, by omega, rfl, fun j hj => absurd hj (by omega)⟩
  case round =>
    obtain ⟨k, hk, rfl, HA⟩ := hrel
    by_cases hlt : k < s.size
    · have e0 := at_list s k hlt
      have B := l3TokenByte_any (s[k].toNat : Int) w (byte_bd _).1 (byte_bd _).2
      cases h1 : tokB (s[k].toNat : Int)
      · have HF : Hid (tokenB s.data.toList = false) := HN.out k hlt (by rw [e0]; exact h1)
        rw [h1] at B
        clear HA e0 HN HY
        go_wp2_with (go_at_call 108; refine B.mono ?_; rintro e w' ⟨rfl, hw⟩; obtain rfl := hw.symm)
        go_ret
        exact ⟨ret_bool HF.out.symm, rfl⟩
      · have HA' : Hid (∀ j, j < k + 1 → tokB ((s.data.toList[j]?.getD 0).toNat : Int) = true) := by
          intro j hj
          by_cases hjk : j = k
          · subst hjk; rw [e0]; exact h1
          · exact HA.out j (by omega)
        rw [h1] at B
        clear HA e0
        go_wp2_with (go_at_call 108; refine B.mono ?_; rintro e w' ⟨rfl, hw⟩; obtain rfl := hw.symm)
        go_round
        case rel => exact ⟨k + 1, by omega, by go_num, HA'⟩
        case measure => simp [intOf]; omega
    · have hR := HY.out (fun j hj => HA.out j (by omega))
      have HR : Hid (tokenB s.data.toList = decide (1 ≤ s.size ∧ s.size ≤ 60)) := hR
      clear HA HN HY hR
      have C := l1In_any s.size 1 60 w
      have HR2 : Hid ((decide ((1 : Int) ≤ (s.size : Int)) && decide ((s.size : Int) ≤ 60)) = tokenB s.data.toList) := by
        show _ = _
        rw [HR.out, Bool.eq_iff_iff]
        simp only [Bool.and_eq_true, decide_eq_true_eq]
        omega
      rw [HR2.out] at C
      clear HR HR2
      go_wp2_with (go_at_call 70; refine C.mono ?_; rintro e w' ⟨rfl, hw⟩; obtain rfl := hw.symm)
      go_ret
      exact ⟨rfl, rfl⟩

end Go.Proofs.YtfgcgnhffljiaaaGreatDoor.Fch
