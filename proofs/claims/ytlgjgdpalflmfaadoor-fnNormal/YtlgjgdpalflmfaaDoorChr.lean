/-
  Walks: hosts and paths: impl.isHost, isPchars; spec.l1Host, l1Has, l1Chars.
-/
import Derived.Test.YtlgjgdpalflmfaaDoorEnc
import Derived.Test.YtlgjgdpalflmfaaDoorChb
import Derived.Test.YtlgjgdpalflmfaaDoorShelf
import Derived.WalkKit
import Derived.WalkLawsBesides
import Derived.WalkSpells
namespace Go.Proofs.YtlgjgdpalflmfaaDoor.Chr
open Go.RowKit
open Go.Proofs.YtlgjgdpalflmfaaDoor.Byt
open Go.Proofs.YtlgjgdpalflmfaaDoor.Hex
open Go.Proofs.YtlgjgdpalflmfaaDoor.Enc

theorem len_list (s : ByteArray) : s.data.toList.length = s.size := by simp

theorem isK_host (b : Int) (h0 : 0 ≤ b) (h1 : b ≤ 255) : isK b 1 = hostB b := by
  obtain ⟨n, rfl⟩ := Int.eq_ofNat_of_zero_le h0
  have all : ∀ n : Nat, n < 256 → isK (n : Int) 1 = hostB (n : Int) := by decide +kernel
  exact all n (by omega)
theorem isK_pchar (b : Int) (h0 : 0 ≤ b) (h1 : b ≤ 255) : isK b 4 = (freeB b || subB b) := by
  obtain ⟨n, rfl⟩ := Int.eq_ofNat_of_zero_le h0
  have all : ∀ n : Nat, n < 256 → isK (n : Int) 4 = (freeB (n : Int) || subB (n : Int)) := by decide +kernel
  exact all n (by omega)
theorem hasB_sub (b : Int) (h0 : 0 ≤ b) (h1 : b ≤ 255) : hasB [33, 36, 38, 39, 40, 41, 42, 43, 44, 59, 61, 58, 64] b = subB b := by
  obtain ⟨n, rfl⟩ := Int.eq_ofNat_of_zero_le h0
  have all : ∀ n : Nat, n < 256 → hasB [33, 36, 38, 39, 40, 41, 42, 43, 44, 59, 61, 58, 64] (n : Int) = subB (n : Int) := by decide +kernel
  exact all n (by omega)

theorem isHostB_any (b : Int) (w : World) (hT : Tab w) (h0 : 0 ≤ b) (h1 : b ≤ 255) :
    Calls Tryd.prog 49 #[.int .u8 b, .int .u8 1] w fun e w' => e = .returned (.bool (hostB b)) ∧ w' = w := by
  rw [← isK_host b h0 h1]
  exact isKind_any b 1 w hT h0 h1
theorem isPchar_any (b : Int) (w : World) (hT : Tab w) (h0 : 0 ≤ b) (h1 : b ≤ 255) :
    Calls Tryd.prog 49 #[.int .u8 b, .int .u8 4] w fun e w' => e = .returned (.bool (freeB b || subB b)) ∧ w' = w := by
  rw [← isK_pchar b h0 h1]
  exact isKind_any b 4 w hT h0 h1

set_option maxHeartbeats 800000 in
theorem implHost_any (s : ByteArray) (w : World) (hT : Tab w) :
    Calls Tryd.prog 42 #[.string s] w fun e w' => e = .returned (.bool (hostOk s.data.toList)) ∧ w' = w := by
  have hlen := len_list s
  by_cases h : 1 ≤ s.size ∧ s.size ≤ 60
  · have hR : hostOk s.data.toList = s.data.toList.all (fun c => hostB (c.toNat : Int)) := by
      unfold hostOk; rw [decide_eq_true (by omega)]; rfl
    have HR : Hid (hostOk s.data.toList = s.data.toList.all (fun c => hostB (c.toNat : Int))) := hR
    clear hR hlen
    obtain ⟨ha, hb⟩ := h
    go_enter Tryd.func42, Tryd.ntmps42
    go_wp2
    go_loop [3] (fun i => ∃ k : Nat, k ≤ s.size ∧ i = .int .i64 k ∧ Hid (∀ j, j < k → hostB ((s.data.toList[j]?.getD 0).toNat : Int) = true)) (fun i => s.size - (intOf i).toNat)
    case atStart => exact ⟨0, by omega, rfl, fun j hj => absurd hj (by omega)⟩
    case round =>
      obtain ⟨k, hk, rfl, HA⟩ := hrel
      by_cases hlt : k < s.size
      · have e0 := at_list s k hlt
        by_cases hf : hostB (s[k].toNat : Int) = true
        · have HA' : Hid (∀ j, j < k + 1 → hostB ((s.data.toList[j]?.getD 0).toNat : Int) = true) := by
            intro j hj
            by_cases hjk : j = k
            · subst hjk; rw [e0]; exact hf
            · exact HA.out j (by omega)
          clear HA e0
          go_wp2_with (go_at_call 49; refine (isHostB_any _ _ hT (byte_bd _).1 (byte_bd _).2).mono ?_; rintro e w' ⟨rfl, rfl⟩)
          go_round
          case rel => exact ⟨k + 1, by omega, by go_num, HA'⟩
          case measure => simp [intOf]; omega
        · have hf' : hostB (s[k].toNat : Int) = false := by simpa using hf
          have HF : Hid (hostOk s.data.toList = false) := by
            show _ = _
            rw [HR.out]
            exact all_no (k := k) (by rw [len_list]; exact hlt) (by rw [e0]; exact hf')
          clear HA e0 HR hf
          go_wp2_with (go_at_call 49; refine (isHostB_any _ _ hT (byte_bd _).1 (byte_bd _).2).mono ?_; rintro e w' ⟨rfl, rfl⟩)
          go_ret
          exact ⟨ret_bool HF.out.symm, rfl⟩
      · have HF : Hid (hostOk s.data.toList = true) := by
          show _ = _
          rw [HR.out]
          exact all_yes (fun j hj => HA.out j (by rw [len_list] at hj; omega))
        clear HA HR
        go_wp2
        go_ret
        exact ⟨ret_bool HF.out.symm, rfl⟩
  · have HF : Hid (hostOk s.data.toList = false) := by
      show _ = _
      unfold hostOk; rw [decide_eq_false (by omega)]; rfl
    clear hlen
    rcases (show s.size < 1 ∨ 60 < s.size from by omega) with h | h
    all_goals
      go_enter Tryd.func42, Tryd.ntmps42
      go_wp2
      go_ret
      exact ⟨ret_bool HF.out.symm, rfl⟩

theorem l1Letter_any (b : Int) (w : World) :
    Calls Tryd.prog 79 #[.int .u8 b] w fun e w' => e = .returned (.bool (letterB b)) ∧ w' = w := by
  rcases (show (97 ≤ b ∧ b ≤ 122) ∨ (65 ≤ b ∧ b ≤ 90) ∨ b < 65 ∨ (90 < b ∧ b < 97) ∨ 122 < b from by omega) with h | h | h | h | h
  · have HF : Hid (letterB b = true) := by show _ = _; simp [letterB]; omega
    obtain ⟨h1, h2⟩ := h
    go_enter Tryd.func79, Tryd.ntmps79
    go_wp2
    go_ret
    exact ⟨ret_bool HF.out.symm, rfl⟩
  · have HF : Hid (letterB b = true) := by show _ = _; simp [letterB]; omega
    obtain ⟨h1, h2⟩ := h
    go_enter Tryd.func79, Tryd.ntmps79
    go_wp2
    go_ret
    exact ⟨ret_bool HF.out.symm, rfl⟩
  · have HF : Hid (letterB b = false) := by show _ = _; simp [letterB]; omega
    go_enter Tryd.func79, Tryd.ntmps79
    go_wp2
    go_ret
    exact ⟨ret_bool HF.out.symm, rfl⟩
  · have HF : Hid (letterB b = false) := by show _ = _; simp [letterB]; omega
    obtain ⟨h1, h2⟩ := h
    have h3 : decide (b ≤ 90) = false := by simp; omega
    go_enter Tryd.func79, Tryd.ntmps79
    go_wp2
    go_ret
    exact ⟨ret_bool (by rw [HF.out]; first | done | (simp; done) | (simp; omega)), rfl⟩
  · have HF : Hid (letterB b = false) := by show _ = _; simp [letterB]; omega
    go_enter Tryd.func79, Tryd.ntmps79
    go_wp2
    go_ret
    exact ⟨ret_bool (by rw [HF.out]; first | done | (simp; done) | (simp; omega)), rfl⟩

theorem l1Digit_any (b : Int) (w : World) :
    Calls Tryd.prog 80 #[.int .u8 b] w fun e w' => e = .returned (.bool (digitB b)) ∧ w' = w := by
  by_cases h : 48 ≤ b
  · have HF : Hid (digitB b = decide (b ≤ 57)) := by show _ = _; simp [digitB, h]
    go_enter Tryd.func80, Tryd.ntmps80
    go_wp2
    go_ret
    exact ⟨ret_bool HF.out.symm, rfl⟩
  · have HF : Hid (digitB b = false) := by show _ = _; simp [digitB]; omega
    go_enter Tryd.func80, Tryd.ntmps80
    go_wp2
    go_ret
    exact ⟨ret_bool HF.out.symm, rfl⟩

set_option maxHeartbeats 800000 in
theorem specHost_any (s : ByteArray) (w : World) (hs : s.size ≤ 2000000) :
    Calls Tryd.prog 63 #[.string s] w fun e w' => e = .returned (.bool (hostOk s.data.toList)) ∧ w' = w := by
  go_enter Tryd.func63, Tryd.ntmps63
  go_wp2
  go_loop [3] (fun i => ∃ k : Nat, k ≤ s.size ∧ i = .int .i64 k ∧ Hid (∀ j, j < k → hostB ((s.data.toList[j]?.getD 0).toNat : Int) = true)) (fun i => s.size - (intOf i).toNat)
  case atStart => exact ⟨0, by omega, rfl, fun j hj => absurd hj (by omega)⟩
  case round =>
    obtain ⟨k, hk, rfl, HA⟩ := hrel
    by_cases hlt : k < s.size
    · have e0 := at_list s k hlt
      have hp := hostB_parts (s[k].toNat : Int)
      by_cases hf : hostB (s[k].toNat : Int) = true
      · have HA' : Hid (∀ j, j < k + 1 → hostB ((s.data.toList[j]?.getD 0).toNat : Int) = true) := by
          intro j hj
          by_cases hjk : j = k
          · subst hjk; rw [e0]; exact hf
          · exact HA.out j (by omega)
        rw [hf] at hp
        clear HA e0 hf
        by_cases h1 : letterB (s[k].toNat : Int) = true
        · clear hp
          go_wp2_with (first
            | (go_at_call 79; refine (l1Letter_any _ _).mono ?_; rintro e w' ⟨rfl, rfl⟩)
            | (go_at_call 80; refine (l1Digit_any _ _).mono ?_; rintro e w' ⟨rfl, rfl⟩))
          go_round
          case rel => exact ⟨k + 1, by omega, by go_num, HA'⟩
          case measure => simp [intOf]; omega
        · have h1' : letterB (s[k].toNat : Int) = false := by simpa using h1
          rw [h1'] at hp
          clear h1
          by_cases h2 : digitB (s[k].toNat : Int) = true
          · clear hp
            go_wp2_with (first
              | (go_at_call 79; refine (l1Letter_any _ _).mono ?_; rintro e w' ⟨rfl, rfl⟩)
              | (go_at_call 80; refine (l1Digit_any _ _).mono ?_; rintro e w' ⟨rfl, rfl⟩))
            go_round
            case rel => exact ⟨k + 1, by omega, by go_num, HA'⟩
            case measure => simp [intOf]; omega
          · have h2' : digitB (s[k].toNat : Int) = false := by simpa using h2
            rw [h2'] at hp
            clear h2
            by_cases h3 : (s[k].toNat : Int) = 45
            · clear hp
              go_wp2_with (first
                | (go_at_call 79; refine (l1Letter_any _ _).mono ?_; rintro e w' ⟨rfl, rfl⟩)
                | (go_at_call 80; refine (l1Digit_any _ _).mono ?_; rintro e w' ⟨rfl, rfl⟩))
              go_round
              case rel => exact ⟨k + 1, by omega, by go_num, HA'⟩
              case measure => simp [intOf]; omega
            · have h4 : (s[k].toNat : Int) = 46 := by
                have : ((s[k].toNat : Int) == 45) = false := by simpa using h3
                rw [this] at hp
                simpa using hp.symm
              clear hp h3
              go_wp2_with (first
                | (go_at_call 79; refine (l1Letter_any _ _).mono ?_; rintro e w' ⟨rfl, rfl⟩)
                | (go_at_call 80; refine (l1Digit_any _ _).mono ?_; rintro e w' ⟨rfl, rfl⟩))
              go_round
              case rel => exact ⟨k + 1, by omega, by go_num, HA'⟩
              case measure => simp [intOf]; omega
      · have hf' : hostB (s[k].toNat : Int) = false := by simpa using hf
        have HF : Hid (hostOk s.data.toList = false) := by
          show _ = _
          unfold hostOk
          rw [all_no (k := k) (by rw [len_list]; exact hlt) (by rw [e0]; exact hf'), Bool.and_false]
        rw [hf'] at hp
        have hp' := hp.symm
        simp only [Bool.or_eq_false_iff] at hp'
        obtain ⟨⟨⟨h1, h2⟩, h3⟩, h4⟩ := hp'
        have h3' : ((s[k].toNat : Int) != 45) = true := by rw [bne, h3]; rfl
        have h4' : ((s[k].toNat : Int) != 46) = true := by rw [bne, h4]; rfl
        clear HA e0 hf hf' hp h3 h4
        go_wp2_with (first
            | (go_at_call 79; refine (l1Letter_any _ _).mono ?_; rintro e w' ⟨rfl, rfl⟩)
            | (go_at_call 80; refine (l1Digit_any _ _).mono ?_; rintro e w' ⟨rfl, rfl⟩))
        go_ret
        exact ⟨ret_bool HF.out.symm, rfl⟩
    · have hall : s.data.toList.all (fun c => hostB (c.toNat : Int)) = true := all_yes (fun j hj => HA.out j (by rw [len_list] at hj; omega))
      by_cases h : 1 ≤ s.size ∧ s.size ≤ 60
      · have HF : Hid (hostOk s.data.toList = true) := by
          show _ = _
          unfold hostOk; rw [hall, decide_eq_true (by rw [len_list]; exact h)]; rfl
        obtain ⟨h1, h2⟩ := h
        clear HA hall
        go_wp2
        go_ret
        exact ⟨ret_bool (by rw [HF.out]; first | done | (simp; done) | (simp; omega)), rfl⟩
      · have HF : Hid (hostOk s.data.toList = false) := by
          show _ = _
          unfold hostOk; rw [decide_eq_false (by rw [len_list]; exact h)]; rfl
        rcases (show s.size < 1 ∨ 60 < s.size from by omega) with h | h
        all_goals
          clear HA hall
          go_wp2
          go_ret
          exact ⟨ret_bool (by rw [HF.out]; first | done | (simp; done) | (simp; omega)), rfl⟩

set_option maxHeartbeats 400000 in
theorem l1Has_any (s : ByteArray) (b : Int) (w : World) (hs : s.size ≤ 2000000) :
    Calls Tryd.prog 86 #[.string s, .int .u8 b] w fun e w' => e = .returned (.bool (hasB s.data.toList b)) ∧ w' = w := by
  go_enter Tryd.func86, Tryd.ntmps86
  go_wp2
  go_loop [5] (fun i => ∃ k : Nat, k ≤ s.size ∧ i = .int .i64 k ∧ Hid (∀ j, j < k → ((s.data.toList[j]?.getD 0).toNat : Int) ≠ b)) (fun i => s.size - (intOf i).toNat)
  case atStart => exact ⟨0, by omega, rfl, fun j hj => absurd hj (by omega)⟩
  case round =>
    obtain ⟨k, hk, rfl, HA⟩ := hrel
    by_cases hlt : k < s.size
    · have e0 := at_list s k hlt
      by_cases hf : (s[k].toNat : Int) = b
      · have HF : Hid (hasB s.data.toList b = true) := hasB_yes (k := k) (by rw [len_list]; exact hlt) (by rw [e0]; exact hf)
        have hf' : ((s[k].toNat : Int) == b) = true := by simpa using hf
        clear HA e0 hf
        go_wp2
        go_ret
        exact ⟨ret_bool HF.out.symm, rfl⟩
      · have HA' : Hid (∀ j, j < k + 1 → ((s.data.toList[j]?.getD 0).toNat : Int) ≠ b) := by
          intro j hj
          by_cases hjk : j = k
          · subst hjk; rw [e0]; exact hf
          · exact HA.out j (by omega)
        have hf' : ((s[k].toNat : Int) == b) = false := by simpa using hf
        clear HA e0 hf
        go_wp2
        go_round
        case rel => exact ⟨k + 1, by omega, by go_num, HA'⟩
        case measure => simp [intOf]; omega
    · have HF : Hid (hasB s.data.toList b = false) := hasB_no (fun j hj => HA.out j (by rw [len_list] at hj; omega))
      clear HA
      go_wp2
      go_ret
      exact ⟨ret_bool HF.out.symm, rfl⟩

end Go.Proofs.YtlgjgdpalflmfaaDoor.Chr
