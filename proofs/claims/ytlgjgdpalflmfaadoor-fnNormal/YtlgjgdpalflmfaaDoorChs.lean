/-
  Walks: whether a text has only good bytes and percents: impl.isPchars, spec.l1Chars.
-/
import Derived.Test.YtlgjgdpalflmfaaDoorChr
namespace Go.Proofs.YtlgjgdpalflmfaaDoor.Chr
open Go.RowKit
open Go.Proofs.YtlgjgdpalflmfaaDoor.Byt
open Go.Proofs.YtlgjgdpalflmfaaDoor.Hex
open Go.Proofs.YtlgjgdpalflmfaaDoor.Enc

/-- A '%' is none of the good bytes. -/
theorem pct_neg_of {l : List UInt8} {k : Nat} {more : List UInt8} (hm : hasB more 37 = false) (ho : (freeB ((l[k]?.getD 0).toNat : Int) || subB ((l[k]?.getD 0).toNat : Int) || hasB more ((l[k]?.getD 0).toNat : Int)) = true) : pct l k < 0 := by
  by_cases h : 0 ≤ pct l k
  · have hc := (pct_facts h).2.1
    rw [hc, hm] at ho
    exact absurd ho (by decide)
  · omega

set_option maxHeartbeats 1600000 in
theorem specChars_any (s t : ByteArray) (w : World) (hs : s.size ≤ 2000000) (ht : t.size ≤ 2000000) (hm : hasB t.data.toList 37 = false) :
    Calls Tryd.prog 65 #[.string s, .string t] w fun e w' => e = .returned (.bool (charsB s.data.toList t.data.toList)) ∧ w' = w := by
  have HM : Hid (hasB t.data.toList 37 = false) := hm
  clear hm
  go_enter Tryd.func65, Tryd.ntmps65
  go_wp2
  go_loop [5, 6] (fun i _ => ∃ k f : Nat, k ≤ s.size ∧ s.size ≤ k + f ∧ i = .int .i64 k ∧ Hid (charsB s.data.toList t.data.toList = charsF s.data.toList t.data.toList f k)) (fun i _ => s.size - (intOf i).toNat)
  case atStart => exact ⟨0, s.data.toList.length, by omega, by rw [len_list]; omega, rfl, rfl⟩
  case round =>
    obtain ⟨k, f, hk, hf, rfl, HD⟩ := hrel
    by_cases hlt : k < s.size
    · have e0 := at_list s k hlt
      have hsub := hasB_sub (s[k].toNat : Int) (byte_bd _).1 (byte_bd _).2
      obtain ⟨f', rfl⟩ : ∃ f', f = f' + 1 := ⟨f - 1, by omega⟩
      by_cases ho : (freeB (s[k].toNat : Int) || subB (s[k].toNat : Int) || hasB t.data.toList (s[k].toNat : Int)) = true
      · have ho2 := ho
        rw [← e0] at ho2
        have HD' : Hid (charsB s.data.toList t.data.toList = charsF s.data.toList t.data.toList f' (k + 1)) := by
          show _ = _; rw [HD.out]; exact charsF_ok (by rw [len_list]; exact hlt) (pct_neg_of HM.out ho2) ho2
        clear HD e0 ho2
        by_cases h1 : freeB (s[k].toNat : Int) = true
        · clear ho hsub
          go_wp2_with (go_at_call 51; refine (l1Free_any _ _ (byte_bd _).1 (byte_bd _).2).mono ?_; rintro e w' ⟨rfl, rfl⟩)
          go_round
          case rel => exact ⟨k + 1, f', by omega, by omega, by go_num, HD'⟩
          case measure => simp [intOf]; omega
        · have h1' : freeB (s[k].toNat : Int) = false := by simpa using h1
          by_cases h2 : subB (s[k].toNat : Int) = true
          · rw [h2] at hsub
            clear ho h1 h2
            go_wp2_with (first
              | (go_at_call 51; refine (l1Free_any _ _ (byte_bd _).1 (byte_bd _).2).mono ?_; rintro e w' ⟨rfl, rfl⟩)
              | (go_at_call 86; refine (l1Has_any _ _ _ (by first | exact ht | decide)).mono ?_; rintro e w' ⟨rfl, rfl⟩))
            go_round
            case rel => exact ⟨k + 1, f', by omega, by omega, by go_num, HD'⟩
            case measure => simp [intOf]; omega
          · have h2' : subB (s[k].toNat : Int) = false := by simpa using h2
            rw [h1', h2'] at ho
            have h3 : hasB t.data.toList (s[k].toNat : Int) = true := by simpa using ho
            rw [h2'] at hsub
            clear ho h1 h2
            go_wp2_with (first
              | (go_at_call 51; refine (l1Free_any _ _ (byte_bd _).1 (byte_bd _).2).mono ?_; rintro e w' ⟨rfl, rfl⟩)
              | (go_at_call 86; refine (l1Has_any _ _ _ (by first | exact ht | decide)).mono ?_; rintro e w' ⟨rfl, rfl⟩))
            go_round
            case rel => exact ⟨k + 1, f', by omega, by omega, by go_num, HD'⟩
            case measure => simp [intOf]; omega
      · have ho' : (freeB (s[k].toNat : Int) || subB (s[k].toNat : Int) || hasB t.data.toList (s[k].toNat : Int)) = false := by simpa using ho
        have ho2 := ho'
        rw [← e0] at ho2
        simp only [Bool.or_eq_false_iff] at ho'
        obtain ⟨⟨h1, h2⟩, h3⟩ := ho'
        rw [h2] at hsub
        clear ho e0
        by_cases hp : 0 ≤ pct s.data.toList k
        · have hf3 := (pct_facts hp).1
          rw [len_list] at hf3
          have HD' : Hid (charsB s.data.toList t.data.toList = charsF s.data.toList t.data.toList f' (k + 3)) := by
            show _ = _; rw [HD.out]; exact charsF_pct (by rw [len_list]; exact hlt) hp
          clear HD ho2
          go_wp2_with (first
            | (go_at_call 51; refine (l1Free_any _ _ (byte_bd _).1 (byte_bd _).2).mono ?_; rintro e w' ⟨rfl, rfl⟩)
            | (go_at_call 86; refine (l1Has_any _ _ _ (by first | exact ht | decide)).mono ?_; rintro e w' ⟨rfl, rfl⟩)
            | (go_at_call 70; refine (l1Byte_any s k _ hs hlt).mono ?_; rintro e w' ⟨rfl, rfl⟩))
          go_round
          case rel => exact ⟨k + 3, f', by omega, by omega, by go_num, HD'⟩
          case measure => simp [intOf]; omega
        · have HF : Hid (charsB s.data.toList t.data.toList = false) := by
            show _ = _; rw [HD.out]; exact charsF_bad (by rw [len_list]; exact hlt) (by omega) ho2
          have hp' : pct s.data.toList k < 0 := by omega
          clear HD ho2 hp
          go_wp2_with (first
            | (go_at_call 51; refine (l1Free_any _ _ (byte_bd _).1 (byte_bd _).2).mono ?_; rintro e w' ⟨rfl, rfl⟩)
            | (go_at_call 86; refine (l1Has_any _ _ _ (by first | exact ht | decide)).mono ?_; rintro e w' ⟨rfl, rfl⟩)
            | (go_at_call 70; refine (l1Byte_any s k _ hs hlt).mono ?_; rintro e w' ⟨rfl, rfl⟩))
          go_ret
          exact ⟨ret_bool HF.out.symm, rfl⟩
    · have HF : Hid (charsB s.data.toList t.data.toList = true) := by
        show _ = _; rw [HD.out]; exact charsF_end (by rw [len_list]; omega)
      clear HD
      go_wp2
      go_ret
      exact ⟨ret_bool HF.out.symm, rfl⟩

theorem to_byte (c : UInt8) : ((c.toNat : Int)).toNat.toUInt8 = c := by simp

/-- 'strings.IndexByte(t, c) < 0'. -/
theorem indexByte_any (t : ByteArray) (c : UInt8) (w : World) :
    Calls Tryd.prog 75 #[.string t, .int .u8 (c.toNat : Int)] w fun e w' => (∃ n : Int, e = .returned (.int .i64 n) ∧ decide (n < 0) = !hasB t.data.toList (c.toNat : Int)) ∧ w' = w := by
  refine (Tryd.strings_IndexByte t (c.toNat : Int) w).mono ?_
  rintro e w' ⟨rfl, rfl⟩
  rw [to_byte]
  exact ⟨⟨_, rfl, index_neg _ _⟩, rfl⟩

set_option maxHeartbeats 1600000 in
theorem implChars_any (s t : ByteArray) (w : World) (hT : Tab w) (hs : s.size ≤ 2000000) (hm : hasB t.data.toList 37 = false) :
    Calls Tryd.prog 44 #[.string s, .string t] w fun e w' => e = .returned (.bool (charsB s.data.toList t.data.toList)) ∧ w' = w := by
  have HM : Hid (hasB t.data.toList 37 = false) := hm
  clear hm
  go_enter Tryd.func44, Tryd.ntmps44
  go_wp2
  go_loop [5] (fun i => ∃ k f : Nat, k ≤ s.size ∧ s.size ≤ k + f ∧ i = .int .i64 k ∧ Hid (charsB s.data.toList t.data.toList = charsF s.data.toList t.data.toList f k)) (fun i => s.size - (intOf i).toNat)
  case atStart => exact ⟨0, s.data.toList.length, by omega, by rw [len_list]; omega, rfl, rfl⟩
  case round =>
    obtain ⟨k, f, hk, hf, rfl, HD⟩ := hrel
    by_cases hlt : k < s.size
    · have e0 := at_list s k hlt
      obtain ⟨f', rfl⟩ : ∃ f', f = f' + 1 := ⟨f - 1, by omega⟩
      by_cases hp : 0 ≤ pct s.data.toList k
      · have hf3 := (pct_facts hp).1
        rw [len_list] at hf3
        have HD' : Hid (charsB s.data.toList t.data.toList = charsF s.data.toList t.data.toList f' (k + 3)) := by
          show _ = _; rw [HD.out]; exact charsF_pct (by rw [len_list]; exact hlt) hp
        clear HD e0
        go_wp2_with (go_at_call 53; refine (isPercentAt_yes s k _ hT hs hp).mono ?_; rintro e w' ⟨rfl, rfl⟩)
        go_round
        case rel => exact ⟨k + 3, f', by omega, by omega, by go_num, HD'⟩
        case measure => simp [intOf]; omega
      · have hp' : pct s.data.toList k < 0 := by omega
        clear hp
        by_cases h1 : (freeB (s[k].toNat : Int) || subB (s[k].toNat : Int)) = true
        · have HD' : Hid (charsB s.data.toList t.data.toList = charsF s.data.toList t.data.toList f' (k + 1)) := by
            show _ = _; rw [HD.out]; exact charsF_ok (by rw [len_list]; exact hlt) hp' (by rw [e0, h1]; rfl)
          clear HD e0
          obtain ⟨b1, hb1⟩ : ∃ b, b = (freeB (s[k].toNat : Int) || subB (s[k].toNat : Int)) := ⟨_, rfl⟩
          rw [← hb1] at h1
          subst h1
          have HB : Hid (true = (freeB (s[k].toNat : Int) || subB (s[k].toNat : Int))) := hb1
          clear hb1
          go_wp2_with (first
            | (go_at_call 53; refine (isPercentAt_no s k _ hT hs hlt hp').mono ?_; rintro e w' ⟨rfl, rfl⟩)
            | (go_at_call 49; refine (isPchar_any _ _ hT (byte_bd _).1 (byte_bd _).2).mono ?_; rintro e w' ⟨rfl, rfl⟩; rw [← HB.out]))
          go_round
          case rel => exact ⟨k + 1, f', by omega, by omega, by go_num, HD'⟩
          case measure => simp [intOf]; omega
        · have h1' : (freeB (s[k].toNat : Int) || subB (s[k].toNat : Int)) = false := by simpa using h1
          have HB : Hid ((freeB (s[k].toNat : Int) || subB (s[k].toNat : Int)) = false) := h1'
          clear h1
          by_cases h3 : hasB t.data.toList (s[k].toNat : Int) = true
          · have HD' : Hid (charsB s.data.toList t.data.toList = charsF s.data.toList t.data.toList f' (k + 1)) := by
              show _ = _; rw [HD.out]; exact charsF_ok (by rw [len_list]; exact hlt) hp' (by rw [e0, h3, Bool.or_true])
            have H3 : Hid (hasB t.data.toList (s[k].toNat : Int) = true) := h3
            clear HD e0 h1' h3
            go_wp2_with (first
              | (go_at_call 53; refine (isPercentAt_no s k _ hT hs hlt hp').mono ?_; rintro e w' ⟨rfl, rfl⟩)
              | (go_at_call 49; refine (isPchar_any _ _ hT (byte_bd _).1 (byte_bd _).2).mono ?_; rintro e w' ⟨rfl, rfl⟩; rw [HB.out])
              | (go_at_call 75; refine (indexByte_any t s[k] _).mono ?_; rintro e w' ⟨⟨n, rfl, hn⟩, rfl⟩; rw [H3.out] at hn; replace hn : ¬ n < 0 := by simpa using hn))
            go_round
            case rel => exact ⟨k + 1, f', by omega, by omega, by go_num, HD'⟩
            case measure => simp [intOf]; omega
          · have h3' : hasB t.data.toList (s[k].toNat : Int) = false := by simpa using h3
            have HF : Hid (charsB s.data.toList t.data.toList = false) := by
              show _ = _; rw [HD.out]; exact charsF_bad (by rw [len_list]; exact hlt) hp' (by rw [e0, h1', h3']; rfl)
            have H3 : Hid (hasB t.data.toList (s[k].toNat : Int) = false) := h3'
            clear HD e0 h1' h3 h3'
            go_wp2_with (first
              | (go_at_call 53; refine (isPercentAt_no s k _ hT hs hlt hp').mono ?_; rintro e w' ⟨rfl, rfl⟩)
              | (go_at_call 49; refine (isPchar_any _ _ hT (byte_bd _).1 (byte_bd _).2).mono ?_; rintro e w' ⟨rfl, rfl⟩; rw [HB.out])
              | (go_at_call 75; refine (indexByte_any t s[k] _).mono ?_; rintro e w' ⟨⟨n, rfl, hn⟩, rfl⟩; rw [H3.out] at hn; replace hn : n < 0 := by simpa using hn))
            go_ret
            exact ⟨ret_bool HF.out.symm, rfl⟩
    · have HF : Hid (charsB s.data.toList t.data.toList = true) := by
        show _ = _; rw [HD.out]; exact charsF_end (by rw [len_list]; omega)
      clear HD
      go_wp2
      go_ret
      exact ⟨ret_bool HF.out.symm, rfl⟩

end Go.Proofs.YtlgjgdpalflmfaaDoor.Chr
