/-
  Walks: impl.QuoteOf and spec.QuoteOf tell the same.
-/
import Derived.Test.YtaplkbkpgdpbaaaDoorFbs
namespace Go.Proofs.YtaplkbkpgdpbaaaDoor.Quo
open Go.RowKit
open Go.Proofs.YtaplkbkpgdpbaaaDoor.Own
open Go.Proofs.YtaplkbkpgdpbaaaDoor.Fbs

def qb (c : UInt8) : List UInt8 := if c.toNat = 34 ∨ c.toNat = 92 then [92, c] else [c]
def quoL (l : List UInt8) : List UInt8 := 34 :: l.flatMap qb
def quoB (s : ByteArray) : ByteArray := ⟨(quoL s.data.toList ++ [34]).toArray⟩
/-- What QuoteOf tells. -/
def quoV (s : ByteArray) : Value := if quotable s = true then .tuple #[.string (quoB s), .bool true] else .tuple #[.string ⟨#[]⟩, .bool false]

theorem quo_snoc (l : List UInt8) (k : Nat) (h : k < l.length) : quoL (l.take (k + 1)) = quoL (l.take k) ++ qb l[k] := by
  unfold quoL
  rw [List.take_succ_eq_append_getElem h, List.flatMap_append]
  simp only [List.flatMap_cons, List.flatMap_nil, List.append_nil, List.cons_append]
theorem quo_at (s : ByteArray) (k : Nat) (h : k < s.size) : quoL (s.data.toList.take (k + 1)) = quoL (s.data.toList.take k) ++ qb s[k] := by
  rw [quo_snoc _ _ (by rw [len_list]; exact h)]; rfl

theorem ret_two {a b : ByteArray} {x : Bool} (h : a = b) : Ending.returned (.tuple #[.string a, .bool x]) = .returned (.tuple #[.string b, .bool x]) := by rw [h]

set_option maxHeartbeats 800000 in
theorem implQuote_any (s : ByteArray) (w : World) :
    Calls Tryd.prog 10 #[.string s] w fun e w' => e = .returned (quoV s) ∧ Below w.heap.size w w' := by
  cases hq : quotable s
  · have HV : quoV s = .tuple #[.string ⟨#[]⟩, .bool false] := by unfold quoV; rw [hq]; rfl
    have HC := isQuotable_any s w
    rw [hq] at HC
    rw [HV]
    go_enter Tryd.func10, Tryd.ntmps10
    go_wp2_with (go_at_call 45; refine HC.mono ?_; rintro e w' ⟨rfl, hw⟩; obtain rfl := hw.symm)
    go_ret2
    exact ⟨rfl, Below.refl _ _⟩
  · have HV : quoV s = .tuple #[.string (quoB s), .bool true] := by unfold quoV; rw [hq]; rfl
    have HC := isQuotable_any s w
    rw [hq] at HC
    rw [HV]
    have hs : s.size ≤ 100 := by unfold quotable at hq; simp only [Bool.and_eq_true, decide_eq_true_eq] at hq; exact hq.1
    clear HV hq
    go_enter Tryd.func10, Tryd.ntmps10
    go_wp2_with (go_at_call 45; refine HC.mono ?_; rintro e w' ⟨rfl, hw⟩; obtain rfl := hw.symm)
    go_loopw [4, 5] (fun v i wr => ∃ (k : Nat) (acc : List UInt8), k ≤ s.size ∧ acc.length ≤ 2 * k + 1 ∧ i = .int .i64 k ∧ bytesIn wr w.heap.size v acc ∧ Below w.heap.size w wr ∧ Hid (acc = quoL (s.data.toList.take k)))
      (fun _ i _ => s.size - (intOf i).toNat)
    case atStart => exact ⟨0, [34], by omega, by simp, rfl, World.ownsRow_lit w #[.int .u8 34] 1 (Nat.le_refl _) (by decide) rfl, (Below.refl _ _).alloc (Nat.le_refl _) _, rfl⟩
    case round =>
      obtain ⟨k, acc, hk, hacc, rfl, hown, hbel, HD⟩ := hrel
      by_cases hlt : k < s.size
      · have hB := hbel.size
        have e0 := quo_at s k hlt
        by_cases hc : (s[k].toNat : Int) = 34 ∨ (s[k].toNat : Int) = 92
        · have HD' : Hid (acc ++ [92, s[k]] = quoL (s.data.toList.take (k + 1))) := by
            show _ = _; rw [e0, ← HD.out]; unfold qb; rw [if_pos (by omega)]
          clear HD e0
          rcases (show (s[k].toNat : Int) = 34 ∨ ((s[k].toNat : Int) ≠ 34 ∧ (s[k].toNat : Int) = 92) from by omega) with h1 | ⟨h1, h2⟩
          · have h1' : ((s[k].toNat : Int) == 34) = true := by simpa using h1
            have H1 : Hid ((s[k].toNat : Int) = 34) := h1
            go_wp2_with (at_builtin; refine wpList_append_one _ rfl _ _ rfl w.heap.size _ acc (by rfl) hown 92 92 rfl _ rfl ?q3 ?q4 w hbel ?_)
            case q3 => omega
            case q4 => exact hB
            intro v' w1 hown1 hbel1
            clear hown hbel hB
            have hB1 := hbel1.size
            go_wp2_with (at_builtin; refine wpList_append_one _ rfl _ _ rfl w.heap.size _ (acc ++ [92]) (by rfl) hown1 _ s[k] H1.out.symm _ rfl ?q5 ?q6 w hbel1 ?_)
            case q5 => simp; omega
            case q6 => exact hB1
            intro v2 w2 hown2 hbel2
            clear hown1 hbel1 hB1
            go_wp2
            go_roundw
            case rel => exact ⟨k + 1, _, by omega, by simp; omega, by go_num, hown2, hbel2, HD'⟩
            case measure => simp [intOf]; omega
          · have h1' : ((s[k].toNat : Int) == 34) = false := by simpa using h1
            have h2' : ((s[k].toNat : Int) == 92) = true := by simpa using h2
            have H2 : Hid ((s[k].toNat : Int) = 92) := h2
            go_wp2_with (at_builtin; refine wpList_append_one _ rfl _ _ rfl w.heap.size _ acc (by rfl) hown 92 92 rfl _ rfl ?q3 ?q4 w hbel ?_)
            case q3 => omega
            case q4 => exact hB
            intro v' w1 hown1 hbel1
            clear hown hbel hB
            have hB1 := hbel1.size
            go_wp2_with (at_builtin; refine wpList_append_one _ rfl _ _ rfl w.heap.size _ (acc ++ [92]) (by rfl) hown1 _ s[k] H2.out.symm _ rfl ?q5 ?q6 w hbel1 ?_)
            case q5 => simp; omega
            case q6 => exact hB1
            intro v2 w2 hown2 hbel2
            clear hown1 hbel1 hB1
            go_wp2
            go_roundw
            case rel => exact ⟨k + 1, _, by omega, by simp; omega, by go_num, hown2, hbel2, HD'⟩
            case measure => simp [intOf]; omega
        · have HD' : Hid (acc ++ [s[k]] = quoL (s.data.toList.take (k + 1))) := by
            show _ = _; rw [e0, ← HD.out]; unfold qb; rw [if_neg (by omega)]
          clear HD e0
          have h1' : ((s[k].toNat : Int) == 34) = false := by simp; omega
          have h2' : ((s[k].toNat : Int) == 92) = false := by simp; omega
          go_wp2_with (at_builtin; refine wpList_append_one _ rfl _ _ rfl w.heap.size _ acc (by rfl) hown _ s[k] rfl _ rfl ?q3 ?q4 w hbel ?_)
          case q3 => omega
          case q4 => exact hB
          intro v2 w2 hown2 hbel2
          clear hown hbel hB
          go_wp2
          go_roundw
          case rel => exact ⟨k + 1, _, by omega, by simp; omega, by go_num, hown2, hbel2, HD'⟩
          case measure => simp [intOf]; omega
      · have hcv := run_text _ _ _ _ hown
        obtain rfl : k = s.size := by omega
        have HR : Hid (Ending.returned (.tuple #[.string ((⟨acc.toArray⟩ : ByteArray) ++ ⟨#[34]⟩), .bool true]) = .returned (.tuple #[.string (quoB s), .bool true])) := by
          show _ = _
          refine ret_two ?_
          rw [HD.out, ← len_list, List.take_length]; exact app_list _ [34]
        have hz : (⟨acc.toArray⟩ : ByteArray).size ≤ 1000 := by show acc.toArray.size ≤ _; simp; omega
        have hsum : ¬ 9223372036854775807 < (⟨acc.toArray⟩ : ByteArray).size + (⟨#[34]⟩ : ByteArray).size := by show ¬ 9223372036854775807 < _ + 1; omega
        clear hown HD
        generalize (⟨acc.toArray⟩ : ByteArray) = T at hcv HR hz hsum
        go_wp2
        go_ret2
        exact ⟨HR.out, hbel⟩

set_option maxHeartbeats 800000 in
theorem specQuote_any (s : ByteArray) (w : World) (hs : s.size ≤ 2000000) :
    Calls Tryd.prog 11 #[.string s] w fun e w' => e = .returned (quoV s) ∧ Below w.heap.size w w' := by
  have HC : Hid (Calls Tryd.prog 46 #[.string s] w fun e w' => e = .returned (.bool (plainB s.data.toList)) ∧ w' = w) := l3Printed_any s w hs
  cases hp : plainB s.data.toList
  · have HV : quoV s = .tuple #[.string ⟨#[]⟩, .bool false] := by unfold quoV quotable; rw [hp, Bool.and_false]; rfl
    have HC := HC.out
    rw [hp] at HC
    rw [HV]
    go_enter Tryd.func11, Tryd.ntmps11
    go_wp2_with (go_at_call 46; refine HC.mono ?_; rintro e w' ⟨rfl, hw⟩; obtain rfl := hw.symm)
    go_ret2
    exact ⟨rfl, Below.refl _ _⟩
  · have HC := HC.out
    rw [hp] at HC
    by_cases hz : 100 < s.size
    · have HV : quoV s = .tuple #[.string ⟨#[]⟩, .bool false] := by unfold quoV quotable; rw [decide_eq_false (by omega)]; rfl
      rw [HV]
      go_enter Tryd.func11, Tryd.ntmps11
      go_wp2_with (go_at_call 46; refine HC.mono ?_; rintro e w' ⟨rfl, hw⟩; obtain rfl := hw.symm)
      go_ret2
      exact ⟨rfl, Below.refl _ _⟩
    · have HV : quoV s = .tuple #[.string (quoB s), .bool true] := by unfold quoV quotable; rw [hp, decide_eq_true (by omega)]; rfl
      rw [HV]
      clear HV hp
      go_enter Tryd.func11, Tryd.ntmps11
      go_wp2_with (go_at_call 46; refine HC.mono ?_; rintro e w' ⟨rfl, hw⟩; obtain rfl := hw.symm)
      go_loopw [4, 5] (fun v i wr => ∃ (k : Nat) (A : ByteArray), k ≤ s.size ∧ A.size ≤ 2 * k + 1 ∧ i = .int .i64 k ∧ v = .string A ∧ Below w.heap.size w wr ∧ Hid (A = ⟨(quoL (s.data.toList.take k)).toArray⟩))
        (fun _ i _ => s.size - (intOf i).toNat)
      case atStart => exact ⟨0, ⟨#[34]⟩, by omega, by decide, rfl, rfl, Below.refl _ _, rfl⟩
      case round =>
        obtain ⟨k, A, hk, hA, rfl, rfl, hbel, HD⟩ := hrel
        by_cases hlt : k < s.size
        · have e0 := quo_at s k hlt
          have hx : (s.extract k (k + 1)).size = 1 := by rw [ByteArray.size_extract]; omega
          by_cases hc : (s[k].toNat : Int) = 34 ∨ (s[k].toNat : Int) = 92
          · have HD' : Hid (A ++ ⟨#[92]⟩ ++ s.extract k (k + 1) = ⟨(quoL (s.data.toList.take (k + 1))).toArray⟩) := by
              show _ = _; rw [e0, HD.out, ext_one s k hlt]; unfold qb; rw [if_pos (by omega)]
              rw [show (⟨#[92]⟩ : ByteArray) = ⟨[92].toArray⟩ from rfl, app_list, app_list]; simp
            have HZ : Hid ((A ++ ⟨#[92]⟩ ++ s.extract k (k + 1)).size ≤ 2 * (k + 1) + 1) := by show _ ≤ _; rw [ByteArray.size_append, ByteArray.size_append, hx]; show A.size + 1 + 1 ≤ _; omega
            have hsum1 : ¬ 9223372036854775807 < A.size + (⟨#[92]⟩ : ByteArray).size := by show ¬ 9223372036854775807 < A.size + 1; omega
            have hsum2 : ¬ 9223372036854775807 < (A ++ ⟨#[92]⟩).size + (s.extract k (k + 1)).size := by rw [ByteArray.size_append, hx]; show ¬ 9223372036854775807 < A.size + 1 + 1; omega
            clear HD e0
            rcases (show (s[k].toNat : Int) = 34 ∨ ((s[k].toNat : Int) ≠ 34 ∧ (s[k].toNat : Int) = 92) from by omega) with h1 | ⟨h1, h2⟩
            · have h1' : ((s[k].toNat : Int) == 34) = true := by simpa using h1
              go_wp2
              go_roundw
              case rel => exact ⟨k + 1, _, by omega, HZ.out, by go_num, rfl, hbel, HD'⟩
              case measure => simp [intOf]; omega
            · have h1' : ((s[k].toNat : Int) == 34) = false := by simpa using h1
              have h2' : ((s[k].toNat : Int) == 92) = true := by simpa using h2
              go_wp2
              go_roundw
              case rel => exact ⟨k + 1, _, by omega, HZ.out, by go_num, rfl, hbel, HD'⟩
              case measure => simp [intOf]; omega
          · have HD' : Hid (A ++ s.extract k (k + 1) = ⟨(quoL (s.data.toList.take (k + 1))).toArray⟩) := by
              show _ = _; rw [e0, HD.out, ext_one s k hlt]; unfold qb; rw [if_neg (by omega)]
              rw [app_list]
            have HZ : Hid ((A ++ s.extract k (k + 1)).size ≤ 2 * (k + 1) + 1) := by show _ ≤ _; rw [ByteArray.size_append, hx]; omega
            have hsum2 : ¬ 9223372036854775807 < A.size + (s.extract k (k + 1)).size := by rw [hx]; omega
            clear HD e0
            have h1' : ((s[k].toNat : Int) == 34) = false := by simp; omega
            have h2' : ((s[k].toNat : Int) == 92) = false := by simp; omega
            go_wp2
            go_roundw
            case rel => exact ⟨k + 1, _, by omega, HZ.out, by go_num, rfl, hbel, HD'⟩
            case measure => simp [intOf]; omega
        · obtain rfl : k = s.size := by omega
          have HR : Hid (Ending.returned (.tuple #[.string (A ++ ⟨#[34]⟩), .bool true]) = .returned (.tuple #[.string (quoB s), .bool true])) := by
            show _ = _
            refine ret_two ?_
            rw [HD.out, ← len_list, List.take_length]; exact app_list _ [34]
          have hsum : ¬ 9223372036854775807 < A.size + (⟨#[34]⟩ : ByteArray).size := by show ¬ 9223372036854775807 < _ + 1; omega
          clear HD
          go_wp2
          go_ret2
          exact ⟨HR.out, hbel⟩

end Go.Proofs.YtaplkbkpgdpbaaaDoor.Quo
