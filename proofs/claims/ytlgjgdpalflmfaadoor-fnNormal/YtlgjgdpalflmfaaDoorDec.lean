/-
  Walks: spec.PercentDecode and impl.PercentDecode tell the same: Byt.decS, Byt.decB.
-/
import Derived.Test.YtlgjgdpalflmfaaDoorHex
import Derived.Test.YtlgjgdpalflmfaaDoorBop
import Derived.Test.YtlgjgdpalflmfaaDoorOwn
import Derived.WalkKit
import Derived.WalkLawsBesides
namespace Go.Proofs.YtlgjgdpalflmfaaDoor.Dec
open Go.RowKit
open Go.Proofs.YtlgjgdpalflmfaaDoor.Byt
open Go.Proofs.YtlgjgdpalflmfaaDoor.Hex
open Go.Proofs.YtlgjgdpalflmfaaDoor.Own

theorem len_list (s : ByteArray) : s.data.toList.length = s.size := by simp

def tup (l : List UInt8) : Value := .tuple #[.string (decS l), .bool (decB l)]

theorem ret_none {l : List UInt8} (h : decO l = none) : Ending.returned (.tuple #[.string ⟨#[]⟩, .bool false]) = .returned (.tuple #[.string (decS l), .bool (decB l)]) := by
  rw [(decSB_none h).1, (decSB_none h).2]
theorem ret_some {l r : List UInt8} (h : decO l = some r) : Ending.returned (.tuple #[.string ⟨r.toArray⟩, .bool true]) = .returned (.tuple #[.string (decS l), .bool (decB l)]) := by
  rw [(decSB_some h).1, (decSB_some h).2]

set_option maxHeartbeats 800000 in
theorem specDec_any (s : ByteArray) (w : World) (hs : s.size ≤ 2000000) :
    Calls Tryd.prog 37 #[.string s] w fun e w' => e = .returned (.tuple #[.string (decS s.data.toList), .bool (decB s.data.toList)]) ∧ Below w.heap.size w w' := by
  have hlen := len_list s
  by_cases h2 : 200 < s.size
  · have hR := ret_none (l := s.data.toList) (by unfold decO; rw [if_pos (by omega)])
    have HR : Hid (Ending.returned (.tuple #[.string ⟨#[]⟩, .bool false]) = .returned (.tuple #[.string (decS s.data.toList), .bool (decB s.data.toList)])) := hR
    clear hR hlen
    go_enter Tryd.func37, Tryd.ntmps37
    go_wp2
    go_ret2
    exact ⟨HR.out, Below.refl _ _⟩
  · have hO : decO s.data.toList = decF s.data.toList s.data.toList.length 0 [] := by unfold decO; rw [if_neg (by omega)]
    have HO : Hid (decO s.data.toList = decF s.data.toList s.data.toList.length 0 []) := hO
    clear hO hlen
    go_enter Tryd.func37, Tryd.ntmps37
    go_wp2
    go_loopw [4, 5] (fun v i wr => ∃ (k f : Nat) (acc : List UInt8), k ≤ s.size ∧ s.size ≤ k + f ∧ acc.length ≤ k ∧ i = .int .i64 k ∧ bytesIn wr w.heap.size v acc ∧ Below w.heap.size w wr ∧ Hid (decO s.data.toList = decF s.data.toList f k acc))
      (fun _ i _ => s.size - (intOf i).toNat)
    case atStart => exact ⟨0, s.data.toList.length, [], by omega, by rw [len_list]; omega, by simp, rfl, World.ownsRow_nil _ _ _ _, Below.refl _ _, HO⟩
    case round =>
      obtain ⟨k, f, acc, hk, hf, hacc, rfl, hown, hbel, HD⟩ := hrel
      clear HO
      by_cases hlt : k < s.size
      · have hB := hbel.size
        have e0 := at_list s k hlt
        obtain ⟨f', rfl⟩ : ∃ f', f = f' + 1 := ⟨f - 1, by omega⟩
        by_cases hc : (s[k].toNat : Int) = 37
        · have hc37 : ((s.data.toList[k]?.getD 0).toNat : Int) = 37 := by rw [e0]; exact hc
          by_cases hp : 0 ≤ pct s.data.toList k
          · have hf3 := (pct_facts hp).1
            rw [len_list] at hf3
            have hp2 := pct_hi s.data.toList k
            have HD' : Hid (decO s.data.toList = decF s.data.toList f' (k + 3) (acc ++ [UInt8.ofNat (pct s.data.toList k).toNat])) := by
              show _ = _; rw [HD.out]; exact decF_pct (by rw [len_list]; omega) hc37 hp
            have hX : Hid (pct s.data.toList k = ((UInt8.ofNat (pct s.data.toList k).toNat).toNat : Int)) := by
              show _ = _; rw [UInt8.toNat_ofNat']; omega
            clear HD e0 hc37
            have hc' : ((s[k].toNat : Int) != 37) = false := by simpa using hc
            go_wp2_with (first
              | (go_at_call 70; refine (l1Byte_any s k _ hs hlt).mono ?_; rintro e w' ⟨rfl, rfl⟩)
              | (at_builtin; refine wpList_append_one _ rfl _ _ rfl w.heap.size _ acc (by rfl) hown _ _ hX.out _ rfl ?q1 ?q2 w hbel ?_))
            case q1 => omega
            case q2 => exact hB
            intro v' w1 hown' hbel'
            clear hown hbel hB
            go_wp2
            go_roundw
            case rel => exact ⟨k + 3, f', _, by omega, by omega, by simp; omega, by go_num, hown', hbel', HD'⟩
            case measure => simp [intOf]; omega
          · have HR : Hid (Ending.returned (.tuple #[.string ⟨#[]⟩, .bool false]) = .returned (.tuple #[.string (decS s.data.toList), .bool (decB s.data.toList)])) := ret_none (by rw [HD.out]; exact decF_bad (by rw [len_list]; omega) hc37 (by omega))
            have hpl : pct s.data.toList k < 0 := by omega
            clear HD e0 hc37 hown
            have hc' : ((s[k].toNat : Int) != 37) = false := by simpa using hc
            go_wp2_with (go_at_call 70; refine (l1Byte_any s k _ hs hlt).mono ?_; rintro e w' ⟨rfl, rfl⟩)
            go_ret2
            exact ⟨HR.out, hbel⟩
        · have hc37 : ((s.data.toList[k]?.getD 0).toNat : Int) ≠ 37 := by rw [e0]; exact hc
          have HD' : Hid (decO s.data.toList = decF s.data.toList f' (k + 1) (acc ++ [s[k]])) := by
            show _ = _; rw [HD.out, decF_plain (by rw [len_list]; omega) hc37, e0]
          clear HD e0 hc37
          have hc' : ((s[k].toNat : Int) != 37) = true := by simpa using hc
          go_wp2_with (at_builtin; refine wpList_append_one _ rfl _ _ rfl w.heap.size _ acc (by rfl) hown _ s[k] rfl _ rfl ?q3 ?q4 w hbel ?_)
          case q3 => omega
          case q4 => exact hB
          intro v' w1 hown' hbel'
          clear hown hbel hB
          go_wp2
          go_roundw
          case rel => exact ⟨k + 1, f', _, by omega, by omega, by simp; omega, by go_num, hown', hbel', HD'⟩
          case measure => simp [intOf]; omega
      · have hcv := run_text _ _ _ _ hown
        have HR : Hid (Ending.returned (.tuple #[.string ⟨acc.toArray⟩, .bool true]) = .returned (.tuple #[.string (decS s.data.toList), .bool (decB s.data.toList)])) := ret_some (by rw [HD.out]; exact decF_end (by rw [len_list]; omega))
        clear hown
        go_wp2
        go_ret2
        exact ⟨HR.out, hbel⟩

set_option maxHeartbeats 800000 in
theorem implDec_any (s : ByteArray) (w : World) (hT : Tab w) (hs : s.size ≤ 2000000) :
    Calls Tryd.prog 22 #[.string s] w fun e w' => e = .returned (.tuple #[.string (decS s.data.toList), .bool (decB s.data.toList)]) ∧ Below w.heap.size w w' := by
  have hlen := len_list s
  have hpos : 0 < w.heap.size := World.block_lt_of_cell? w _ (hT 0 (by omega))
  by_cases h2 : 200 < s.size
  · have hR := ret_none (l := s.data.toList) (by unfold decO; rw [if_pos (by omega)])
    have HR : Hid (Ending.returned (.tuple #[.string ⟨#[]⟩, .bool false]) = .returned (.tuple #[.string (decS s.data.toList), .bool (decB s.data.toList)])) := hR
    clear hR hlen
    go_enter Tryd.func22, Tryd.ntmps22
    go_wp2
    go_ret2
    exact ⟨HR.out, Below.refl _ _⟩
  · have hO : decO s.data.toList = decF s.data.toList s.data.toList.length 0 [] := by unfold decO; rw [if_neg (by omega)]
    have HO : Hid (decO s.data.toList = decF s.data.toList s.data.toList.length 0 []) := hO
    clear hO hlen
    go_enter Tryd.func22, Tryd.ntmps22
    go_wp2
    go_loopw [4, 5] (fun v i wr => ∃ (k f : Nat) (acc : List UInt8), k ≤ s.size ∧ s.size ≤ k + f ∧ acc.length ≤ k ∧ i = .int .i64 k ∧ bytesIn wr w.heap.size v acc ∧ Below w.heap.size w wr ∧ Hid (decO s.data.toList = decF s.data.toList f k acc))
      (fun _ i _ => s.size - (intOf i).toNat)
    case atStart => exact ⟨0, s.data.toList.length, [], by omega, by rw [len_list]; omega, by simp, rfl, World.ownsRow_made w #[] 0 (Nat.le_refl _) (by decide) rfl, (Below.refl _ _).alloc (Nat.le_refl _) _, HO⟩
    case round =>
      obtain ⟨k, f, acc, hk, hf, hacc, rfl, hown, hbel, HD⟩ := hrel
      clear HO
      have hTr : Tab wr := hT.below hbel hpos
      by_cases hlt : k < s.size
      · have hB := hbel.size
        have e0 := at_list s k hlt
        obtain ⟨f', rfl⟩ : ∃ f', f = f' + 1 := ⟨f - 1, by omega⟩
        by_cases hc : (s[k].toNat : Int) = 37
        · have hc37 : ((s.data.toList[k]?.getD 0).toNat : Int) = 37 := by rw [e0]; exact hc
          by_cases hp : 0 ≤ pct s.data.toList k
          · have hf3 := (pct_facts hp).1
            rw [len_list] at hf3
            have hp2 := pct_hi s.data.toList k
            have HD' : Hid (decO s.data.toList = decF s.data.toList f' (k + 3) (acc ++ [UInt8.ofNat (pct s.data.toList k).toNat])) := by
              show _ = _; rw [HD.out]; exact decF_pct (by rw [len_list]; omega) hc37 hp
            have hX : Hid (pct s.data.toList k = ((UInt8.ofNat (pct s.data.toList k).toNat).toNat : Int)) := by
              show _ = _; rw [UInt8.toNat_ofNat']; omega
            clear HD e0 hc37
            have hc' : ((s[k].toNat : Int) != 37) = false := by simpa using hc
            go_wp2_with (first
              | (go_at_call 53; refine (isPercentAt_yes s k _ hTr hs hp).mono ?_; rintro e w' ⟨rfl, rfl⟩)
              | (go_at_call 54; refine (byteOfPercent_bel s k _ hs hp).mono ?_; rintro e w2 ⟨rfl, hb2⟩; have hown2 := hown.below hb2)
              | (at_builtin; refine wpList_append_one w2 rfl _ _ rfl w.heap.size _ acc (by rfl) hown2 _ _ hX.out _ rfl ?q1 ?q2 w (hbel.trans (hb2.mono hB)) ?_))
            case q1 => omega
            case q2 => exact Nat.le_trans hB hb2.size
            intro v' w1 hown' hbel'
            clear hown hbel hB
            go_wp2
            go_roundw
            case rel => exact ⟨k + 3, f', _, by omega, by omega, by simp; omega, by go_num, hown', hbel', HD'⟩
            case measure => simp [intOf]; omega
          · have HR : Hid (Ending.returned (.tuple #[.string ⟨#[]⟩, .bool false]) = .returned (.tuple #[.string (decS s.data.toList), .bool (decB s.data.toList)])) := ret_none (by rw [HD.out]; exact decF_bad (by rw [len_list]; omega) hc37 (by omega))
            have hpl : pct s.data.toList k < 0 := by omega
            clear HD e0 hc37 hown
            have hc' : ((s[k].toNat : Int) != 37) = false := by simpa using hc
            go_wp2_with (go_at_call 53; refine (isPercentAt_no s k _ hTr hs hlt (by omega)).mono ?_; rintro e w' ⟨rfl, rfl⟩)
            go_ret2
            exact ⟨HR.out, hbel⟩
        · have hc37 : ((s.data.toList[k]?.getD 0).toNat : Int) ≠ 37 := by rw [e0]; exact hc
          have HD' : Hid (decO s.data.toList = decF s.data.toList f' (k + 1) (acc ++ [s[k]])) := by
            show _ = _; rw [HD.out, decF_plain (by rw [len_list]; omega) hc37, e0]
          clear HD e0 hc37
          have hc' : ((s[k].toNat : Int) != 37) = true := by simpa using hc
          go_wp2_with (at_builtin; refine wpList_append_one _ rfl _ _ rfl w.heap.size _ acc (by rfl) hown _ s[k] rfl _ rfl ?q3 ?q4 w hbel ?_)
          case q3 => omega
          case q4 => exact hB
          intro v' w1 hown' hbel'
          clear hown hbel hB
          go_wp2
          go_roundw
          case rel => exact ⟨k + 1, f', _, by omega, by omega, by simp; omega, by go_num, hown', hbel', HD'⟩
          case measure => simp [intOf]; omega
      · have hcv := run_text _ _ _ _ hown
        have HR : Hid (Ending.returned (.tuple #[.string ⟨acc.toArray⟩, .bool true]) = .returned (.tuple #[.string (decS s.data.toList), .bool (decB s.data.toList)])) := ret_some (by rw [HD.out]; exact decF_end (by rw [len_list]; omega))
        clear hown
        go_wp2
        go_ret2
        exact ⟨HR.out, hbel⟩

end Go.Proofs.YtlgjgdpalflmfaaDoor.Dec
