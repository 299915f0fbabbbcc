/-
  Walks: percents as they should be: impl.normalPercents and spec.l1Plain tell the same.
-/
import Derived.Test.YtlgjgdpalflmfaaDoorPeq
namespace Go.Proofs.YtlgjgdpalflmfaaDoor.Pln
open Go.RowKit
open Go.Proofs.YtlgjgdpalflmfaaDoor.Byt
open Go.Proofs.YtlgjgdpalflmfaaDoor.Hex
open Go.Proofs.YtlgjgdpalflmfaaDoor.Enc
open Go.Proofs.YtlgjgdpalflmfaaDoor.Own
open Go.Proofs.YtlgjgdpalflmfaaDoor.Peq (app_list ext_one len_list)

/-- 'string([]byte{x})'. -/
theorem text_at (W : World) (b : Nat) (c : UInt8) (hc : W.cell? ⟨b, 0, none⟩ = some (.int .u8 (c.toNat : Int))) : (convert 22 9 (.slice (some ⟨b, 0, none⟩) 1 1)).run Tryd.prog W = .ok (.string ⟨#[c]⟩) W := by
  refine run_convert_bytes_back _ 22 9 5 ⟨b, 0, none⟩ 1 [c] Tryd.underlying22 Tryd.underlying5 Tryd.underlying9 (fun j hj => ?_)
  have h0 : j = 0 := by simpa using hj
  subst h0
  rw [Addr.add_lit]
  exact hc
theorem text_one (w : World) (c : UInt8) (x : Int) (hx : x = (c.toNat : Int)) : (convert 22 9 (.slice (some ⟨w.heap.size, 0, none⟩) 1 1)).run Tryd.prog (w.alloc (.cells #[.int .u8 x] 5)) = .ok (.string ⟨#[c]⟩) (w.alloc (.cells #[.int .u8 x] 5)) := by
  subst hx
  exact text_at _ _ c (by rw [World.cell?_alloc_mark]; rfl)
theorem text_drew (w : World) (c : UInt8) (x : Int) (hx : x = (c.toNat : Int)) : (convert 22 9 (.slice (some ⟨w.heap.size, 0, none⟩) 1 1)).run Tryd.prog (w.alloc (.cells #[.int .u8 x] 5)).drew = .ok (.string ⟨#[c]⟩) (w.alloc (.cells #[.int .u8 x] 5)).drew := by
  subst hx
  exact text_at _ _ c (by show (w.alloc _).cell? _ = _; rw [World.cell?_alloc_mark]; rfl)

def plnF (l : List UInt8) : Nat → Nat → List UInt8 → List UInt8
  | 0, _, acc => acc
  | f + 1, k, acc => if k < l.length then (if pct l k < 0 then plnF l f (k + 1) (acc ++ [l[k]?.getD 0]) else plnF l f (k + 3) (acc ++ encB (UInt8.ofNat (pct l k).toNat))) else acc

theorem plnF_end {l : List UInt8} {f k : Nat} {acc : List UInt8} (h : l.length ≤ k) : plnF l f k acc = acc := by
  cases f with
  | zero => rfl
  | succ f => simp only [plnF]; rw [if_neg (by omega)]
theorem plnF_one {l : List UInt8} {f k : Nat} {acc : List UInt8} (h : k < l.length) (hp : pct l k < 0) : plnF l (f + 1) k acc = plnF l f (k + 1) (acc ++ [l[k]?.getD 0]) := by
  simp only [plnF]; rw [if_pos h, if_pos hp]
theorem plnF_pct {l : List UInt8} {f k : Nat} {acc : List UInt8} (h : k < l.length) (hp : 0 ≤ pct l k) : plnF l (f + 1) k acc = plnF l f (k + 3) (acc ++ encB (UInt8.ofNat (pct l k).toNat)) := by
  simp only [plnF]; rw [if_pos h, if_neg (by omega)]

/-- A text with its percents as they should be. -/
def pln (l : List UInt8) : List UInt8 := plnF l l.length 0 []
def plnB (s : ByteArray) : ByteArray := ⟨(pln s.data.toList).toArray⟩

theorem plnF_len (l : List UInt8) : ∀ (f k : Nat) (acc : List UInt8), k ≤ l.length → acc.length ≤ k → (plnF l f k acc).length ≤ l.length
  | 0, k, acc, h1, h2 => Nat.le_trans h2 h1
  | f + 1, k, acc, h1, h2 => by
    by_cases h : k < l.length
    · by_cases hp : pct l k < 0
      · rw [plnF_one h hp]; exact plnF_len l f (k + 1) _ h (by simp; omega)
      · have hf := (pct_facts (l := l) (k := k) (by omega)).1
        have := encB_len (UInt8.ofNat (pct l k).toNat)
        rw [plnF_pct h (by omega)]; exact plnF_len l f (k + 3) _ (by omega) (by rw [List.length_append]; omega)
    · rw [plnF_end (by omega)]; omega
theorem plnB_size (s : ByteArray) : (plnB s).size ≤ s.size := by
  have := plnF_len s.data.toList s.data.toList.length 0 [] (Nat.zero_le _) (Nat.le_refl _)
  rw [len_list] at this
  show (pln s.data.toList).toArray.size ≤ s.size
  rw [List.size_toArray]
  exact this

theorem pct_byte (l : List UInt8) (k : Nat) (hp : 0 ≤ pct l k) : pct l k = ((UInt8.ofNat (pct l k).toNat).toNat : Int) := by
  have := pct_hi l k
  rw [UInt8.toNat_ofNat']; omega

set_option maxRecDepth 20000 in
set_option maxHeartbeats 1600000 in
theorem implPln_any (s : ByteArray) (w : World) (hT : Tab w) (hs : s.size ≤ 2000000) :
    Calls Tryd.prog 58 #[.string s] w fun e w' => e = .returned (.string (plnB s)) ∧ Below w.heap.size w w' := by
  have hpos : 0 < w.heap.size := World.block_lt_of_cell? w _ (hT 0 (by omega))
  have HO : Hid (pln s.data.toList = plnF s.data.toList s.data.toList.length 0 []) := rfl
  go_enter Tryd.func58, Tryd.ntmps58
  go_wp2
  go_loopw [3, 4] (fun v i wr => ∃ (k f : Nat) (acc : List UInt8), k ≤ s.size ∧ s.size ≤ k + f ∧ acc.length ≤ k ∧ i = .int .i64 k ∧ bytesIn wr w.heap.size v acc ∧ Below w.heap.size w wr ∧ Hid (pln s.data.toList = plnF s.data.toList f k acc))
    (fun _ i _ => s.size - (intOf i).toNat)
  case atStart => exact ⟨0, s.data.toList.length, [], by omega, by rw [len_list]; omega, by simp, rfl, World.ownsRow_made w #[] 0 (Nat.le_refl _) (by decide) rfl, (Below.refl _ _).alloc (Nat.le_refl _) _, HO⟩
  case round =>
    obtain ⟨k, f, acc, hk, hf, hacc, rfl, hown, hbel, HD⟩ := hrel
    clear HO
    have hTr : Tab wr := hT.below hbel hpos
    have hB := hbel.size
    by_cases hlt : k < s.size
    · have e0 := at_list s k hlt
      obtain ⟨f', rfl⟩ : ∃ f', f = f' + 1 := ⟨f - 1, by omega⟩
      by_cases hp : 0 ≤ pct s.data.toList k
      · have hf3 := (pct_facts hp).1
        rw [len_list] at hf3
        have hp2 := pct_hi s.data.toList k
        obtain ⟨b, hb⟩ : ∃ b, b = UInt8.ofNat (pct s.data.toList k).toNat := ⟨_, rfl⟩
        have hX := pct_byte s.data.toList k hp
        rw [← hb] at hX
        have HX : Hid (pct s.data.toList k = (b.toNat : Int)) := hX
        have hbd := byte_bd b
        have C := fun w => byteOfPercent_bel s k w hs hp
        rw [hX] at C
        by_cases hfree : freeB (b.toNat : Int) = true
        · have HD' : Hid (pln s.data.toList = plnF s.data.toList f' (k + 3) (acc ++ [b])) := by
            show _ = _; rw [HD.out, plnF_pct (by rw [len_list]; omega) hp, ← hb]; unfold encB; rw [if_pos hfree]
          clear HD e0 hb hX
          go_wp2_with (first
            | (go_at_call 53; refine (isPercentAt_yes s k _ hTr hs hp).mono ?_; rintro e w' ⟨rfl, hw⟩; obtain rfl := hw.symm)
            | (go_at_call 54; refine (C _).mono ?_; rintro e w2 ⟨rfl, hb2⟩; have hown2 := hown.below hb2)
            | (go_at_call 49; refine (isFree_any _ _ (hTr.below hb2 (Nat.lt_of_lt_of_le hpos hB)) hbd.1 hbd.2).mono ?_; rintro e w' ⟨rfl, hw⟩; obtain rfl := hw.symm)
            | (at_builtin; refine wpList_append_one w2 rfl _ _ rfl w.heap.size _ acc (by rfl) hown2 (b.toNat : Int) b rfl _ rfl ?q1 ?q2 w (hbel.trans (hb2.mono hB)) ?_))
          case q1 => omega
          case q2 => exact Nat.le_trans hB hb2.size
          intro v' w1 hown' hbel'
          clear hown hbel hB
          go_wp2
          go_roundw
          case rel => exact ⟨k + 3, f', _, by omega, by omega, by simp; omega, by go_num, hown', hbel', HD'⟩
          case measure => simp [intOf]; omega
        · have hfree' : freeB (b.toNat : Int) = false := by simpa using hfree
          have HD' : Hid (pln s.data.toList = plnF s.data.toList f' (k + 3) (acc ++ pc b)) := by
            show _ = _; rw [HD.out, plnF_pct (by rw [len_list]; omega) hp, ← hb]; unfold encB; rw [if_neg hfree]
          clear HD e0 hb hX hfree
          go_wp2_with (first
            | (go_at_call 53; refine (isPercentAt_yes s k _ hTr hs hp).mono ?_; rintro e w' ⟨rfl, hw⟩; obtain rfl := hw.symm)
            | (go_at_call 54; refine (C _).mono ?_; rintro e w2 ⟨rfl, hb2⟩; have hown2 := hown.below hb2)
            | (go_at_call 49; refine (isFree_any _ _ (hTr.below hb2 (Nat.lt_of_lt_of_le hpos hB)) hbd.1 hbd.2).mono ?_; rintro e w' ⟨rfl, hw⟩; obtain rfl := hw.symm)
            | (go_at_call 50; refine (appendPercent_any w.heap.size _ _ _ _ hown2 (Nat.le_trans hB hb2.size) (by omega)).mono ?_; rintro e w3 ⟨v3, rfl, hown3, hb3⟩))
          go_roundw
          case rel => exact ⟨k + 3, f', _, by omega, by omega, by rw [List.length_append]; show _ + 3 ≤ _; omega, by go_num, hown3, (hbel.trans (hb2.mono hB)).trans hb3, HD'⟩
          case measure => simp [intOf]; omega
      · have hpn : pct s.data.toList k < 0 := by omega
        have HD' : Hid (pln s.data.toList = plnF s.data.toList f' (k + 1) (acc ++ [s[k]])) := by
          show _ = _; rw [HD.out, plnF_one (by rw [len_list]; omega) hpn, e0]
        clear HD e0 hp
        go_wp2_with (first
          | (go_at_call 53; refine (isPercentAt_no s k _ hTr hs hlt hpn).mono ?_; rintro e w' ⟨rfl, hw⟩; obtain rfl := hw.symm)
          | (at_builtin; refine wpList_append_one _ rfl _ _ rfl w.heap.size _ acc (by rfl) hown _ s[k] rfl _ rfl ?q3 ?q4 w hbel ?_))
        case q3 => omega
        case q4 => exact hB
        intro v' w1 hown' hbel'
        clear hown hbel hB
        go_wp2
        go_roundw
        case rel => exact ⟨k + 1, f', _, by omega, by omega, by simp; omega, by go_num, hown', hbel', HD'⟩
        case measure => simp [intOf]; omega
    · have hcv := run_text _ _ _ _ hown
      have HR : Hid ((⟨acc.toArray⟩ : ByteArray) = plnB s) := by show _ = _; unfold plnB; rw [HD.out, plnF_end (by rw [len_list]; omega)]
      clear hown HD
      go_wp2
      go_ret
      exact ⟨ret_str HR.out, hbel⟩

set_option maxRecDepth 20000 in
set_option maxHeartbeats 1600000 in
theorem specPln_any (s : ByteArray) (w : World) (hs : s.size ≤ 2000000) :
    Calls Tryd.prog 85 #[.string s] w fun e w' => e = .returned (.string (plnB s)) ∧ Below w.heap.size w w' := by
  have HO : Hid (pln s.data.toList = plnF s.data.toList s.data.toList.length 0 []) := rfl
  go_enter Tryd.func85, Tryd.ntmps85
  go_wp2
  go_loopw [3, 4] (fun v i wr => ∃ (k f : Nat) (acc : List UInt8) (A : ByteArray), k ≤ s.size ∧ s.size ≤ k + f ∧ acc.length ≤ k ∧ i = .int .i64 k ∧ v = .string A ∧ A.size ≤ k ∧ Hid (A = ⟨acc.toArray⟩) ∧ Below w.heap.size w wr ∧ Hid (pln s.data.toList = plnF s.data.toList f k acc))
    (fun _ i _ => s.size - (intOf i).toNat)
  case atStart => exact ⟨0, s.data.toList.length, [], ⟨#[]⟩, by omega, by rw [len_list]; omega, by simp, rfl, rfl, by decide, rfl, Below.refl _ _, HO⟩
  case round =>
    obtain ⟨k, f, acc, A, hk, hf, hacc, rfl, rfl, hA, HA, hbel, HD⟩ := hrel
    clear HO
    have hB := hbel.size
    by_cases hlt : k < s.size
    · have e0 := at_list s k hlt
      obtain ⟨f', rfl⟩ : ∃ f', f = f' + 1 := ⟨f - 1, by omega⟩
      by_cases hp : 0 ≤ pct s.data.toList k
      · have hf3 := (pct_facts hp).1
        rw [len_list] at hf3
        have hp2 := pct_hi s.data.toList k
        obtain ⟨b, hb⟩ : ∃ b, b = UInt8.ofNat (pct s.data.toList k).toNat := ⟨_, rfl⟩
        have hX := pct_byte s.data.toList k hp
        rw [← hb] at hX
        have hbd := byte_bd b
        have C := fun w => l1Byte_any s k w hs hlt
        rw [hX] at C
        by_cases hfree : freeB (b.toNat : Int) = true
        · have HD' : Hid (pln s.data.toList = plnF s.data.toList f' (k + 3) (acc ++ [b])) := by
            show _ = _; rw [HD.out, plnF_pct (by rw [len_list]; omega) hp, ← hb]; unfold encB; rw [if_pos hfree]
          have HA' : Hid (A ++ ⟨#[b]⟩ = ⟨(acc ++ [b]).toArray⟩) := by show _ = _; rw [HA.out]; exact app_list acc [b]
          have hx := fun wx => text_one wx b (b.toNat : Int) rfl
          have HZ : Hid ((A ++ ⟨#[b]⟩).size ≤ k + 3) := by show _ ≤ _; rw [ByteArray.size_append]; show A.size + 1 ≤ _; omega
          have hsum : ¬ 9223372036854775807 < A.size + (⟨#[b]⟩ : ByteArray).size := by show ¬ 9223372036854775807 < A.size + 1; omega
          clear HD e0 hb hX hp hp2 HA
          go_wp2_with (first
            | (go_at_call 70; refine (C _).mono ?_; rintro e w' ⟨rfl, hw⟩; obtain rfl := hw.symm)
            | (go_at_call 51; refine (l1Free_any _ _ hbd.1 hbd.2).mono ?_; rintro e w' ⟨rfl, hw⟩; obtain rfl := hw.symm))
          go_roundw
          case rel => exact ⟨k + 3, f', _, _, by omega, by omega, by simp; omega, by go_num, rfl, HZ.out, HA', hbel.alloc hB _, HD'⟩
          case measure => simp [intOf]; omega
        · have hfree' : freeB (b.toNat : Int) = false := by simpa using hfree
          have HD' : Hid (pln s.data.toList = plnF s.data.toList f' (k + 3) (acc ++ pc b)) := by
            show _ = _; rw [HD.out, plnF_pct (by rw [len_list]; omega) hp, ← hb]; unfold encB; rw [if_neg hfree]
          obtain ⟨T, hT⟩ : ∃ T : ByteArray, T = ⟨(pc b).toArray⟩ := ⟨_, rfl⟩
          have hT3 : T.size = 3 := by rw [hT]; rfl
          have HA' : Hid (A ++ T = ⟨(acc ++ pc b).toArray⟩) := by show _ = _; rw [HA.out, hT]; exact app_list acc (pc b)
          have P := fun w => l1Percent_any b w
          rw [← hT] at P
          have HP : Hid _ := P
          have HZ : Hid ((A ++ T).size ≤ k + 3) := by show _ ≤ _; rw [ByteArray.size_append]; omega
          have hsum : A.size + T.size ≤ 9223372036854775807 := by omega
          clear HD e0 hb hX hp hp2 HA hT P hT3
          go_wp2_with (first
            | (go_at_call 70; refine (C _).mono ?_; rintro e w' ⟨rfl, hw⟩; obtain rfl := hw.symm)
            | (go_at_call 51; refine (l1Free_any _ _ hbd.1 hbd.2).mono ?_; rintro e w' ⟨rfl, hw⟩; obtain rfl := hw.symm)
            | (go_at_call 52; refine (HP.out _).mono ?_; rintro e w2 ⟨rfl, hb2⟩))
          go_roundw
          case rel => exact ⟨k + 3, f', _, _, by omega, by omega, by rw [List.length_append]; show _ + 3 ≤ _; omega, by go_num, rfl, HZ.out, HA', hbel.trans (hb2.mono hB), HD'⟩
          case measure => simp [intOf]; omega
      · have hpn : pct s.data.toList k < 0 := by omega
        have HD' : Hid (pln s.data.toList = plnF s.data.toList f' (k + 1) (acc ++ [s[k]])) := by
          show _ = _; rw [HD.out, plnF_one (by rw [len_list]; omega) hpn, e0]
        have hz : (s.extract k (k + 1)).size = 1 := by rw [ext_one s k hlt]; rfl
        have HA' : Hid (A ++ s.extract k (k + 1) = ⟨(acc ++ [s[k]]).toArray⟩) := by show _ = _; rw [HA.out, ext_one s k hlt]; exact app_list acc [s[k]]
        have HZ : Hid ((A ++ s.extract k (k + 1)).size ≤ k + 1) := by show _ ≤ _; rw [ByteArray.size_append, hz]; omega
        have hsum : A.size + (s.extract k (k + 1)).size ≤ 9223372036854775807 := by omega
        clear HD e0 hp HA hz
        go_wp2_with (go_at_call 70; refine (l1Byte_any s k _ hs hlt).mono ?_; rintro e w' ⟨rfl, hw⟩; obtain rfl := hw.symm)
        go_roundw
        case rel => exact ⟨k + 1, f', _, _, by omega, by omega, by simp; omega, by go_num, rfl, HZ.out, HA', hbel, HD'⟩
        case measure => simp [intOf]; omega
    · have HR : Hid (A = plnB s) := by show _ = _; unfold plnB; rw [HA.out, HD.out, plnF_end (by rw [len_list]; omega)]
      clear HD HA
      go_wp2
      go_ret
      exact ⟨ret_str HR.out, hbel⟩

end Go.Proofs.YtlgjgdpalflmfaaDoor.Pln
