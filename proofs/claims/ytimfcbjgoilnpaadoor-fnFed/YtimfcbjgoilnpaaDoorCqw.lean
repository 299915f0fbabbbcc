/-
  Walk: spec.l5Chunks, ReadChunks.
-/
import Derived.Test.YtimfcbjgoilnpaaDoorCqs
namespace Go.Proofs.YtimfcbjgoilnpaaDoor.Cqs
open Go.RowKit
open Go.Proofs.YtimfcbjgoilnpaaDoor.Byt
open Go.Proofs.YtimfcbjgoilnpaaDoor.Hex
open Go.Proofs.YtimfcbjgoilnpaaDoor.Hxn
open Go.Proofs.YtimfcbjgoilnpaaDoor.Chp
open Go.Proofs.YtimfcbjgoilnpaaDoor.Exq
open Go.Proofs.YtimfcbjgoilnpaaDoor.Rkb (rcL rcV rcV_is len_eq ret3)

theorem drop_len (s : ByteArray) (k : Nat) : (s.data.toList.drop k).length = s.size - k := by rw [List.length_drop, len_eq]
theorem drop_ne {s : ByteArray} {k : Nat} (h : k < s.size) : s.data.toList.drop k ≠ [] := by
  intro e
  have := drop_len s k
  rw [e] at this
  simp at this
  omega
theorem drop_nil {s : ByteArray} {k : Nat} (h : s.size ≤ k) : s.data.toList.drop k = [] := List.drop_eq_nil_of_le (by rw [len_eq]; exact h)

/-- The state between two chunks. -/
def Cst (s : ByteArray) (k p : Nat) (B : ByteArray) : Prop := ∃ f, s.size - k < f ∧ rcL s = chunksL f (s.data.toList.drop k) B.data.toList k p

theorem cst_begin (s : ByteArray) : Cst s 0 0 ⟨#[]⟩ := ⟨s.size + 1, by omega, rfl⟩
theorem cst_none {s : ByteArray} {k p : Nat} {B : ByteArray} (h : Cst s k p B) (hs : scanE (s.data.toList.drop k) 0 = none) : rcL s = ([], 0, 2) := by
  obtain ⟨f, hf, e⟩ := h
  obtain ⟨g, rfl⟩ : ∃ g, f = g + 1 := ⟨f - 1, by omega⟩
  rw [e, cs_none hs]
theorem cst_bad {s : ByteArray} {k p j : Nat} {B : ByteArray} (h : Cst s k p B) (hs : scanE (s.data.toList.drop k) 0 = some j) (hb : 4 < j ∨ (j = 0 ∧ k < s.size)) : rcL s = ([], 0, 2) := by
  obtain ⟨f, hf, e⟩ := h
  obtain ⟨g, rfl⟩ : ∃ g, f = g + 1 := ⟨f - 1, by omega⟩
  rw [e, cs_bad hs (hb.imp id fun x => ⟨x.1, drop_ne x.2⟩)]
theorem cst_great {s : ByteArray} {k p j : Nat} {B : ByteArray} (h : Cst s k p B) (hs : scanE (s.data.toList.drop k) 0 = some j) (hb : ¬ (4 < j ∨ (j = 0 ∧ k < s.size))) (hl : k + j < s.size) (hg : 300 < B.size + hxL ((s.data.toList.drop k).take j) ∨ (0 < hxL ((s.data.toList.drop k).take j) ∧ p = 60)) : rcL s = ([], 0, 2) := by
  obtain ⟨f, hf, e⟩ := h
  obtain ⟨g, rfl⟩ : ∃ g, f = g + 1 := ⟨f - 1, by omega⟩
  rw [e, cs_great hs (by omega) (by rw [drop_len]; omega) (by rw [len_eq]; exact hg)]
theorem cst_exp {s : ByteArray} {k p j : Nat} {B : ByteArray} {c : Int} (h : Cst s k p B) (hs : scanE (s.data.toList.drop k) 0 = some j) (hb : ¬ (4 < j ∨ (j = 0 ∧ k < s.size))) (hg : ¬ (k + j < s.size ∧ (300 < B.size + hxL ((s.data.toList.drop k).take j) ∨ (0 < hxL ((s.data.toList.drop k).take j) ∧ p = 60)))) (hc : expC (s.data.toList.drop (k + j)) = c) (h0 : c ≠ 0) : rcL s = ([], 0, c) := by
  obtain ⟨f, hf, e⟩ := h
  obtain ⟨g, rfl⟩ : ∃ g, f = g + 1 := ⟨f - 1, by omega⟩
  have hb' : ¬ (4 < j ∨ (j = 0 ∧ s.data.toList.drop k ≠ [])) := by
    rintro (h | ⟨h, h'⟩)
    · omega
    · exact h' (drop_nil (by omega))
  rw [e, cs_exp hs hb' (by rw [drop_len, len_eq]; omega) (by rw [List.drop_drop]; exact hc) h0]
theorem cst_go {s : ByteArray} {k p j n : Nat} {B : ByteArray} (h : Cst s k p B) (hs : scanE (s.data.toList.drop k) 0 = some j) (hb : ¬ (4 < j ∨ (j = 0 ∧ k < s.size))) (hn : hxL ((s.data.toList.drop k).take j) = n) (hg : ¬ (k + j < s.size ∧ (300 < B.size + n ∨ (0 < n ∧ p = 60)))) (hc : expC (s.data.toList.drop (k + j)) = 0) :
    (s.size - (k + j + 2) < n → rcL s = ([], 0, 1)) ∧ (n ≤ s.size - (k + j + 2) → (∀ c, expC (s.data.toList.drop (k + j + 2 + n)) = c → c ≠ 0 → rcL s = ([], 0, c)) ∧ (expC (s.data.toList.drop (k + j + 2 + n)) = 0 → (n = 0 → rcL s = (B.data.toList, k + j + 4, 0)) ∧ (n ≠ 0 → Cst s (k + j + 2 + n + 2) (p + 1) (B ++ s.extract (k + j + 2) (k + j + 2 + n))))) := by
  obtain ⟨f, hf, e⟩ := h
  obtain ⟨g, rfl⟩ : ∃ g, f = g + 1 := ⟨f - 1, by omega⟩
  have hb' : ¬ (4 < j ∨ (j = 0 ∧ s.data.toList.drop k ≠ [])) := by
    rintro (h | ⟨h, h'⟩)
    · omega
    · exact h' (drop_nil (by omega))
  have hg2 : ¬ (j < (s.data.toList.drop k).length ∧ (300 < B.data.toList.length + hxL ((s.data.toList.drop k).take j) ∨ (0 < hxL ((s.data.toList.drop k).take j) ∧ p = 60))) := by rw [drop_len, len_eq, hn]; omega
  have hd2 : (s.data.toList.drop k).drop (j + 2) = s.data.toList.drop (k + j + 2) := by rw [List.drop_drop, Nat.add_assoc]
  have hd3 : ∀ i, (s.data.toList.drop (k + j + 2)).drop i = s.data.toList.drop (k + j + 2 + i) := fun i => by rw [List.drop_drop]
  rw [cs_go hs hb' hg2 (by rw [List.drop_drop]; exact hc), hn, hd2, hd3, hd3, drop_len] at e
  refine ⟨fun hx => by rw [e, if_pos hx], fun hx => ⟨fun c hc2 h0 => ?_, fun hc2 => ⟨fun h0 => ?_, fun h0 => ?_⟩⟩⟩
  · rw [e, if_neg (by omega), hc2, if_pos h0]
  · rw [e, if_neg (by omega), hc2, if_neg (by omega), if_pos h0]
  · rw [if_neg (by omega), hc2, if_neg (by omega), if_neg h0] at e
    refine ⟨g, by omega, ?_⟩
    have hB : (B ++ s.extract (k + j + 2) (k + j + 2 + n)).data.toList = B.data.toList ++ (s.data.toList.drop (k + j + 2)).take n := by
      rw [← ext_take]; simp
    rw [e, hB, show k + j + 4 + n = k + j + 2 + n + 2 by omega, show k + j + 2 + (n + 2) = k + j + 2 + n + 2 by omega]

set_option maxRecDepth 20000 in
set_option maxHeartbeats 6400000 in
theorem l5Chunks_any (s : ByteArray) (w : World) (hs : s.size ≤ 1900000) :
    Calls Tryd.prog 38 #[.string s] w fun e w' => e = .returned (rcV s) ∧ Below w.heap.size w w' := by
  go_enter Tryd.func38, Tryd.ntmps38
  go_wp2_with fail
  go_loopw [5, 6, 7] (fun a b c wr => ∃ (k p : Nat) (B : ByteArray), k ≤ s.size ∧ p ≤ 60 ∧ B.size ≤ 300 ∧ a = .string B ∧ b = .int .i64 k ∧ c = .int .i64 p ∧ Below w.heap.size w wr ∧ Hid (Cst s k p B)) (fun _ b _ _ => s.size - (intOf b).toNat)
  case atStart => exact ⟨0, 0, ⟨#[]⟩, by omega, by omega, by decide, rfl, rfl, rfl, Below.refl _ _, cst_begin s⟩
  case round =>
    obtain ⟨k, p, B, hk, hp, hB, rfl, rfl, rfl, hbel, HC⟩ := hrel
    have Hb : Hid (Below w.heap.size w wr) := hbel
    clear hbel
    go_wp2_with fail
    go_loop [8] (fun i => ∃ e : Nat, k ≤ e ∧ e ≤ s.size ∧ e - k ≤ 5 ∧ i = .int .i64 e ∧ Hid (scanE (s.data.toList.drop k) 0 = scanE (s.data.toList.drop e) (e - k))) (fun i => s.size - (intOf i).toNat)
    case atStart => exact ⟨k, by omega, hk, by omega, rfl, by rw [Nat.sub_self]; exact rfl⟩
    case round =>
      obtain ⟨e, hke, hes, h5, rfl, HS⟩ := hrel
      by_cases h1 : e < s.size
      · have hdc := drop_cons s e h1
        by_cases h2 : e - k < 5
        · by_cases h3 : s[e] = 13
          · have hq : ((s[e].toNat : Int) == 13) = true := by rw [h3]; rfl
            have hS : scanE (s.data.toList.drop k) 0 = some (e - k) := HS.out.trans (by rw [hdc, h3]; exact scan_13 _ _)
            by_cases hek : e = k
            · subst hek
              have HV : Hid (rcV s = _) := rcV_is (cst_bad HC.out hS (.inr ⟨by omega, h1⟩))
              clear hS hdc h3
              go_wp2_with fail
              go_ret3
              exact ⟨ret3 HV.out.symm, Hb.out⟩
            have h4 : e - k ≤ 4 := by omega
            have hbd := size_bd ((s.data.toList.drop k).take (e - k)) (by rw [List.length_take]; omega)
            have HL0 : ∀ wx, Calls Tryd.prog 50 #[.string (s.extract k (k + (e - k)))] wx fun e' w' => e' = .returned (.int .i64 (hxL ((s.data.toList.drop k).take (e - k)) : Nat)) ∧ w' = wx := by
              intro wx
              have := Hxs.l5Read_any (s.extract k (k + (e - k))) wx (by rw [ByteArray.size_extract]; omega)
              rwa [size_read s k (e - k) hS (by omega) (by omega) (by omega)] at this
            rw [show k + (e - k) = e by omega] at HL0
            have HG := fun hb hl hg => cst_great (j := e - k) HC.out hS hb hl hg
            have HX := fun hb hg (c : Int) hc h0 => cst_exp (j := e - k) (c := c) HC.out hS hb hg hc h0
            have HO := fun n hn hb hg hc => cst_go (j := e - k) (n := n) HC.out hS hb hn hg hc
            rw [show k + (e - k) = e by omega] at HG HX HO
            have HO' := fun hb hg hc => HO _ rfl hb hg hc
            generalize hxL ((s.data.toList.drop k).take (e - k)) = n at HL0 hbd HG HX HO'
            have HL : Hid _ := HL0
            have hnb : ¬ (4 < e - k ∨ (e - k = 0 ∧ k < s.size)) := by omega
            have f1 : decide (4 < (e : Int) - (k : Int)) = false := decide_eq_false (by omega)
            have f2 : ((e : Int) == (k : Int)) = false := by rw [beq_eq_false_iff_ne]; omega
            have f3 : (k : Int) < (e : Int) := by omega
            clear hS HL0 HO hdc h3
            by_cases hg1 : 300 < B.size + n
            · have f4 : decide (300 < (B.size : Int) + (n : Int)) = true := decide_eq_true (by omega)
              have HV : Hid (rcV s = _) := rcV_is (HG hnb h1 (.inl hg1))
              clear HG HX HO'
              go_wp2_with (first | (go_at_call 50; refine (HL.out _).mono ?_; rintro e' w1 ⟨rfl, hw⟩; obtain rfl := hw.symm))
              go_ret3
              exact ⟨ret3 HV.out.symm, Hb.out⟩
            have f4 : decide (300 < (B.size : Int) + (n : Int)) = false := decide_eq_false (by omega)
            by_cases hg2 : 0 < n ∧ p = 60
            · have HV : Hid (rcV s = _) := rcV_is (HG hnb h1 (.inr hg2))
              obtain ⟨hn0, rfl⟩ := hg2
              clear HG HX HO'
              go_wp2_with (first | (go_at_call 50; refine (HL.out _).mono ?_; rintro e' w1 ⟨rfl, hw⟩; obtain rfl := hw.symm))
              go_ret3
              exact ⟨ret3 HV.out.symm, Hb.out⟩
            have HE0 := fun wx => l5Expect_any s e wx (by omega) (by omega)
            have hsz := Hb.out.size
            rcases Rkb.expC_cases (s.data.toList.drop e) with hc | hc | hc
            · obtain ⟨hO1, hO2⟩ := HO' hnb (by omega) hc
              have hel : e + 2 ≤ s.size := by
                have := Chp.exp_len hc
                rw [drop_len] at this
                omega
              rw [hc] at HE0
              have HE : Hid _ := HE0
              clear HG HX HO' HE0 hc
              by_cases hn0 : n = 0
              · subst hn0
                have HF0 : ∀ wx, Calls Tryd.prog 59 #[.string s, .int .i64 ((e : Int) + 2)] wx fun e' w' => e' = .returned (.int .i64 (expC (s.data.toList.drop (e + 2)))) ∧ Below wx.heap.size wx w' := fun wx => by
                  have := l5Expect_any s (e + 2) wx (by omega) (by omega)
                  rwa [show ((e + 2 : Nat) : Int) = (e : Int) + 2 by omega] at this
                obtain ⟨hP1, hP2⟩ := hO2 (by omega)
                rw [Nat.add_zero] at hP1 hP2
                have hBB : B ++ s.extract (e + 2) (e + 2) = B := by
                  apply ByteArray.ext
                  simp
                rcases Rkb.expC_cases (s.data.toList.drop (e + 2)) with hc | hc | hc
                · have HV : Hid (rcV s = _) := rcV_is ((hP2 hc).1 rfl)
                  rw [hc] at HF0
                  have HF : Hid _ := HF0
                  clear hO1 hO2 hP1 hP2 hc HF0
                  go_wp2_with (first | (go_at_call 50; refine (HL.out _).mono ?_; rintro e' w1 ⟨rfl, hw⟩; obtain rfl := hw.symm) | (go_at_call 59; with_reducible refine (HE.out _).mono ?_; rintro e' w2 ⟨rfl, hb2⟩) | (go_at_call 59; with_reducible refine (HF.out _).mono ?_; rintro e' w3 ⟨rfl, hb3⟩))
                  go_ret3
                  refine ⟨?_, Hb.out.trans ((hb2.mono hsz).trans (hb3.mono (by have := hb2.size; omega)))⟩
                  rw [HV.out]
                  first
                    | rfl
                    | (congr 1; simp; omega)
                · have HV : Hid (rcV s = _) := rcV_is (hP1 1 hc (by decide))
                  rw [hc] at HF0
                  have HF : Hid _ := HF0
                  clear hO1 hO2 hP1 hP2 hc HF0
                  go_wp2_with (first | (go_at_call 50; refine (HL.out _).mono ?_; rintro e' w1 ⟨rfl, hw⟩; obtain rfl := hw.symm) | (go_at_call 59; with_reducible refine (HE.out _).mono ?_; rintro e' w2 ⟨rfl, hb2⟩) | (go_at_call 59; with_reducible refine (HF.out _).mono ?_; rintro e' w3 ⟨rfl, hb3⟩))
                  go_ret3
                  exact ⟨ret3 HV.out.symm, Hb.out.trans ((hb2.mono hsz).trans (hb3.mono (by have := hb2.size; omega)))⟩
                · have HV : Hid (rcV s = _) := rcV_is (hP1 2 hc (by decide))
                  rw [hc] at HF0
                  have HF : Hid _ := HF0
                  clear hO1 hO2 hP1 hP2 hc HF0
                  go_wp2_with (first | (go_at_call 50; refine (HL.out _).mono ?_; rintro e' w1 ⟨rfl, hw⟩; obtain rfl := hw.symm) | (go_at_call 59; with_reducible refine (HE.out _).mono ?_; rintro e' w2 ⟨rfl, hb2⟩) | (go_at_call 59; with_reducible refine (HF.out _).mono ?_; rintro e' w3 ⟨rfl, hb3⟩))
                  go_ret3
                  exact ⟨ret3 HV.out.symm, Hb.out.trans ((hb2.mono hsz).trans (hb3.mono (by have := hb2.size; omega)))⟩
              · have hp60 : ((p : Int) == 60) = false := by rw [beq_eq_false_iff_ne]; omega
                have f5 : 0 < (n : Int) := by omega
                by_cases hlen : s.size - (e + 2) < n
                · have HV : Hid (rcV s = _) := rcV_is (hO1 hlen)
                  clear hO1 hO2
                  go_wp2_with (first | (go_at_call 50; refine (HL.out _).mono ?_; rintro e' w1 ⟨rfl, hw⟩; obtain rfl := hw.symm) | (go_at_call 59; with_reducible refine (HE.out _).mono ?_; rintro e' w2 ⟨rfl, hb2⟩))
                  go_ret3
                  exact ⟨ret3 HV.out.symm, Hb.out.trans (hb2.mono hsz)⟩
                · have HF0 : ∀ wx, Calls Tryd.prog 59 #[.string s, .int .i64 ((e : Int) + 2 + (n : Int))] wx fun e' w' => e' = .returned (.int .i64 (expC (s.data.toList.drop (e + 2 + n)))) ∧ Below wx.heap.size wx w' := fun wx => by
                    have := l5Expect_any s (e + 2 + n) wx (by omega) (by omega)
                    rwa [show ((e + 2 + n : Nat) : Int) = (e : Int) + 2 + (n : Int) by omega] at this
                  obtain ⟨hP1, hP2⟩ := hO2 (by omega)
                  have hX : (s.extract (e + 2) (e + 2 + n)).size = n := by rw [ByteArray.size_extract]; omega
                  rcases Rkb.expC_cases (s.data.toList.drop (e + 2 + n)) with hc | hc | hc
                  · have HC' : Hid (Cst s (e + 2 + n + 2) (p + 1) (B ++ s.extract (e + 2) (e + 2 + n))) := (hP2 hc).2 hn0
                    have hfin : e + 2 + n + 2 ≤ s.size := by
                      have := Chp.exp_len hc
                      rw [drop_len] at this
                      omega
                    rw [hc] at HF0
                    have HF : Hid _ := HF0
                    clear hO1 hO2 hP1 hP2 hc HF0
                    go_wp2_with (first | (go_at_call 50; refine (HL.out _).mono ?_; rintro e' w1 ⟨rfl, hw⟩; obtain rfl := hw.symm) | (go_at_call 59; with_reducible refine (HE.out _).mono ?_; rintro e' w2 ⟨rfl, hb2⟩) | (go_at_call 59; with_reducible refine (HF.out _).mono ?_; rintro e' w3 ⟨rfl, hb3⟩))
                    go_roundw
                    case rel => exact ⟨e + 2 + n + 2, p + 1, _, hfin, by omega, by rw [ByteArray.size_append, hX]; omega, rfl, by go_num, by go_num, Hb.out.trans ((hb2.mono hsz).trans (hb3.mono (by have := hb2.size; omega))), HC'⟩
                    case measure => simp [intOf]; omega
                  · have HV : Hid (rcV s = _) := rcV_is (hP1 1 hc (by decide))
                    rw [hc] at HF0
                    have HF : Hid _ := HF0
                    clear hO1 hO2 hP1 hP2 hc HF0
                    go_wp2_with (first | (go_at_call 50; refine (HL.out _).mono ?_; rintro e' w1 ⟨rfl, hw⟩; obtain rfl := hw.symm) | (go_at_call 59; with_reducible refine (HE.out _).mono ?_; rintro e' w2 ⟨rfl, hb2⟩) | (go_at_call 59; with_reducible refine (HF.out _).mono ?_; rintro e' w3 ⟨rfl, hb3⟩))
                    go_ret3
                    exact ⟨ret3 HV.out.symm, Hb.out.trans ((hb2.mono hsz).trans (hb3.mono (by have := hb2.size; omega)))⟩
                  · have HV : Hid (rcV s = _) := rcV_is (hP1 2 hc (by decide))
                    rw [hc] at HF0
                    have HF : Hid _ := HF0
                    clear hO1 hO2 hP1 hP2 hc HF0
                    go_wp2_with (first | (go_at_call 50; refine (HL.out _).mono ?_; rintro e' w1 ⟨rfl, hw⟩; obtain rfl := hw.symm) | (go_at_call 59; with_reducible refine (HE.out _).mono ?_; rintro e' w2 ⟨rfl, hb2⟩) | (go_at_call 59; with_reducible refine (HF.out _).mono ?_; rintro e' w3 ⟨rfl, hb3⟩))
                    go_ret3
                    exact ⟨ret3 HV.out.symm, Hb.out.trans ((hb2.mono hsz).trans (hb3.mono (by have := hb2.size; omega)))⟩
            · have HV : Hid (rcV s = _) := rcV_is (HX hnb (by omega) 1 hc (by decide))
              rw [hc] at HE0
              have HE : Hid _ := HE0
              clear HG HX HO' HE0 hc
              by_cases hn0 : n = 0
              · subst hn0
                go_wp2_with (first | (go_at_call 50; refine (HL.out _).mono ?_; rintro e' w1 ⟨rfl, hw⟩; obtain rfl := hw.symm) | (go_at_call 59; with_reducible refine (HE.out _).mono ?_; rintro e' w2 ⟨rfl, hb2⟩))
                go_ret3
                exact ⟨ret3 HV.out.symm, Hb.out.trans (hb2.mono hsz)⟩
              · have hp60 : ((p : Int) == 60) = false := by rw [beq_eq_false_iff_ne]; omega
                have f5 : 0 < (n : Int) := by omega
                go_wp2_with (first | (go_at_call 50; refine (HL.out _).mono ?_; rintro e' w1 ⟨rfl, hw⟩; obtain rfl := hw.symm) | (go_at_call 59; with_reducible refine (HE.out _).mono ?_; rintro e' w2 ⟨rfl, hb2⟩))
                go_ret3
                exact ⟨ret3 HV.out.symm, Hb.out.trans (hb2.mono hsz)⟩
            · have HV : Hid (rcV s = _) := rcV_is (HX hnb (by omega) 2 hc (by decide))
              rw [hc] at HE0
              have HE : Hid _ := HE0
              clear HG HX HO' HE0 hc
              by_cases hn0 : n = 0
              · subst hn0
                go_wp2_with (first | (go_at_call 50; refine (HL.out _).mono ?_; rintro e' w1 ⟨rfl, hw⟩; obtain rfl := hw.symm) | (go_at_call 59; with_reducible refine (HE.out _).mono ?_; rintro e' w2 ⟨rfl, hb2⟩))
                go_ret3
                exact ⟨ret3 HV.out.symm, Hb.out.trans (hb2.mono hsz)⟩
              · have hp60 : ((p : Int) == 60) = false := by rw [beq_eq_false_iff_ne]; omega
                have f5 : 0 < (n : Int) := by omega
                go_wp2_with (first | (go_at_call 50; refine (HL.out _).mono ?_; rintro e' w1 ⟨rfl, hw⟩; obtain rfl := hw.symm) | (go_at_call 59; with_reducible refine (HE.out _).mono ?_; rintro e' w2 ⟨rfl, hb2⟩))
                go_ret3
                exact ⟨ret3 HV.out.symm, Hb.out.trans (hb2.mono hsz)⟩
          · have hq : ((s[e].toNat : Int) == 13) = false := by rw [beq_eq_false_iff_ne]; intro e2; exact h3 ((byte_int _ 13 (by omega)).1 e2)
            have HX : Hid (∀ wx, Calls Tryd.prog 58 #[.int .u8 (s[e].toNat : Int)] wx fun e' w' => e' = .returned (.int .i64 (hexv (s[e].toNat : Int))) ∧ w' = wx) := fun wx => l1Hex_any _ wx (byte_bd s[e]).1 (byte_bd s[e]).2
            have hi := hexv_hi (s[e].toNat : Int)
            by_cases hd : hexv (s[e].toNat : Int) < 0
            · have HV : Hid (rcV s = _) := rcV_is (cst_none HC.out (by rw [HS.out, hdc]; exact scan_bad _ _ _ h2 h3 hd))
              have hd' : decide (hexv (s[e].toNat : Int) < 0) = true := decide_eq_true hd
              clear hdc h3
              go_wp2_with (go_at_call 58; refine (HX.out _).mono ?_; rintro e' w1 ⟨rfl, hw⟩; obtain rfl := hw.symm)
              go_ret3
              exact ⟨ret3 HV.out.symm, Hb.out⟩
            · have HS' : Hid (scanE (s.data.toList.drop k) 0 = scanE (s.data.toList.drop (e + 1)) (e + 1 - k)) := by
                show _ = _
                rw [HS.out, hdc, scan_step _ _ _ h2 h3 (by omega), show e + 1 - k = e - k + 1 by omega]
              have hd' : decide (hexv (s[e].toNat : Int) < 0) = false := decide_eq_false hd
              clear hdc h3
              go_wp2_with (go_at_call 58; refine (HX.out _).mono ?_; rintro e' w1 ⟨rfl, hw⟩; obtain rfl := hw.symm)
              go_round
              case rel => exact ⟨e + 1, by omega, by omega, by omega, by go_num, HS'⟩
              case measure => simp [intOf]; omega
        · have HV : Hid (rcV s = _) := rcV_is (cst_bad HC.out (HS.out.trans (by rw [show e - k = 5 by omega]; exact scan_five _)) (.inl (by omega)))
          have h2' : ¬ ((e : Int) - (k : Int) < 5) := by omega
          clear hdc h2
          go_wp2_with fail
          go_ret3
          exact ⟨ret3 HV.out.symm, Hb.out⟩
      · have hS : scanE (s.data.toList.drop k) 0 = some (e - k) := HS.out.trans (by rw [drop_nil (by omega)]; exact scan_end _)
        by_cases h4 : 4 < e - k
        · have HV : Hid (rcV s = _) := rcV_is (cst_bad HC.out hS (.inl h4))
          clear hS
          go_wp2_with fail
          go_ret3
          exact ⟨ret3 HV.out.symm, Hb.out⟩
        have HE : Hid (∀ wx, Calls Tryd.prog 59 #[.string s, .int .i64 e] wx fun e' w' => e' = .returned (.int .i64 1) ∧ Below wx.heap.size wx w') := by
          intro wx
          have := l5Expect_any s e wx (by omega) (by omega)
          rwa [exp_end (by omega)] at this
        have HV : Hid (rcV s = _) := rcV_is (cst_exp (c := 1) HC.out hS (by omega) (by omega) (exp_end (by omega)) (by decide))
        by_cases hek : e = k
        · subst hek
          clear hS
          go_wp2_with (go_at_call 59; with_reducible refine (HE.out _).mono ?_; rintro e' w2 ⟨rfl, hb2⟩)
          go_ret3
          exact ⟨ret3 HV.out.symm, Hb.out.trans (hb2.mono (by have := Hb.out.size; omega))⟩
        · have hbd := size_bd ((s.data.toList.drop k).take (e - k)) (by rw [List.length_take]; omega)
          have HL0 : ∀ wx, Calls Tryd.prog 50 #[.string (s.extract k (k + (e - k)))] wx fun e' w' => e' = .returned (.int .i64 (hxL ((s.data.toList.drop k).take (e - k)) : Nat)) ∧ w' = wx := by
            intro wx
            have := Hxs.l5Read_any (s.extract k (k + (e - k))) wx (by rw [ByteArray.size_extract]; omega)
            rwa [size_read s k (e - k) hS (by omega) (by omega) (by omega)] at this
          rw [show k + (e - k) = e by omega] at HL0
          have HL : Hid _ := HL0
          generalize hxL ((s.data.toList.drop k).take (e - k)) = n at HL HL0 hbd
          clear hS HL0
          go_wp2_with (first | (go_at_call 50; refine (HL.out _).mono ?_; rintro e' w1 ⟨rfl, hw⟩; obtain rfl := hw.symm) | (go_at_call 59; with_reducible refine (HE.out _).mono ?_; rintro e' w2 ⟨rfl, hb2⟩))
          go_ret3
          exact ⟨ret3 HV.out.symm, Hb.out.trans (hb2.mono (by have := Hb.out.size; omega))⟩

end Go.Proofs.YtimfcbjgoilnpaaDoor.Cqs
