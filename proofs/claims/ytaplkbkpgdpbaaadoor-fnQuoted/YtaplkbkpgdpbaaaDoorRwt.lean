/-
  Walks: impl.readWeight: a weight that is read.
-/
import Derived.Test.YtaplkbkpgdpbaaaDoorWgt
import Derived.Test.YtaplkbkpgdpbaaaDoorShelf
namespace Go.Proofs.YtaplkbkpgdpbaaaDoor.Wgt
open Go.RowKit
open Go.Proofs.YtaplkbkpgdpbaaaDoor.Byt
open Go.Proofs.YtaplkbkpgdpbaaaDoor.Fbs
open Go.Proofs.YtaplkbkpgdpbaaaDoor.Fch
open Go.Proofs.YtaplkbkpgdpbaaaDoor.Ctf

theorem wS_nodot (a d : UInt8) (r : List UInt8) (h : d ≠ 46) : wS (a :: d :: r) = -1 := by
  rw [wS_cons]
  have hd : d.toNat ≠ 46 := fun e => h (UInt8.toNat_inj.1 (by rw [e]; rfl))
  have e : wG (d :: r) (1000 * ((a.toNat : Int) - 48)) = -1 := by
    show (if d.toNat = 46 then wF r (1000 * ((a.toNat : Int) - 48)) 100 else -1) = _
    rw [if_neg hd]
  rw [e]
  split
  · split <;> rfl
  · rfl

theorem cut_weight (s : ByteArray) : ((cutA s 46).size ≠ 1 → wS s.data.toList = -1) ∧ ((cutA s 46).size = 1 → cutB s 46 = true → ¬ (1 ≤ (cutZ s 46).size ∧ (cutZ s 46).size ≤ 3) → wS s.data.toList = -1) ∧
    ((cutA s 46).size = 1 → (cutB s 46 = true → 1 ≤ (cutZ s 46).size ∧ (cutZ s 46).size ≤ 3) → Fits (rdL (dgs (cutA s 46) (cutZ s 46)).data.toList 0) (wS s.data.toList)) := by
  have hlen := len_list s
  cases hc : cutI s 46 with
  | some k =>
    obtain ⟨e1, e2, e3⟩ := cut_some hc
    obtain ⟨_, hk, h46, hno⟩ := first_spec _ _ _ hc
    rw [e1, e2, e3]
    have hA : (s.extract 0 k).size = k := by rw [ByteArray.size_extract]; omega
    have hZ : (s.extract (k + 1) s.size).size = s.size - (k + 1) := by rw [ByteArray.size_extract]; omega
    have hAl : (s.extract 0 k).data.toList = s.data.toList.take k := Lib.extract_from_zero s k
    have hZl : (s.extract (k + 1) s.size).data.toList = s.data.toList.drop (k + 1) := Lib.extract_to_end s (k + 1)
    rw [hA, hZ]
    generalize s.data.toList = l at *
    refine ⟨fun hne => ?_, fun h1 _ hz => ?_, fun h1 hz => ?_⟩
    · rcases l with _ | ⟨a, _ | ⟨d, r⟩⟩
      · rfl
      · have : k = 0 := by simp at hk; omega
        subst this
        have ha : a = 46 := by simpa using h46
        subst ha
        rw [wS_cons]; rfl
      · rcases Nat.eq_zero_or_pos k with h0 | h0
        · subst h0
          have ha : a = 46 := by simpa using h46
          subst ha
          rw [wS_cons]; rfl
        · have := hno 1 (by omega) (by omega)
          exact wS_nodot a d r (by simpa using this)
    · subst h1
      rcases l with _ | ⟨a, _ | ⟨d, r⟩⟩
      · rfl
      · simp at hk
      · rw [wS_cons, if_neg (show ¬ ((d :: r).length ≠ 1 ∧ (d :: r).length ≤ 4) from by simp only [List.length_cons] at hlen ⊢; omega)]
        split <;> rfl
    · subst h1
      have hz := hz rfl
      rcases l with _ | ⟨a, _ | ⟨d, r⟩⟩
      · simp at hk
      · simp at hk
      · have hd : d = 46 := by simpa using h46
        subst hd
        exact fits_all a (46 :: r) (.inr ⟨r, rfl, by simp only [List.length_cons] at hlen; omega, by simp only [List.length_cons] at hlen; omega⟩) _ _ (by rw [hAl]; rfl) (by rw [hZl]; rfl)
  | none =>
    obtain ⟨e1, e2, e3⟩ := cut_none hc
    have hno := first_no _ _ (by omega) hc
    rw [e1, e2, e3]
    refine ⟨fun hne => ?_, fun _ h => (by cases h), fun h1 _ => ?_⟩
    · rw [← hlen] at hne
      generalize s.data.toList = l at *
      rcases l with _ | ⟨a, _ | ⟨d, r⟩⟩
      · rfl
      · simp at hne
      · have := hno 1 (by omega) (by simp)
        exact wS_nodot a d r (by simpa using this)
    · rcases hl : s.data.toList with _ | ⟨a, _ | ⟨d, r⟩⟩
      · rw [hl] at hlen; simp at hlen; omega
      · exact fits_all a [] (.inl rfl) _ _ hl rfl
      · rw [hl] at hlen; simp at hlen; omega

theorem cut_call (s : ByteArray) (c : UInt8) (m : Int) (w : World) (hs : s.size ≤ 2000000) (hm : w.cell? ⟨2, 0, none⟩ = some (.int .i64 m)) :
    Calls Tryd.prog 92 #[.string s, .string ⟨#[c]⟩] w fun e w' => e = .returned (.tuple #[.string (cutA s c), .string (cutZ s c), .bool (cutB s c)]) ∧ Below w.heap.size w w' := by
  have := Tryd.strings_Cut s ⟨#[c]⟩ m w (by omega) hm
  refine this.mono ?_
  rintro e w' ⟨rfl, n, rfl⟩
  obtain ⟨c1, c2, c3⟩ := cut_is s c
  refine ⟨?_, Ctf.below_drewN w n⟩
  rw [← c1, ← c2, ← c3]

def wV (W : Int) : Int := if 0 ≤ W then W else 0
theorem ret_w {a b : Int} {x y : Bool} (h : a = b) (k : x = y) : Ending.returned (.tuple #[.int .i64 a, .bool x]) = .returned (.tuple #[.int .i64 b, .bool y]) := by rw [h, k]

set_option maxHeartbeats 1600000 in
theorem readWeight_any (s : ByteArray) (m : Int) (w : World) (hT : Tab w) (hs : s.size ≤ 2000000) (hm : w.cell? ⟨2, 0, none⟩ = some (.int .i64 m)) :
    Calls Tryd.prog 96 #[.string s] w fun e w' => e = .returned (.tuple #[.int .i64 (wV (wS s.data.toList)), .bool (decide (0 ≤ wS s.data.toList))]) ∧ Below w.heap.size w w' := by
  obtain ⟨f1, f2, f3⟩ := cut_weight s
  have hz : (cutA s 46).size ≤ s.size ∧ (cutZ s 46).size ≤ s.size := by
    cases hc : cutI s 46 with
    | some k =>
      obtain ⟨e1, e2, e3⟩ := cut_some hc
      rw [e1, e2, ByteArray.size_extract, ByteArray.size_extract]; omega
    | none =>
      obtain ⟨e1, e2, e3⟩ := cut_none hc
      rw [e1, e2]; exact ⟨Nat.le_refl _, Nat.zero_le _⟩
  have HC : Hid _ := fun w h => cut_call s 46 m w hs h
  have HM : Hid (w.cell? ⟨2, 0, none⟩ = some (.int .i64 m)) := hm
  clear hm
  generalize wS s.data.toList = W at *
  generalize cutA s 46 = A at *
  generalize cutZ s 46 = Z at *
  generalize cutB s 46 = b at *
  have hgt := hT.lt
  have HW : Hid (W = -1 → Ending.returned (.tuple #[.int .i64 0, .bool false]) = .returned (.tuple #[.int .i64 (wV W), .bool (decide (0 ≤ W))])) := by
    intro h; rw [h]; rfl
  by_cases hA : A.size = 1
  · have hA' : ((A.size : Int) != 1) = false := by rw [hA]; rfl
    cases b
    · have F := f3 hA (fun h => by cases h)
      clear f1 f2 f3
      obtain ⟨R, hR⟩ : ∃ R, R = rdL (dgs A Z).data.toList 0 := ⟨_, rfl⟩
      have hT4 : (dgs A Z).size ≤ 9 := by
        unfold dgs; rw [ByteArray.size_append, ByteArray.size_extract]; omega
      have RD := fun w h => readDigits_any (dgs A Z) w h hT4
      rw [← hR] at RD F
      have HRD : Hid (∀ w, Tab w → Calls Tryd.prog 117 #[.string (A ++ (Z ++ ⟨#[48, 48, 48]⟩).extract 0 3)] w fun e w' => e = .returned (.int .i64 R) ∧ w' = w) := RD
      clear RD hR hT4
      rcases F with ⟨g1, g2, g3⟩ | ⟨g1, g2⟩
      · have HB2 : Hid (∀ w, Calls Tryd.prog 83 #[.int .i64 0, .int .i64 R, .int .i64 1000] w fun e w' => e = .returned (.bool true) ∧ w' = w) := by
          show ∀ w, _
          intro w
          have := isBetween_any 0 R 1000 w
          rwa [decide_eq_true g1, decide_eq_true g2] at this
        have HR : Hid (Ending.returned (.tuple #[.int .i64 R, .bool true]) = .returned (.tuple #[.int .i64 (wV W), .bool (decide (0 ≤ W))])) := by
          show _ = _
          rw [g3]; unfold wV; rw [if_pos g1, decide_eq_true g1]
        clear g1 g2 g3 HW
        go_enter Tryd.func96, Tryd.ntmps96
        go_wp2_with fail
        refine (HC.out _ HM.out).mono ?_
        rintro e w1 ⟨rfl, hb1⟩
        have HT1 : Hid _ := hT.below hb1 hgt
        go_wp2_with fail
        refine (HRD.out _ HT1.out).mono ?_
        rintro e w2 ⟨rfl, hw⟩
        obtain rfl := hw.symm
        go_wp2_with (first | (go_at_call 83; refine (HB2.out _).mono ?_; rintro e w2 ⟨rfl, hw⟩; obtain rfl := hw.symm) | fail)
        go_ret2
        exact ⟨HR.out, hb1⟩
      · have HB2 : Hid (∀ w, Calls Tryd.prog 83 #[.int .i64 0, .int .i64 R, .int .i64 1000] w fun e w' => e = .returned (.bool false) ∧ w' = w) := by
          show ∀ w, _
          intro w
          have := isBetween_any 0 R 1000 w
          rwa [show (decide (0 ≤ R) && decide (R ≤ 1000)) = false from by
            rw [← Bool.not_eq_true]; intro h; simp only [Bool.and_eq_true, decide_eq_true_eq] at h; exact g1 h] at this
        have HR : Hid _ := HW.out g2
        clear g1 g2 HW
        go_enter Tryd.func96, Tryd.ntmps96
        go_wp2_with fail
        refine (HC.out _ HM.out).mono ?_
        rintro e w1 ⟨rfl, hb1⟩
        have HT1 : Hid _ := hT.below hb1 hgt
        go_wp2_with fail
        refine (HRD.out _ HT1.out).mono ?_
        rintro e w2 ⟨rfl, hw⟩
        obtain rfl := hw.symm
        go_wp2_with (first | (go_at_call 83; refine (HB2.out _).mono ?_; rintro e w2 ⟨rfl, hw⟩; obtain rfl := hw.symm) | fail)
        go_ret2
        exact ⟨HR.out, hb1⟩
    · by_cases hZ : 1 ≤ Z.size ∧ Z.size ≤ 3
      · have F := f3 hA (fun _ => hZ)
        have HB1 : Hid (∀ w, Calls Tryd.prog 83 #[.int .i64 1, .int .i64 (Z.size : Int), .int .i64 3] w fun e w' => e = .returned (.bool true) ∧ w' = w) := by
          show ∀ w, _
          intro w
          have := isBetween_any 1 (Z.size : Int) 3 w
          rwa [decide_eq_true (show (1 : Int) ≤ (Z.size : Int) from by omega), decide_eq_true (show (Z.size : Int) ≤ 3 from by omega)] at this
        clear f1 f2 f3 hZ
        obtain ⟨R, hR⟩ : ∃ R, R = rdL (dgs A Z).data.toList 0 := ⟨_, rfl⟩
        have hT4 : (dgs A Z).size ≤ 9 := by
          unfold dgs; rw [ByteArray.size_append, ByteArray.size_extract]; omega
        have RD := fun w h => readDigits_any (dgs A Z) w h hT4
        rw [← hR] at RD F
        have HRD : Hid (∀ w, Tab w → Calls Tryd.prog 117 #[.string (A ++ (Z ++ ⟨#[48, 48, 48]⟩).extract 0 3)] w fun e w' => e = .returned (.int .i64 R) ∧ w' = w) := RD
        clear RD hR hT4
        rcases F with ⟨g1, g2, g3⟩ | ⟨g1, g2⟩
        · have HB2 : Hid (∀ w, Calls Tryd.prog 83 #[.int .i64 0, .int .i64 R, .int .i64 1000] w fun e w' => e = .returned (.bool true) ∧ w' = w) := by
            show ∀ w, _
            intro w
            have := isBetween_any 0 R 1000 w
            rwa [decide_eq_true g1, decide_eq_true g2] at this
          have HR : Hid (Ending.returned (.tuple #[.int .i64 R, .bool true]) = .returned (.tuple #[.int .i64 (wV W), .bool (decide (0 ≤ W))])) := by
            show _ = _
            rw [g3]; unfold wV; rw [if_pos g1, decide_eq_true g1]
          clear g1 g2 g3 HW
          go_enter Tryd.func96, Tryd.ntmps96
          go_wp2_with fail
          refine (HC.out _ HM.out).mono ?_
          rintro e w1 ⟨rfl, hb1⟩
          have HT1 : Hid _ := hT.below hb1 hgt
          go_wp2_with (first | (go_at_call 83; refine (HB1.out _).mono ?_; rintro e w2 ⟨rfl, hw⟩; obtain rfl := hw.symm) | fail)
          refine (HRD.out _ HT1.out).mono ?_
          rintro e w2 ⟨rfl, hw⟩
          obtain rfl := hw.symm
          go_wp2_with (first | (go_at_call 83; refine (HB2.out _).mono ?_; rintro e w2 ⟨rfl, hw⟩; obtain rfl := hw.symm) | fail)
          go_ret2
          exact ⟨HR.out, hb1⟩
        · have HB2 : Hid (∀ w, Calls Tryd.prog 83 #[.int .i64 0, .int .i64 R, .int .i64 1000] w fun e w' => e = .returned (.bool false) ∧ w' = w) := by
            show ∀ w, _
            intro w
            have := isBetween_any 0 R 1000 w
            rwa [show (decide (0 ≤ R) && decide (R ≤ 1000)) = false from by
              rw [← Bool.not_eq_true]; intro h; simp only [Bool.and_eq_true, decide_eq_true_eq] at h; exact g1 h] at this
          have HR : Hid _ := HW.out g2
          clear g1 g2 HW
          go_enter Tryd.func96, Tryd.ntmps96
          go_wp2_with fail
          refine (HC.out _ HM.out).mono ?_
          rintro e w1 ⟨rfl, hb1⟩
          have HT1 : Hid _ := hT.below hb1 hgt
          go_wp2_with (first | (go_at_call 83; refine (HB1.out _).mono ?_; rintro e w2 ⟨rfl, hw⟩; obtain rfl := hw.symm) | fail)
          refine (HRD.out _ HT1.out).mono ?_
          rintro e w2 ⟨rfl, hw⟩
          obtain rfl := hw.symm
          go_wp2_with (first | (go_at_call 83; refine (HB2.out _).mono ?_; rintro e w2 ⟨rfl, hw⟩; obtain rfl := hw.symm) | fail)
          go_ret2
          exact ⟨HR.out, hb1⟩
      · have HB1 : Hid (∀ w, Calls Tryd.prog 83 #[.int .i64 1, .int .i64 (Z.size : Int), .int .i64 3] w fun e w' => e = .returned (.bool false) ∧ w' = w) := by
          show ∀ w, _
          intro w
          have := isBetween_any 1 (Z.size : Int) 3 w
          rwa [show (decide ((1 : Int) ≤ (Z.size : Int)) && decide ((Z.size : Int) ≤ 3)) = false from by
            rw [← Bool.not_eq_true]; intro h; simp only [Bool.and_eq_true, decide_eq_true_eq] at h; exact hZ (by omega)] at this
        have HR : Hid _ := HW.out (f2 hA rfl hZ)
        clear f1 f2 f3 hZ HW
        go_enter Tryd.func96, Tryd.ntmps96
        go_wp2_with fail
        refine (HC.out _ HM.out).mono ?_
        rintro e w1 ⟨rfl, hb1⟩
        go_wp2_with (first | (go_at_call 83; refine (HB1.out _).mono ?_; rintro e w2 ⟨rfl, hw⟩; obtain rfl := hw.symm) | fail)
        go_ret2
        exact ⟨HR.out, hb1⟩
  · have hA' : ((A.size : Int) != 1) = true := by rw [bne_iff_ne]; omega
    have HR : Hid _ := HW.out (f1 hA)
    clear f1 f2 f3 HW
    go_enter Tryd.func96, Tryd.ntmps96
    go_wp2_with fail
    refine (HC.out _ HM.out).mono ?_
    rintro e w1 ⟨rfl, hb1⟩
    go_wp2_with fail
    go_ret2
    exact ⟨HR.out, hb1⟩

end Go.Proofs.YtaplkbkpgdpbaaaDoor.Wgt
