/-
  The first line of a response, plain; walk: impl.responseTold.
-/
import Derived.Test.YtaplkbkpgdpbaaaGreatDoorMg10
namespace Go.Proofs.YtaplkbkpgdpbaaaGreatDoor.Tpr
open Go.RowKit Go.Lib
open Go.Proofs.YtaplkbkpgdpbaaaGreatDoor
open Go.Proofs.YtaplkbkpgdpbaaaGreatDoor.Fbs
open Go.Proofs.YtaplkbkpgdpbaaaGreatDoor.Fch
open Go.Proofs.YtaplkbkpgdpbaaaGreatDoor.Hdl (mkB)
open Go.Proofs.YtaplkbkpgdpbaaaGreatDoor.Rqb (vers Own4)
open Go.Proofs.YtaplkbkpgdpbaaaGreatDoor.Wgt (rdL readDigits_any)
open Go.Proofs.YtaplkbkpgdpbaaaGreatDoor.Tkr (cut_call cutA_size cutZ_size)

/-- The version and the blank behind it. -/
def VB : List UInt8 := [72, 84, 84, 80, 47, 49, 46, 49, 32]
theorem cut_pre {s : ByteArray} {n : Nat} (h : s.data.toList[n]? = some 32) (hno : ∀ j, j < n → s.data.toList[j]?.getD 0 ≠ 32) : Ctf.cutI s 32 = some n := by
  cases hc : Ctf.cutI s 32 with
  | none =>
    have hn : n < s.data.toList.length := by
      by_cases q : n < s.data.toList.length
      · exact q
      · rw [List.getElem?_eq_none (by omega)] at h; cases h
    exact absurd (by rw [h]; rfl) (Ctf.first_no _ _ (by omega) hc n (Nat.zero_le _) hn)
  | some k =>
    obtain ⟨a, b, d, e⟩ := Ctf.first_spec _ _ _ hc
    by_cases h1 : k < n
    · exact absurd d (hno k h1)
    · by_cases h2 : n < k
      · exact absurd (by rw [h]; rfl) (e n (Nat.zero_le _) h2)
      · congr 1; omega
theorem pfx_yes {s : ByteArray} (h : Lib.hasPrefix s.data.toList VB = true) : Ctf.cutB s 32 = true ∧ Ctf.cutA s 32 = vers ∧ mkB (Lib.trimPrefix s.data.toList VB) = Ctf.cutZ s 32 := by
  obtain ⟨r, hr⟩ := List.isPrefixOf_iff_prefix.1 h
  have hI : Ctf.cutI s 32 = some 8 := by
    refine cut_pre (by rw [← hr]; rfl) fun j hj => ?_
    rw [← hr]
    obtain rfl | rfl | rfl | rfl | rfl | rfl | rfl | rfl : j = 0 ∨ j = 1 ∨ j = 2 ∨ j = 3 ∨ j = 4 ∨ j = 5 ∨ j = 6 ∨ j = 7 := by omega
    all_goals simp [VB]
  obtain ⟨q1, q2, q3⟩ := Ctf.cut_some hI
  refine ⟨q3, ?_, ?_⟩
  · rw [q1, Hdl.mkB_extract, List.drop_zero, ← hr]; rfl
  · rw [q2, Hdl.mkB_extract]
    unfold Lib.trimPrefix
    rw [if_pos h, List.take_of_length_le]
    · rfl
    · rw [List.length_drop, len_list]; exact Nat.le_refl _
theorem pfx_no {s : ByteArray} (h : Lib.hasPrefix s.data.toList VB = false) : ¬ (Ctf.cutB s 32 = true ∧ Ctf.cutA s 32 = vers) := by
  rintro ⟨hb, ha⟩
  cases hc : Ctf.cutI s 32 with
  | none => rw [(Ctf.cut_none hc).2.2] at hb; cases hb
  | some k =>
    obtain ⟨a, b, d, e⟩ := Ctf.first_spec _ _ _ hc
    rw [(Ctf.cut_some hc).1] at ha
    have hl := len_list s
    have hk : k = 8 := by
      have := congrArg ByteArray.size ha
      rw [ByteArray.size_extract] at this
      have h8 : vers.size = 8 := rfl
      omega
    subst hk
    have ht : s.data.toList.take 8 = [72, 84, 84, 80, 47, 49, 46, 49] := by
      rw [Hdl.mkB_extract, List.drop_zero] at ha
      have := congrArg (fun x : ByteArray => x.data.toList) ha
      exact this
    have h9 : s.data.toList.take 9 = VB := by
      rw [List.take_succ_eq_append_getElem b, ht]
      rw [List.getElem?_eq_getElem b] at d
      have d' : s.data.toList[8] = 32 := d
      rw [d']; rfl
    have : Lib.hasPrefix s.data.toList VB = true := List.isPrefixOf_iff_prefix.2 (List.prefix_iff_eq_take.2 h9.symm)
    rw [this] at h
    cases h

/-- The status and the reason of a first line, where it is one. -/
def statO (s : ByteArray) : Option (Int × ByteArray) :=
  if (Ctf.cutB s 32 = true ∧ Ctf.cutA s 32 = vers) ∧ Ctf.cutB (Ctf.cutZ s 32) 32 = true ∧ (Ctf.cutA (Ctf.cutZ s 32) 32).size = 3 then some (rdL (Ctf.cutA (Ctf.cutZ s 32) 32).data.toList 0, Ctf.cutZ (Ctf.cutZ s 32) 32) else none
/-- What stands in a response whose first line was told. -/
def toldP (s : ByteArray) : Int × ByteArray := match statO s with | some x => x | none => (0, ⟨#[]⟩)
theorem told_yes {s : ByteArray} (h : (Ctf.cutB s 32 = true ∧ Ctf.cutA s 32 = vers) ∧ Ctf.cutB (Ctf.cutZ s 32) 32 = true ∧ (Ctf.cutA (Ctf.cutZ s 32) 32).size = 3) : toldP s = (rdL (Ctf.cutA (Ctf.cutZ s 32) 32).data.toList 0, Ctf.cutZ (Ctf.cutZ s 32) 32) := by
  unfold toldP statO; rw [if_pos h]
theorem told_no {s : ByteArray} (h : ¬ ((Ctf.cutB s 32 = true ∧ Ctf.cutA s 32 = vers) ∧ Ctf.cutB (Ctf.cutZ s 32) 32 = true ∧ (Ctf.cutA (Ctf.cutZ s 32) 32).size = 3)) : toldP s = (0, ⟨#[]⟩) := by
  unfold toldP statO; rw [if_neg h]
theorem pre_call (s : ByteArray) (w : World) : Calls Tryz.prog 134 #[.string s, .string ⟨#[72, 84, 84, 80, 47, 49, 46, 49, 32]⟩] w fun e w' => e = .returned (.tuple #[.string (mkB (Lib.trimPrefix s.data.toList VB)), .bool (Lib.hasPrefix s.data.toList VB)]) ∧ w' = w :=
  Tryz.strings_CutPrefix s ⟨#[72, 84, 84, 80, 47, 49, 46, 49, 32]⟩ w

set_option maxHeartbeats 1600000 in
theorem responseTold_any (s : ByteArray) (m : Int) (w : World) (hT : Tab w) (hs : s.size ≤ 2000000) (hm : w.cell? ⟨3, 0, none⟩ = some (.int .i64 m)) :
    Calls Tryz.prog 95 #[.string s] w fun e w' => e = .returned (.agg #[.int .i64 (toldP s).1, .string (toldP s).2, .slice none 0 0, .string ⟨#[]⟩]) ∧ Below w.heap.size w w' := by
  have HP := fun w => pre_call s w
  have hgt := hT.lt
  have hb1 : Below w.heap.size w (w.alloc (.cells #[.int .i64 0, .string ⟨#[]⟩, .slice none 0 0, .string ⟨#[]⟩] 36)) := (Below.refl _ _).alloc (Nat.le_refl _) _
  have HO : Hid (Own4 (w.alloc (.cells #[.int .i64 0, .string ⟨#[]⟩, .slice none 0 0, .string ⟨#[]⟩] 36)) w.heap.size (.int .i64 0) (.string ⟨#[]⟩) (.slice none 0 0) (.string ⟨#[]⟩)) := Rqb.Own4.made w _ _ _ _ _
  have hm1 := (hb1.cell (p := ⟨3, 0, none⟩) (World.block_lt_of_cell? _ _ hm)).trans hm
  have HT1 : Hid (Tab w) := hT
  cases hok : Lib.hasPrefix s.data.toList VB
  · rw [told_no (fun h => pfx_no hok h.1)]
    rw [hok] at HP
    have hR : mkB (Lib.trimPrefix s.data.toList VB) = s := by
      unfold Lib.trimPrefix; rw [if_neg (by rw [hok]; decide)]; exact Hdl.mkB_list s
    rw [hR] at HP
    have HP1 : Hid _ := HP
    have HC : Hid _ := fun w h => cut_call s 32 m w hs h
    clear HP hR hok hT
    generalize Ctf.cutA s 32 = A at *
    generalize Ctf.cutZ s 32 = Z at *
    generalize Ctf.cutB s 32 = P at *
    go_enter Tryz.func95, Tryz.ntmps95
    go_wp2_with fail
    refine (Calls.mono (HP1.out _) ?_)
    rintro e w2 ⟨rfl, hw⟩
    obtain rfl := hw.symm
    go_wp2_with fail
    refine (Calls.mono (HC.out _ hm1) ?_)
    rintro e w2 ⟨rfl, hb2⟩
    have hb12 := hb1.trans (hb2.mono hb1.size)
    obtain ⟨f2, p0, p1, p2, p3⟩ := HO.out.below hb2
    go_wp2_with fail
    exact bodyPost_ret (v := .agg #[.int .i64 0, .string ⟨#[]⟩, .slice none 0 0, .string ⟨#[]⟩]) (by simp [results, Tryz.results95, go_sem, p0, p1, p2, p3]) rfl ⟨rfl, (((hb12.setCell (Nat.le_refl _) _).setCell (Nat.le_refl _) _).setCell (Nat.le_refl _) _).setCell (Nat.le_refl _) _⟩
  · obtain ⟨k1, k2, hR⟩ := pfx_yes hok
    rw [hok, hR] at HP
    have HP1 : Hid _ := HP
    have hzs := cutZ_size s 32
    have haz := cutA_size (Ctf.cutZ s 32) 32
    have HC : Hid _ := fun w h => cut_call (Ctf.cutZ s 32) 32 m w (by omega) h
    have HY : Hid (Ctf.cutB (Ctf.cutZ s 32) 32 = true ∧ (Ctf.cutA (Ctf.cutZ s 32) 32).size = 3 → toldP s = (rdL (Ctf.cutA (Ctf.cutZ s 32) 32).data.toList 0, Ctf.cutZ (Ctf.cutZ s 32) 32)) := fun h => told_yes ⟨⟨k1, k2⟩, h⟩
    have HN : Hid (¬ (Ctf.cutB (Ctf.cutZ s 32) 32 = true ∧ (Ctf.cutA (Ctf.cutZ s 32) 32).size = 3) → toldP s = (0, ⟨#[]⟩)) := fun h => told_no (fun q => h q.2)
    clear HP hR hok k1 k2 hzs hT
    generalize Ctf.cutA (Ctf.cutZ s 32) 32 = A at *
    generalize Ctf.cutZ (Ctf.cutZ s 32) 32 = Z at *
    generalize Ctf.cutB (Ctf.cutZ s 32) 32 = P at *
    generalize Ctf.cutZ s 32 = R at *
    generalize toldP s = TP at *
    cases P
    · obtain rfl := HN.out (by simp)
      clear HN HY
      go_enter Tryz.func95, Tryz.ntmps95
      go_wp2_with fail
      refine (Calls.mono (HP1.out _) ?_)
      rintro e w2 ⟨rfl, hw⟩
      obtain rfl := hw.symm
      go_wp2_with fail
      refine (Calls.mono (HC.out _ hm1) ?_)
      rintro e w2 ⟨rfl, hb2⟩
      have hb12 := hb1.trans (hb2.mono hb1.size)
      obtain ⟨f2, p0, p1, p2, p3⟩ := HO.out.below hb2
      go_wp2_with fail
      exact bodyPost_ret (v := .agg #[.int .i64 0, .string ⟨#[]⟩, .slice none 0 0, .string ⟨#[]⟩]) (by simp [results, Tryz.results95, go_sem, p0, p1, p2, p3]) rfl ⟨rfl, (((hb12.setCell (Nat.le_refl _) _).setCell (Nat.le_refl _) _).setCell (Nat.le_refl _) _).setCell (Nat.le_refl _) _⟩
    · by_cases h3 : A.size = 3
      · obtain rfl := HY.out ⟨rfl, h3⟩
        clear HN HY
        have hne : ((A.size : Int) != 3) = false := by rw [h3]; rfl
        have HD : Hid (∀ w, Tab w → Calls Tryz.prog 132 #[.string A] w fun e w' => e = .returned (.int .i64 (rdL A.data.toList 0)) ∧ w' = w) := fun w h => readDigits_any A w h (by omega)
        generalize rdL A.data.toList 0 = D at *
        go_enter Tryz.func95, Tryz.ntmps95
        go_wp2_with fail
        refine (Calls.mono (HP1.out _) ?_)
        rintro e w2 ⟨rfl, hw⟩
        obtain rfl := hw.symm
        go_wp2_with fail
        refine (Calls.mono (HC.out _ hm1) ?_)
        rintro e w2 ⟨rfl, hb2⟩
        have hb12 := hb1.trans (hb2.mono hb1.size)
        obtain ⟨f2, p0, p1, p2, p3⟩ := HO.out.below hb2
        have hT2 := HT1.out.below hb12 hgt
        have HT2 : Hid (Tab w2) := hT2
        clear hT2
        go_wp2_with fail
        refine (Calls.mono (HD.out _ HT2.out) ?_)
        rintro e w3 ⟨rfl, hw⟩
        obtain rfl := hw.symm
        go_wp2_with fail
        exact bodyPost_ret (v := .agg #[.int .i64 D, .string Z, .slice none 0 0, .string ⟨#[]⟩]) (by simp [results, Tryz.results95, go_sem, p0, p1, p2, p3]) rfl ⟨rfl, (((hb12.setCell (Nat.le_refl _) _).setCell (Nat.le_refl _) _).setCell (Nat.le_refl _) _).setCell (Nat.le_refl _) _⟩
      · obtain rfl := HN.out (fun h => h3 h.2)
        clear HN HY
        have hne : ((A.size : Int) != 3) = true := by rw [bne_iff_ne]; omega
        go_enter Tryz.func95, Tryz.ntmps95
        go_wp2_with fail
        refine (Calls.mono (HP1.out _) ?_)
        rintro e w2 ⟨rfl, hw⟩
        obtain rfl := hw.symm
        go_wp2_with fail
        refine (Calls.mono (HC.out _ hm1) ?_)
        rintro e w2 ⟨rfl, hb2⟩
        have hb12 := hb1.trans (hb2.mono hb1.size)
        obtain ⟨f2, p0, p1, p2, p3⟩ := HO.out.below hb2
        go_wp2_with fail
        exact bodyPost_ret (v := .agg #[.int .i64 0, .string ⟨#[]⟩, .slice none 0 0, .string ⟨#[]⟩]) (by simp [results, Tryz.results95, go_sem, p0, p1, p2, p3]) rfl ⟨rfl, (((hb12.setCell (Nat.le_refl _) _).setCell (Nat.le_refl _) _).setCell (Nat.le_refl _) _).setCell (Nat.le_refl _) _⟩

end Go.Proofs.YtaplkbkpgdpbaaaGreatDoor.Tpr
