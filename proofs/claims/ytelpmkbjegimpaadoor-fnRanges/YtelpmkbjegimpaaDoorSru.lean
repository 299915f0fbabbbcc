/-
  Walks: impl.RangeText, spec.RangeText.
-/
import Derived.Test.YtelpmkbjegimpaaDoorSrt
namespace Go.Proofs.YtelpmkbjegimpaaDoor.Srt
open Go.RowKit
open Go.Proofs.YtelpmkbjegimpaaDoor.Spb
open Go.Proofs.YtelpmkbjegimpaaDoor.Spp
open Go.Proofs.YtelpmkbjegimpaaDoor.Ows
open Go.Proofs.YtelpmkbjegimpaaDoor.Num (num num_any itoa_any num_size_le tab_below tab_lt ret_str)

theorem texts_made0 (w : World) (B : Nat) (h : B ≤ w.heap.size) : textsIn (w.alloc (.cells #[] 9)) B (.slice (some ⟨w.heap.size, 0, none⟩) 0 0) [] :=
  ⟨rfl, .inr ⟨w.heap.size, 0, #[], rfl, h, by show (w.heap.push _)[w.heap.size]? = _; simp, Nat.le_refl _, by decide, rfl, rfl⟩⟩
theorem ret_sb {s t : ByteArray} {a b : Bool} (h : s = t) (h2 : a = b) : Ending.returned (.tuple #[.string s, .bool a]) = .returned (.tuple #[.string t, .bool b]) := by rw [h, h2]
theorem sp_is (f t : Nat) : spT ((f : Int), (t : Int) + 1) = num f ++ ⟨#[45]⟩ ++ num t := by
  unfold spT
  rw [show ((f : Int), (t : Int) + 1).1.toNat = f from Int.toNat_natCast f, show (((f : Int), (t : Int) + 1).2 - 1).toNat = t by show ((t : Int) + 1 - 1).toNat = t; omega]
theorem map_take {l : List (Int × Int)} (i : Nat) (h : i < l.length) : (l.take (i + 1)).map spT = (l.take i).map spT ++ [spT l[i]] := by
  rw [List.take_succ_eq_append_getElem h, List.map_append]; rfl
theorem span_form {c : Int × Int} (h : 0 ≤ c.1 ∧ c.1 < c.2 ∧ c.2 ≤ 1000000) : ∃ f t : Nat, c = ((f : Int), (t : Int) + 1) ∧ f ≤ 1000000 ∧ t < 1000000 := by
  refine ⟨c.1.toNat, (c.2 - 1).toNat, ?_, by omega, by omega⟩
  rw [show (c.1.toNat : Int) = c.1 by omega, show ((c.2 - 1).toNat : Int) + 1 = c.2 by omega]
theorem take_size {l : List (Int × Int)} (hg : ∀ c ∈ l, 0 ≤ c.1 ∧ c.1 < c.2 ∧ c.2 ≤ 1000000) (hl : l.length ≤ 12) (i : Nat) (hi : i ≤ l.length) : (comT ((l.take i).map spT)).size ≤ 192 := by
  have h := com_size i ((l.take i).map spT) (by rw [List.length_map, List.length_take]; omega) (fun x hx => by
    rw [List.mem_map] at hx
    obtain ⟨c, hc, rfl⟩ := hx
    exact sp_size (hg c (List.mem_of_mem_take hc)))
  rw [List.length_map, List.length_take] at h
  omega

set_option maxRecDepth 20000 in
set_option maxHeartbeats 3200000 in
theorem implText_any (a : Option Addr) (ca : Nat) (l : List (Int × Int)) (w : World) (lo hi : Nat) (hP : PowT w) (hl : l.length ≤ 2000000) (ha : PV w a l lo hi) :
    Calls Tryd.prog 7 #[.slice a l.length ca] w fun e w' => e = .returned (.tuple #[.string (rangeS l), .bool (rangeB l)]) ∧ Below w.heap.size w w' := by
  have HV : Hid (PV w a l lo hi) := ha
  have HG : Hid _ := fun wx hx => areSpans_any a ca l 1000000 wx lo hi hl hx
  rw [are_good] at HG
  have hgp := tab_lt hP
  have HPw : Hid (PowT w) := hP
  clear ha hP
  by_cases h0 : l.length = 0
  · have hB : rangeB l = false := by unfold rangeB; rw [decide_eq_true h0]; simp
    rw [hB, range_no hB]
    have hd : ((l.length : Int) == 0) = true := by rw [h0]; rfl
    clear hB
    go_enter Tryd.func7, Tryd.ntmps7
    go_wp2_with fail
    go_ret2
    exact ⟨rfl, Below.refl _ _⟩
  have HN0 : Hid (¬ l.length = 0) := h0
  have hd : ((l.length : Int) == 0) = false := by rw [beq_eq_false_iff_ne]; omega
  have hBe : rangeB l = goodL l := by unfold rangeB; rw [decide_eq_false h0]; simp
  cases hg : goodL l
  · rw [hg] at HG hBe
    rw [hBe, range_no hBe]
    clear hBe hg
    go_enter Tryd.func7, Tryd.ntmps7
    go_wp2_with (go_at_call 20; refine (HG.out _ HV.out).mono ?_; rintro e w2 ⟨rfl, hb2⟩)
    go_ret2
    exact ⟨rfl, hb2⟩
  rw [hg] at HG hBe
  obtain ⟨hl12, hgood⟩ := goodL_parts hg
  rw [hBe, range_yes hBe]
  have HGd : Hid _ := hgood
  have hts := take_size hgood hl12 l.length (Nat.le_refl _)
  rw [List.take_length] at hts
  have HJn : Hid (∀ (wx : World) (g cap : Nat), textsIn wx w.heap.size (.slice (some ⟨g, 0, none⟩) l.length cap) (l.map spT) → Calls Tryd.prog 22 #[.slice (some ⟨g, 0, none⟩) l.length cap, .string ⟨#[44]⟩] wx fun e w' => e = .returned (.string (comT (l.map spT))) ∧ Below wx.heap.size wx w') := by
    intro wx g cap hown
    have hlen : (l.map spT).length = l.length := List.length_map _
    have hlt := (hown.lt g rfl).2
    obtain ⟨a', cap', he, hcap, hcm, _⟩ := hown.form
    injection he with _ _ he
    subst he
    have := Tryd.strings_Join g 0 cap (l.map spT) ⟨#[44]⟩ wx (fun j y hy => by rw [Nat.zero_add]; exact hown.at j y hy) hlt (by omega) hcap (by
      have : (comT (l.map spT)).size = (Lib.join ((l.map spT).map (·.data.toList)) [44]).length := by show (List.toArray _).size = _; simp
      rw [← show (Lib.join ((l.map spT).map (·.data.toList)) [44]).length = _ from rfl]
      omega)
    rw [hlen] at this
    exact this
  have HR : Hid ((⟨#[98, 121, 116, 101, 115, 61]⟩ : ByteArray) ++ comT (l.map spT) = rangeT l) := rfl
  have HMap : Hid (∀ i, (hi : i < l.length) → (l.take i).map spT ++ [spT l[i]] = (l.take (i + 1)).map spT) := fun i hi => (map_take i hi).symm
  have HEnd : Hid ((l.take l.length).map spT = l.map spT) := by show _ = _; rw [List.take_length]
  generalize rangeT l = RT at HR ⊢
  generalize comT (l.map spT) = CT at HJn HR hts
  have k1 : ¬ 9223372036854775807 < 6 + CT.size := by omega
  clear hBe hg hgood hts
  go_enter Tryd.func7, Tryd.ntmps7
  go_wp2_with (go_at_call 20; refine (HG.out _ HV.out).mono ?_; rintro e w2 ⟨rfl, hb2⟩)
  have HM0 : Hid (textsIn (w2.alloc (.cells #[] 9)) w.heap.size (.slice (some ⟨w2.heap.size, 0, none⟩) 0 0) []) := texts_made0 w2 w.heap.size hb2.size
  have HMB : Hid (Below w.heap.size w (w2.alloc (.cells #[] 9))) := hb2.alloc hb2.size _
  clear hb2 HG
  go_loopw [4, 18] (fun ov c wr => ∃ i : Nat, i ≤ l.length ∧ c = .int .i64 i ∧ textsIn wr w.heap.size ov ((l.take i).map spT) ∧ Hid (Below w.heap.size w wr)) (fun _ c _ => l.length - (intOf c).toNat)
  case atStart => exact ⟨0, by omega, rfl, HM0.out, HMB.out⟩
  case round =>
    obtain ⟨i, hi, rfl, hown, HB⟩ := hrel
    clear HM0 HMB
    by_cases hlt : i < l.length
    · obtain ⟨g, rfl, _, hc, hdd⟩ := row_at (HV.out.below HB.out) hlt
      obtain ⟨f, t, hft, hf6, ht6⟩ := span_form (HGd.out _ (List.getElem_mem hlt))
      have hM := HMap.out i hlt
      rw [hft] at hc hdd hM
      dsimp only at hc hdd
      have HMe : Hid _ := hM
      have hlen : ((l.take i).map spT).length = i := by rw [List.length_map, List.length_take]; omega
      generalize (l.take i).map spT = acc at *
      have HT : Hid (∀ wx, PowT wx → Calls Tryd.prog 21 #[.agg #[.int .i64 (f : Int), .int .i64 ((t : Int) + 1)]] wx fun e w' => e = .returned (.string (spT ((f : Int), (t : Int) + 1))) ∧ Below wx.heap.size wx w') := by
        intro wx hx
        rw [sp_is]
        exact placesText_any f t wx hx hf6 ht6
      generalize spT ((f : Int), (t : Int) + 1) = tx at HT HMe
      have hown2 := hown.below ((Below.refl _ _).alloc (Nat.le_refl _) (.cells #[.int .i64 (f : Int), .int .i64 ((t : Int) + 1)] 33))
      have HB2 : Hid _ := HB.out.alloc HB.out.size (.cells #[.int .i64 (f : Int), .int .i64 ((t : Int) + 1)] 33)
      have HP2 : Hid (PowT (wr.alloc (.cells #[.int .i64 (f : Int), .int .i64 ((t : Int) + 1)] 33))) := tab_below HPw.out HB2.out hgp
      clear hown HB hM hft
      go_wp2_with (first
        | (go_at_call 21; refine (HT.out _ HP2.out).mono ?_; rintro e w4 ⟨rfl, hb4⟩; have hown4 := hown2.below hb4; have HB4 : Hid _ := HB2.out.trans (hb4.mono HB2.out.size); have hsz4 : w.heap.size ≤ w4.heap.size := HB4.out.size; clear hown2)
        | (at_builtin; refine wpList_append_text w4 rfl _ _ rfl w.heap.size _ acc (by rfl) hown4 _ _ rfl ?q3 hsz4 w.heap.size (Nat.le_refl _) w4 (Below.refl _ _) ?_))
      case q3 => omega
      intro v' w3 hown' hbel'
      rw [HMe.out] at hown'
      have HB3 : Hid (Below w.heap.size w w3) := HB4.out.trans hbel'
      clear hown4 hbel' HB2 HB4
      go_wp2_with fail
      refine ⟨⟨i + 1, by omega, by go_num, hown', HB3⟩, ?_⟩
      simp [intOf]; omega
    · obtain rfl : i = l.length := by omega
      rw [HEnd.out] at hown
      obtain ⟨a', cap, hu, _, _, hgs⟩ := hown.form
      obtain ⟨g, rfl, _, _⟩ := hgs (by intro e; have := congrArg List.length e; rw [List.length_map] at this; exact HN0.out this)
      rw [List.length_map] at hu
      subst hu
      have HJ2 : Hid _ := fun (_ : Unit) => HJn.out wr g cap hown
      clear hown
      go_wp2_with (go_at_call 22; refine (HJ2.out ()).mono ?_; rintro e w5 ⟨rfl, hb5⟩)
      go_ret2
      exact ⟨ret_sb HR.out rfl, HB.out.trans (hb5.mono HB.out.size)⟩

set_option maxRecDepth 20000 in
set_option maxHeartbeats 3200000 in
theorem specText_any (a : Option Addr) (ca : Nat) (l : List (Int × Int)) (w : World) (lo hi : Nat) (hl : l.length ≤ 2000000) (ha : PV w a l lo hi) :
    Calls Tryd.prog 8 #[.slice a l.length ca] w fun e w' => e = .returned (.tuple #[.string (rangeS l), .bool (rangeB l)]) ∧ Below w.heap.size w w' := by
  have HV : Hid (PV w a l lo hi) := ha
  have HG : Hid _ := fun wx hx => l6Spans_any a ca l wx lo hi hl hx
  clear ha
  cases hg : goodL l
  · have hB : rangeB l = false := by unfold rangeB; rw [hg]; rfl
    rw [hg] at HG
    rw [hB, range_no hB]
    clear hB hg
    go_enter Tryd.func8, Tryd.ntmps8
    go_wp2_with (go_at_call 23; refine (HG.out _ HV.out).mono ?_; rintro e w2 ⟨rfl, hb2⟩)
    go_ret2
    exact ⟨rfl, hb2⟩
  rw [hg] at HG
  by_cases h0 : l.length = 0
  · have hB : rangeB l = false := by unfold rangeB; rw [decide_eq_true h0]; simp
    rw [hB, range_no hB]
    have hd : ((l.length : Int) == 0) = true := by rw [h0]; rfl
    clear hB hg h0
    go_enter Tryd.func8, Tryd.ntmps8
    go_wp2_with (go_at_call 23; refine (HG.out _ HV.out).mono ?_; rintro e w2 ⟨rfl, hb2⟩)
    go_ret2
    exact ⟨rfl, hb2⟩
  have hd : ((l.length : Int) == 0) = false := by rw [beq_eq_false_iff_ne]; omega
  have hB : rangeB l = true := by unfold rangeB; rw [hg, decide_eq_false h0]; rfl
  obtain ⟨hl12, hgood⟩ := goodL_parts hg
  rw [hB, range_yes hB]
  have HGd : Hid _ := hgood
  have HTs : Hid (∀ i, i ≤ l.length → (comT ((l.take i).map spT)).size ≤ 192) := fun i hi => take_size hgood hl12 i hi
  have HStep : Hid (∀ i, (hi : i < l.length) → comT ((l.take (i + 1)).map spT) = if i = 0 then spT l[i] else comT ((l.take i).map spT) ++ ⟨#[44]⟩ ++ spT l[i]) := by
    intro i hi
    rw [map_take i hi, comT_snoc]
    by_cases e : i = 0
    · subst e; simp
    · rw [if_neg e, if_neg (by intro h; have := congrArg List.length h; rw [List.length_map, List.length_take, List.length_nil] at this; omega)]
  have HR : Hid ((⟨#[98, 121, 116, 101, 115, 61]⟩ : ByteArray) ++ comT ((l.take l.length).map spT) = rangeT l) := by show _ = _; rw [List.take_length]; rfl
  generalize rangeT l = RT at HR ⊢
  clear hB hg hgood
  go_enter Tryd.func8, Tryd.ntmps8
  go_wp2_with (go_at_call 23; refine (HG.out _ HV.out).mono ?_; rintro e w2 ⟨rfl, hb2⟩)
  have HB0 : Hid (Below w.heap.size w w2) := hb2
  clear hb2 HG
  go_loopw [4, 17] (fun ov c wr => ∃ i : Nat, i ≤ l.length ∧ c = .int .i64 i ∧ ov = .string ((⟨#[98, 121, 116, 101, 115, 61]⟩ : ByteArray) ++ comT ((l.take i).map spT)) ∧ Hid (Below w.heap.size w wr)) (fun _ c _ => l.length - (intOf c).toNat)
  case atStart => exact ⟨0, by omega, rfl, by rw [show comT ((l.take 0).map spT) = ⟨#[]⟩ from rfl]; rfl, HB0⟩
  case round =>
    obtain ⟨i, hi, rfl, rfl, HB⟩ := hrel
    clear HB0
    by_cases hlt : i < l.length
    · obtain ⟨g, rfl, _, hc, hdd⟩ := row_at (HV.out.below HB.out) hlt
      obtain ⟨f, t, hft, hf6, ht6⟩ := span_form (HGd.out _ (List.getElem_mem hlt))
      have hst := HStep.out i hlt
      have hz1 := HTs.out i hi
      have hz2 := sp_size (HGd.out _ (List.getElem_mem hlt))
      rw [hft] at hc hdd hst hz2
      dsimp only at hc hdd
      have HT : Hid (∀ wx, Calls Tryd.prog 24 #[.agg #[.int .i64 (f : Int), .int .i64 ((t : Int) + 1)]] wx fun e w' => e = .returned (.string (spT ((f : Int), (t : Int) + 1))) ∧ Below wx.heap.size wx w') := by
        intro wx
        rw [sp_is]
        exact l6Text_any f t wx hf6 ht6
      obtain ⟨X, hX⟩ : ∃ X, X = comT ((l.take (i + 1)).map spT) := ⟨_, rfl⟩
      have HX : Hid (X = comT ((l.take (i + 1)).map spT)) := hX
      rw [← hX] at hst
      clear hX
      generalize spT ((f : Int), (t : Int) + 1) = tx at HT hst hz2
      have HC0 : Hid (i = 0 → comT ((l.take i).map spT) = ⟨#[]⟩) := by rintro rfl; rfl
      generalize comT ((l.take i).map spT) = C at hst hz1 HC0 ⊢
      have HB2 : Hid _ := HB.out.alloc HB.out.size (.cells #[.int .i64 (f : Int), .int .i64 ((t : Int) + 1)] 33)
      have hbz : ((⟨#[98, 121, 116, 101, 115, 61]⟩ : ByteArray) ++ C).size = 6 + C.size := by rw [ByteArray.size_append]; rfl
      obtain ⟨O, hO⟩ : ∃ O, O = (⟨#[98, 121, 116, 101, 115, 61]⟩ : ByteArray) ++ C := ⟨_, rfl⟩
      rw [← hO] at hbz
      rw [← hO]
      have k1 : ¬ 9223372036854775807 < O.size + 1 := by omega
      have k2 : ¬ 9223372036854775807 < O.size + 1 + tx.size := by omega
      have k3 : ¬ 9223372036854775807 < O.size + tx.size := by omega
      clear hft HB
      by_cases e : i = 0
      · subst e
        rw [if_pos rfl] at hst
        have HE : Hid (O ++ tx = (⟨#[98, 121, 116, 101, 115, 61]⟩ : ByteArray) ++ X) := by
          show _ = _
          rw [hO, hst, HC0.out rfl]; rfl
        clear hst hO hbz hz1 hz2 HC0
        go_wp2_with (go_at_call 24; refine (HT.out _).mono ?_; rintro e w4 ⟨rfl, hb4⟩)
        refine ⟨⟨0 + 1, by omega, by go_num, by rw [HE.out, HX.out], HB2.out.trans (hb4.mono HB2.out.size)⟩, ?_⟩
        simp [intOf]; omega
      · rw [if_neg e] at hst
        have HE : Hid (O ++ ⟨#[44]⟩ ++ tx = (⟨#[98, 121, 116, 101, 115, 61]⟩ : ByteArray) ++ X) := by
          show _ = _
          rw [hO, hst]
          apply ByteArray.ext
          simp [Array.append_assoc]
        have hd1 : decide ((0 : Int) < (i : Int)) = true := decide_eq_true (by omega)
        clear hst hO hbz hz1 hz2
        go_wp2_with (go_at_call 24; refine (HT.out _).mono ?_; rintro e w4 ⟨rfl, hb4⟩)
        refine ⟨⟨i + 1, by omega, by go_num, by rw [HE.out, HX.out], HB2.out.trans (hb4.mono HB2.out.size)⟩, ?_⟩
        simp [intOf]; omega
    · obtain rfl : i = l.length := by omega
      go_wp2_with fail
      go_ret2
      exact ⟨ret_sb HR.out rfl, HB.out⟩

end Go.Proofs.YtelpmkbjegimpaaDoor.Srt
