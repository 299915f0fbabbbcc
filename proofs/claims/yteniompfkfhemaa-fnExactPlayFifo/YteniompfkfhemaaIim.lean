/-
  Walk: spec.PlayFifo.
-/
import Derived.Test.YteniompfkfhemaaIik
namespace Go.Proofs.Yteniompfkfhemaa.Iia
open Go.RowKit

set_option maxHeartbeats 1600000 in
theorem specFifo_any (a : Option Addr) (ca : Nat) (l : List Int) (N : Int) (w : World) (lo hi : Nat) (hl : l.length ≤ 2000000) (ha : IL w a l lo hi) :
    Calls Try.prog 36 #[.slice a l.length ca, .int .i64 N] w fun e w' => (∃ r, e = .returned (.tuple #[r, .int .i64 (plH false l N), .bool (plB l N)]) ∧ intsIn w' w.heap.size r (plL false l N)) ∧ Below w.heap.size w w' := by
  have HA : Hid (IL w a l lo hi) := ha
  have HG : Hid _ := goodS_any a ca l w lo hi hl ha
  have HZ : Hid (∀ w, Calls Try.prog 42 #[.int .i64 N, .int .i64 0, .int .i64 40] w fun e w' => e = .returned (.bool (szB N)) ∧ w' = w) := fun w => l1In_any N 0 40 w
  cases hg : refsB l
  · have hB : plB l N = false := by unfold plB; rw [hg]; rfl
    rw [hB, (pl_no hB).1, (pl_no hB).2]
    rw [hg] at HG
    clear hg hB ha
    go_enter Try.func36, Try.ntmps36
    go_wp2_with (go_at_call 31; refine Calls.mono HG.out ?_; rintro e w' ⟨rfl, hw⟩; obtain rfl := hw.symm)
    go_ret3
    exact ⟨⟨_, rfl, intsIn.nil _ _⟩, Below.refl _ _⟩
  cases hz : szB N
  · have hB : plB l N = false := by unfold plB; rw [hg, hz]; rfl
    rw [hB, (pl_no hB).1, (pl_no hB).2]
    rw [hg] at HG
    rw [hz] at HZ
    clear hg hB hz ha
    go_enter Try.func36, Try.ntmps36
    go_wp2_with (first
      | (go_at_call 31; refine Calls.mono HG.out ?_; rintro e w' ⟨rfl, hw⟩; obtain rfl := hw.symm)
      | (go_at_call 42; refine Calls.mono (HZ.out _) ?_; rintro e w' ⟨rfl, hw⟩; obtain rfl := hw.symm))
    go_ret3
    exact ⟨⟨_, rfl, intsIn.nil _ _⟩, Below.refl _ _⟩
  have hB : plB l N = true := by unfold plB; rw [hg, hz]; rfl
  rw [hB, (pl_yes hB).1, (pl_yes hB).2]
  obtain ⟨z0, z1⟩ := sz_iff.1 hz
  obtain ⟨n, hn⟩ := Int.eq_ofNat_of_zero_le z0
  subst hn
  have hn40 : n ≤ 40 := by omega
  rw [Int.toNat_natCast]
  rw [hg] at HG
  rw [hz] at HZ
  clear hg hB hz z0 z1 ha
  have HTc : Hid (∀ k a c (w : World) lo hi y, IL w a (runM false n (l.take k)).1 lo hi → Calls Try.prog 57 #[.slice a (runM false n (l.take k)).1.length c, .int .i64 y, .int .i64 n] w fun e w' => (∃ r, e = .returned (.tuple #[r, .bool ((runM false n (l.take k)).1.contains y)]) ∧ intsIn w' w.heap.size r (tchN n (runM false n (l.take k)).1 y)) ∧ Below w.heap.size w w') :=
    fun k a c w lo hi y h => l10Touch_any a c _ y n w lo hi (by have := (run_inv false n (l.take k)).2; omega) h
  go_enter Try.func36, Try.ntmps36
  go_wp2_with (first
    | (go_at_call 31; refine Calls.mono HG.out ?_; rintro e w' ⟨rfl, hw⟩; obtain rfl := hw.symm)
    | (go_at_call 42; refine Calls.mono (HZ.out _) ?_; rintro e w' ⟨rfl, hw⟩; obtain rfl := hw.symm))
  go_loopw [7, 8, 23] (fun v h i wr => ∃ k : Nat, k ≤ l.length ∧ i = .int .i64 k ∧ h = .int .i64 ((runM false n (l.take k)).2 : Int) ∧ Hid (intsIn wr w.heap.size v (runM false n (l.take k)).1) ∧ Hid (Below w.heap.size w wr)) (fun _ _ i _ => l.length - (intOf i).toNat)
  case atStart => exact ⟨0, Nat.zero_le _, rfl, rfl, intsIn.nil _ _, Below.refl _ _⟩
  case round =>
    obtain ⟨k, hk, rfl, rfl, HO, HB⟩ := hrel
    have hhl := hits_le false n l k hk
    by_cases hlt : k < l.length
    · obtain ⟨ad, rfl, hc⟩ := (HA.out.below HB.out).cell hlt
      have HT : Hid (runM false n (l.take (k + 1)) = (stepM false n (runM false n (l.take k)).1 l[k], (runM false n (l.take k)).2 + (if (runM false n (l.take k)).1.contains l[k] = true then 1 else 0))) := run_take false n l k hlt
      have HTk : Hid _ := HTc.out k
      obtain ⟨sa, sc, hsv, hIW⟩ := iw_of HO.out
      subst hsv
      have hst : ∀ s : List Int, stepM false n s l[k] = if (s.contains l[k] && !false) = true then s else tchN n s l[k] := fun s => rfl
      generalize l[k] = x at *
      generalize (runM false n (l.take k)).1 = s at *
      generalize (runM false n (l.take k)).2 = h at *
      have HX : Hid _ := HTk.out sa sc wr _ _ x hIW.il
      have hstx := hst s
      clear HTk hIW hst
      cases hin : s.contains x
      · rw [hin] at HX hstx
        have HT1 : Hid ((runM false n (l.take (k + 1))).1 = tchN n s x) := by show _ = _; rw [HT.out]; exact hstx
        have HT2 : Hid ((runM false n (l.take (k + 1))).2 = h) := by show _ = _; rw [HT.out, hin]; rfl
        clear HT hin hstx
        go_wp2_with (go_at_call 57; refine Calls.mono HX.out ?_; rintro e w2 ⟨⟨r, rfl, hr⟩, hb2⟩)
        have HO2 : Hid (intsIn w2 w.heap.size r (runM false n (l.take (k + 1))).1) := by show intsIn _ _ _ _; rw [HT1.out]; exact hr.base HB.out.size
        have HB2 : Hid (Below w.heap.size w w2) := HB.out.trans (hb2.mono HB.out.size)
        clear hr hb2 HX HT1 HO
        go_roundw
        case rel => exact ⟨k + 1, by omega, by go_num, by rw [HT2.out], HO2, HB2⟩
        case measure => simp [intOf]; omega
      · rw [hin] at HX hstx
        have HT1 : Hid ((runM false n (l.take (k + 1))).1 = s) := by show _ = _; rw [HT.out]; exact hstx
        have HT2 : Hid ((runM false n (l.take (k + 1))).2 = h + 1) := by show _ = _; rw [HT.out, hin]; rfl
        clear HT hin hstx
        go_wp2_with (go_at_call 57; refine Calls.mono HX.out ?_; rintro e w2 ⟨⟨r, rfl, hr⟩, hb2⟩)
        have HO2 : Hid (intsIn w2 w.heap.size (.slice sa s.length sc) (runM false n (l.take (k + 1))).1) := by show intsIn _ _ _ _; rw [HT1.out]; exact HO.out.below hb2
        have HB2 : Hid (Below w.heap.size w w2) := HB.out.trans (hb2.mono HB.out.size)
        clear hr hb2 HX HT1 HO
        go_roundw
        case rel => exact ⟨k + 1, by omega, by go_num, by rw [HT2.out]; go_num, HO2, HB2⟩
        case measure => simp [intOf]; omega
    · obtain rfl : k = l.length := by omega
      have HE : Hid (runM false n (l.take l.length) = runM false n l) := by show _ = _; rw [List.take_length]
      have ho := HO.out
      rw [HE.out] at ho
      have hRl := (run_inv false n l).2
      obtain ⟨R, hR⟩ : ∃ R, R = runM false n l := ⟨_, rfl⟩
      have HR : Hid (R = runM false n l) := hR
      rw [HE.out]
      rw [← hR] at ho hRl ⊢
      have hm : intsIn (wr.alloc (.cells #[] 3)) w.heap.size (.slice (some ⟨wr.heap.size, 0, none⟩) 0 0) [] := (intsIn.made wr _ HB.out.size)
      have hsr : SrcI (wr.alloc (.cells #[] 3)) u7 R.1 := (srcI_in (ho.alloc _))
      have hbm := HB.out.alloc HB.out.size (.cells #[] 3)
      clear hR ho HO HTc HG HZ
      go_wp2_with (at_builtin; refine wpList_append_srcI _ rfl _ _ rfl w.heap.size _ [] (by rfl) hm _ R.1 (by rfl) hsr (by simp; omega) hbm.size w hbm ?_)
      intro v3 w3 hown3 hb3 _
      have HO3 : Hid (intsIn w3 w.heap.size v3 R.1) := hown3
      have HB3 : Hid _ := hb3
      clear hown3 hb3 hm hsr hbm
      go_wp2_with fail
      go_ret3
      refine ⟨⟨v3, ?_, ?_⟩, HB3.out⟩
      · rw [← HR.out]; rfl
      · rw [← HR.out]; exact HO3.out

end Go.Proofs.Yteniompfkfhemaa.Iia
