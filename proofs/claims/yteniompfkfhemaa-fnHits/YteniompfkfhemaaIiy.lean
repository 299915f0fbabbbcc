/-
  Walk: the law FnHits.
-/
import Derived.Test.YteniompfkfhemaaIiu
import Derived.Test.YteniompfkfhemaaIiv
import Derived.Test.YteniompfkfhemaaIip
namespace Go.Proofs.Yteniompfkfhemaa.Iiy
open Go.RowKit
open Go.Proofs.Yteniompfkfhemaa.Iit
open Go.Proofs.Yteniompfkfhemaa.Cur (CodeArg)
open Go.Proofs.Yteniompfkfhemaa.Iia (intsIn IW IL playLru_any implDist_any specDist_any implHits_any specHits_any goodI_any plB plL plH pl_yes refsB szB sz_iff runM hits_told hsL hs_no hs_yes htL htN htL_len dtL dt_no dt_yes dsL dsL_len ht_take ht_le)

theorem hits_at {l : List Int} (h : refsB l = true) (s : Nat) (hs : s ≤ 40) : plB l (s : Int) = true ∧ plH true l (s : Int) = (htN (dsL l) s : Int) := by
  have h1 : plB l (s : Int) = true := by unfold plB; rw [h, sz_iff.2 (by omega)]; rfl
  refine ⟨h1, ?_⟩
  rw [(pl_yes (mv := true) h1).2, Int.toNat_natCast, hits_told]
theorem htL_at (d : List Int) (s : Nat) (h : s < 41) : (htL d)[s]? = some (htN d s : Int) := by
  unfold htL
  rw [List.getElem?_map, List.getElem?_range h]; rfl

set_option maxRecDepth 20000 in
set_option maxHeartbeats 3200000 in
theorem walk (u : Value) (n : Nat) (w : World) (hU : CodeArg w u n) (hn : n ≤ 140737488355328) :
    Calls Try.prog 4 #[u] w fun e w' => e = .returned (.bool true) ∧ Below w.heap.size w w' := by
  obtain ⟨o1, cap1, rfl⟩ := hU.form
  have HU : Hid (CodeArg w (.slice o1 n cap1) n) := hU
  clear hU
  by_cases hz : 1048576 < n
  · have hd : decide ((1048576 : Int) < (n : Int)) = true := decide_eq_true (by omega)
    go_enter Try.func4, Try.ntmps4
    go_wp2_with fail
    go_ret
    exact ⟨rfl, Below.refl _ _⟩
  have hd : decide ((1048576 : Int) < (n : Int)) = false := decide_eq_false (by omega)
  go_enter Try.func4, Try.ntmps4
  go_wp2_with fail
  refine (drawHits_any _ n _ HU.out (by omega)).mono ?_
  rintro e w1 ⟨r, l, rfl, hl, hv, hb1⟩
  obtain ⟨a, ca, rfl, hIW, hca, _⟩ := iw_cap hv
  have HB1 : Hid (Below w.heap.size w w1) := hb1
  have HV1 : Hid (IL w1 a l w.heap.size w1.heap.size) := hIW.il
  clear hb1 hv hIW HU
  have HI : Hid _ := fun (N : Int) wx lo hi h => playLru_any a ca l N wx lo hi (by omega) h
  have HHi : Hid _ := fun wx lo hi h => implHits_any a ca l wx lo hi (by omega) h
  have HHs : Hid _ := fun wx lo hi h => specHits_any a ca l wx lo hi (by omega) hca h
  have HDi : Hid _ := fun wx lo hi h => implDist_any a ca l wx lo hi (by omega) h
  have HDs : Hid _ := fun wx lo hi h => specDist_any a ca l wx lo hi (by omega) hca h
  have HGo : Hid _ := fun wx lo hi h => goodI_any a ca l wx lo hi (by omega) h
  have HAt : Hid (refsB l = true → ∀ s : Nat, s ≤ 40 → plB l (s : Int) = true ∧ plH true l (s : Int) = (htN (dsL l) s : Int)) := fun h s hs => hits_at h s hs
  have hno := hs_no (l := l)
  have hyes := hs_yes (l := l)
  have dno := dt_no (l := l)
  have dyes := dt_yes (l := l)
  have hdl : (dsL l).length ≤ 201 := by rw [dsL_len]; exact hl
  have hHl : (hsL l).length ≤ 41 := by
    unfold hsL; split
    · rw [htL_len]; exact Nat.le_refl _
    · simp
  have hDl : (dtL l).length ≤ 201 := by
    unfold dtL; split
    · exact hdl
    · simp
  obtain ⟨Hs, hHs⟩ : ∃ L, L = hsL l := ⟨_, rfl⟩
  obtain ⟨Ds, hDs⟩ : ∃ L, L = dtL l := ⟨_, rfl⟩
  obtain ⟨ok, hok⟩ : ∃ b, b = refsB l := ⟨_, rfl⟩
  rw [← hHs] at HHi HHs hno hyes hHl
  rw [← hDs] at HDi HDs dno dyes hDl
  rw [← hok] at HHi HHs HDi HDs HGo HAt hno hyes dno dyes
  have HNo : Hid (ok = false → Hs = []) := hno
  have HYes : Hid (ok = true → Hs = htL (dsL l) ∧ Ds = dsL l) := fun h => ⟨hyes h, dyes h⟩
  clear hno hyes dno dyes hHs hDs hok
  go_wp2_with fail
  refine (HHi.out _ _ _ HV1.out).mono ?_
  rintro e w2 ⟨⟨r, rfl, hr⟩, hb2⟩
  obtain ⟨a2, c2, rfl, hp2, hc2, hm2⟩ := iw_cap hr
  have HB2 : Hid (Below w.heap.size w w2) := HB1.out.trans (hb2.mono HB1.out.size)
  have HV2 : Hid (IL w2 a l w.heap.size w1.heap.size) := HV1.out.below hb2
  have HP2 : Hid (IL w2 a2 Hs w1.heap.size w2.heap.size) := hp2.il
  clear hr hb2 hp2 HB1 HV1 HHi
  go_wp2_with fail
  refine (HHs.out _ _ _ HV2.out).mono ?_
  rintro e w3 ⟨⟨r, rfl, hr⟩, hb3⟩
  obtain ⟨a3, c3, rfl, hp3, hc3, hm3⟩ := iw_cap hr
  have HB3 : Hid (Below w.heap.size w w3) := HB2.out.trans (hb3.mono HB2.out.size)
  have HV3 : Hid (IL w3 a l w.heap.size w1.heap.size) := HV2.out.below hb3
  have HP3 : Hid (IL w3 a2 Hs w1.heap.size w2.heap.size) := HP2.out.below hb3
  have HQ3 : Hid (IL w3 a3 Hs w2.heap.size w3.heap.size) := hp3.il
  clear hr hb3 hp3 HB2 HV2 HP2 HHs
  go_wp2_with fail
  refine (HDi.out _ _ _ HV3.out).mono ?_
  rintro e w4 ⟨⟨r, rfl, hr⟩, hb4⟩
  obtain ⟨a4, c4, rfl, hp4, hc4, hm4⟩ := iw_cap hr
  have HB4 : Hid (Below w.heap.size w w4) := HB3.out.trans (hb4.mono HB3.out.size)
  have HV4 : Hid (IL w4 a l w.heap.size w1.heap.size) := HV3.out.below hb4
  have HP4 : Hid (IL w4 a2 Hs w1.heap.size w2.heap.size) := HP3.out.below hb4
  have HQ4 : Hid (IL w4 a3 Hs w2.heap.size w3.heap.size) := HQ3.out.below hb4
  have HD4 : Hid (IL w4 a4 Ds w3.heap.size w4.heap.size) := hp4.il
  clear hr hb4 hp4 HB3 HV3 HP3 HQ3 HDi
  go_wp2_with fail
  refine (HDs.out _ _ _ HV4.out).mono ?_
  rintro e w5 ⟨⟨r, rfl, hr⟩, hb5⟩
  obtain ⟨a5, c5, rfl, hp5, hc5, hm5⟩ := iw_cap hr
  have HB5 : Hid (Below w.heap.size w w5) := HB4.out.trans (hb5.mono HB4.out.size)
  have HV5 : Hid (IL w5 a l w.heap.size w1.heap.size) := HV4.out.below hb5
  have HP5 : Hid (IL w5 a2 Hs w1.heap.size w2.heap.size) := HP4.out.below hb5
  have HQ5 : Hid (IL w5 a3 Hs w2.heap.size w3.heap.size) := HQ4.out.below hb5
  have HD5 : Hid (IL w5 a4 Ds w3.heap.size w4.heap.size) := HD4.out.below hb5
  have HE5 : Hid (IL w5 a5 Ds w4.heap.size w5.heap.size) := hp5.il
  clear hr hb5 hp5 HB4 HV4 HP4 HQ4 HD4 HDs
  have HSm : Hid _ := fun wx lo hi lo' hi' x y => sameI_any a2 a3 c2 c3 Hs wx lo hi lo' hi' (by omega) x y
  have HSd : Hid _ := fun wx lo hi lo' hi' x y => sameI_any a4 a5 c4 c5 Ds wx lo hi lo' hi' (by omega) x y
  go_wp2_with fail
  refine (HSm.out _ _ _ _ _ HP5.out HQ5.out).mono ?_
  rintro e w6 ⟨rfl, hb6⟩
  have HB6 : Hid (Below w.heap.size w w6) := HB5.out.trans (hb6.mono HB5.out.size)
  have HV6 : Hid (IL w6 a l w.heap.size w1.heap.size) := HV5.out.below hb6
  have HP6 : Hid (IL w6 a2 Hs w1.heap.size w2.heap.size) := HP5.out.below hb6
  have HD6 : Hid (IL w6 a4 Ds w3.heap.size w4.heap.size) := HD5.out.below hb6
  have HE6 : Hid (IL w6 a5 Ds w4.heap.size w5.heap.size) := HE5.out.below hb6
  clear hb6 HB5 HV5 HP5 HQ5 HD5 HE5 HSm
  go_wp2_with fail
  refine (HSd.out _ _ _ _ _ HD6.out HE6.out).mono ?_
  rintro e w7 ⟨rfl, hb7⟩
  have HB7 : Hid (Below w.heap.size w w7) := HB6.out.trans (hb7.mono HB6.out.size)
  have HV7 : Hid (IL w7 a l w.heap.size w1.heap.size) := HV6.out.below hb7
  have HP7 : Hid (IL w7 a2 Hs w1.heap.size w2.heap.size) := HP6.out.below hb7
  have HD7 : Hid (IL w7 a4 Ds w3.heap.size w4.heap.size) := HD6.out.below hb7
  clear hb7 HB6 HV6 HP6 HD6 HE6 HSd
  go_wp2_with fail
  refine (HGo.out _ _ _ HV7.out).mono ?_
  rintro e w8 ⟨rfl, hw⟩
  obtain rfl := hw.symm
  cases ok
  · have hnil := HNo.out rfl
    subst hnil
    clear HNo HYes HAt HI HGo HV7 HP7 HD7
    go_wp2_with fail
    go_ret
    exact ⟨rfl, HB7.out⟩
  obtain ⟨y1, y2⟩ := HYes.out rfl
  have HAt2 : Hid (∀ s : Nat, s ≤ 40 → plB l (s : Int) = true ∧ plH true l (s : Int) = (htN Ds s : Int)) := by rw [y2]; exact HAt.out rfl
  have HHt : Hid (Hs = htL Ds) := by rw [y2]; exact y1
  clear y1 y2 HNo HYes HAt HGo
  have HLn : Hid (Hs.length = 41) := by show _ = _; rw [HHt.out, htL_len]
  have hl41 : (Hs.length : Int) = 41 := by have := HLn.out; omega
  go_wp2_with fail
  go_loopw [77] (fun i wr => ∃ s : Nat, s ≤ 41 ∧ i = .int .i64 s ∧ Hid (Below w7.heap.size w7 wr)) (fun i _ => 41 - (intOf i).toNat)
  case atStart => exact ⟨0, Nat.zero_le _, rfl, Below.refl _ _⟩
  case round =>
    obtain ⟨s, hs, rfl, HW⟩ := hrel
    by_cases hlt : s < 41
    · have hsi : (s : Int) < (Hs.length : Int) := by omega
      obtain ⟨hat1, hat2⟩ := HAt2.out s (by omega)
      have HIs : Hid _ := HI.out (s : Int)
      rw [hat1, hat2] at HIs
      have hHs : Hs[s]? = some (htN Ds s : Int) := by rw [HHt.out]; exact htL_at Ds s hlt
      have HHs2 : Hid _ := hHs
      have HTk : Hid (∀ j, (h : j < Ds.length) → htN (Ds.take (j + 1)) s = htN (Ds.take j) s + (if (decide (0 < Ds[j]) && decide (Ds[j] ≤ (s : Int))) = true then 1 else 0)) := fun j h => ht_take Ds s j h
      have HLe : Hid (∀ j, htN (Ds.take j) s ≤ 201) := fun j => by have := ht_le (Ds.take j) s; rw [List.length_take] at this; omega
      have HEnd : Hid (htN (Ds.take Ds.length) s = htN Ds s) := by show _ = _; rw [List.take_length]
      have HZ : Hid (htN (Ds.take 0) s = 0) := by show _ = _; simp [htN]
      have hle := ht_le Ds s
      obtain ⟨hm, hhm⟩ : ∃ q, q = htN Ds s := ⟨_, rfl⟩
      rw [← hhm] at HIs HHs2 HEnd hle
      clear hat1 hat2 hHs hhm
      go_wp2_with fail
      refine (HIs.out _ _ _ (HV7.out.below HW.out)).mono ?_
      rintro e w9 ⟨⟨r, rfl, hr⟩, hb9⟩
      have HW9 : Hid (Below w7.heap.size w7 w9) := HW.out.trans (hb9.mono HW.out.size)
      clear hr hb9 HIs HW
      have HP9 : Hid (IL w9 a2 Hs w1.heap.size w2.heap.size) := HP7.out.below HW9.out
      have HD9 : Hid (IL w9 a4 Ds w3.heap.size w4.heap.size) := HD7.out.below HW9.out
      go_wp2_with fail
      go_loop [16, 89] (fun m j => ∃ k : Nat, k ≤ Ds.length ∧ j = .int .i64 k ∧ m = .int .i64 (htN (Ds.take k) s : Int)) (fun _ j => Ds.length - (intOf j).toNat)
      case atStart => exact ⟨0, Nat.zero_le _, rfl, by rw [HZ.out]; rfl⟩
      case round =>
        obtain ⟨k, hk, rfl, rfl⟩ := hrel
        have hle2 := HLe.out k
        by_cases hlk : k < Ds.length
        · obtain ⟨ad, rfl, hc⟩ := HD9.out.cell hlk
          have HTn : Hid _ := HTk.out k hlk
          generalize Ds[k] = x at *
          generalize htN (Ds.take k) s = q at *
          by_cases hx1 : 0 < x
          · have hd1 : decide (0 < x) = true := decide_eq_true hx1
            by_cases hx2 : x ≤ (s : Int)
            · have hd2 : decide (x ≤ (s : Int)) = true := decide_eq_true hx2
              have HTm : Hid (htN (Ds.take (k + 1)) s = q + 1) := by show _ = _; rw [HTn.out, hd1, hd2]; rfl
              clear HTn
              go_wp2_with fail
              go_round
              case rel => exact ⟨k + 1, by omega, by go_num, by rw [HTm.out]; go_num⟩
              case measure => simp [intOf]; omega
            · have hd2 : decide (x ≤ (s : Int)) = false := decide_eq_false hx2
              have HTm : Hid (htN (Ds.take (k + 1)) s = q) := by show _ = _; rw [HTn.out, hd1, hd2]; rfl
              clear HTn
              go_wp2_with fail
              go_round
              case rel => exact ⟨k + 1, by omega, by go_num, by rw [HTm.out]⟩
              case measure => simp [intOf]; omega
          · have hd1 : decide (0 < x) = false := decide_eq_false hx1
            have HTm : Hid (htN (Ds.take (k + 1)) s = q) := by show _ = _; rw [HTn.out, hd1]; rfl
            clear HTn
            go_wp2_with fail
            go_round
            case rel => exact ⟨k + 1, by omega, by go_num, by rw [HTm.out]⟩
            case measure => simp [intOf]; omega
        · obtain rfl : k = Ds.length := by omega
          rw [HEnd.out]
          have hsl : s < Hs.length := by omega
          obtain ⟨ad, hade, hcs⟩ := HP9.out.cell hsl
          have hval : Hs[s] = (hm : Int) := by
            have := HHs2.out
            rw [List.getElem?_eq_getElem hsl] at this
            exact Option.some.inj this
          rw [hval] at hcs
          subst hade
          clear hval HHs2 HTk HLe HEnd HZ
          go_wp2_with fail
          go_roundw
          case rel => exact ⟨s + 1, by omega, by go_num, HW9⟩
          case measure => simp [intOf]; omega
    · obtain rfl : s = 41 := by omega
      have HBe : Hid (Below w.heap.size w wr) := HB7.out.trans (HW.out.mono HB7.out.size)
      clear HI HAt2 HHt
      go_wp2_with fail
      go_ret
      exact ⟨rfl, HBe.out⟩

end Go.Proofs.Yteniompfkfhemaa.Iiy
