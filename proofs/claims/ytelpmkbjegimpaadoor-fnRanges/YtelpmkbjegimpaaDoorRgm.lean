/-
  Walk: the law FnRanges.
-/
import Derived.Test.YtelpmkbjegimpaaDoorRgl
namespace Go.Proofs.YtelpmkbjegimpaaDoor.Rgm
open Go.RowKit
open Go.Proofs.YtelpmkbjegimpaaDoor.Fch (Tab)
open Go.Proofs.YtelpmkbjegimpaaDoor.Rga
open Go.Proofs.YtelpmkbjegimpaaDoor.Rgb
open Go.Proofs.YtelpmkbjegimpaaDoor.Rgl
open Go.Proofs.YtelpmkbjegimpaaDoor.Spb
open Go.Proofs.YtelpmkbjegimpaaDoor.Spp
open Go.Proofs.YtelpmkbjegimpaaDoor.Srt
open Go.Proofs.YtelpmkbjegimpaaDoor.Cur
open Go.Proofs.YtelpmkbjegimpaaDoor.Fbs (plainB seenB)
open Go.Proofs.YtelpmkbjegimpaaDoor.Num (tab_below tab_lt)

/-- What a drawn header's value is plain by. -/
theorem plain_of {l : List UInt8} (h : Pl l) : plainB l = true ∧ ∀ c ∈ l, c.toNat ≠ 34 := by
  refine ⟨?_, fun c hc => (h c hc).2.2⟩
  unfold plainB
  rw [List.all_eq_true]
  intro c hc
  obtain ⟨h1, h2, _⟩ := h c hc
  unfold seenB
  rw [decide_eq_true (by omega), decide_eq_true (by omega)]
  rfl
/-- A text of spans is short. -/
theorem text_size {l : List (Int × Int)} (h : rangeB l = true) : (rangeT l).size ≤ 1000000 := by
  unfold rangeB at h
  rw [Bool.and_eq_true] at h
  obtain ⟨h12, hg⟩ := goodL_parts h.1
  have hc := com_size _ (l.map spT) rfl (fun x hx => by
    obtain ⟨c, hc, rfl⟩ := List.mem_map.1 hx
    exact sp_size (hg c hc))
  rw [List.length_map] at hc
  have e : (⟨#[98, 121, 116, 101, 115, 61]⟩ : ByteArray).size = 6 := rfl
  unfold rangeT
  rw [ByteArray.size_append, e]
  omega
theorem ne_empty {s : ByteArray} (h : 0 < s.size) : s.toList.isEmpty = false := by
  cases hE : s.toList with
  | nil =>
    have h2 : s.data.toList.length = 0 := by rw [← Lib.toList_data, hE]; rfl
    have h3 : s.data.toList.length = s.size := by simp
    omega
  | cons a r => rfl
/-- A row and its code agree. -/
theorem end_told {l : List (Int × Int)} {c : Int} (h : c = 0 ∧ l ≠ [] ∨ (c = 1 ∨ c = 2) ∧ l = []) : ((c == 0) == decide (0 < l.length)) = true := by
  rcases h with ⟨rfl, h⟩ | ⟨rfl | rfl, rfl⟩
  · have : 0 < l.length := List.length_pos_iff.2 h
    rw [decide_eq_true this]; rfl
  · rfl
  · rfl

set_option maxRecDepth 20000 in
set_option maxHeartbeats 12800000 in
theorem walk (u1 u2 : Value) (n1 n2 : Nat) (w : World) (hU1 : CodeArg w u1 n1) (hU2 : CodeArg w u2 n2) (hn1 : n1 ≤ 140737488355328) (hn2 : n2 ≤ 140737488355328) (hT : Tab w) (hP : PowT w) (m : Int) (hm : w.cell? ⟨0, 0, none⟩ = some (.int .i64 m)) :
    Calls Tryd.prog 3 #[u1, u2] w fun e w' => e = .returned (.bool true) ∧ Below w.heap.size w w' := by
  obtain ⟨o1, cap1, rfl⟩ := hU1.form
  obtain ⟨o2, cap2, rfl⟩ := hU2.form
  have HU1 : Hid (CodeArg w (.slice o1 n1 cap1) n1) := hU1
  have HU2 : Hid (CodeArg w (.slice o2 n2 cap2) n2) := hU2
  have hlt := hT.lt
  have hgp := tab_lt hP
  have hml := World.block_lt_of_cell? _ _ hm
  have HTab : Hid (∀ wx, Below w.heap.size w wx → Tab wx) := fun wx hb => hT.below hb hlt
  have HPow : Hid (∀ wx, Below w.heap.size w wx → PowT wx) := fun wx hb => tab_below hP hb hgp
  have HMax : Hid (∀ wx, Below w.heap.size w wx → wx.cell? ⟨0, 0, none⟩ = some (.int .i64 m)) := fun wx hb => (hb.cell (p := ⟨0, 0, none⟩) hml).trans hm
  clear hU1 hU2 hT hP hm hlt hgp hml
  by_cases hz : 1048576 < n1 + n2
  · have hd : decide (1048576 < (n1 : Int) + (n2 : Int)) = true := decide_eq_true (by omega)
    go_enter Tryd.func3, Tryd.ntmps3
    go_wp2_with fail
    go_ret
    exact ⟨rfl, Below.refl _ _⟩
  have hd : decide (1048576 < (n1 : Int) + (n2 : Int)) = false := decide_eq_false (by omega)
  go_enter Tryd.func3, Tryd.ntmps3
  go_wp2_with fail
  refine (drawText_any _ n1 _ HU1.out (by omega)).mono ?_
  rintro e w1 ⟨a, ca, l, rfl, hl, hv, hb1⟩
  have HB1 : Hid (Below w.heap.size w w1) := hb1
  have HV1 : Hid (PV w1 a l w.heap.size w1.heap.size) := hv
  have HI : Hid _ := fun wx lo hi hp h => implText_any a ca l wx lo hi hp (by omega) h
  have HSp : Hid _ := fun wx lo hi h => specText_any a ca l wx lo hi (by omega) h
  have HBack : Hid (rangeB l = true → readF numP (rangeS l) 1000000 = (l, 0)) := fun h => by rw [range_yes h]; exact read_back h
  have HSz : Hid (rangeB l = true → (rangeS l).size ≤ 1000000) := fun h => by rw [range_yes h]; exact text_size h
  generalize rangeS l = S at HI HSp HBack HSz
  have hsS := Mrk.same_text S
  clear hb1 hv HU1
  cases hB : rangeB l
  case' false =>
    rw [hB] at HI HSp
    clear HBack HSz hB
    go_wp2_with fail
    refine (HI.out _ _ _ (HPow.out _ HB1.out) HV1.out).mono ?_
    rintro e w2 ⟨rfl, hb2⟩
    have HB2 : Hid (Below w.heap.size w w2) := HB1.out.trans (hb2.mono HB1.out.size)
    have HV2 : Hid (PV w2 a l w.heap.size w1.heap.size) := HV1.out.below hb2
    clear hb2 HB1 HV1 HI
    go_wp2_with fail
    refine (HSp.out _ _ _ HV2.out).mono ?_
    rintro e wt ⟨rfl, hb3⟩
    have HBt : Hid (Below w.heap.size w wt) := HB2.out.trans (hb3.mono HB2.out.size)
    clear hb3 HSp HB2 HV2
    go_wp2_with fail
  case' true =>
    have hback := HBack.out hB
    have hsz := HSz.out hB
    rw [hB] at HI HSp
    have HR1 : Hid (∀ wx, Tab wx → wx.cell? ⟨0, 0, none⟩ = some (.int .i64 m) → Calls Tryd.prog 9 #[.string S, .int .i64 1000000] wx fun e w' => (∃ r, e = .returned (.tuple #[r, .int .i64 0]) ∧ spansIn w' wx.heap.size r l) ∧ Below wx.heap.size wx w') := fun wx h1 h2 => by
      have h := implRead_any S 1000000 m wx h1 hsz h2
      rw [hback] at h
      exact h
    clear HBack HSz hB hback hsz
    go_wp2_with fail
    refine (HI.out _ _ _ (HPow.out _ HB1.out) HV1.out).mono ?_
    rintro e w2 ⟨rfl, hb2⟩
    have HB2 : Hid (Below w.heap.size w w2) := HB1.out.trans (hb2.mono HB1.out.size)
    have HV2 : Hid (PV w2 a l w.heap.size w1.heap.size) := HV1.out.below hb2
    clear hb2 HB1 HV1 HI
    go_wp2_with fail
    refine (HSp.out _ _ _ HV2.out).mono ?_
    rintro e w3 ⟨rfl, hb3⟩
    have HB3 : Hid (Below w.heap.size w w3) := HB2.out.trans (hb3.mono HB2.out.size)
    have HV3 : Hid (PV w3 a l w.heap.size w1.heap.size) := HV2.out.below hb3
    clear hb3 HSp HB2 HV2
    go_wp2_with fail
    refine (HR1.out _ (HTab.out _ HB3.out) (HMax.out _ HB3.out)).mono ?_
    rintro e w4 ⟨⟨r4, rfl, hr⟩, hb4⟩
    obtain ⟨a4, c4, rfl, hp4⟩ := pv_of hr
    have HB4 : Hid (Below w.heap.size w w4) := HB3.out.trans (hb4.mono HB3.out.size)
    have HV4 : Hid (PV w4 a l w.heap.size w1.heap.size) := HV3.out.below hb4
    have HP4 : Hid (PV w4 a4 l w3.heap.size w4.heap.size) := hp4
    have HS : Hid _ := fun wx lo hi lo' hi' x y => sameSpans_any a a4 ca c4 l wx lo hi lo' hi' (by omega) x y
    clear hr hb4 hp4 HB3 HV3 HR1
    go_wp2_with (go_at_call 10; refine (HS.out _ _ _ _ _ HV4.out HP4.out).mono ?_; rintro e wt ⟨rfl, hb5⟩)
    have HBt : Hid (Below w.heap.size w wt) := HB4.out.trans (hb5.mono HB4.out.size)
    clear hb5 HB4 HV4 HP4 HS
  all_goals
    refine (drawRead_any _ n2 _ (HU2.out.below (Nat.le_refl _) HBt.out) (by omega)).mono ?_
    rintro e w7 ⟨T, z, rfl, hTz, hMS, hPl, hb7⟩
    have HB7 : Hid (Below w.heap.size w w7) := HBt.out.trans (hb7.mono HBt.out.size)
    obtain ⟨hp1, hp2⟩ := plain_of hPl
    have HI2 : Hid _ := fun wx h1 h2 => implRead_any T z m wx h1 (by omega) h2
    have HS2 : Hid _ := fun wx => specRead_any T z wx (by omega) hp1 hp2
    rw [← readF_same hMS] at HS2
    obtain ⟨q1, q2, q3⟩ := read_told numP T z
    generalize hlc : readF numP T z = LC at HI2 HS2 q1 q2 q3
    obtain ⟨l2, c2⟩ := LC
    dsimp only at HI2 HS2 q1 q2 q3
    have HEnd : Hid _ := end_told q3
    have HIn : Hid (∀ p ∈ l2, 0 ≤ p.1 ∧ p.1 < p.2 ∧ p.2 ≤ z ∧ z ≤ 1000000) := q2
    clear hlc q2 q3 hp1 hp2 hMS hPl hb7 HBt HU2 hTz
    go_wp2_with fail
    refine (HI2.out _ (HTab.out _ HB7.out) (HMax.out _ HB7.out)).mono ?_
    rintro e w8 ⟨⟨r8, rfl, hr⟩, hb8⟩
    obtain ⟨a8, c8, rfl, hp8⟩ := pv_of hr
    have HB8 : Hid (Below w.heap.size w w8) := HB7.out.trans (hb8.mono HB7.out.size)
    have HP8 : Hid (PV w8 a8 l2 w7.heap.size w8.heap.size) := hp8
    clear hr hb8 hp8 HB7 HI2
    go_wp2_with fail
    refine (HS2.out _).mono ?_
    rintro e w9 ⟨⟨r9, rfl, hr⟩, hb9⟩
    obtain ⟨a9, c9, rfl, hp9⟩ := pv_of hr
    have HB9 : Hid (Below w.heap.size w w9) := HB8.out.trans (hb9.mono HB8.out.size)
    have HP9 : Hid (PV w9 a8 l2 w7.heap.size w8.heap.size) := HP8.out.below hb9
    have HQ9 : Hid (PV w9 a9 l2 w8.heap.size w9.heap.size) := hp9
    have HS3 : Hid _ := fun wx lo hi lo' hi' x y => sameSpans_any a8 a9 c8 c9 l2 wx lo hi lo' hi' (by omega) x y
    clear hr hb9 hp9 HB8 HP8 HS2
    have hcc : (c2 != c2) = false := by simp
    go_wp2_with (go_at_call 10; refine (HS3.out _ _ _ _ _ HP9.out HQ9.out).mono ?_; rintro e w10 ⟨rfl, hb10⟩)
    have HB10 : Hid (Below w.heap.size w w10) := HB9.out.trans (hb10.mono HB9.out.size)
    have HP10 : Hid (PV w10 a8 l2 w7.heap.size w8.heap.size) := HP9.out.below hb10
    clear hb10 HS3 HP9 HQ9 HB9
    go_loopw [90] (fun i wr => ∃ k : Nat, k ≤ l2.length ∧ i = .int .i64 k ∧ Hid (Below w10.heap.size w10 wr)) (fun i _ => l2.length - (intOf i).toNat)
    case atStart => exact ⟨0, by omega, rfl, Below.refl _ _⟩
    case round =>
      obtain ⟨k, hk, rfl, HW⟩ := hrel
      by_cases hlt : k < l2.length
      · obtain ⟨g, rfl, hgl, hc0, hc1⟩ := row_at (HP10.out.below HW.out) hlt
        obtain ⟨p1, p2, p3, p4⟩ := HIn.out l2[k] (List.getElem_mem _)
        obtain ⟨f, hf⟩ : ∃ f : Nat, l2[k].1 = (f : Int) := ⟨l2[k].1.toNat, by omega⟩
        obtain ⟨t, ht⟩ : ∃ t : Nat, l2[k].2 = (t : Int) + 1 := ⟨(l2[k].2 - 1).toNat, by omega⟩
        obtain ⟨zn, rfl⟩ : ∃ zn : Nat, z = (zn : Int) := ⟨z.toNat, by omega⟩
        rw [hf] at hc0 p1 p2
        rw [ht] at hc1 p2 p3
        clear hf ht
        have HCR : Hid (∀ wx, PowT wx → _) := fun wx hp => contentRange_any f t zn wx hp (by omega) (by omega) (by omega)
        have d1 : decide ((f : Int) < 0) = false := decide_eq_false (by omega)
        have d2 : decide ((t : Int) + 1 ≤ (f : Int)) = false := decide_eq_false (by omega)
        have d3 : decide ((zn : Int) < (t : Int) + 1) = false := decide_eq_false (by omega)
        obtain ⟨W, hW⟩ : ∃ W, W = wr.alloc (.cells #[.int .i64 (f : Int), .int .i64 ((t : Int) + 1)] 33) := ⟨_, rfl⟩
        have hn : wr.heap.size < W.heap.size := by rw [hW]; simp
        have Hb1 : Hid (Below w10.heap.size w10 W) := by rw [hW]; exact HW.out.alloc HW.out.size _
        have x0 : W.cell? ⟨wr.heap.size, 0, none⟩ = some (.int .i64 (f : Int)) := by rw [hW]; simp [go_sem]
        have x1 : W.cell? ⟨wr.heap.size, 1, none⟩ = some (.int .i64 ((t : Int) + 1)) := by rw [hW]; simp [go_sem]
        go_wp2_with fail
        rw [← hW]
        clear hW
        refine (HCR.out _ (HPow.out _ (HB10.out.trans (Hb1.out.mono HB10.out.size)))).mono ?_
        rintro e wq ⟨⟨r, rfl, hr⟩, hbq⟩
        have y0 := (hbq.cell (p := ⟨wr.heap.size, 0, none⟩) hn).trans x0
        have y1 := (hbq.cell (p := ⟨wr.heap.size, 1, none⟩) hn).trans x1
        have Hb2 : Hid (Below w10.heap.size w10 wq) := Hb1.out.trans (hbq.mono Hb1.out.size)
        have hnq : wr.heap.size < wq.heap.size := Nat.lt_of_lt_of_le hn hbq.size
        clear x0 x1 hn hbq Hb1 HCR
        have hne := ne_empty hr
        go_wp2_with fail
        refine ⟨⟨k + 1, by omega, by go_num, Hb2⟩, ?_⟩
        simp [intOf]; omega
      · obtain rfl : k = l2.length := by omega
        go_wp2_with fail
        go_ret
        exact ⟨ret_b HEnd.out, HB10.out.trans (HW.out.mono HB10.out.size)⟩

end Go.Proofs.YtelpmkbjegimpaaDoor.Rgm
