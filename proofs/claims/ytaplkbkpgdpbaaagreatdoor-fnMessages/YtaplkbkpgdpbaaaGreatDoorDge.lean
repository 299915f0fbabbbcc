/-
  Walks: draws: spec.DrawRequestBytes, DrawTakeRequest, DrawTakeResponse.
-/
import Derived.Test.YtaplkbkpgdpbaaaGreatDoorDgd
import Derived.Test.YtaplkbkpgdpbaaaGreatDoorRpb
namespace Go.Proofs.YtaplkbkpgdpbaaaGreatDoor.Cur
open Go.RowKit
open Go.Proofs.YtaplkbkpgdpbaaaGreatDoor.Fdb (fieldsIn FV fv_of RowF)
open Go.Proofs.YtaplkbkpgdpbaaaGreatDoor.Rqb (firstR headS l4First_any l4Head_more head_size)
open Go.Proofs.YtaplkbkpgdpbaaaGreatDoor.Fvs (SzF)

theorem FV.setb {w : World} {a : Option Addr} {l : List (ByteArray × ByteArray)} {lo hi b : Nat} (h : FV w a l lo hi) (hb : b < lo) (j : Nat) (u : Value) : FV (w.setCell ⟨b, j, none⟩ u) a l lo hi := by
  rcases h with h | ⟨g, h1, h2, h3, h4, h5, h6⟩
  · exact .inl h
  · have hne : ¬ b = g := by omega
    refine .inr ⟨g, h1, h2, h3, by simpa [World.setCell] using h4, fun i => by simp [go_sem, h5], fun i c hc => ?_⟩
    obtain ⟨k1, k2⟩ := h6 i c hc
    exact ⟨by rw [World.cell?_setCell_other _ _ _ _ (by simp)]; exact k1, by rw [World.cell?_setCell_other _ _ _ _ (by simp)]; exact k2⟩

set_option maxRecDepth 20000 in
set_option maxHeartbeats 3200000 in
theorem drawRB_any (v : Value) (n : Nat) (w : World) (hA : CodeArg w v n) (hn : n ≤ 2000000) :
    Calls Tryz.prog 12 #[v] w fun e w' => ∃ (M T : ByteArray) (a : Option Addr) (ca : Nat) (Bd : ByteArray) (l : List (ByteArray × ByteArray)), e = .returned (.agg #[.string M, .string T, .slice a l.length ca, .string Bd]) ∧ M.size ≤ 20 ∧ T.size ≤ 20 ∧ Bd.size ≤ 5 ∧ l.length ≤ 44 ∧ (∀ c ∈ l, c.1.size ≤ 20 ∧ c.2.size ≤ 20) ∧ l.length ≤ ca ∧ FV w' a l w.heap.size w'.heap.size ∧ Below w.heap.size w w' := by
  obtain ⟨o, cap, rfl⟩ := hA.form
  have hb0 := (Below.refl w.heap.size w).alloc (Nat.le_refl _) (.cells #[.string ⟨#[]⟩, .string ⟨#[]⟩, .slice none 0 0, .string ⟨#[]⟩] 25)
  have HA : Hid _ := hA.below (Nat.le_refl _) hb0
  have HR : Hid _ := QB.made w ⟨#[]⟩ ⟨#[]⟩ ⟨#[]⟩ (.slice none 0 0) 25 (by decide) (by decide) (by decide)
  have HB : Hid _ := hb0
  have hs : (w.alloc (.cells #[.string ⟨#[]⟩, .string ⟨#[]⟩, .slice none 0 0, .string ⟨#[]⟩] 25)).heap.size = w.heap.size + 1 := by simp
  clear hA hb0
  go_enter Tryz.func12, Tryz.ntmps12
  go_wp2_with fail
  refine (drawGoodReq_any _ n _ HA.out hn).mono ?_
  rintro e w1 ⟨M, T, a, ca, Bd, l, rfl, hM, hT, hBd, hl, hz, hca, hF, hb1⟩
  rw [hs] at hF
  have hs1 : w.heap.size + 1 ≤ w1.heap.size := by have := hb1.size; omega
  have hR1 := QB.but (cb := w.heap.size + 5) HR.out (But.of_below hb1) (by omega)
  have hfin : Below w.heap.size w w1 := Below.trans HB.out (Below.mono hb1 (by simp))
  obtain ⟨hr1, hr2, _, _, _, _, _, _, r0, r1, r2, r3⟩ := hR1
  obtain ⟨we, hwe⟩ : ∃ we, we = (((w1.setCell ⟨w.heap.size, 0, none⟩ (.string M)).setCell ⟨w.heap.size, 1, none⟩ (.string T)).setCell ⟨w.heap.size, 2, none⟩ (.slice a l.length ca)).setCell ⟨w.heap.size, 3, none⟩ (.string Bd) := ⟨_, rfl⟩
  have hbe : Below w.heap.size w we := by rw [hwe]; exact (((hfin.setCell (Nat.le_refl _) _).setCell (Nat.le_refl _) _).setCell (Nat.le_refl _) _).setCell (Nat.le_refl _) _
  have hse : we.heap.size = w1.heap.size := by rw [hwe]; simp [World.setCell]
  have hfe : FV we a l (w.heap.size + 1) w1.heap.size := by rw [hwe]; exact FV.setb (FV.setb (FV.setb (FV.setb hF (by omega) _ _) (by omega) _ _) (by omega) _ _) (by omega) _ _
  have hF2 : FV we a l w.heap.size we.heap.size := by
    rcases hfe with h | ⟨g, h1, h2, h3, h4⟩
    · exact .inl h
    · exact .inr ⟨g, h1, by omega, by omega, h4⟩
  have e0 : we.cell? ⟨w.heap.size, 0, none⟩ = some (.string M) := by rw [hwe]; simp [go_sem, r0]
  have e1 : we.cell? ⟨w.heap.size, 1, none⟩ = some (.string T) := by rw [hwe]; simp [go_sem, r1]
  have e2 : we.cell? ⟨w.heap.size, 2, none⟩ = some (.slice a l.length ca) := by rw [hwe]; simp [go_sem, r2]
  have e3 : we.cell? ⟨w.heap.size, 3, none⟩ = some (.string Bd) := by rw [hwe]; simp [go_sem, r3]
  clear hb1 hF hfe HA HR HB hfin
  go_wp2_with fail
  rw [← hwe]
  exact bodyPost_ret (v := .agg #[.string M, .string T, .slice a l.length ca, .string Bd]) (by simp [results, Tryz.results12, go_sem, e0, e1, e2, e3]) rfl ⟨M, T, a, ca, Bd, l, rfl, hM, hT, hBd, hl, hz, hca, hF2, hbe⟩

theorem first_size (M T : ByteArray) : (firstR M T).size = M.size + T.size + 10 := by
  rw [← Go.Proofs.YtaplkbkpgdpbaaaGreatDoor.Rqb.first_is]
  have c1 : (⟨#[32]⟩ : ByteArray).size = 1 := rfl
  have c2 : (⟨#[32, 72, 84, 84, 80, 47, 49, 46, 49]⟩ : ByteArray).size = 9 := rfl
  rw [ByteArray.size_append, ByteArray.size_append, ByteArray.size_append, c1, c2]
  omega
theorem szf_of {l : List (ByteArray × ByteArray)} (h : ∀ c ∈ l, c.1.size ≤ 20 ∧ c.2.size ≤ 20) : SzF l := fun c hc => ⟨Nat.le_trans (h c hc).1 (by decide), Nat.le_trans (h c hc).2 (by decide)⟩

set_option maxRecDepth 20000 in
set_option maxHeartbeats 3200000 in
theorem drawTakeReq_any (v : Value) (n : Nat) (w : World) (hA : CodeArg w v n) (hn : n ≤ 2000000) :
    Calls Tryz.prog 25 #[v] w fun e w' => ∃ s : ByteArray, e = .returned (.string s) ∧ s.size ≤ 10000 ∧ Below w.heap.size w w' := by
  obtain ⟨o, cap, rfl⟩ := hA.form
  have HC0 : Hid _ := start hA hn 78
  have HB0 : Hid _ := (Below.refl w.heap.size w).alloc (Nat.le_refl _) (.cells #[.slice o n cap, .int .i64 0, .int .u64 0] 78)
  have hs0 : (w.alloc (.cells #[.slice o n cap, .int .i64 0, .int .u64 0] 78)).heap.size = w.heap.size + 1 := by simp
  clear hA
  go_enter Tryz.func25, Tryz.ntmps25
  go_wp2_with fail
  refine (request_any _ _ n _ _ HC0.out (by omega)).mono ?_
  rintro e w1 ⟨M, T, r, Bd, l, rfl, hM, hT, hBd, hl, hz, hown, hC1, hb1⟩
  obtain ⟨a, ca, rfl, hV⟩ := fv_of hown
  have HV : Hid _ := hV
  have HC1 : Hid _ := hC1
  have HB1 : Hid (Below w.heap.size w w1) := HB0.out.trans (hb1.below (Nat.le_refl _) (by omega))
  have hFs : (firstR M T).size ≤ 50 := by rw [first_size]; omega
  have hHs := head_size (firstR M T) l hz
  have HF : Hid (∀ w, Calls Tryz.prog 47 #[.agg #[.string M, .string T, .slice a l.length ca, .string Bd]] w fun e w' => e = .returned (.string (firstR M T)) ∧ Below w.heap.size w w') := fun w => l4First_any M T Bd a l.length ca w (by omega) (by omega)
  have HH : Hid (∀ w, FV w a l (w.heap.size - w.heap.size) w1.heap.size → True) := fun _ _ => trivial
  clear HH
  obtain ⟨lo, hi, HV1⟩ : ∃ lo hi, Hid (FV w1 a l lo hi) := ⟨_, _, HV.out⟩
  have HH : Hid (∀ w, FV w a l lo hi → Calls Tryz.prog 46 #[.string (firstR M T), .slice a l.length ca] w fun e w' => e = .returned (.string (headS (firstR M T) l)) ∧ Below w.heap.size w w') := fun w h => l4Head_more (firstR M T) a ca l w lo hi (by omega) (by omega) (szf_of hz) h
  generalize firstR M T = F at HF HH hFs hHs
  generalize headS F l = H at HH hHs
  have q1 : ¬ 9223372036854775807 < H.size + Bd.size := by omega
  have q2 : (H ++ Bd).size ≤ 9000 := by rw [ByteArray.size_append]; omega
  have hb12 : Below w1.heap.size w1 (w1.alloc (.cells #[.string M, .string T, .slice a l.length ca, .string Bd] 25)) := (Below.refl _ _).alloc (Nat.le_refl _) _
  have HX : Hid _ := Go.Proofs.YtaplkbkpgdpbaaaGreatDoor.Rqb.BoxR.made w1 M T a l.length ca Bd 25
  have HC2 : Hid _ := Cursor.below HC1.out hb12
  have HB2 : Hid _ := HB1.out.trans (hb12.mono HB1.out.size)
  have HV2 : Hid _ := FV.below HV1.out hb12
  have hg : w1.heap.size < (w1.alloc (.cells #[.string M, .string T, .slice a l.length ca, .string Bd] 25)).heap.size := by simp
  obtain ⟨w2, hw2⟩ : ∃ w2, w2 = w1.alloc (.cells #[.string M, .string T, .slice a l.length ca, .string Bd] 25) := ⟨_, rfl⟩
  rw [← hw2] at HX HC2 HB2 HV2 hg
  obtain ⟨k0, k1, k2, k3⟩ := HX.out
  clear hC1 hb1 HC0 HB0 hown hV hb12 HX HB1 HC1 HV1 HV hs0 hz hM hT
  go_wp2_with fail
  rw [← hw2]
  clear hw2
  go_region_with (first
    | (go_at_call 47; go_loud (refine (HF.out _).mono ?_; rintro e w3 ⟨rfl, hb3⟩; have c0 := (hb3.cell (p := ⟨w1.heap.size, 0, none⟩) hg).trans k0; have c1 := (hb3.cell (p := ⟨w1.heap.size, 1, none⟩) hg).trans k1; have c2 := (hb3.cell (p := ⟨w1.heap.size, 2, none⟩) hg).trans k2; have c3 := (hb3.cell (p := ⟨w1.heap.size, 3, none⟩) hg).trans k3; have hg3 := Nat.lt_of_lt_of_le hg hb3.size; have V3 : Hid _ := FV.below (w := w2.drew) HV2.out hb3; have C3 : Hid _ := Cursor.below (w := w2.drew) HC2.out hb3; have B3 : Hid _ := HB2.out.drew.trans (hb3.mono HB2.out.size)))
    | (go_at_call 46; refine (HH.out _ V3.out).mono ?_; rintro e w4 ⟨rfl, hb4⟩; have d3 := (hb4.cell (p := ⟨w1.heap.size, 3, none⟩) hg3).trans c3; have C4 : Hid _ := Cursor.below C3.out hb4; have B4 : Hid _ := B3.out.trans (hb4.mono B3.out.size))
    | (go_at_call 59; refine (cutBytes_any _ _ n _ _ _ C4.out (by omega) (by omega)).mono ?_; rintro e w5 ⟨s, rfl, hs, _, hb5⟩; have B5 : Hid _ := B4.out.trans (hb5.below (Nat.le_refl _) B4.out.size)))
  all_goals
    go_wp2
    go_ret
    exact ⟨_, rfl, by omega, B5.out⟩

theorem rpo_size (S : Int) (R : ByteArray) (l : List (ByteArray × ByteArray)) (B : ByteArray) : (Go.Proofs.YtaplkbkpgdpbaaaGreatDoor.Rsb.rpO S R l B).1.size ≤ 9000 := by
  cases h : Go.Proofs.YtaplkbkpgdpbaaaGreatDoor.Rsb.rsB S R l B
  · rw [Go.Proofs.YtaplkbkpgdpbaaaGreatDoor.Rsb.rp_no h]; decide
  · rw [Go.Proofs.YtaplkbkpgdpbaaaGreatDoor.Rsb.rp_yes h]
    obtain ⟨_, h1, h2, _⟩ := Go.Proofs.YtaplkbkpgdpbaaaGreatDoor.Rsb.rs_good h
    show (_ ++ _ : ByteArray).size ≤ _
    rw [ByteArray.size_append]; omega

set_option maxRecDepth 20000 in
set_option maxHeartbeats 3200000 in
theorem drawTakeResp_any (v : Value) (n : Nat) (w : World) (hA : CodeArg w v n) (hn : n ≤ 2000000) :
    Calls Tryz.prog 27 #[v] w fun e w' => ∃ s : ByteArray, e = .returned (.string s) ∧ s.size ≤ 10000 ∧ Below w.heap.size w w' := by
  obtain ⟨o, cap, rfl⟩ := hA.form
  have HC0 : Hid _ := start hA hn 78
  have HB0 : Hid _ := (Below.refl w.heap.size w).alloc (Nat.le_refl _) (.cells #[.slice o n cap, .int .i64 0, .int .u64 0] 78)
  have hs0 : (w.alloc (.cells #[.slice o n cap, .int .i64 0, .int .u64 0] 78)).heap.size = w.heap.size + 1 := by simp
  clear hA
  go_enter Tryz.func27, Tryz.ntmps27
  go_wp2_with fail
  refine (response_any _ _ n _ _ HC0.out (by omega)).mono ?_
  rintro e w1 ⟨S, T, r, Bd, l, rfl, hS, hT, hBd, hl, hz, hown, hC1, hb1⟩
  obtain ⟨a, ca, rfl, hV⟩ := fv_of hown
  have HV : Hid _ := hV
  have HC1 : Hid _ := hC1
  have HB1 : Hid (Below w.heap.size w w1) := HB0.out.trans (hb1.below (Nat.le_refl _) (by omega))
  have HH : Hid (∀ w lo hi, FV w a l lo hi → Calls Tryz.prog 21 #[.agg #[.int .i64 S, .string T, .slice a l.length ca, .string Bd]] w fun e w' => e = .returned (.tuple #[.string (Go.Proofs.YtaplkbkpgdpbaaaGreatDoor.Rsb.rpO S T l Bd).1, .bool (Go.Proofs.YtaplkbkpgdpbaaaGreatDoor.Rsb.rpO S T l Bd).2]) ∧ Below w.heap.size w w') := fun w lo hi h => Go.Proofs.YtaplkbkpgdpbaaaGreatDoor.Rsb.specPB_any S T Bd a ca l w lo hi (by omega) (by omega) (szf_of hz) h
  have hr := rpo_size S T l Bd
  generalize Go.Proofs.YtaplkbkpgdpbaaaGreatDoor.Rsb.rpO S T l Bd = O at HH hr
  clear hC1 hb1 HC0 HB0 hown hV
  have hba : Below w1.heap.size w1 (w1.alloc (.cells #[.int .i64 S, .string T, .slice a l.length ca, .string Bd] 36)) := (Below.refl _ _).alloc (Nat.le_refl _) _
  have HVa : Hid _ := FV.below HV.out hba
  have HCa : Hid _ := Cursor.below HC1.out hba
  have HBa : Hid _ := HB1.out.trans (hba.mono HB1.out.size)
  clear hba HC1
  go_wp2_with fail
  refine (HH.out _ _ _ HVa.out).mono ?_
  rintro e w2 ⟨rfl, hb2⟩
  have HC2 : Hid _ := Cursor.below HCa.out hb2
  have HB2 : Hid _ := HBa.out.trans (hb2.mono HBa.out.size)
  clear HCa HBa HVa HV HB1 hb2
  go_wp2_with fail
  refine (cutBytes_any _ _ n _ _ _ HC2.out (by omega) (by omega)).mono ?_
  rintro e w5 ⟨s, rfl, hs, _, hb5⟩
  have B5 : Hid _ := HB2.out.trans (hb5.below (Nat.le_refl _) HB2.out.size)
  clear HC2 HB2 hb5
  go_wp2_with fail
  go_ret
  exact ⟨_, rfl, by omega, B5.out⟩

end Go.Proofs.YtaplkbkpgdpbaaaGreatDoor.Cur
