/-
  Walk: spec.TakeRequest.
-/
import Derived.Test.YtaplkbkpgdpbaaaGreatDoorTks
import Derived.Test.YtaplkbkpgdpbaaaGreatDoorTkj
import Derived.Test.YtaplkbkpgdpbaaaGreatDoorHdw
namespace Go.Proofs.YtaplkbkpgdpbaaaGreatDoor.Tkr
open Go.RowKit
open Go.Proofs.YtaplkbkpgdpbaaaGreatDoor
open Go.Proofs.YtaplkbkpgdpbaaaGreatDoor.Fbs
open Go.Proofs.YtaplkbkpgdpbaaaGreatDoor.Fch
open Go.Proofs.YtaplkbkpgdpbaaaGreatDoor.Ows
open Go.Proofs.YtaplkbkpgdpbaaaGreatDoor.Fdb
open Go.Proofs.YtaplkbkpgdpbaaaGreatDoor.Fvs
open Go.Proofs.YtaplkbkpgdpbaaaGreatDoor.Lnp
open Go.Proofs.YtaplkbkpgdpbaaaGreatDoor.Hdl (cutO cdS l4Lines_any)
open Go.Proofs.YtaplkbkpgdpbaaaGreatDoor.Rqb (mthB tgtB rqC rqB rq_is hdC headS firstR fbC vers Own4 l4Method_any l4Target_any specGoodR_any)

/-- A first line that is right. -/
def lineB (x : ByteArray) : Prop := Ctf.cutB x 32 = true ∧ Ctf.cutB (Ctf.cutZ x 32) 32 = true ∧ Ctf.cutZ (Ctf.cutZ x 32) 32 = vers ∧ mthB (Ctf.cutA x 32) = true ∧ tgtB (Ctf.cutA (Ctf.cutZ x 32) 32) = true
theorem tk_bad {s l0 : ByteArray} {xs : List ByteArray} {n : Nat} (h : ¬ lineB l0) : tkC s (l0 :: xs) n = 2 := by
  have e : tkC s (l0 :: xs) n = rqC (toldM l0).1 (toldM l0).2 (xs.map fldO) (bodyO (s.extract n s.size) (xs.map fldO)) := rfl
  rw [e]
  have h2 : (mthB (toldM l0).1 && tgtB (toldM l0).2) = false := by
    unfold toldM
    cases hl : lineO l0 with
    | none => rfl
    | some p =>
      unfold lineO at hl
      split at hl
      · rename_i hh
        obtain rfl := Option.some.inj hl
        cases hm : mthB (Ctf.cutA l0 32)
        · rfl
        · cases ht : tgtB (Ctf.cutA (Ctf.cutZ l0 32) 32)
          · rfl
          · exact absurd ⟨hh.1, hh.2.1, hh.2.2, hm, ht⟩ h
      · cases hl
  unfold rqC
  rw [h2]; rfl
theorem tk_good {s l0 : ByteArray} {xs : List ByteArray} {n : Nat} (h : lineB l0) : tkM (l0 :: xs) = (Ctf.cutA l0 32, Ctf.cutA (Ctf.cutZ l0 32) 32) ∧ tkC s (l0 :: xs) n = if fbC (xs.map fldO) (bodyO (s.extract n s.size) (xs.map fldO)) = 0 then hdC (headS (firstR (Ctf.cutA l0 32) (Ctf.cutA (Ctf.cutZ l0 32) 32)) (xs.map fldO)) else fbC (xs.map fldO) (bodyO (s.extract n s.size) (xs.map fldO)) := by
  obtain ⟨h1, h2, h3, h4, h5⟩ := h
  have e : tkM (l0 :: xs) = (Ctf.cutA l0 32, Ctf.cutA (Ctf.cutZ l0 32) 32) := by
    show toldM l0 = _
    unfold toldM lineO
    rw [if_pos ⟨h1, h2, h3⟩]
  refine ⟨e, ?_⟩
  unfold tkC
  rw [e]
  show rqC (Ctf.cutA l0 32) (Ctf.cutA (Ctf.cutZ l0 32) 32) _ _ = _
  unfold rqC
  rw [h4, h5]
  rfl

set_option maxRecDepth 20000 in
set_option maxHeartbeats 3200000 in
theorem specTake_any (s : ByteArray) (w : World) (hs : s.size ≤ 1048576) :
    Calls Tryz.prog 26 #[.string s] w fun e w' => ToldR w' w.heap.size e (fun c => .int .i64 c) s ∧ Below w.heap.size w w' := by
  obtain ⟨W, hW⟩ : ∃ W, W = w.alloc (.cells #[.string ⟨#[]⟩, .string ⟨#[]⟩, .slice none 0 0, .string ⟨#[]⟩] 25) := ⟨_, rfl⟩
  have hb1 : Below w.heap.size w W := by rw [hW]; exact (Below.refl _ _).alloc (Nat.le_refl _) _
  have HO : Hid (Own4 W w.heap.size (.string ⟨#[]⟩) (.string ⟨#[]⟩) (.slice none 0 0) (.string ⟨#[]⟩)) := by rw [hW]; exact Rqb.Own4.made w _ _ _ _ _
  have HCt := l4Lines_any s W (by omega)
  cases hc : cutO s with
  | none =>
    have HC1 : Hid (Calls Tryz.prog 60 #[.string s] W fun e w' => e = .returned (.tuple #[.slice none 0 0, .int .i64 0, .int .i64 (cdS s)]) ∧ Below W.heap.size W w') := by
      refine HCt.mono ?_
      rintro e w' ⟨h, hb⟩
      unfold Hdl.ToldH at h
      rw [hc] at h
      exact ⟨h, hb⟩
    have HR : Hid (∀ w' B, ToldR w' B (.returned (.tuple #[.agg #[.string ⟨#[]⟩, .string ⟨#[]⟩, .slice none 0 0, .string ⟨#[]⟩], .int .i64 0, .int .i64 (cdS s)])) (fun c => .int .i64 c) s) := fun w' B => toldR_none hc rfl
    have hne : (cdS s != 0) = true := by rw [bne_iff_ne]; exact cds_ne s
    generalize cdS s = D at *
    clear HCt hc
    go_enter Tryz.func26, Tryz.ntmps26
    go_wp2_with fail
    rw [← hW]
    clear hW
    refine (Calls.mono HC1.out ?_)
    rintro e w2 ⟨rfl, hb2⟩
    have hb12 := hb1.trans (hb2.mono hb1.size)
    obtain ⟨f2, p0, p1, p2, p3⟩ := HO.out.below hb2
    go_wp2_with fail
    exact bodyPost_ret (v := .tuple #[.agg #[.string ⟨#[]⟩, .string ⟨#[]⟩, .slice none 0 0, .string ⟨#[]⟩], .int .i64 0, .int .i64 D]) (by simp [results, Tryz.results26, go_sem, p0, p1, p2, p3]) rfl ⟨HR.out _ _, (((hb12.setCell (Nat.le_refl _) _).setCell (Nat.le_refl _) _).setCell (Nat.le_refl _) _).setCell (Nat.le_refl _) _⟩
  | some p =>
    obtain ⟨ls, n⟩ := p
    obtain ⟨hl0, hll, hlz, hn2, hns⟩ := cut_lines hc
    have HC1 : Hid (Calls Tryz.prog 60 #[.string s] W fun e w' => (∃ x, e = .returned (.tuple #[x, .int .i64 n, .int .i64 0]) ∧ textsIn w' W.heap.size x ls) ∧ Below W.heap.size W w') := by
      refine HCt.mono ?_
      rintro e w' ⟨h, hb⟩
      unfold Hdl.ToldH at h
      rw [hc] at h
      exact ⟨h, hb⟩
    have HG : Hid (∀ w' B x, tkC s ls n = 0 → fieldsIn w' B x (tkF ls) → ToldR w' B (.returned (.tuple #[.agg #[.string (tkM ls).1, .string (tkM ls).2, x, .string (tkB s ls n)], .int .i64 ((n : Int) + (tkB s ls n).size), .int .i64 0])) (fun c => .int .i64 c) s) := fun w' B x h hf => toldR_good hc h x rfl hf
    have HBd : Hid (∀ c w' B, tkC s ls n = c → c ≠ 0 → ToldR w' B (.returned (.tuple #[.agg #[.string ⟨#[]⟩, .string ⟨#[]⟩, .slice none 0 0, .string ⟨#[]⟩], .int .i64 0, .int .i64 c])) (fun c => .int .i64 c) s) := fun c w' B h h0 => toldR_bad hc (by omega) (by rw [h])
    clear HCt hc
    cases ls with
    | nil => exact absurd rfl hl0
    | cons l0 xs =>
      have hz0 := hlz l0 (by simp)
      have hzx : ∀ x ∈ xs, x.size ≤ 2000000 := fun x hx => by have := hlz x (by simp [hx]); omega
      have hxl : xs.length ≤ 900000 := by simp only [List.length_cons] at hll; omega
      have hzz := cutZ_size l0 32
      have hza := cutA_size l0 32
      have hza2 := cutA_size (Ctf.cutZ l0 32) 32
      have HCa : Hid _ := fun w => Ctf.l1Cut_any l0 32 w (by omega)
      have HCb : Hid _ := fun w => Ctf.l1Cut_any (Ctf.cutZ l0 32) 32 w (by omega)
      have HMt : Hid _ := fun w => l4Method_any (Ctf.cutA l0 32) w (by omega)
      have HTt : Hid _ := fun w => l4Target_any (Ctf.cutA (Ctf.cutZ l0 32) 32) w (by omega)
      have hL : lineB l0 ↔ (Ctf.cutB l0 32 = true ∧ Ctf.cutB (Ctf.cutZ l0 32) 32 = true ∧ Ctf.cutZ (Ctf.cutZ l0 32) 32 = vers ∧ mthB (Ctf.cutA l0 32) = true ∧ tgtB (Ctf.cutA (Ctf.cutZ l0 32) 32) = true) := Iff.rfl
      have H2 : Hid (¬ lineB l0 → ∀ w' B, ToldR w' B (.returned (.tuple #[.agg #[.string ⟨#[]⟩, .string ⟨#[]⟩, .slice none 0 0, .string ⟨#[]⟩], .int .i64 0, .int .i64 2])) (fun c => .int .i64 c) s) := fun h w' B => HBd.out 2 w' B (tk_bad h) (by decide)
      have HTk : Hid (lineB l0 → tkM (l0 :: xs) = (Ctf.cutA l0 32, Ctf.cutA (Ctf.cutZ l0 32) 32) ∧ tkC s (l0 :: xs) n = if fbC (xs.map fldO) (bodyO (s.extract n s.size) (xs.map fldO)) = 0 then hdC (headS (firstR (Ctf.cutA l0 32) (Ctf.cutA (Ctf.cutZ l0 32) 32)) (xs.map fldO)) else fbC (xs.map fldO) (bodyO (s.extract n s.size) (xs.map fldO))) := tk_good
      generalize lineB l0 = LB at hL H2 HTk
      have hm2 : (Ctf.cutA l0 32).size ≤ 2000000 := by omega
      have ht2 : (Ctf.cutA (Ctf.cutZ l0 32) 32).size ≤ 2000000 := by omega
      clear hzz hza hza2
      generalize Ctf.cutA l0 32 = M at *
      generalize Ctf.cutA (Ctf.cutZ l0 32) 32 = T at *
      generalize Ctf.cutZ (Ctf.cutZ l0 32) 32 = V at *
      cases h1 : Ctf.cutB l0 32
      · have HR : Hid _ := H2.out (by rw [hL, h1]; simp)
        rw [h1] at HCa
        clear hL H2 HTk HG HBd
        go_enter Tryz.func26, Tryz.ntmps26
        go_wp2_with fail
        rw [← hW]
        clear hW
        refine (Calls.mono HC1.out ?_)
        rintro e w2 ⟨⟨x, rfl, hown⟩, hb2⟩
        have hb12 := hb1.trans (hb2.mono hb1.size)
        have HO2 : Hid (Own4 w2 w.heap.size (.string ⟨#[]⟩) (.string ⟨#[]⟩) (.slice none 0 0) (.string ⟨#[]⟩)) := HO.out.below hb2
        obtain ⟨a1, c1, rfl, hlc, _, hne⟩ := textsIn.form hown
        obtain ⟨g, rfl, _, hg⟩ := hne (by simp)
        have t0 := textsIn.at hown 0 l0 rfl
        have HRow : Hid (RowO w2 g 1 xs) := ⟨hg, fun j x h => textsIn.at hown (1 + j) x (by rw [Nat.add_comm]; exact h)⟩
        obtain ⟨f2, p0, p1, p2, p3⟩ := HO2.out
        clear hown hne hb2 HO
        go_wp2_with fail
        refine (HCa.out _).mono ?_
        rintro e w3 ⟨rfl, hb3'⟩
        have hb13 := hb12.trans (hb3'.mono hb12.size)
        have HO3 : Hid (Own4 w3 w.heap.size (.string ⟨#[]⟩) (.string ⟨#[]⟩) (.slice none 0 0) (.string ⟨#[]⟩)) := HO2.out.below hb3'
        clear f2 p0 p1 p2 p3
        obtain ⟨f2, p0, p1, p2, p3⟩ := HO3.out
        go_wp2_with fail
        refine (HCb.out _).mono ?_
        rintro e w4 ⟨rfl, hb4'⟩
        have hb14 := hb13.trans (hb4'.mono hb13.size)
        have HO4 : Hid (Own4 w4 w.heap.size (.string ⟨#[]⟩) (.string ⟨#[]⟩) (.slice none 0 0) (.string ⟨#[]⟩)) := HO3.out.below hb4'
        clear f2 p0 p1 p2 p3
        obtain ⟨f2, p0, p1, p2, p3⟩ := HO4.out
        go_wp2_with fail
        exact bodyPost_ret (v := .tuple #[.agg #[.string ⟨#[]⟩, .string ⟨#[]⟩, .slice none 0 0, .string ⟨#[]⟩], .int .i64 0, .int .i64 2]) (by simp [results, Tryz.results26, go_sem, p0, p1, p2, p3]) rfl ⟨HR.out _ _, (((hb14.setCell (Nat.le_refl _) _).setCell (Nat.le_refl _) _).setCell (Nat.le_refl _) _).setCell (Nat.le_refl _) _⟩
      rw [h1] at HCa hL
      cases h2 : Ctf.cutB (Ctf.cutZ l0 32) 32
      · have HR : Hid _ := H2.out (by rw [hL, h2]; simp)
        rw [h2] at HCb
        clear hL H2 HTk HG HBd
        go_enter Tryz.func26, Tryz.ntmps26
        go_wp2_with fail
        rw [← hW]
        clear hW
        refine (Calls.mono HC1.out ?_)
        rintro e w2 ⟨⟨x, rfl, hown⟩, hb2⟩
        have hb12 := hb1.trans (hb2.mono hb1.size)
        have HO2 : Hid (Own4 w2 w.heap.size (.string ⟨#[]⟩) (.string ⟨#[]⟩) (.slice none 0 0) (.string ⟨#[]⟩)) := HO.out.below hb2
        obtain ⟨a1, c1, rfl, hlc, _, hne⟩ := textsIn.form hown
        obtain ⟨g, rfl, _, hg⟩ := hne (by simp)
        have t0 := textsIn.at hown 0 l0 rfl
        have HRow : Hid (RowO w2 g 1 xs) := ⟨hg, fun j x h => textsIn.at hown (1 + j) x (by rw [Nat.add_comm]; exact h)⟩
        obtain ⟨f2, p0, p1, p2, p3⟩ := HO2.out
        clear hown hne hb2 HO
        go_wp2_with fail
        refine (HCa.out _).mono ?_
        rintro e w3 ⟨rfl, hb3'⟩
        have hb13 := hb12.trans (hb3'.mono hb12.size)
        have HO3 : Hid (Own4 w3 w.heap.size (.string ⟨#[]⟩) (.string ⟨#[]⟩) (.slice none 0 0) (.string ⟨#[]⟩)) := HO2.out.below hb3'
        clear f2 p0 p1 p2 p3
        obtain ⟨f2, p0, p1, p2, p3⟩ := HO3.out
        go_wp2_with fail
        refine (HCb.out _).mono ?_
        rintro e w4 ⟨rfl, hb4'⟩
        have hb14 := hb13.trans (hb4'.mono hb13.size)
        have HO4 : Hid (Own4 w4 w.heap.size (.string ⟨#[]⟩) (.string ⟨#[]⟩) (.slice none 0 0) (.string ⟨#[]⟩)) := HO3.out.below hb4'
        clear f2 p0 p1 p2 p3
        obtain ⟨f2, p0, p1, p2, p3⟩ := HO4.out
        go_wp2_with fail
        exact bodyPost_ret (v := .tuple #[.agg #[.string ⟨#[]⟩, .string ⟨#[]⟩, .slice none 0 0, .string ⟨#[]⟩], .int .i64 0, .int .i64 2]) (by simp [results, Tryz.results26, go_sem, p0, p1, p2, p3]) rfl ⟨HR.out _ _, (((hb14.setCell (Nat.le_refl _) _).setCell (Nat.le_refl _) _).setCell (Nat.le_refl _) _).setCell (Nat.le_refl _) _⟩
      rw [h2] at HCb hL
      by_cases h3 : V = vers
      · have hvs : (V.toList == [72, 84, 84, 80, 47, 49, 46, 49]) = true := by rw [h3, vers_list]; rfl
        cases h4 : mthB M
        · have HR : Hid _ := H2.out (by rw [hL, h4]; simp)
          rw [h4] at HMt
          clear hL H2 HTk HG HBd h3
          go_enter Tryz.func26, Tryz.ntmps26
          go_wp2_with fail
          rw [← hW]
          clear hW
          refine (Calls.mono HC1.out ?_)
          rintro e w2 ⟨⟨x, rfl, hown⟩, hb2⟩
          have hb12 := hb1.trans (hb2.mono hb1.size)
          have HO2 : Hid (Own4 w2 w.heap.size (.string ⟨#[]⟩) (.string ⟨#[]⟩) (.slice none 0 0) (.string ⟨#[]⟩)) := HO.out.below hb2
          obtain ⟨a1, c1, rfl, hlc, _, hne⟩ := textsIn.form hown
          obtain ⟨g, rfl, _, hg⟩ := hne (by simp)
          have t0 := textsIn.at hown 0 l0 rfl
          have HRow : Hid (RowO w2 g 1 xs) := ⟨hg, fun j x h => textsIn.at hown (1 + j) x (by rw [Nat.add_comm]; exact h)⟩
          obtain ⟨f2, p0, p1, p2, p3⟩ := HO2.out
          clear hown hne hb2 HO
          go_wp2_with fail
          refine (HCa.out _).mono ?_
          rintro e w3 ⟨rfl, hb3'⟩
          have hb13 := hb12.trans (hb3'.mono hb12.size)
          have HO3 : Hid (Own4 w3 w.heap.size (.string ⟨#[]⟩) (.string ⟨#[]⟩) (.slice none 0 0) (.string ⟨#[]⟩)) := HO2.out.below hb3'
          clear f2 p0 p1 p2 p3
          obtain ⟨f2, p0, p1, p2, p3⟩ := HO3.out
          go_wp2_with fail
          refine (HCb.out _).mono ?_
          rintro e w4 ⟨rfl, hb4'⟩
          have hb14 := hb13.trans (hb4'.mono hb13.size)
          have HO4 : Hid (Own4 w4 w.heap.size (.string ⟨#[]⟩) (.string ⟨#[]⟩) (.slice none 0 0) (.string ⟨#[]⟩)) := HO3.out.below hb4'
          clear f2 p0 p1 p2 p3
          obtain ⟨f2, p0, p1, p2, p3⟩ := HO4.out
          go_wp2_with fail
          refine (HMt.out _).mono ?_
          rintro e w9 ⟨rfl, hw⟩
          obtain rfl := hw.symm
          go_wp2_with fail
          exact bodyPost_ret (v := .tuple #[.agg #[.string ⟨#[]⟩, .string ⟨#[]⟩, .slice none 0 0, .string ⟨#[]⟩], .int .i64 0, .int .i64 2]) (by simp [results, Tryz.results26, go_sem, p0, p1, p2, p3]) rfl ⟨HR.out _ _, (((hb14.setCell (Nat.le_refl _) _).setCell (Nat.le_refl _) _).setCell (Nat.le_refl _) _).setCell (Nat.le_refl _) _⟩
        rw [h4] at HMt hL
        cases h5 : tgtB T
        · have HR : Hid _ := H2.out (by rw [hL, h5]; simp)
          rw [h5] at HTt
          clear hL H2 HTk HG HBd h3
          go_enter Tryz.func26, Tryz.ntmps26
          go_wp2_with fail
          rw [← hW]
          clear hW
          refine (Calls.mono HC1.out ?_)
          rintro e w2 ⟨⟨x, rfl, hown⟩, hb2⟩
          have hb12 := hb1.trans (hb2.mono hb1.size)
          have HO2 : Hid (Own4 w2 w.heap.size (.string ⟨#[]⟩) (.string ⟨#[]⟩) (.slice none 0 0) (.string ⟨#[]⟩)) := HO.out.below hb2
          obtain ⟨a1, c1, rfl, hlc, _, hne⟩ := textsIn.form hown
          obtain ⟨g, rfl, _, hg⟩ := hne (by simp)
          have t0 := textsIn.at hown 0 l0 rfl
          have HRow : Hid (RowO w2 g 1 xs) := ⟨hg, fun j x h => textsIn.at hown (1 + j) x (by rw [Nat.add_comm]; exact h)⟩
          obtain ⟨f2, p0, p1, p2, p3⟩ := HO2.out
          clear hown hne hb2 HO
          go_wp2_with fail
          refine (HCa.out _).mono ?_
          rintro e w3 ⟨rfl, hb3'⟩
          have hb13 := hb12.trans (hb3'.mono hb12.size)
          have HO3 : Hid (Own4 w3 w.heap.size (.string ⟨#[]⟩) (.string ⟨#[]⟩) (.slice none 0 0) (.string ⟨#[]⟩)) := HO2.out.below hb3'
          clear f2 p0 p1 p2 p3
          obtain ⟨f2, p0, p1, p2, p3⟩ := HO3.out
          go_wp2_with fail
          refine (HCb.out _).mono ?_
          rintro e w4 ⟨rfl, hb4'⟩
          have hb14 := hb13.trans (hb4'.mono hb13.size)
          have HO4 : Hid (Own4 w4 w.heap.size (.string ⟨#[]⟩) (.string ⟨#[]⟩) (.slice none 0 0) (.string ⟨#[]⟩)) := HO3.out.below hb4'
          clear f2 p0 p1 p2 p3
          obtain ⟨f2, p0, p1, p2, p3⟩ := HO4.out
          go_wp2_with fail
          refine (HMt.out _).mono ?_
          rintro e w9 ⟨rfl, hw⟩
          obtain rfl := hw.symm
          go_wp2_with fail
          refine (HTt.out _).mono ?_
          rintro e w9 ⟨rfl, hw⟩
          obtain rfl := hw.symm
          go_wp2_with fail
          exact bodyPost_ret (v := .tuple #[.agg #[.string ⟨#[]⟩, .string ⟨#[]⟩, .slice none 0 0, .string ⟨#[]⟩], .int .i64 0, .int .i64 2]) (by simp [results, Tryz.results26, go_sem, p0, p1, p2, p3]) rfl ⟨HR.out _ _, (((hb14.setCell (Nat.le_refl _) _).setCell (Nat.le_refl _) _).setCell (Nat.le_refl _) _).setCell (Nat.le_refl _) _⟩
        rw [h5] at HTt hL
        have hLB : LB := hL.2 ⟨rfl, rfl, h3, rfl, rfl⟩
        obtain ⟨hMM, hCC⟩ := HTk.out hLB
        clear hL H2 HTk h3 hLB
        have hQ : tkC s (l0 :: xs) n = rqC M T (xs.map fldO) (bodyO (s.extract n s.size) (xs.map fldO)) := by unfold tkC; rw [hMM]; rfl
        have hzF : SzF (xs.map fldO) := by
          intro c hc
          obtain ⟨x, hx, rfl⟩ := List.mem_map.1 hc
          have h1 := fld_size x
          have h2 := hzx x hx
          omega
        have hFl : (xs.map fldO).length ≤ 2000000 := by simp; omega
        have hRs := fun g o ca w h => l4Rest_any s g o ca n xs w hs hns hxl hzx h
        have HGB : Hid (∀ a ca w lo hi, FV w a (xs.map fldO) lo hi → Calls Tryz.prog 30 #[.agg #[.string M, .string T, .slice a (xs.map fldO).length ca, .string (bodyO (s.extract n s.size) (xs.map fldO))]] w fun e w' => e = .returned (.bool (decide (tkC s (l0 :: xs) n = 0))) ∧ Below w.heap.size w w') := by
          intro a ca w lo hi h
          have := specGoodR_any M T (bodyO (s.extract n s.size) (xs.map fldO)) a ca (xs.map fldO) w lo hi hm2 ht2 hFl hzF h
          rwa [rq_is, ← hQ] at this
        have HG1 : Hid (∀ w' B x, tkC s (l0 :: xs) n = 0 → fieldsIn w' B x (xs.map fldO) → ToldR w' B (.returned (.tuple #[.agg #[.string M, .string T, x, .string (bodyO (s.extract n s.size) (xs.map fldO))], .int .i64 ((n : Int) + (bodyO (s.extract n s.size) (xs.map fldO)).size), .int .i64 0])) (fun c => .int .i64 c) s) := by
          intro w' B x h hf
          have := HG.out w' B x h hf
          rwa [hMM] at this
        have hBz : (bodyO (s.extract n s.size) (xs.map fldO)).size ≤ 2000000 := by unfold bodyO; rw [ByteArray.size_extract, ByteArray.size_extract]; omega
        unfold RestT at hRs
        by_cases hC : fbC (xs.map fldO) (bodyO (s.extract n s.size) (xs.map fldO)) = 0
        · rw [if_pos hC] at hCC
          simp only [if_pos hC] at hRs
          have HRs : Hid _ := hRs
          by_cases h0 : tkC s (l0 :: xs) n = 0
          · have HR : Hid (∀ w' B x, fieldsIn w' B x (xs.map fldO) → ToldR w' B (.returned (.tuple #[.agg #[.string M, .string T, x, .string (bodyO (s.extract n s.size) (xs.map fldO))], .int .i64 ((n : Int) + (bodyO (s.extract n s.size) (xs.map fldO)).size), .int .i64 0])) (fun c => .int .i64 c) s) := fun w' B x hf => HG1.out w' B x h0 hf
            rw [decide_eq_true h0] at HGB
            generalize bodyO (s.extract n s.size) (xs.map fldO) = BB at *
            generalize xs.map fldO = FF at *
            clear hRs hCC hC hQ HG HBd HG1 hMM hzF hFl h0 hzx hlz
            go_enter Tryz.func26, Tryz.ntmps26
            go_wp2_with fail
            rw [← hW]
            clear hW
            refine (Calls.mono HC1.out ?_)
            rintro e w2 ⟨⟨x, rfl, hown⟩, hb2⟩
            have hb12 := hb1.trans (hb2.mono hb1.size)
            have HO2 : Hid (Own4 w2 w.heap.size (.string ⟨#[]⟩) (.string ⟨#[]⟩) (.slice none 0 0) (.string ⟨#[]⟩)) := HO.out.below hb2
            obtain ⟨a1, c1, rfl, hlc, _, hne⟩ := textsIn.form hown
            obtain ⟨g, rfl, _, hg⟩ := hne (by simp)
            have t0 := textsIn.at hown 0 l0 rfl
            have hRow : RowO w2 g 1 xs := ⟨hg, fun j x h => textsIn.at hown (1 + j) x (by rw [Nat.add_comm]; exact h)⟩
            have HRow : Hid (∀ w', Below w2.heap.size w2 w' → ∀ o, o = 1 ∨ xs.length = 0 → RowO w' g o xs) := fun w' hb o h => by
              rcases h with rfl | h
              · exact hRow.below hb
              · obtain rfl := List.eq_nil_of_length_eq_zero h
                exact ⟨(hRow.below hb).1, fun j x h => by simp at h⟩
            clear hRow
            obtain ⟨f2, p0, p1, p2, p3⟩ := HO2.out
            clear hown hne hb2 HO
            go_wp2_with fail
            refine (HCa.out _).mono ?_
            rintro e w3 ⟨rfl, hb3'⟩
            have hk3 : Below w2.heap.size w2 w3 := hb3'
            have hb13 := hb12.trans (hb3'.mono hb12.size)
            have HO3 : Hid (Own4 w3 w.heap.size (.string ⟨#[]⟩) (.string ⟨#[]⟩) (.slice none 0 0) (.string ⟨#[]⟩)) := HO2.out.below hb3'
            clear f2 p0 p1 p2 p3
            obtain ⟨f2, p0, p1, p2, p3⟩ := HO3.out
            go_wp2_with fail
            refine (HCb.out _).mono ?_
            rintro e w4 ⟨rfl, hb4'⟩
            have hk4 := hk3.trans (hb4'.mono hk3.size)
            have hb14 := hb13.trans (hb4'.mono hb13.size)
            have HO4 : Hid (Own4 w4 w.heap.size (.string ⟨#[]⟩) (.string ⟨#[]⟩) (.slice none 0 0) (.string ⟨#[]⟩)) := HO3.out.below hb4'
            clear f2 p0 p1 p2 p3
            obtain ⟨f2, p0, p1, p2, p3⟩ := HO4.out
            go_wp2_with fail
            refine (HMt.out _).mono ?_
            rintro e w9 ⟨rfl, hw⟩
            obtain rfl := hw.symm
            go_wp2_with fail
            refine (HTt.out _).mono ?_
            rintro e w9 ⟨rfl, hw⟩
            obtain rfl := hw.symm
            go_wp2_with fail
            all_goals
              refine (HRs.out _ _ _ _ (HRow.out _ hk4 _ (by first | exact .inl rfl | exact .inr (by simp only [List.length_cons] at hlc; omega)))).mono ?_
              rintro e w5 ⟨⟨x5, rfl, hF5⟩, hb5⟩
              have hb15 := hb14.trans (hb5.mono hb14.size)
              have HO5 : Hid (Own4 w5 w.heap.size (.string ⟨#[]⟩) (.string ⟨#[]⟩) (.slice none 0 0) (.string ⟨#[]⟩)) := HO4.out.below hb5
              obtain ⟨a5, c5, rfl, hlc5, hV5⟩ := ff_form hF5
              obtain ⟨w6, hw6⟩ : ∃ w6, w6 = w5.alloc (.cells #[.string M, .string T, .slice a5 FF.length c5, .string BB] 25) := ⟨_, rfl⟩
              have hb56 : Below w5.heap.size w5 w6 := by rw [hw6]; exact (Below.refl _ _).alloc (Nat.le_refl _) _
              have HX6 : Hid (Own4 w6 w5.heap.size (.string M) (.string T) (.slice a5 FF.length c5) (.string BB)) := by rw [hw6]; exact Rqb.Own4.made w5 _ _ _ _ _
              have HO6 : Hid (Own4 w6 w.heap.size (.string ⟨#[]⟩) (.string ⟨#[]⟩) (.slice none 0 0) (.string ⟨#[]⟩)) := HO5.out.below hb56
              have hb16 := hb15.trans (hb56.mono hb15.size)
              have hF6 := hF5.below hb56
              have hV6 := hV5.below hb56
              have hlt4 : w.heap.size < w4.heap.size := World.block_lt_of_cell? _ _ HO4.out.2.1
              have hlt5 := hb5.size
              clear f2 p0 p1 p2 p3 hb5 hb56 hF5 hV5
              go_wp2_with fail
              rw [← hw6]
              clear hw6
              refine (HGB.out _ _ _ _ _ hV6).mono ?_
              rintro e w7 ⟨rfl, hb7⟩
              have hb17 := hb16.trans (hb7.mono hb16.size)
              have hF7 := hF6.below hb7
              obtain ⟨f2, p0, p1, p2, p3⟩ := HO6.out.below hb7
              obtain ⟨g2, q0, q1, q2, q3⟩ := HX6.out.below hb7
              have hne : w5.heap.size ≠ w.heap.size := by omega
              clear hb7 hF6 hV6
              go_wp2_with fail
              exact bodyPost_ret (v := .tuple #[.agg #[.string M, .string T, .slice a5 FF.length c5, .string BB], .int .i64 ((n : Int) + BB.size), .int .i64 0]) (by simp [results, Tryz.results26, go_sem, p0, p1, p2, p3]) rfl ⟨HR.out _ _ _ ((ff_set (ff_set (ff_set (ff_set hF7 (by omega) _) (by omega) _) (by omega) _) (by omega) _).base (by omega)), (((hb17.setCell (Nat.le_refl _) _).setCell (Nat.le_refl _) _).setCell (Nat.le_refl _) _).setCell (Nat.le_refl _) _⟩
          · have hC5 : tkC s (l0 :: xs) n = 5 := by
              rw [hCC] at h0 ⊢
              unfold hdC at h0 ⊢
              split
              · rfl
              · rename_i hh; rw [if_neg hh] at h0; exact absurd rfl h0
            have HR : Hid (∀ w' B, ToldR w' B (.returned (.tuple #[.agg #[.string ⟨#[]⟩, .string ⟨#[]⟩, .slice none 0 0, .string ⟨#[]⟩], .int .i64 0, .int .i64 5])) (fun c => .int .i64 c) s) := fun w' B => HBd.out 5 w' B hC5 (by decide)
            rw [decide_eq_false h0] at HGB
            generalize bodyO (s.extract n s.size) (xs.map fldO) = BB at *
            generalize xs.map fldO = FF at *
            clear hRs hCC hC hQ HG HBd HG1 hMM hzF hFl h0 hzx hlz hC5
            go_enter Tryz.func26, Tryz.ntmps26
            go_wp2_with fail
            rw [← hW]
            clear hW
            refine (Calls.mono HC1.out ?_)
            rintro e w2 ⟨⟨x, rfl, hown⟩, hb2⟩
            have hb12 := hb1.trans (hb2.mono hb1.size)
            have HO2 : Hid (Own4 w2 w.heap.size (.string ⟨#[]⟩) (.string ⟨#[]⟩) (.slice none 0 0) (.string ⟨#[]⟩)) := HO.out.below hb2
            obtain ⟨a1, c1, rfl, hlc, _, hne⟩ := textsIn.form hown
            obtain ⟨g, rfl, _, hg⟩ := hne (by simp)
            have t0 := textsIn.at hown 0 l0 rfl
            have hRow : RowO w2 g 1 xs := ⟨hg, fun j x h => textsIn.at hown (1 + j) x (by rw [Nat.add_comm]; exact h)⟩
            have HRow : Hid (∀ w', Below w2.heap.size w2 w' → ∀ o, o = 1 ∨ xs.length = 0 → RowO w' g o xs) := fun w' hb o h => by
              rcases h with rfl | h
              · exact hRow.below hb
              · obtain rfl := List.eq_nil_of_length_eq_zero h
                exact ⟨(hRow.below hb).1, fun j x h => by simp at h⟩
            clear hRow
            obtain ⟨f2, p0, p1, p2, p3⟩ := HO2.out
            clear hown hne hb2 HO
            go_wp2_with fail
            refine (HCa.out _).mono ?_
            rintro e w3 ⟨rfl, hb3'⟩
            have hk3 : Below w2.heap.size w2 w3 := hb3'
            have hb13 := hb12.trans (hb3'.mono hb12.size)
            have HO3 : Hid (Own4 w3 w.heap.size (.string ⟨#[]⟩) (.string ⟨#[]⟩) (.slice none 0 0) (.string ⟨#[]⟩)) := HO2.out.below hb3'
            clear f2 p0 p1 p2 p3
            obtain ⟨f2, p0, p1, p2, p3⟩ := HO3.out
            go_wp2_with fail
            refine (HCb.out _).mono ?_
            rintro e w4 ⟨rfl, hb4'⟩
            have hk4 := hk3.trans (hb4'.mono hk3.size)
            have hb14 := hb13.trans (hb4'.mono hb13.size)
            have HO4 : Hid (Own4 w4 w.heap.size (.string ⟨#[]⟩) (.string ⟨#[]⟩) (.slice none 0 0) (.string ⟨#[]⟩)) := HO3.out.below hb4'
            clear f2 p0 p1 p2 p3
            obtain ⟨f2, p0, p1, p2, p3⟩ := HO4.out
            go_wp2_with fail
            refine (HMt.out _).mono ?_
            rintro e w9 ⟨rfl, hw⟩
            obtain rfl := hw.symm
            go_wp2_with fail
            refine (HTt.out _).mono ?_
            rintro e w9 ⟨rfl, hw⟩
            obtain rfl := hw.symm
            go_wp2_with fail
            all_goals
              refine (HRs.out _ _ _ _ (HRow.out _ hk4 _ (by first | exact .inl rfl | exact .inr (by simp only [List.length_cons] at hlc; omega)))).mono ?_
              rintro e w5 ⟨⟨x5, rfl, hF5⟩, hb5⟩
              have hb15 := hb14.trans (hb5.mono hb14.size)
              have HO5 : Hid (Own4 w5 w.heap.size (.string ⟨#[]⟩) (.string ⟨#[]⟩) (.slice none 0 0) (.string ⟨#[]⟩)) := HO4.out.below hb5
              obtain ⟨a5, c5, rfl, hlc5, hV5⟩ := ff_form hF5
              obtain ⟨w6, hw6⟩ : ∃ w6, w6 = w5.alloc (.cells #[.string M, .string T, .slice a5 FF.length c5, .string BB] 25) := ⟨_, rfl⟩
              have hb56 : Below w5.heap.size w5 w6 := by rw [hw6]; exact (Below.refl _ _).alloc (Nat.le_refl _) _
              have HX6 : Hid (Own4 w6 w5.heap.size (.string M) (.string T) (.slice a5 FF.length c5) (.string BB)) := by rw [hw6]; exact Rqb.Own4.made w5 _ _ _ _ _
              have HO6 : Hid (Own4 w6 w.heap.size (.string ⟨#[]⟩) (.string ⟨#[]⟩) (.slice none 0 0) (.string ⟨#[]⟩)) := HO5.out.below hb56
              have hb16 := hb15.trans (hb56.mono hb15.size)
              have hF6 := hF5.below hb56
              have hV6 := hV5.below hb56
              have hlt4 : w.heap.size < w4.heap.size := World.block_lt_of_cell? _ _ HO4.out.2.1
              have hlt5 := hb5.size
              clear f2 p0 p1 p2 p3 hb5 hb56 hF5 hV5
              go_wp2_with fail
              rw [← hw6]
              clear hw6
              refine (HGB.out _ _ _ _ _ hV6).mono ?_
              rintro e w7 ⟨rfl, hb7⟩
              have hb17 := hb16.trans (hb7.mono hb16.size)
              have hF7 := hF6.below hb7
              obtain ⟨f2, p0, p1, p2, p3⟩ := HO6.out.below hb7
              obtain ⟨g2, q0, q1, q2, q3⟩ := HX6.out.below hb7
              have hne : w5.heap.size ≠ w.heap.size := by omega
              clear hb7 hF6 hV6
              go_wp2_with fail
              exact bodyPost_ret (v := .tuple #[.agg #[.string ⟨#[]⟩, .string ⟨#[]⟩, .slice none 0 0, .string ⟨#[]⟩], .int .i64 0, .int .i64 5]) (by simp [results, Tryz.results26, go_sem, p0, p1, p2, p3]) rfl ⟨HR.out _ _, (((hb17.setCell (Nat.le_refl _) _).setCell (Nat.le_refl _) _).setCell (Nat.le_refl _) _).setCell (Nat.le_refl _) _⟩
        · rw [if_neg hC] at hCC
          simp only [if_neg hC] at hRs
          have HRs : Hid _ := hRs
          have hcne : (fbC (xs.map fldO) (bodyO (s.extract n s.size) (xs.map fldO)) != 0) = true := by rw [bne_iff_ne]; exact hC
          have HR : Hid (∀ w' B, ToldR w' B (.returned (.tuple #[.agg #[.string ⟨#[]⟩, .string ⟨#[]⟩, .slice none 0 0, .string ⟨#[]⟩], .int .i64 0, .int .i64 (fbC (xs.map fldO) (bodyO (s.extract n s.size) (xs.map fldO)))])) (fun c => .int .i64 c) s) := fun w' B => HBd.out _ w' B hCC hC
          generalize fbC (xs.map fldO) (bodyO (s.extract n s.size) (xs.map fldO)) = CC at *
          clear hRs hCC hC hQ HG HBd HG1 hMM hzF hFl HGB hBz hzx hlz
          go_enter Tryz.func26, Tryz.ntmps26
          go_wp2_with fail
          rw [← hW]
          clear hW
          refine (Calls.mono HC1.out ?_)
          rintro e w2 ⟨⟨x, rfl, hown⟩, hb2⟩
          have hb12 := hb1.trans (hb2.mono hb1.size)
          have HO2 : Hid (Own4 w2 w.heap.size (.string ⟨#[]⟩) (.string ⟨#[]⟩) (.slice none 0 0) (.string ⟨#[]⟩)) := HO.out.below hb2
          obtain ⟨a1, c1, rfl, hlc, _, hne⟩ := textsIn.form hown
          obtain ⟨g, rfl, _, hg⟩ := hne (by simp)
          have t0 := textsIn.at hown 0 l0 rfl
          have hRow : RowO w2 g 1 xs := ⟨hg, fun j x h => textsIn.at hown (1 + j) x (by rw [Nat.add_comm]; exact h)⟩
          have HRow : Hid (∀ w', Below w2.heap.size w2 w' → ∀ o, o = 1 ∨ xs.length = 0 → RowO w' g o xs) := fun w' hb o h => by
            rcases h with rfl | h
            · exact hRow.below hb
            · obtain rfl := List.eq_nil_of_length_eq_zero h
              exact ⟨(hRow.below hb).1, fun j x h => by simp at h⟩
          clear hRow
          obtain ⟨f2, p0, p1, p2, p3⟩ := HO2.out
          clear hown hne hb2 HO
          go_wp2_with fail
          refine (HCa.out _).mono ?_
          rintro e w3 ⟨rfl, hb3'⟩
          have hk3 : Below w2.heap.size w2 w3 := hb3'
          have hb13 := hb12.trans (hb3'.mono hb12.size)
          have HO3 : Hid (Own4 w3 w.heap.size (.string ⟨#[]⟩) (.string ⟨#[]⟩) (.slice none 0 0) (.string ⟨#[]⟩)) := HO2.out.below hb3'
          clear f2 p0 p1 p2 p3
          obtain ⟨f2, p0, p1, p2, p3⟩ := HO3.out
          go_wp2_with fail
          refine (HCb.out _).mono ?_
          rintro e w4 ⟨rfl, hb4'⟩
          have hk4 := hk3.trans (hb4'.mono hk3.size)
          have hb14 := hb13.trans (hb4'.mono hb13.size)
          have HO4 : Hid (Own4 w4 w.heap.size (.string ⟨#[]⟩) (.string ⟨#[]⟩) (.slice none 0 0) (.string ⟨#[]⟩)) := HO3.out.below hb4'
          clear f2 p0 p1 p2 p3
          obtain ⟨f2, p0, p1, p2, p3⟩ := HO4.out
          go_wp2_with fail
          refine (HMt.out _).mono ?_
          rintro e w9 ⟨rfl, hw⟩
          obtain rfl := hw.symm
          go_wp2_with fail
          refine (HTt.out _).mono ?_
          rintro e w9 ⟨rfl, hw⟩
          obtain rfl := hw.symm
          go_wp2_with fail
          all_goals
            refine (HRs.out _ _ _ _ (HRow.out _ hk4 _ (by first | exact .inl rfl | exact .inr (by simp only [List.length_cons] at hlc; omega)))).mono ?_
            rintro e w5 ⟨rfl, hb5⟩
            have hb15 := hb14.trans (hb5.mono hb14.size)
            clear f2 p0 p1 p2 p3
            obtain ⟨f2, p0, p1, p2, p3⟩ := HO4.out.below hb5
            go_wp2_with fail
            exact bodyPost_ret (v := .tuple #[.agg #[.string ⟨#[]⟩, .string ⟨#[]⟩, .slice none 0 0, .string ⟨#[]⟩], .int .i64 0, .int .i64 CC]) (by simp [results, Tryz.results26, go_sem, p0, p1, p2, p3]) rfl ⟨HR.out _ _, (((hb15.setCell (Nat.le_refl _) _).setCell (Nat.le_refl _) _).setCell (Nat.le_refl _) _).setCell (Nat.le_refl _) _⟩
      · have hvs : (V.toList == [72, 84, 84, 80, 47, 49, 46, 49]) = false := by
          rw [beq_eq_false_iff_ne]
          intro e
          apply h3
          have h := (Kls.text_cmp V vers).symm.trans (show (V.toList == vers.toList) = true by rw [e, vers_list]; rfl)
          exact of_decide_eq_true h
        have HR : Hid _ := H2.out (by rw [hL]; exact fun h => h3 h.2.2.1)
        clear hL H2 HTk HG HBd h3
        go_enter Tryz.func26, Tryz.ntmps26
        go_wp2_with fail
        rw [← hW]
        clear hW
        refine (Calls.mono HC1.out ?_)
        rintro e w2 ⟨⟨x, rfl, hown⟩, hb2⟩
        have hb12 := hb1.trans (hb2.mono hb1.size)
        have HO2 : Hid (Own4 w2 w.heap.size (.string ⟨#[]⟩) (.string ⟨#[]⟩) (.slice none 0 0) (.string ⟨#[]⟩)) := HO.out.below hb2
        obtain ⟨a1, c1, rfl, hlc, _, hne⟩ := textsIn.form hown
        obtain ⟨g, rfl, _, hg⟩ := hne (by simp)
        have t0 := textsIn.at hown 0 l0 rfl
        have HRow : Hid (RowO w2 g 1 xs) := ⟨hg, fun j x h => textsIn.at hown (1 + j) x (by rw [Nat.add_comm]; exact h)⟩
        obtain ⟨f2, p0, p1, p2, p3⟩ := HO2.out
        clear hown hne hb2 HO
        go_wp2_with fail
        refine (HCa.out _).mono ?_
        rintro e w3 ⟨rfl, hb3'⟩
        have hb13 := hb12.trans (hb3'.mono hb12.size)
        have HO3 : Hid (Own4 w3 w.heap.size (.string ⟨#[]⟩) (.string ⟨#[]⟩) (.slice none 0 0) (.string ⟨#[]⟩)) := HO2.out.below hb3'
        clear f2 p0 p1 p2 p3
        obtain ⟨f2, p0, p1, p2, p3⟩ := HO3.out
        go_wp2_with fail
        refine (HCb.out _).mono ?_
        rintro e w4 ⟨rfl, hb4'⟩
        have hb14 := hb13.trans (hb4'.mono hb13.size)
        have HO4 : Hid (Own4 w4 w.heap.size (.string ⟨#[]⟩) (.string ⟨#[]⟩) (.slice none 0 0) (.string ⟨#[]⟩)) := HO3.out.below hb4'
        clear f2 p0 p1 p2 p3
        obtain ⟨f2, p0, p1, p2, p3⟩ := HO4.out
        go_wp2_with fail
        exact bodyPost_ret (v := .tuple #[.agg #[.string ⟨#[]⟩, .string ⟨#[]⟩, .slice none 0 0, .string ⟨#[]⟩], .int .i64 0, .int .i64 2]) (by simp [results, Tryz.results26, go_sem, p0, p1, p2, p3]) rfl ⟨HR.out _ _, (((hb14.setCell (Nat.le_refl _) _).setCell (Nat.le_refl _) _).setCell (Nat.le_refl _) _).setCell (Nat.le_refl _) _⟩

end Go.Proofs.YtaplkbkpgdpbaaaGreatDoor.Tkr
