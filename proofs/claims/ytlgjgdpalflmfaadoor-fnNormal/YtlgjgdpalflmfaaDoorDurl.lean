/-
  Walks: addresses that are drawn: spec's (*l1Cur).url, DrawGoodUrl, DrawUrlText.
-/
import Derived.Test.YtlgjgdpalflmfaaDoorDru
namespace Go.Proofs.YtlgjgdpalflmfaaDoor.Cur
open Go.RowKit

/-- A block that holds an address, its texts short. -/
def UB (w : World) (b : Nat) : Prop := b < w.heap.size ∧ (∀ i, w.frozen? ⟨b, i, none⟩ = false) ∧ ∃ (S H : ByteArray) (n : Int) (P Q : ByteArray) (a : Bool), S.size ≤ 100 ∧ H.size ≤ 100 ∧ P.size ≤ 100 ∧ Q.size ≤ 100 ∧
  w.cell? ⟨b, 0, none⟩ = some (.string S) ∧ w.cell? ⟨b, 1, none⟩ = some (.string H) ∧ w.cell? ⟨b, 2, none⟩ = some (.int .i64 n) ∧ w.cell? ⟨b, 3, none⟩ = some (.string P) ∧ w.cell? ⟨b, 4, none⟩ = some (.string Q) ∧ w.cell? ⟨b, 5, none⟩ = some (.bool a)
theorem UB.made (w : World) (S H P Q : ByteArray) (n : Int) (a : Bool) (t : TypeId) (h : S.size ≤ 100 ∧ H.size ≤ 100 ∧ P.size ≤ 100 ∧ Q.size ≤ 100) : UB (w.alloc (.cells #[.string S, .string H, .int .i64 n, .string P, .string Q, .bool a] t)) w.heap.size :=
  ⟨by simp, fun i => World.frozen?_alloc_at _ t _ i rfl, S, H, n, P, Q, a, h.1, h.2.1, h.2.2.1, h.2.2.2, by rw [World.cell?_alloc_mark]; rfl, by rw [World.cell?_alloc_mark]; rfl, by rw [World.cell?_alloc_mark]; rfl, by rw [World.cell?_alloc_mark]; rfl, by rw [World.cell?_alloc_mark]; rfl, by rw [World.cell?_alloc_mark]; rfl⟩
theorem UB.of {w w' : World} {b : Nat} (h : UB w b) (h1 : b < w'.heap.size) (hf : ∀ i, w'.frozen? ⟨b, i, none⟩ = w.frozen? ⟨b, i, none⟩) (hc : ∀ i, w'.cell? ⟨b, i, none⟩ = w.cell? ⟨b, i, none⟩) : UB w' b := by
  obtain ⟨_, h2, S, H, n, P, Q, a, e0, e1, e3, e4, k0, k1, k2, k3, k4, k5⟩ := h
  exact ⟨h1, fun i => (hf i).trans (h2 i), S, H, n, P, Q, a, e0, e1, e3, e4, (hc 0).trans k0, (hc 1).trans k1, (hc 2).trans k2, (hc 3).trans k3, (hc 4).trans k4, (hc 5).trans k5⟩
theorem UB.alloc {w : World} {b : Nat} (h : UB w b) (o : Obj) : UB (w.alloc o) b :=
  h.of (by have := h.1; simp; omega) (fun i => World.frozen?_alloc_past o b i h.1) (fun i => World.cell?_alloc_past o b _ h.1)
theorem UB.but {w w' : World} {b cb : Nat} (h : UB w b) (hb : But cb w w') (hc : b ≠ cb) : UB w' b :=
  h.of (Nat.lt_of_lt_of_le h.1 hb.2.2.2.1) (fun i => (bcells hb).2 b i h.1 hc) (fun i => (bcells hb).1 b i h.1 hc)
theorem UB.other {w : World} {b b' : Nat} (h : UB w b) (hb : b ≠ b') (j : Nat) (v : Value) : UB (w.setCell ⟨b', j, none⟩ v) b :=
  h.of (by simpa [World.setCell] using h.1) (fun i => by simp [go_sem]) (fun i => by simp [go_sem])
theorem UB.s0 {w : World} {b : Nat} (h : UB w b) (x : ByteArray) (hx : x.size ≤ 100) : UB (w.setCell ⟨b, 0, none⟩ (.string x)) b := by
  obtain ⟨h1, h2, S, H, n, P, Q, a, e0, e1, e3, e4, k0, k1, k2, k3, k4, k5⟩ := h
  exact ⟨by simpa [World.setCell] using h1, fun i => by simp [go_sem, h2], x, H, n, P, Q, a, hx, e1, e3, e4, by simp [go_sem, k0], by simp [go_sem, k1], by simp [go_sem, k2], by simp [go_sem, k3], by simp [go_sem, k4], by simp [go_sem, k5]⟩
theorem UB.s1 {w : World} {b : Nat} (h : UB w b) (x : ByteArray) (hx : x.size ≤ 100) : UB (w.setCell ⟨b, 1, none⟩ (.string x)) b := by
  obtain ⟨h1, h2, S, H, n, P, Q, a, e0, e1, e3, e4, k0, k1, k2, k3, k4, k5⟩ := h
  exact ⟨by simpa [World.setCell] using h1, fun i => by simp [go_sem, h2], S, x, n, P, Q, a, e0, hx, e3, e4, by simp [go_sem, k0], by simp [go_sem, k1], by simp [go_sem, k2], by simp [go_sem, k3], by simp [go_sem, k4], by simp [go_sem, k5]⟩
theorem UB.s3 {w : World} {b : Nat} (h : UB w b) (x : ByteArray) (hx : x.size ≤ 100) : UB (w.setCell ⟨b, 3, none⟩ (.string x)) b := by
  obtain ⟨h1, h2, S, H, n, P, Q, a, e0, e1, e3, e4, k0, k1, k2, k3, k4, k5⟩ := h
  exact ⟨by simpa [World.setCell] using h1, fun i => by simp [go_sem, h2], S, H, n, x, Q, a, e0, e1, hx, e4, by simp [go_sem, k0], by simp [go_sem, k1], by simp [go_sem, k2], by simp [go_sem, k3], by simp [go_sem, k4], by simp [go_sem, k5]⟩
theorem UB.s4 {w : World} {b : Nat} (h : UB w b) (x : ByteArray) (hx : x.size ≤ 100) : UB (w.setCell ⟨b, 4, none⟩ (.string x)) b := by
  obtain ⟨h1, h2, S, H, n, P, Q, a, e0, e1, e3, e4, k0, k1, k2, k3, k4, k5⟩ := h
  exact ⟨by simpa [World.setCell] using h1, fun i => by simp [go_sem, h2], S, H, n, P, x, a, e0, e1, e3, hx, by simp [go_sem, k0], by simp [go_sem, k1], by simp [go_sem, k2], by simp [go_sem, k3], by simp [go_sem, k4], by simp [go_sem, k5]⟩
theorem UB.i2 {w : World} {b : Nat} (h : UB w b) (x : Int) : UB (w.setCell ⟨b, 2, none⟩ (.int .i64 x)) b := by
  obtain ⟨h1, h2, S, H, n, P, Q, a, e0, e1, e3, e4, k0, k1, k2, k3, k4, k5⟩ := h
  exact ⟨by simpa [World.setCell] using h1, fun i => by simp [go_sem, h2], S, H, x, P, Q, a, e0, e1, e3, e4, by simp [go_sem, k0], by simp [go_sem, k1], by simp [go_sem, k2], by simp [go_sem, k3], by simp [go_sem, k4], by simp [go_sem, k5]⟩
theorem UB.b5 {w : World} {b : Nat} (h : UB w b) (x : Bool) : UB (w.setCell ⟨b, 5, none⟩ (.bool x)) b := by
  obtain ⟨h1, h2, S, H, n, P, Q, a, e0, e1, e3, e4, k0, k1, k2, k3, k4, k5⟩ := h
  exact ⟨by simpa [World.setCell] using h1, fun i => by simp [go_sem, h2], S, H, n, P, Q, x, e0, e1, e3, e4, by simp [go_sem, k0], by simp [go_sem, k1], by simp [go_sem, k2], by simp [go_sem, k3], by simp [go_sem, k4], by simp [go_sem, k5]⟩

set_option maxRecDepth 20000 in
set_option maxHeartbeats 25600000 in
theorem url_any (cb : Nat) (v : Value) (n N : Nat) (w : World) (hC : Cursor w cb v n N) (hN : N ≤ 700000000) :
    Calls Tryd.prog 71 #[.pointer (some ⟨cb, 0, none⟩)] w fun e w' => ∃ (S H : ByteArray) (n2 : Int) (P Q : ByteArray) (a : Bool), e = .returned (.agg #[.string S, .string H, .int .i64 n2, .string P, .string Q, .bool a]) ∧ (S.size ≤ 100 ∧ H.size ≤ 100 ∧ P.size ≤ 100 ∧ Q.size ≤ 100) ∧ Cursor w' cb v n (N + 80) ∧ But cb w w' := by
  have hcb : cb < w.heap.size := hC.2.2.1
  have HC0 : Hid _ := hC.below ((Below.refl w.heap.size w).alloc (Nat.le_refl _) (.cells #[.string ⟨#[]⟩, .string ⟨#[]⟩, .int .i64 0, .string ⟨#[]⟩, .string ⟨#[]⟩, .bool false] 24))
  have HR0 : Hid _ := UB.made w ⟨#[]⟩ ⟨#[]⟩ ⟨#[]⟩ ⟨#[]⟩ 0 false 24 (by decide)
  have HB0 : Hid _ := (ButB.refl w.heap.size cb w).alloc (Nat.le_refl _) (.cells #[.string ⟨#[]⟩, .string ⟨#[]⟩, .int .i64 0, .string ⟨#[]⟩, .string ⟨#[]⟩, .bool false] 24)
  clear hC
  go_enter Tryd.func71, Tryd.ntmps71
  have HCq1 : Hid _ := Cursor.below HC0.out ((Below.refl _ _).alloc (Nat.le_refl _) (.cells #[.string ⟨#[104, 116, 116, 112]⟩, .string ⟨#[104, 116, 116, 112, 115]⟩] 9))
  have HBq1 : Hid _ := ButB.alloc HB0.out (Nat.le_refl _) (.cells #[.string ⟨#[104, 116, 116, 112]⟩, .string ⟨#[104, 116, 116, 112, 115]⟩] 9)
  have HRq1 : Hid _ := UB.alloc HR0.out (.cells #[.string ⟨#[104, 116, 116, 112]⟩, .string ⟨#[104, 116, 116, 112, 115]⟩] 9)
  go_wp2_with fail
  refine (of_any cb _ 2 8 v n _ _ HCq1.out (by omega) (by omega) (by omega) (by simp) (by simp [go_sem]; omega) (texts_made _ [⟨#[104, 116, 116, 112]⟩, ⟨#[104, 116, 116, 112, 115]⟩] 8 (by decide) 9 _ (by simp))).mono ?_
  rintro e w1 ⟨x1, rfl, hx1, hC1, hb1⟩
  have HC1 : Hid _ := hC1
  have HB1 : Hid _ := ButB.call HBq1.out (Nat.le_refl _) hb1
  have HR1 : Hid _ := UB.but HRq1.out hb1 (by omega)
  clear hC1 hb1
  have hcw1 : cb < w1.heap.size := HC1.out.2.2.1
  have HCq2 : Hid _ := Cursor.below HC1.out ((Below.refl _ _).alloc (Nat.le_refl _) (.cells #[.string ⟨#[104]⟩, .string ⟨#[69, 120, 46, 99, 111, 109]⟩, .string ⟨#[101, 120, 46, 99, 111, 109]⟩, .string ⟨#[97, 45, 98, 46, 99]⟩] 9))
  have HBq2 : Hid _ := ButB.alloc HB1.out (Nat.le_refl _) (.cells #[.string ⟨#[104]⟩, .string ⟨#[69, 120, 46, 99, 111, 109]⟩, .string ⟨#[101, 120, 46, 99, 111, 109]⟩, .string ⟨#[97, 45, 98, 46, 99]⟩] 9)
  have HRq2 : Hid _ := UB.alloc HR1.out (.cells #[.string ⟨#[104]⟩, .string ⟨#[69, 120, 46, 99, 111, 109]⟩, .string ⟨#[101, 120, 46, 99, 111, 109]⟩, .string ⟨#[97, 45, 98, 46, 99]⟩] 9)
  go_wp2_with fail
  refine (of_any cb _ 4 8 v n _ _ HCq2.out (by omega) (by omega) (by omega) (by simp) (by simp [go_sem]; omega) (texts_made _ [⟨#[104]⟩, ⟨#[69, 120, 46, 99, 111, 109]⟩, ⟨#[101, 120, 46, 99, 111, 109]⟩, ⟨#[97, 45, 98, 46, 99]⟩] 8 (by decide) 9 _ (by simp))).mono ?_
  rintro e w2 ⟨x2, rfl, hx2, hC2, hb2⟩
  have HC2 : Hid _ := hC2
  have HB2 : Hid _ := ButB.call HBq2.out (Nat.le_refl _) hb2
  have HR2 : Hid _ := UB.but HRq2.out hb2 (by omega)
  clear hC2 hb2
  have hcw2 : cb < w2.heap.size := HC2.out.2.2.1
  go_wp2_with fail
  refine (path_any cb v n _ _ HC2.out (by omega)).mono ?_
  rintro e w3 ⟨x3, rfl, hx3, hC3, hb3⟩
  have HC3 : Hid _ := hC3
  have HB3 : Hid _ := ButB.call HB2.out (Nat.le_refl _) hb3
  have HR3 : Hid _ := UB.but HR2.out hb3 (by omega)
  clear hC3 hb3
  have hcw3 : cb < w3.heap.size := HC3.out.2.2.1
  clear HC0 HB0 HR0 HC1 HB1 HR1 HC2 HB2 HR2 HCq1 HBq1 HRq1 HCq2 HBq2 HRq2
  have hs3 : w.heap.size < w3.heap.size := HR3.out.1
  have HC4 : Hid _ := Cursor.below HC3.out ((Below.refl w3.heap.size w3).alloc (Nat.le_refl _) (.cells #[.string x1, .string x2, .int .i64 0, .string x3, .string ⟨#[]⟩, .bool false] 24))
  have HB4 : Hid _ := ButB.alloc HB3.out (Nat.le_refl _) (.cells #[.string x1, .string x2, .int .i64 0, .string x3, .string ⟨#[]⟩, .bool false] 24)
  have HR4 : Hid _ := UB.alloc HR3.out (.cells #[.string x1, .string x2, .int .i64 0, .string x3, .string ⟨#[]⟩, .bool false] 24)
  have HD4 : Hid _ := UB.made w3 x1 x2 x3 ⟨#[]⟩ 0 false 24 ⟨by omega, by omega, by omega, by decide⟩
  clear HC3 HB3 HR3
  obtain ⟨d, hd⟩ : ∃ d, d = w3.heap.size := ⟨_, rfl⟩
  rw [← hd] at HD4
  have hdw : w.heap.size < d := by omega
  go_wp2_with fail
  refine (one_at 3 _ rfl cb v n _ _ HC4.out (by omega) (by omega) (by omega)).mono ?_
  rintro e w5 ⟨b5, rfl, hC5, hb5⟩
  have HC5 : Hid _ := hC5
  have HB5 : Hid _ := ButB.call HB4.out (Nat.le_refl _) hb5
  have HR5 : Hid _ := UB.but HR4.out hb5 (by omega)
  have HD5 : Hid _ := UB.but HD4.out hb5 (by omega)
  clear hC5 hb5
  have hcw5 : cb < w5.heap.size := HC5.out.2.2.1
  rw [← hd]
  clear hd hs3 HC4 HB4 HR4 HD4
  cases b5
  · have hD5 := HD5.out
    obtain ⟨hd1, hd2, S, H, n2, P, Q, a5, e0, e1, e3, e4, d0, d1, d2, d3, d4, d5⟩ := hD5
    go_wp2_with fail
    refine (one_at 3 _ rfl cb v n _ _ HC5.out (by omega) (by omega) (by omega)).mono ?_
    rintro e w6 ⟨b6, rfl, hC6, hb6⟩
    have HC6 : Hid _ := hC6
    have HB6 : Hid _ := ButB.call HB5.out (Nat.le_refl _) hb6
    have HR6 : Hid _ := UB.but HR5.out hb6 (by omega)
    have HD6 : Hid _ := UB.but HD5.out hb6 (by omega)
    clear hC6 hb6
    have hcw6 : cb < w6.heap.size := HC6.out.2.2.1
    clear hd1 hd2 d0 d1 d2 d3 d4 d5
    cases b6
    · have hD6 := HD6.out
      obtain ⟨hd1, hd2, S, H, n2, P, Q, a5, e0, e1, e3, e4, d0, d1, d2, d3, d4, d5⟩ := hD6
      go_wp2_with fail
      refine (pick_at 40 _ rfl cb v n _ _ HC6.out (by omega) (by omega) (by omega)).mono ?_
      rintro e w7 ⟨x7, rfl, hp7, hC7, hb7⟩
      have HC7 : Hid _ := hC7
      have HB7 : Hid _ := ButB.call HB6.out (Nat.le_refl _) hb7
      have HR7 : Hid _ := UB.but HR6.out hb7 (by omega)
      have HD7 : Hid _ := UB.but HD6.out hb7 (by omega)
      clear hC7 hb7
      have hcw7 : cb < w7.heap.size := HC7.out.2.2.1
      clear hd1 hd2 d0 d1 d2 d3 d4 d5
      rcases (show x7 = 0 ∨ x7 = 1 ∨ x7 = 2 ∨ x7 = 3 ∨ 4 ≤ x7 from by omega) with rfl | rfl | rfl | rfl | h4
      · have HCq8 : Hid _ := Cursor.below HC7.out ((Below.refl _ _).alloc (Nat.le_refl _) (.cells #[.string ⟨#[]⟩, .string ⟨#[102, 116, 112]⟩] 9))
        have HBq8 : Hid _ := ButB.alloc HB7.out (Nat.le_refl _) (.cells #[.string ⟨#[]⟩, .string ⟨#[102, 116, 112]⟩] 9)
        have HRq8 : Hid _ := UB.alloc HR7.out (.cells #[.string ⟨#[]⟩, .string ⟨#[102, 116, 112]⟩] 9)
        have HDq8 : Hid _ := UB.alloc HD7.out (.cells #[.string ⟨#[]⟩, .string ⟨#[102, 116, 112]⟩] 9)
        go_wp2_with fail
        refine (of_any cb _ 2 8 v n _ _ HCq8.out (by omega) (by omega) (by omega) (by simp) (by simp [go_sem]; omega) (texts_made _ [⟨#[]⟩, ⟨#[102, 116, 112]⟩] 8 (by decide) 9 _ (by simp))).mono ?_
        rintro e w8 ⟨x8, rfl, hx8, hC8, hb8⟩
        have HC8 : Hid _ := hC8
        have HB8 : Hid _ := ButB.call HBq8.out (Nat.le_refl _) hb8
        have HR8 : Hid _ := UB.but HRq8.out hb8 (by omega)
        have HD8 : Hid _ := UB.but HDq8.out hb8 (by omega)
        clear hC8 hb8
        have hcw8 : cb < w8.heap.size := HC8.out.2.2.1
        have hD8 := HD8.out
        obtain ⟨hd1, hd2, S, H, n2, P, Q, a5, e0, e1, e3, e4, d0, d1, d2, d3, d4, d5⟩ := hD8
        have hR8 := HR8.out
        obtain ⟨hr1, hr2, S', H', n2', P', Q', a5', f0, f1, f3, f4, r0, r1, r2, r3, r4, r5⟩ := hR8
        go_wp2_with fail
        exact bodyPost_ret (v := .agg #[.string x8, .string H, .int .i64 n2, .string P, .string Q, .bool a5]) (by simp [results, Tryd.results71, go_sem, r0, r1, r2, r3, r4, r5]) rfl ⟨_, _, _, _, _, _, rfl, ⟨(by first | decide | omega), e1, e3, e4⟩, Cursor.mono (Cursor.set (Cursor.set (Cursor.set (Cursor.set (Cursor.set (Cursor.set (Cursor.set HC8.out (show cb < d by omega) _) hcb _) hcb _) hcb _) hcb _) hcb _) hcb _) (by omega), ButB.out (ButB.set (ButB.set (ButB.set (ButB.set (ButB.set (ButB.set (ButB.set HB8.out (Or.inl (show w.heap.size ≤ d by omega)) _) (Or.inl (Nat.le_refl _)) _) (Or.inl (Nat.le_refl _)) _) (Or.inl (Nat.le_refl _)) _) (Or.inl (Nat.le_refl _)) _) (Or.inl (Nat.le_refl _)) _) (Or.inl (Nat.le_refl _)) _)⟩
      · have HCq8 : Hid _ := Cursor.below HC7.out ((Below.refl _ _).alloc (Nat.le_refl _) (.cells #[.int .i64 (-1), .int .i64 65535, .int .i64 65536] 3))
        have HBq8 : Hid _ := ButB.alloc HB7.out (Nat.le_refl _) (.cells #[.int .i64 (-1), .int .i64 65535, .int .i64 65536] 3)
        have HRq8 : Hid _ := UB.alloc HR7.out (.cells #[.int .i64 (-1), .int .i64 65535, .int .i64 65536] 3)
        have HDq8 : Hid _ := UB.alloc HD7.out (.cells #[.int .i64 (-1), .int .i64 65535, .int .i64 65536] 3)
        go_wp2_with fail
        refine (among_any cb _ 3 v n _ _ HCq8.out (by omega) (by omega) (by omega) (by simp) (by simp [go_sem]; omega) (ints_made _ [-1, 65535, 65536] 3 _ (by simp))).mono ?_
        rintro e w8 ⟨x8, rfl, hC8, hb8⟩
        have HC8 : Hid _ := hC8
        have HB8 : Hid _ := ButB.call HBq8.out (Nat.le_refl _) hb8
        have HR8 : Hid _ := UB.but HRq8.out hb8 (by omega)
        have HD8 : Hid _ := UB.but HDq8.out hb8 (by omega)
        clear hC8 hb8
        have hcw8 : cb < w8.heap.size := HC8.out.2.2.1
        have hD8 := HD8.out
        obtain ⟨hd1, hd2, S, H, n2, P, Q, a5, e0, e1, e3, e4, d0, d1, d2, d3, d4, d5⟩ := hD8
        have hR8 := HR8.out
        obtain ⟨hr1, hr2, S', H', n2', P', Q', a5', f0, f1, f3, f4, r0, r1, r2, r3, r4, r5⟩ := hR8
        go_wp2_with fail
        exact bodyPost_ret (v := .agg #[.string S, .string H, .int .i64 x8, .string P, .string Q, .bool a5]) (by simp [results, Tryd.results71, go_sem, r0, r1, r2, r3, r4, r5]) rfl ⟨_, _, _, _, _, _, rfl, ⟨e0, e1, e3, e4⟩, Cursor.mono (Cursor.set (Cursor.set (Cursor.set (Cursor.set (Cursor.set (Cursor.set (Cursor.set HC8.out (show cb < d by omega) _) hcb _) hcb _) hcb _) hcb _) hcb _) hcb _) (by omega), ButB.out (ButB.set (ButB.set (ButB.set (ButB.set (ButB.set (ButB.set (ButB.set HB8.out (Or.inl (show w.heap.size ≤ d by omega)) _) (Or.inl (Nat.le_refl _)) _) (Or.inl (Nat.le_refl _)) _) (Or.inl (Nat.le_refl _)) _) (Or.inl (Nat.le_refl _)) _) (Or.inl (Nat.le_refl _)) _) (Or.inl (Nat.le_refl _)) _)⟩
      · have HCq8 : Hid _ := Cursor.below HC7.out ((Below.refl _ _).alloc (Nat.le_refl _) (.cells #[.string ⟨#[]⟩, .string ⟨#[97, 32, 98]⟩] 9))
        have HBq8 : Hid _ := ButB.alloc HB7.out (Nat.le_refl _) (.cells #[.string ⟨#[]⟩, .string ⟨#[97, 32, 98]⟩] 9)
        have HRq8 : Hid _ := UB.alloc HR7.out (.cells #[.string ⟨#[]⟩, .string ⟨#[97, 32, 98]⟩] 9)
        have HDq8 : Hid _ := UB.alloc HD7.out (.cells #[.string ⟨#[]⟩, .string ⟨#[97, 32, 98]⟩] 9)
        go_wp2_with fail
        refine (of_any cb _ 2 8 v n _ _ HCq8.out (by omega) (by omega) (by omega) (by simp) (by simp [go_sem]; omega) (texts_made _ [⟨#[]⟩, ⟨#[97, 32, 98]⟩] 8 (by decide) 9 _ (by simp))).mono ?_
        rintro e w8 ⟨x8, rfl, hx8, hC8, hb8⟩
        have HC8 : Hid _ := hC8
        have HB8 : Hid _ := ButB.call HBq8.out (Nat.le_refl _) hb8
        have HR8 : Hid _ := UB.but HRq8.out hb8 (by omega)
        have HD8 : Hid _ := UB.but HDq8.out hb8 (by omega)
        clear hC8 hb8
        have hcw8 : cb < w8.heap.size := HC8.out.2.2.1
        have hD8 := HD8.out
        obtain ⟨hd1, hd2, S, H, n2, P, Q, a5, e0, e1, e3, e4, d0, d1, d2, d3, d4, d5⟩ := hD8
        have hR8 := HR8.out
        obtain ⟨hr1, hr2, S', H', n2', P', Q', a5', f0, f1, f3, f4, r0, r1, r2, r3, r4, r5⟩ := hR8
        go_wp2_with fail
        exact bodyPost_ret (v := .agg #[.string S, .string x8, .int .i64 n2, .string P, .string Q, .bool a5]) (by simp [results, Tryd.results71, go_sem, r0, r1, r2, r3, r4, r5]) rfl ⟨_, _, _, _, _, _, rfl, ⟨e0, (by first | decide | omega), e3, e4⟩, Cursor.mono (Cursor.set (Cursor.set (Cursor.set (Cursor.set (Cursor.set (Cursor.set (Cursor.set HC8.out (show cb < d by omega) _) hcb _) hcb _) hcb _) hcb _) hcb _) hcb _) (by omega), ButB.out (ButB.set (ButB.set (ButB.set (ButB.set (ButB.set (ButB.set (ButB.set HB8.out (Or.inl (show w.heap.size ≤ d by omega)) _) (Or.inl (Nat.le_refl _)) _) (Or.inl (Nat.le_refl _)) _) (Or.inl (Nat.le_refl _)) _) (Or.inl (Nat.le_refl _)) _) (Or.inl (Nat.le_refl _)) _) (Or.inl (Nat.le_refl _)) _)⟩
      · have hD7 := HD7.out
        obtain ⟨hd1, hd2, S, H, n2, P, Q, a5, e0, e1, e3, e4, d0, d1, d2, d3, d4, d5⟩ := hD7
        have hR7 := HR7.out
        obtain ⟨hr1, hr2, S', H', n2', P', Q', a5', f0, f1, f3, f4, r0, r1, r2, r3, r4, r5⟩ := hR7
        go_wp2_with fail
        exact bodyPost_ret (v := .agg #[.string S, .string H, .int .i64 n2, .string P, .string ⟨#[120]⟩, .bool a5]) (by simp [results, Tryd.results71, go_sem, r0, r1, r2, r3, r4, r5]) rfl ⟨_, _, _, _, _, _, rfl, ⟨e0, e1, e3, (by first | decide | omega)⟩, Cursor.mono (Cursor.set (Cursor.set (Cursor.set (Cursor.set (Cursor.set (Cursor.set (Cursor.set HC7.out (show cb < d by omega) _) hcb _) hcb _) hcb _) hcb _) hcb _) hcb _) (by omega), ButB.out (ButB.set (ButB.set (ButB.set (ButB.set (ButB.set (ButB.set (ButB.set HB7.out (Or.inl (show w.heap.size ≤ d by omega)) _) (Or.inl (Nat.le_refl _)) _) (Or.inl (Nat.le_refl _)) _) (Or.inl (Nat.le_refl _)) _) (Or.inl (Nat.le_refl _)) _) (Or.inl (Nat.le_refl _)) _) (Or.inl (Nat.le_refl _)) _)⟩
      · have hD7 := HD7.out
        obtain ⟨hd1, hd2, S, H, n2, P, Q, a5, e0, e1, e3, e4, d0, d1, d2, d3, d4, d5⟩ := hD7
        have hR7 := HR7.out
        obtain ⟨hr1, hr2, S', H', n2', P', Q', a5', f0, f1, f3, f4, r0, r1, r2, r3, r4, r5⟩ := hR7
        go_wp2_with fail
        exact bodyPost_ret (v := .agg #[.string S, .string H, .int .i64 n2, .string P, .string Q, .bool a5]) (by simp [results, Tryd.results71, go_sem, r0, r1, r2, r3, r4, r5]) rfl ⟨_, _, _, _, _, _, rfl, ⟨e0, e1, e3, e4⟩, Cursor.mono (Cursor.set (Cursor.set (Cursor.set (Cursor.set (Cursor.set (Cursor.set HC7.out hcb _) hcb _) hcb _) hcb _) hcb _) hcb _) (by omega), ButB.out (ButB.set (ButB.set (ButB.set (ButB.set (ButB.set (ButB.set HB7.out (Or.inl (Nat.le_refl _)) _) (Or.inl (Nat.le_refl _)) _) (Or.inl (Nat.le_refl _)) _) (Or.inl (Nat.le_refl _)) _) (Or.inl (Nat.le_refl _)) _) (Or.inl (Nat.le_refl _)) _)⟩
    · have hD6 := HD6.out
      obtain ⟨hd1, hd2, S, H, n2, P, Q, a5, e0, e1, e3, e4, d0, d1, d2, d3, d4, d5⟩ := hD6
      have HCs6 : Hid _ := Cursor.set HC6.out (j := 5) (show cb < d by omega) (.bool true)
      have HBs6 : Hid _ := ButB.set HB6.out (p := ⟨d, 5, none⟩) (Or.inl (show w.heap.size ≤ d by omega)) (.bool true)
      have HRs6 : Hid _ := UB.other HR6.out (b' := d) (show w.heap.size ≠ d by omega) 5 (.bool true)
      have HDs6 : Hid _ := UB.b5 HD6.out true
      have HC7 : Hid _ := HCs6.out
      have HB7 : Hid _ := HBs6.out
      have HR7 : Hid _ := HRs6.out
      have HD7 : Hid _ := HDs6.out
      clear HCs6
      clear HBs6
      clear HRs6
      clear HDs6
      have HCq8 : Hid _ := Cursor.below HC7.out ((Below.refl _ _).alloc (Nat.le_refl _) (.cells #[.string ⟨#[]⟩, .string ⟨#[113, 61, 49]⟩, .string ⟨#[37, 52, 49, 61, 47, 63]⟩, .string ⟨#[97, 37, 50, 102, 98]⟩] 9))
      have HBq8 : Hid _ := ButB.alloc HB7.out (Nat.le_refl _) (.cells #[.string ⟨#[]⟩, .string ⟨#[113, 61, 49]⟩, .string ⟨#[37, 52, 49, 61, 47, 63]⟩, .string ⟨#[97, 37, 50, 102, 98]⟩] 9)
      have HRq8 : Hid _ := UB.alloc HR7.out (.cells #[.string ⟨#[]⟩, .string ⟨#[113, 61, 49]⟩, .string ⟨#[37, 52, 49, 61, 47, 63]⟩, .string ⟨#[97, 37, 50, 102, 98]⟩] 9)
      have HDq8 : Hid _ := UB.alloc HD7.out (.cells #[.string ⟨#[]⟩, .string ⟨#[113, 61, 49]⟩, .string ⟨#[37, 52, 49, 61, 47, 63]⟩, .string ⟨#[97, 37, 50, 102, 98]⟩] 9)
      go_wp2_with fail
      refine (of_any cb _ 4 8 v n _ _ HCq8.out (by omega) (by omega) (by omega) (by simp) (by simp [go_sem]; omega) (texts_made _ [⟨#[]⟩, ⟨#[113, 61, 49]⟩, ⟨#[37, 52, 49, 61, 47, 63]⟩, ⟨#[97, 37, 50, 102, 98]⟩] 8 (by decide) 9 _ (by simp))).mono ?_
      rintro e w8 ⟨x8, rfl, hx8, hC8, hb8⟩
      have HC8 : Hid _ := hC8
      have HB8 : Hid _ := ButB.call HBq8.out (Nat.le_refl _) hb8
      have HR8 : Hid _ := UB.but HRq8.out hb8 (by omega)
      have HD8 : Hid _ := UB.but HDq8.out hb8 (by omega)
      clear hC8 hb8
      have hcw8 : cb < w8.heap.size := HC8.out.2.2.1
      clear hd1 hd2 d0 d1 d2 d3 d4 d5
      have hD8 := HD8.out
      obtain ⟨hd1, hd2, S, H, n2, P, Q, a5, e0, e1, e3, e4, d0, d1, d2, d3, d4, d5⟩ := hD8
      have HCs8 : Hid _ := Cursor.set HC8.out (j := 4) (show cb < d by omega) (.string x8)
      have HBs8 : Hid _ := ButB.set HB8.out (p := ⟨d, 4, none⟩) (Or.inl (show w.heap.size ≤ d by omega)) (.string x8)
      have HRs8 : Hid _ := UB.other HR8.out (b' := d) (show w.heap.size ≠ d by omega) 4 (.string x8)
      have HDs8 : Hid _ := UB.s4 HD8.out x8 (by omega)
      have HC9 : Hid _ := HCs8.out
      have HB9 : Hid _ := HBs8.out
      have HR9 : Hid _ := HRs8.out
      have HD9 : Hid _ := HDs8.out
      clear HCs8
      clear HBs8
      clear HRs8
      clear HDs8
      go_wp2_with fail
      refine (pick_at 40 _ rfl cb v n _ _ HC9.out (by omega) (by omega) (by omega)).mono ?_
      rintro e w10 ⟨x10, rfl, hp10, hC10, hb10⟩
      have HC10 : Hid _ := hC10
      have HB10 : Hid _ := ButB.call HB9.out (Nat.le_refl _) hb10
      have HR10 : Hid _ := UB.but HR9.out hb10 (by omega)
      have HD10 : Hid _ := UB.but HD9.out hb10 (by omega)
      clear hC10 hb10
      have hcw10 : cb < w10.heap.size := HC10.out.2.2.1
      clear hd1 hd2 d0 d1 d2 d3 d4 d5
      rcases (show x10 = 0 ∨ x10 = 1 ∨ x10 = 2 ∨ x10 = 3 ∨ 4 ≤ x10 from by omega) with rfl | rfl | rfl | rfl | h4
      · have HCq11 : Hid _ := Cursor.below HC10.out ((Below.refl _ _).alloc (Nat.le_refl _) (.cells #[.string ⟨#[]⟩, .string ⟨#[102, 116, 112]⟩] 9))
        have HBq11 : Hid _ := ButB.alloc HB10.out (Nat.le_refl _) (.cells #[.string ⟨#[]⟩, .string ⟨#[102, 116, 112]⟩] 9)
        have HRq11 : Hid _ := UB.alloc HR10.out (.cells #[.string ⟨#[]⟩, .string ⟨#[102, 116, 112]⟩] 9)
        have HDq11 : Hid _ := UB.alloc HD10.out (.cells #[.string ⟨#[]⟩, .string ⟨#[102, 116, 112]⟩] 9)
        go_wp2_with fail
        refine (of_any cb _ 2 8 v n _ _ HCq11.out (by omega) (by omega) (by omega) (by simp) (by simp [go_sem]; omega) (texts_made _ [⟨#[]⟩, ⟨#[102, 116, 112]⟩] 8 (by decide) 9 _ (by simp))).mono ?_
        rintro e w11 ⟨x11, rfl, hx11, hC11, hb11⟩
        have HC11 : Hid _ := hC11
        have HB11 : Hid _ := ButB.call HBq11.out (Nat.le_refl _) hb11
        have HR11 : Hid _ := UB.but HRq11.out hb11 (by omega)
        have HD11 : Hid _ := UB.but HDq11.out hb11 (by omega)
        clear hC11 hb11
        have hcw11 : cb < w11.heap.size := HC11.out.2.2.1
        have hD11 := HD11.out
        obtain ⟨hd1, hd2, S, H, n2, P, Q, a5, e0, e1, e3, e4, d0, d1, d2, d3, d4, d5⟩ := hD11
        have hR11 := HR11.out
        obtain ⟨hr1, hr2, S', H', n2', P', Q', a5', f0, f1, f3, f4, r0, r1, r2, r3, r4, r5⟩ := hR11
        go_wp2_with fail
        exact bodyPost_ret (v := .agg #[.string x11, .string H, .int .i64 n2, .string P, .string Q, .bool a5]) (by simp [results, Tryd.results71, go_sem, r0, r1, r2, r3, r4, r5]) rfl ⟨_, _, _, _, _, _, rfl, ⟨(by first | decide | omega), e1, e3, e4⟩, Cursor.mono (Cursor.set (Cursor.set (Cursor.set (Cursor.set (Cursor.set (Cursor.set (Cursor.set HC11.out (show cb < d by omega) _) hcb _) hcb _) hcb _) hcb _) hcb _) hcb _) (by omega), ButB.out (ButB.set (ButB.set (ButB.set (ButB.set (ButB.set (ButB.set (ButB.set HB11.out (Or.inl (show w.heap.size ≤ d by omega)) _) (Or.inl (Nat.le_refl _)) _) (Or.inl (Nat.le_refl _)) _) (Or.inl (Nat.le_refl _)) _) (Or.inl (Nat.le_refl _)) _) (Or.inl (Nat.le_refl _)) _) (Or.inl (Nat.le_refl _)) _)⟩
      · have HCq11 : Hid _ := Cursor.below HC10.out ((Below.refl _ _).alloc (Nat.le_refl _) (.cells #[.int .i64 (-1), .int .i64 65535, .int .i64 65536] 3))
        have HBq11 : Hid _ := ButB.alloc HB10.out (Nat.le_refl _) (.cells #[.int .i64 (-1), .int .i64 65535, .int .i64 65536] 3)
        have HRq11 : Hid _ := UB.alloc HR10.out (.cells #[.int .i64 (-1), .int .i64 65535, .int .i64 65536] 3)
        have HDq11 : Hid _ := UB.alloc HD10.out (.cells #[.int .i64 (-1), .int .i64 65535, .int .i64 65536] 3)
        go_wp2_with fail
        refine (among_any cb _ 3 v n _ _ HCq11.out (by omega) (by omega) (by omega) (by simp) (by simp [go_sem]; omega) (ints_made _ [-1, 65535, 65536] 3 _ (by simp))).mono ?_
        rintro e w11 ⟨x11, rfl, hC11, hb11⟩
        have HC11 : Hid _ := hC11
        have HB11 : Hid _ := ButB.call HBq11.out (Nat.le_refl _) hb11
        have HR11 : Hid _ := UB.but HRq11.out hb11 (by omega)
        have HD11 : Hid _ := UB.but HDq11.out hb11 (by omega)
        clear hC11 hb11
        have hcw11 : cb < w11.heap.size := HC11.out.2.2.1
        have hD11 := HD11.out
        obtain ⟨hd1, hd2, S, H, n2, P, Q, a5, e0, e1, e3, e4, d0, d1, d2, d3, d4, d5⟩ := hD11
        have hR11 := HR11.out
        obtain ⟨hr1, hr2, S', H', n2', P', Q', a5', f0, f1, f3, f4, r0, r1, r2, r3, r4, r5⟩ := hR11
        go_wp2_with fail
        exact bodyPost_ret (v := .agg #[.string S, .string H, .int .i64 x11, .string P, .string Q, .bool a5]) (by simp [results, Tryd.results71, go_sem, r0, r1, r2, r3, r4, r5]) rfl ⟨_, _, _, _, _, _, rfl, ⟨e0, e1, e3, e4⟩, Cursor.mono (Cursor.set (Cursor.set (Cursor.set (Cursor.set (Cursor.set (Cursor.set (Cursor.set HC11.out (show cb < d by omega) _) hcb _) hcb _) hcb _) hcb _) hcb _) hcb _) (by omega), ButB.out (ButB.set (ButB.set (ButB.set (ButB.set (ButB.set (ButB.set (ButB.set HB11.out (Or.inl (show w.heap.size ≤ d by omega)) _) (Or.inl (Nat.le_refl _)) _) (Or.inl (Nat.le_refl _)) _) (Or.inl (Nat.le_refl _)) _) (Or.inl (Nat.le_refl _)) _) (Or.inl (Nat.le_refl _)) _) (Or.inl (Nat.le_refl _)) _)⟩
      · have HCq11 : Hid _ := Cursor.below HC10.out ((Below.refl _ _).alloc (Nat.le_refl _) (.cells #[.string ⟨#[]⟩, .string ⟨#[97, 32, 98]⟩] 9))
        have HBq11 : Hid _ := ButB.alloc HB10.out (Nat.le_refl _) (.cells #[.string ⟨#[]⟩, .string ⟨#[97, 32, 98]⟩] 9)
        have HRq11 : Hid _ := UB.alloc HR10.out (.cells #[.string ⟨#[]⟩, .string ⟨#[97, 32, 98]⟩] 9)
        have HDq11 : Hid _ := UB.alloc HD10.out (.cells #[.string ⟨#[]⟩, .string ⟨#[97, 32, 98]⟩] 9)
        go_wp2_with fail
        refine (of_any cb _ 2 8 v n _ _ HCq11.out (by omega) (by omega) (by omega) (by simp) (by simp [go_sem]; omega) (texts_made _ [⟨#[]⟩, ⟨#[97, 32, 98]⟩] 8 (by decide) 9 _ (by simp))).mono ?_
        rintro e w11 ⟨x11, rfl, hx11, hC11, hb11⟩
        have HC11 : Hid _ := hC11
        have HB11 : Hid _ := ButB.call HBq11.out (Nat.le_refl _) hb11
        have HR11 : Hid _ := UB.but HRq11.out hb11 (by omega)
        have HD11 : Hid _ := UB.but HDq11.out hb11 (by omega)
        clear hC11 hb11
        have hcw11 : cb < w11.heap.size := HC11.out.2.2.1
        have hD11 := HD11.out
        obtain ⟨hd1, hd2, S, H, n2, P, Q, a5, e0, e1, e3, e4, d0, d1, d2, d3, d4, d5⟩ := hD11
        have hR11 := HR11.out
        obtain ⟨hr1, hr2, S', H', n2', P', Q', a5', f0, f1, f3, f4, r0, r1, r2, r3, r4, r5⟩ := hR11
        go_wp2_with fail
        exact bodyPost_ret (v := .agg #[.string S, .string x11, .int .i64 n2, .string P, .string Q, .bool a5]) (by simp [results, Tryd.results71, go_sem, r0, r1, r2, r3, r4, r5]) rfl ⟨_, _, _, _, _, _, rfl, ⟨e0, (by first | decide | omega), e3, e4⟩, Cursor.mono (Cursor.set (Cursor.set (Cursor.set (Cursor.set (Cursor.set (Cursor.set (Cursor.set HC11.out (show cb < d by omega) _) hcb _) hcb _) hcb _) hcb _) hcb _) hcb _) (by omega), ButB.out (ButB.set (ButB.set (ButB.set (ButB.set (ButB.set (ButB.set (ButB.set HB11.out (Or.inl (show w.heap.size ≤ d by omega)) _) (Or.inl (Nat.le_refl _)) _) (Or.inl (Nat.le_refl _)) _) (Or.inl (Nat.le_refl _)) _) (Or.inl (Nat.le_refl _)) _) (Or.inl (Nat.le_refl _)) _) (Or.inl (Nat.le_refl _)) _)⟩
      · have hD10 := HD10.out
        obtain ⟨hd1, hd2, S, H, n2, P, Q, a5, e0, e1, e3, e4, d0, d1, d2, d3, d4, d5⟩ := hD10
        have hR10 := HR10.out
        obtain ⟨hr1, hr2, S', H', n2', P', Q', a5', f0, f1, f3, f4, r0, r1, r2, r3, r4, r5⟩ := hR10
        go_wp2_with fail
        exact bodyPost_ret (v := .agg #[.string S, .string H, .int .i64 n2, .string P, .string ⟨#[120]⟩, .bool a5]) (by simp [results, Tryd.results71, go_sem, r0, r1, r2, r3, r4, r5]) rfl ⟨_, _, _, _, _, _, rfl, ⟨e0, e1, e3, (by first | decide | omega)⟩, Cursor.mono (Cursor.set (Cursor.set (Cursor.set (Cursor.set (Cursor.set (Cursor.set (Cursor.set HC10.out (show cb < d by omega) _) hcb _) hcb _) hcb _) hcb _) hcb _) hcb _) (by omega), ButB.out (ButB.set (ButB.set (ButB.set (ButB.set (ButB.set (ButB.set (ButB.set HB10.out (Or.inl (show w.heap.size ≤ d by omega)) _) (Or.inl (Nat.le_refl _)) _) (Or.inl (Nat.le_refl _)) _) (Or.inl (Nat.le_refl _)) _) (Or.inl (Nat.le_refl _)) _) (Or.inl (Nat.le_refl _)) _) (Or.inl (Nat.le_refl _)) _)⟩
      · have hD10 := HD10.out
        obtain ⟨hd1, hd2, S, H, n2, P, Q, a5, e0, e1, e3, e4, d0, d1, d2, d3, d4, d5⟩ := hD10
        have hR10 := HR10.out
        obtain ⟨hr1, hr2, S', H', n2', P', Q', a5', f0, f1, f3, f4, r0, r1, r2, r3, r4, r5⟩ := hR10
        go_wp2_with fail
        exact bodyPost_ret (v := .agg #[.string S, .string H, .int .i64 n2, .string P, .string Q, .bool a5]) (by simp [results, Tryd.results71, go_sem, r0, r1, r2, r3, r4, r5]) rfl ⟨_, _, _, _, _, _, rfl, ⟨e0, e1, e3, e4⟩, Cursor.mono (Cursor.set (Cursor.set (Cursor.set (Cursor.set (Cursor.set (Cursor.set HC10.out hcb _) hcb _) hcb _) hcb _) hcb _) hcb _) (by omega), ButB.out (ButB.set (ButB.set (ButB.set (ButB.set (ButB.set (ButB.set HB10.out (Or.inl (Nat.le_refl _)) _) (Or.inl (Nat.le_refl _)) _) (Or.inl (Nat.le_refl _)) _) (Or.inl (Nat.le_refl _)) _) (Or.inl (Nat.le_refl _)) _) (Or.inl (Nat.le_refl _)) _)⟩
  · have HCq6 : Hid _ := Cursor.below HC5.out ((Below.refl _ _).alloc (Nat.le_refl _) (.cells #[.int .i64 80, .int .i64 443, .int .i64 8080] 3))
    have HBq6 : Hid _ := ButB.alloc HB5.out (Nat.le_refl _) (.cells #[.int .i64 80, .int .i64 443, .int .i64 8080] 3)
    have HRq6 : Hid _ := UB.alloc HR5.out (.cells #[.int .i64 80, .int .i64 443, .int .i64 8080] 3)
    have HDq6 : Hid _ := UB.alloc HD5.out (.cells #[.int .i64 80, .int .i64 443, .int .i64 8080] 3)
    go_wp2_with fail
    refine (among_any cb _ 3 v n _ _ HCq6.out (by omega) (by omega) (by omega) (by simp) (by simp [go_sem]; omega) (ints_made _ [80, 443, 8080] 3 _ (by simp))).mono ?_
    rintro e w6 ⟨x6, rfl, hC6, hb6⟩
    have HC6 : Hid _ := hC6
    have HB6 : Hid _ := ButB.call HBq6.out (Nat.le_refl _) hb6
    have HR6 : Hid _ := UB.but HRq6.out hb6 (by omega)
    have HD6 : Hid _ := UB.but HDq6.out hb6 (by omega)
    clear hC6 hb6
    have hcw6 : cb < w6.heap.size := HC6.out.2.2.1
    have hD6 := HD6.out
    obtain ⟨hd1, hd2, S, H, n2, P, Q, a5, e0, e1, e3, e4, d0, d1, d2, d3, d4, d5⟩ := hD6
    have HCs6 : Hid _ := Cursor.set HC6.out (j := 2) (show cb < d by omega) (.int .i64 x6)
    have HBs6 : Hid _ := ButB.set HB6.out (p := ⟨d, 2, none⟩) (Or.inl (show w.heap.size ≤ d by omega)) (.int .i64 x6)
    have HRs6 : Hid _ := UB.other HR6.out (b' := d) (show w.heap.size ≠ d by omega) 2 (.int .i64 x6)
    have HDs6 : Hid _ := UB.i2 HD6.out x6
    have HC7 : Hid _ := HCs6.out
    have HB7 : Hid _ := HBs6.out
    have HR7 : Hid _ := HRs6.out
    have HD7 : Hid _ := HDs6.out
    clear HCs6
    clear HBs6
    clear HRs6
    clear HDs6
    go_wp2_with fail
    refine (one_at 3 _ rfl cb v n _ _ HC7.out (by omega) (by omega) (by omega)).mono ?_
    rintro e w8 ⟨b8, rfl, hC8, hb8⟩
    have HC8 : Hid _ := hC8
    have HB8 : Hid _ := ButB.call HB7.out (Nat.le_refl _) hb8
    have HR8 : Hid _ := UB.but HR7.out hb8 (by omega)
    have HD8 : Hid _ := UB.but HD7.out hb8 (by omega)
    clear hC8 hb8
    have hcw8 : cb < w8.heap.size := HC8.out.2.2.1
    clear hd1 hd2 d0 d1 d2 d3 d4 d5
    cases b8
    · have hD8 := HD8.out
      obtain ⟨hd1, hd2, S, H, n2, P, Q, a5, e0, e1, e3, e4, d0, d1, d2, d3, d4, d5⟩ := hD8
      go_wp2_with fail
      refine (pick_at 40 _ rfl cb v n _ _ HC8.out (by omega) (by omega) (by omega)).mono ?_
      rintro e w9 ⟨x9, rfl, hp9, hC9, hb9⟩
      have HC9 : Hid _ := hC9
      have HB9 : Hid _ := ButB.call HB8.out (Nat.le_refl _) hb9
      have HR9 : Hid _ := UB.but HR8.out hb9 (by omega)
      have HD9 : Hid _ := UB.but HD8.out hb9 (by omega)
      clear hC9 hb9
      have hcw9 : cb < w9.heap.size := HC9.out.2.2.1
      clear hd1 hd2 d0 d1 d2 d3 d4 d5
      rcases (show x9 = 0 ∨ x9 = 1 ∨ x9 = 2 ∨ x9 = 3 ∨ 4 ≤ x9 from by omega) with rfl | rfl | rfl | rfl | h4
      · have HCq10 : Hid _ := Cursor.below HC9.out ((Below.refl _ _).alloc (Nat.le_refl _) (.cells #[.string ⟨#[]⟩, .string ⟨#[102, 116, 112]⟩] 9))
        have HBq10 : Hid _ := ButB.alloc HB9.out (Nat.le_refl _) (.cells #[.string ⟨#[]⟩, .string ⟨#[102, 116, 112]⟩] 9)
        have HRq10 : Hid _ := UB.alloc HR9.out (.cells #[.string ⟨#[]⟩, .string ⟨#[102, 116, 112]⟩] 9)
        have HDq10 : Hid _ := UB.alloc HD9.out (.cells #[.string ⟨#[]⟩, .string ⟨#[102, 116, 112]⟩] 9)
        go_wp2_with fail
        refine (of_any cb _ 2 8 v n _ _ HCq10.out (by omega) (by omega) (by omega) (by simp) (by simp [go_sem]; omega) (texts_made _ [⟨#[]⟩, ⟨#[102, 116, 112]⟩] 8 (by decide) 9 _ (by simp))).mono ?_
        rintro e w10 ⟨x10, rfl, hx10, hC10, hb10⟩
        have HC10 : Hid _ := hC10
        have HB10 : Hid _ := ButB.call HBq10.out (Nat.le_refl _) hb10
        have HR10 : Hid _ := UB.but HRq10.out hb10 (by omega)
        have HD10 : Hid _ := UB.but HDq10.out hb10 (by omega)
        clear hC10 hb10
        have hcw10 : cb < w10.heap.size := HC10.out.2.2.1
        have hD10 := HD10.out
        obtain ⟨hd1, hd2, S, H, n2, P, Q, a5, e0, e1, e3, e4, d0, d1, d2, d3, d4, d5⟩ := hD10
        have hR10 := HR10.out
        obtain ⟨hr1, hr2, S', H', n2', P', Q', a5', f0, f1, f3, f4, r0, r1, r2, r3, r4, r5⟩ := hR10
        go_wp2_with fail
        exact bodyPost_ret (v := .agg #[.string x10, .string H, .int .i64 n2, .string P, .string Q, .bool a5]) (by simp [results, Tryd.results71, go_sem, r0, r1, r2, r3, r4, r5]) rfl ⟨_, _, _, _, _, _, rfl, ⟨(by first | decide | omega), e1, e3, e4⟩, Cursor.mono (Cursor.set (Cursor.set (Cursor.set (Cursor.set (Cursor.set (Cursor.set (Cursor.set HC10.out (show cb < d by omega) _) hcb _) hcb _) hcb _) hcb _) hcb _) hcb _) (by omega), ButB.out (ButB.set (ButB.set (ButB.set (ButB.set (ButB.set (ButB.set (ButB.set HB10.out (Or.inl (show w.heap.size ≤ d by omega)) _) (Or.inl (Nat.le_refl _)) _) (Or.inl (Nat.le_refl _)) _) (Or.inl (Nat.le_refl _)) _) (Or.inl (Nat.le_refl _)) _) (Or.inl (Nat.le_refl _)) _) (Or.inl (Nat.le_refl _)) _)⟩
      · have HCq10 : Hid _ := Cursor.below HC9.out ((Below.refl _ _).alloc (Nat.le_refl _) (.cells #[.int .i64 (-1), .int .i64 65535, .int .i64 65536] 3))
        have HBq10 : Hid _ := ButB.alloc HB9.out (Nat.le_refl _) (.cells #[.int .i64 (-1), .int .i64 65535, .int .i64 65536] 3)
        have HRq10 : Hid _ := UB.alloc HR9.out (.cells #[.int .i64 (-1), .int .i64 65535, .int .i64 65536] 3)
        have HDq10 : Hid _ := UB.alloc HD9.out (.cells #[.int .i64 (-1), .int .i64 65535, .int .i64 65536] 3)
        go_wp2_with fail
        refine (among_any cb _ 3 v n _ _ HCq10.out (by omega) (by omega) (by omega) (by simp) (by simp [go_sem]; omega) (ints_made _ [-1, 65535, 65536] 3 _ (by simp))).mono ?_
        rintro e w10 ⟨x10, rfl, hC10, hb10⟩
        have HC10 : Hid _ := hC10
        have HB10 : Hid _ := ButB.call HBq10.out (Nat.le_refl _) hb10
        have HR10 : Hid _ := UB.but HRq10.out hb10 (by omega)
        have HD10 : Hid _ := UB.but HDq10.out hb10 (by omega)
        clear hC10 hb10
        have hcw10 : cb < w10.heap.size := HC10.out.2.2.1
        have hD10 := HD10.out
        obtain ⟨hd1, hd2, S, H, n2, P, Q, a5, e0, e1, e3, e4, d0, d1, d2, d3, d4, d5⟩ := hD10
        have hR10 := HR10.out
        obtain ⟨hr1, hr2, S', H', n2', P', Q', a5', f0, f1, f3, f4, r0, r1, r2, r3, r4, r5⟩ := hR10
        go_wp2_with fail
        exact bodyPost_ret (v := .agg #[.string S, .string H, .int .i64 x10, .string P, .string Q, .bool a5]) (by simp [results, Tryd.results71, go_sem, r0, r1, r2, r3, r4, r5]) rfl ⟨_, _, _, _, _, _, rfl, ⟨e0, e1, e3, e4⟩, Cursor.mono (Cursor.set (Cursor.set (Cursor.set (Cursor.set (Cursor.set (Cursor.set (Cursor.set HC10.out (show cb < d by omega) _) hcb _) hcb _) hcb _) hcb _) hcb _) hcb _) (by omega), ButB.out (ButB.set (ButB.set (ButB.set (ButB.set (ButB.set (ButB.set (ButB.set HB10.out (Or.inl (show w.heap.size ≤ d by omega)) _) (Or.inl (Nat.le_refl _)) _) (Or.inl (Nat.le_refl _)) _) (Or.inl (Nat.le_refl _)) _) (Or.inl (Nat.le_refl _)) _) (Or.inl (Nat.le_refl _)) _) (Or.inl (Nat.le_refl _)) _)⟩
      · have HCq10 : Hid _ := Cursor.below HC9.out ((Below.refl _ _).alloc (Nat.le_refl _) (.cells #[.string ⟨#[]⟩, .string ⟨#[97, 32, 98]⟩] 9))
        have HBq10 : Hid _ := ButB.alloc HB9.out (Nat.le_refl _) (.cells #[.string ⟨#[]⟩, .string ⟨#[97, 32, 98]⟩] 9)
        have HRq10 : Hid _ := UB.alloc HR9.out (.cells #[.string ⟨#[]⟩, .string ⟨#[97, 32, 98]⟩] 9)
        have HDq10 : Hid _ := UB.alloc HD9.out (.cells #[.string ⟨#[]⟩, .string ⟨#[97, 32, 98]⟩] 9)
        go_wp2_with fail
        refine (of_any cb _ 2 8 v n _ _ HCq10.out (by omega) (by omega) (by omega) (by simp) (by simp [go_sem]; omega) (texts_made _ [⟨#[]⟩, ⟨#[97, 32, 98]⟩] 8 (by decide) 9 _ (by simp))).mono ?_
        rintro e w10 ⟨x10, rfl, hx10, hC10, hb10⟩
        have HC10 : Hid _ := hC10
        have HB10 : Hid _ := ButB.call HBq10.out (Nat.le_refl _) hb10
        have HR10 : Hid _ := UB.but HRq10.out hb10 (by omega)
        have HD10 : Hid _ := UB.but HDq10.out hb10 (by omega)
        clear hC10 hb10
        have hcw10 : cb < w10.heap.size := HC10.out.2.2.1
        have hD10 := HD10.out
        obtain ⟨hd1, hd2, S, H, n2, P, Q, a5, e0, e1, e3, e4, d0, d1, d2, d3, d4, d5⟩ := hD10
        have hR10 := HR10.out
        obtain ⟨hr1, hr2, S', H', n2', P', Q', a5', f0, f1, f3, f4, r0, r1, r2, r3, r4, r5⟩ := hR10
        go_wp2_with fail
        exact bodyPost_ret (v := .agg #[.string S, .string x10, .int .i64 n2, .string P, .string Q, .bool a5]) (by simp [results, Tryd.results71, go_sem, r0, r1, r2, r3, r4, r5]) rfl ⟨_, _, _, _, _, _, rfl, ⟨e0, (by first | decide | omega), e3, e4⟩, Cursor.mono (Cursor.set (Cursor.set (Cursor.set (Cursor.set (Cursor.set (Cursor.set (Cursor.set HC10.out (show cb < d by omega) _) hcb _) hcb _) hcb _) hcb _) hcb _) hcb _) (by omega), ButB.out (ButB.set (ButB.set (ButB.set (ButB.set (ButB.set (ButB.set (ButB.set HB10.out (Or.inl (show w.heap.size ≤ d by omega)) _) (Or.inl (Nat.le_refl _)) _) (Or.inl (Nat.le_refl _)) _) (Or.inl (Nat.le_refl _)) _) (Or.inl (Nat.le_refl _)) _) (Or.inl (Nat.le_refl _)) _) (Or.inl (Nat.le_refl _)) _)⟩
      · have hD9 := HD9.out
        obtain ⟨hd1, hd2, S, H, n2, P, Q, a5, e0, e1, e3, e4, d0, d1, d2, d3, d4, d5⟩ := hD9
        have hR9 := HR9.out
        obtain ⟨hr1, hr2, S', H', n2', P', Q', a5', f0, f1, f3, f4, r0, r1, r2, r3, r4, r5⟩ := hR9
        go_wp2_with fail
        exact bodyPost_ret (v := .agg #[.string S, .string H, .int .i64 n2, .string P, .string ⟨#[120]⟩, .bool a5]) (by simp [results, Tryd.results71, go_sem, r0, r1, r2, r3, r4, r5]) rfl ⟨_, _, _, _, _, _, rfl, ⟨e0, e1, e3, (by first | decide | omega)⟩, Cursor.mono (Cursor.set (Cursor.set (Cursor.set (Cursor.set (Cursor.set (Cursor.set (Cursor.set HC9.out (show cb < d by omega) _) hcb _) hcb _) hcb _) hcb _) hcb _) hcb _) (by omega), ButB.out (ButB.set (ButB.set (ButB.set (ButB.set (ButB.set (ButB.set (ButB.set HB9.out (Or.inl (show w.heap.size ≤ d by omega)) _) (Or.inl (Nat.le_refl _)) _) (Or.inl (Nat.le_refl _)) _) (Or.inl (Nat.le_refl _)) _) (Or.inl (Nat.le_refl _)) _) (Or.inl (Nat.le_refl _)) _) (Or.inl (Nat.le_refl _)) _)⟩
      · have hD9 := HD9.out
        obtain ⟨hd1, hd2, S, H, n2, P, Q, a5, e0, e1, e3, e4, d0, d1, d2, d3, d4, d5⟩ := hD9
        have hR9 := HR9.out
        obtain ⟨hr1, hr2, S', H', n2', P', Q', a5', f0, f1, f3, f4, r0, r1, r2, r3, r4, r5⟩ := hR9
        go_wp2_with fail
        exact bodyPost_ret (v := .agg #[.string S, .string H, .int .i64 n2, .string P, .string Q, .bool a5]) (by simp [results, Tryd.results71, go_sem, r0, r1, r2, r3, r4, r5]) rfl ⟨_, _, _, _, _, _, rfl, ⟨e0, e1, e3, e4⟩, Cursor.mono (Cursor.set (Cursor.set (Cursor.set (Cursor.set (Cursor.set (Cursor.set HC9.out hcb _) hcb _) hcb _) hcb _) hcb _) hcb _) (by omega), ButB.out (ButB.set (ButB.set (ButB.set (ButB.set (ButB.set (ButB.set HB9.out (Or.inl (Nat.le_refl _)) _) (Or.inl (Nat.le_refl _)) _) (Or.inl (Nat.le_refl _)) _) (Or.inl (Nat.le_refl _)) _) (Or.inl (Nat.le_refl _)) _) (Or.inl (Nat.le_refl _)) _)⟩
    · have hD8 := HD8.out
      obtain ⟨hd1, hd2, S, H, n2, P, Q, a5, e0, e1, e3, e4, d0, d1, d2, d3, d4, d5⟩ := hD8
      have HCs8 : Hid _ := Cursor.set HC8.out (j := 5) (show cb < d by omega) (.bool true)
      have HBs8 : Hid _ := ButB.set HB8.out (p := ⟨d, 5, none⟩) (Or.inl (show w.heap.size ≤ d by omega)) (.bool true)
      have HRs8 : Hid _ := UB.other HR8.out (b' := d) (show w.heap.size ≠ d by omega) 5 (.bool true)
      have HDs8 : Hid _ := UB.b5 HD8.out true
      have HC9 : Hid _ := HCs8.out
      have HB9 : Hid _ := HBs8.out
      have HR9 : Hid _ := HRs8.out
      have HD9 : Hid _ := HDs8.out
      clear HCs8
      clear HBs8
      clear HRs8
      clear HDs8
      have HCq10 : Hid _ := Cursor.below HC9.out ((Below.refl _ _).alloc (Nat.le_refl _) (.cells #[.string ⟨#[]⟩, .string ⟨#[113, 61, 49]⟩, .string ⟨#[37, 52, 49, 61, 47, 63]⟩, .string ⟨#[97, 37, 50, 102, 98]⟩] 9))
      have HBq10 : Hid _ := ButB.alloc HB9.out (Nat.le_refl _) (.cells #[.string ⟨#[]⟩, .string ⟨#[113, 61, 49]⟩, .string ⟨#[37, 52, 49, 61, 47, 63]⟩, .string ⟨#[97, 37, 50, 102, 98]⟩] 9)
      have HRq10 : Hid _ := UB.alloc HR9.out (.cells #[.string ⟨#[]⟩, .string ⟨#[113, 61, 49]⟩, .string ⟨#[37, 52, 49, 61, 47, 63]⟩, .string ⟨#[97, 37, 50, 102, 98]⟩] 9)
      have HDq10 : Hid _ := UB.alloc HD9.out (.cells #[.string ⟨#[]⟩, .string ⟨#[113, 61, 49]⟩, .string ⟨#[37, 52, 49, 61, 47, 63]⟩, .string ⟨#[97, 37, 50, 102, 98]⟩] 9)
      go_wp2_with fail
      refine (of_any cb _ 4 8 v n _ _ HCq10.out (by omega) (by omega) (by omega) (by simp) (by simp [go_sem]; omega) (texts_made _ [⟨#[]⟩, ⟨#[113, 61, 49]⟩, ⟨#[37, 52, 49, 61, 47, 63]⟩, ⟨#[97, 37, 50, 102, 98]⟩] 8 (by decide) 9 _ (by simp))).mono ?_
      rintro e w10 ⟨x10, rfl, hx10, hC10, hb10⟩
      have HC10 : Hid _ := hC10
      have HB10 : Hid _ := ButB.call HBq10.out (Nat.le_refl _) hb10
      have HR10 : Hid _ := UB.but HRq10.out hb10 (by omega)
      have HD10 : Hid _ := UB.but HDq10.out hb10 (by omega)
      clear hC10 hb10
      have hcw10 : cb < w10.heap.size := HC10.out.2.2.1
      clear hd1 hd2 d0 d1 d2 d3 d4 d5
      have hD10 := HD10.out
      obtain ⟨hd1, hd2, S, H, n2, P, Q, a5, e0, e1, e3, e4, d0, d1, d2, d3, d4, d5⟩ := hD10
      have HCs10 : Hid _ := Cursor.set HC10.out (j := 4) (show cb < d by omega) (.string x10)
      have HBs10 : Hid _ := ButB.set HB10.out (p := ⟨d, 4, none⟩) (Or.inl (show w.heap.size ≤ d by omega)) (.string x10)
      have HRs10 : Hid _ := UB.other HR10.out (b' := d) (show w.heap.size ≠ d by omega) 4 (.string x10)
      have HDs10 : Hid _ := UB.s4 HD10.out x10 (by omega)
      have HC11 : Hid _ := HCs10.out
      have HB11 : Hid _ := HBs10.out
      have HR11 : Hid _ := HRs10.out
      have HD11 : Hid _ := HDs10.out
      clear HCs10
      clear HBs10
      clear HRs10
      clear HDs10
      go_wp2_with fail
      refine (pick_at 40 _ rfl cb v n _ _ HC11.out (by omega) (by omega) (by omega)).mono ?_
      rintro e w12 ⟨x12, rfl, hp12, hC12, hb12⟩
      have HC12 : Hid _ := hC12
      have HB12 : Hid _ := ButB.call HB11.out (Nat.le_refl _) hb12
      have HR12 : Hid _ := UB.but HR11.out hb12 (by omega)
      have HD12 : Hid _ := UB.but HD11.out hb12 (by omega)
      clear hC12 hb12
      have hcw12 : cb < w12.heap.size := HC12.out.2.2.1
      clear hd1 hd2 d0 d1 d2 d3 d4 d5
      rcases (show x12 = 0 ∨ x12 = 1 ∨ x12 = 2 ∨ x12 = 3 ∨ 4 ≤ x12 from by omega) with rfl | rfl | rfl | rfl | h4
      · have HCq13 : Hid _ := Cursor.below HC12.out ((Below.refl _ _).alloc (Nat.le_refl _) (.cells #[.string ⟨#[]⟩, .string ⟨#[102, 116, 112]⟩] 9))
        have HBq13 : Hid _ := ButB.alloc HB12.out (Nat.le_refl _) (.cells #[.string ⟨#[]⟩, .string ⟨#[102, 116, 112]⟩] 9)
        have HRq13 : Hid _ := UB.alloc HR12.out (.cells #[.string ⟨#[]⟩, .string ⟨#[102, 116, 112]⟩] 9)
        have HDq13 : Hid _ := UB.alloc HD12.out (.cells #[.string ⟨#[]⟩, .string ⟨#[102, 116, 112]⟩] 9)
        go_wp2_with fail
        refine (of_any cb _ 2 8 v n _ _ HCq13.out (by omega) (by omega) (by omega) (by simp) (by simp [go_sem]; omega) (texts_made _ [⟨#[]⟩, ⟨#[102, 116, 112]⟩] 8 (by decide) 9 _ (by simp))).mono ?_
        rintro e w13 ⟨x13, rfl, hx13, hC13, hb13⟩
        have HC13 : Hid _ := hC13
        have HB13 : Hid _ := ButB.call HBq13.out (Nat.le_refl _) hb13
        have HR13 : Hid _ := UB.but HRq13.out hb13 (by omega)
        have HD13 : Hid _ := UB.but HDq13.out hb13 (by omega)
        clear hC13 hb13
        have hcw13 : cb < w13.heap.size := HC13.out.2.2.1
        have hD13 := HD13.out
        obtain ⟨hd1, hd2, S, H, n2, P, Q, a5, e0, e1, e3, e4, d0, d1, d2, d3, d4, d5⟩ := hD13
        have hR13 := HR13.out
        obtain ⟨hr1, hr2, S', H', n2', P', Q', a5', f0, f1, f3, f4, r0, r1, r2, r3, r4, r5⟩ := hR13
        go_wp2_with fail
        exact bodyPost_ret (v := .agg #[.string x13, .string H, .int .i64 n2, .string P, .string Q, .bool a5]) (by simp [results, Tryd.results71, go_sem, r0, r1, r2, r3, r4, r5]) rfl ⟨_, _, _, _, _, _, rfl, ⟨(by first | decide | omega), e1, e3, e4⟩, Cursor.mono (Cursor.set (Cursor.set (Cursor.set (Cursor.set (Cursor.set (Cursor.set (Cursor.set HC13.out (show cb < d by omega) _) hcb _) hcb _) hcb _) hcb _) hcb _) hcb _) (by omega), ButB.out (ButB.set (ButB.set (ButB.set (ButB.set (ButB.set (ButB.set (ButB.set HB13.out (Or.inl (show w.heap.size ≤ d by omega)) _) (Or.inl (Nat.le_refl _)) _) (Or.inl (Nat.le_refl _)) _) (Or.inl (Nat.le_refl _)) _) (Or.inl (Nat.le_refl _)) _) (Or.inl (Nat.le_refl _)) _) (Or.inl (Nat.le_refl _)) _)⟩
      · have HCq13 : Hid _ := Cursor.below HC12.out ((Below.refl _ _).alloc (Nat.le_refl _) (.cells #[.int .i64 (-1), .int .i64 65535, .int .i64 65536] 3))
        have HBq13 : Hid _ := ButB.alloc HB12.out (Nat.le_refl _) (.cells #[.int .i64 (-1), .int .i64 65535, .int .i64 65536] 3)
        have HRq13 : Hid _ := UB.alloc HR12.out (.cells #[.int .i64 (-1), .int .i64 65535, .int .i64 65536] 3)
        have HDq13 : Hid _ := UB.alloc HD12.out (.cells #[.int .i64 (-1), .int .i64 65535, .int .i64 65536] 3)
        go_wp2_with fail
        refine (among_any cb _ 3 v n _ _ HCq13.out (by omega) (by omega) (by omega) (by simp) (by simp [go_sem]; omega) (ints_made _ [-1, 65535, 65536] 3 _ (by simp))).mono ?_
        rintro e w13 ⟨x13, rfl, hC13, hb13⟩
        have HC13 : Hid _ := hC13
        have HB13 : Hid _ := ButB.call HBq13.out (Nat.le_refl _) hb13
        have HR13 : Hid _ := UB.but HRq13.out hb13 (by omega)
        have HD13 : Hid _ := UB.but HDq13.out hb13 (by omega)
        clear hC13 hb13
        have hcw13 : cb < w13.heap.size := HC13.out.2.2.1
        have hD13 := HD13.out
        obtain ⟨hd1, hd2, S, H, n2, P, Q, a5, e0, e1, e3, e4, d0, d1, d2, d3, d4, d5⟩ := hD13
        have hR13 := HR13.out
        obtain ⟨hr1, hr2, S', H', n2', P', Q', a5', f0, f1, f3, f4, r0, r1, r2, r3, r4, r5⟩ := hR13
        go_wp2_with fail
        exact bodyPost_ret (v := .agg #[.string S, .string H, .int .i64 x13, .string P, .string Q, .bool a5]) (by simp [results, Tryd.results71, go_sem, r0, r1, r2, r3, r4, r5]) rfl ⟨_, _, _, _, _, _, rfl, ⟨e0, e1, e3, e4⟩, Cursor.mono (Cursor.set (Cursor.set (Cursor.set (Cursor.set (Cursor.set (Cursor.set (Cursor.set HC13.out (show cb < d by omega) _) hcb _) hcb _) hcb _) hcb _) hcb _) hcb _) (by omega), ButB.out (ButB.set (ButB.set (ButB.set (ButB.set (ButB.set (ButB.set (ButB.set HB13.out (Or.inl (show w.heap.size ≤ d by omega)) _) (Or.inl (Nat.le_refl _)) _) (Or.inl (Nat.le_refl _)) _) (Or.inl (Nat.le_refl _)) _) (Or.inl (Nat.le_refl _)) _) (Or.inl (Nat.le_refl _)) _) (Or.inl (Nat.le_refl _)) _)⟩
      · have HCq13 : Hid _ := Cursor.below HC12.out ((Below.refl _ _).alloc (Nat.le_refl _) (.cells #[.string ⟨#[]⟩, .string ⟨#[97, 32, 98]⟩] 9))
        have HBq13 : Hid _ := ButB.alloc HB12.out (Nat.le_refl _) (.cells #[.string ⟨#[]⟩, .string ⟨#[97, 32, 98]⟩] 9)
        have HRq13 : Hid _ := UB.alloc HR12.out (.cells #[.string ⟨#[]⟩, .string ⟨#[97, 32, 98]⟩] 9)
        have HDq13 : Hid _ := UB.alloc HD12.out (.cells #[.string ⟨#[]⟩, .string ⟨#[97, 32, 98]⟩] 9)
        go_wp2_with fail
        refine (of_any cb _ 2 8 v n _ _ HCq13.out (by omega) (by omega) (by omega) (by simp) (by simp [go_sem]; omega) (texts_made _ [⟨#[]⟩, ⟨#[97, 32, 98]⟩] 8 (by decide) 9 _ (by simp))).mono ?_
        rintro e w13 ⟨x13, rfl, hx13, hC13, hb13⟩
        have HC13 : Hid _ := hC13
        have HB13 : Hid _ := ButB.call HBq13.out (Nat.le_refl _) hb13
        have HR13 : Hid _ := UB.but HRq13.out hb13 (by omega)
        have HD13 : Hid _ := UB.but HDq13.out hb13 (by omega)
        clear hC13 hb13
        have hcw13 : cb < w13.heap.size := HC13.out.2.2.1
        have hD13 := HD13.out
        obtain ⟨hd1, hd2, S, H, n2, P, Q, a5, e0, e1, e3, e4, d0, d1, d2, d3, d4, d5⟩ := hD13
        have hR13 := HR13.out
        obtain ⟨hr1, hr2, S', H', n2', P', Q', a5', f0, f1, f3, f4, r0, r1, r2, r3, r4, r5⟩ := hR13
        go_wp2_with fail
        exact bodyPost_ret (v := .agg #[.string S, .string x13, .int .i64 n2, .string P, .string Q, .bool a5]) (by simp [results, Tryd.results71, go_sem, r0, r1, r2, r3, r4, r5]) rfl ⟨_, _, _, _, _, _, rfl, ⟨e0, (by first | decide | omega), e3, e4⟩, Cursor.mono (Cursor.set (Cursor.set (Cursor.set (Cursor.set (Cursor.set (Cursor.set (Cursor.set HC13.out (show cb < d by omega) _) hcb _) hcb _) hcb _) hcb _) hcb _) hcb _) (by omega), ButB.out (ButB.set (ButB.set (ButB.set (ButB.set (ButB.set (ButB.set (ButB.set HB13.out (Or.inl (show w.heap.size ≤ d by omega)) _) (Or.inl (Nat.le_refl _)) _) (Or.inl (Nat.le_refl _)) _) (Or.inl (Nat.le_refl _)) _) (Or.inl (Nat.le_refl _)) _) (Or.inl (Nat.le_refl _)) _) (Or.inl (Nat.le_refl _)) _)⟩
      · have hD12 := HD12.out
        obtain ⟨hd1, hd2, S, H, n2, P, Q, a5, e0, e1, e3, e4, d0, d1, d2, d3, d4, d5⟩ := hD12
        have hR12 := HR12.out
        obtain ⟨hr1, hr2, S', H', n2', P', Q', a5', f0, f1, f3, f4, r0, r1, r2, r3, r4, r5⟩ := hR12
        go_wp2_with fail
        exact bodyPost_ret (v := .agg #[.string S, .string H, .int .i64 n2, .string P, .string ⟨#[120]⟩, .bool a5]) (by simp [results, Tryd.results71, go_sem, r0, r1, r2, r3, r4, r5]) rfl ⟨_, _, _, _, _, _, rfl, ⟨e0, e1, e3, (by first | decide | omega)⟩, Cursor.mono (Cursor.set (Cursor.set (Cursor.set (Cursor.set (Cursor.set (Cursor.set (Cursor.set HC12.out (show cb < d by omega) _) hcb _) hcb _) hcb _) hcb _) hcb _) hcb _) (by omega), ButB.out (ButB.set (ButB.set (ButB.set (ButB.set (ButB.set (ButB.set (ButB.set HB12.out (Or.inl (show w.heap.size ≤ d by omega)) _) (Or.inl (Nat.le_refl _)) _) (Or.inl (Nat.le_refl _)) _) (Or.inl (Nat.le_refl _)) _) (Or.inl (Nat.le_refl _)) _) (Or.inl (Nat.le_refl _)) _) (Or.inl (Nat.le_refl _)) _)⟩
      · have hD12 := HD12.out
        obtain ⟨hd1, hd2, S, H, n2, P, Q, a5, e0, e1, e3, e4, d0, d1, d2, d3, d4, d5⟩ := hD12
        have hR12 := HR12.out
        obtain ⟨hr1, hr2, S', H', n2', P', Q', a5', f0, f1, f3, f4, r0, r1, r2, r3, r4, r5⟩ := hR12
        go_wp2_with fail
        exact bodyPost_ret (v := .agg #[.string S, .string H, .int .i64 n2, .string P, .string Q, .bool a5]) (by simp [results, Tryd.results71, go_sem, r0, r1, r2, r3, r4, r5]) rfl ⟨_, _, _, _, _, _, rfl, ⟨e0, e1, e3, e4⟩, Cursor.mono (Cursor.set (Cursor.set (Cursor.set (Cursor.set (Cursor.set (Cursor.set HC12.out hcb _) hcb _) hcb _) hcb _) hcb _) hcb _) (by omega), ButB.out (ButB.set (ButB.set (ButB.set (ButB.set (ButB.set (ButB.set HB12.out (Or.inl (Nat.le_refl _)) _) (Or.inl (Nat.le_refl _)) _) (Or.inl (Nat.le_refl _)) _) (Or.inl (Nat.le_refl _)) _) (Or.inl (Nat.le_refl _)) _) (Or.inl (Nat.le_refl _)) _)⟩

end Go.Proofs.YtlgjgdpalflmfaaDoor.Cur
