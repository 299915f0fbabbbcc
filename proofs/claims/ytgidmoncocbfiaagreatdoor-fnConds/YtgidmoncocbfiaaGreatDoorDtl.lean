/-
  Walk: draws: (*l1Cur).state.
-/
import Derived.Test.YtgidmoncocbfiaaGreatDoorMg20
import Derived.Test.YtgidmoncocbfiaaGreatDoorMg21
import Derived.Test.YtgidmoncocbfiaaGreatDoorMg4
namespace Go.Proofs.YtgidmoncocbfiaaGreatDoor.Cur
open Go.RowKit
open Go.Proofs.YtgidmoncocbfiaaGreatDoor.Own
open Go.Proofs.YtgidmoncocbfiaaGreatDoor.Cds (stV)

/-- A block of a state's cells. -/
def SF (w : World) (b : Nat) : Prop := b < w.heap.size ∧ (∀ i, w.frozen? ⟨b, i, none⟩ = false) ∧ ∃ (th tg K : Bool) (T : ByteArray) (dt : Bool) (md : Int), clean3 T = true ∧ w.cell? ⟨b, 0, none⟩ = some (.bool th) ∧ w.cell? ⟨b, 1, none⟩ = some (.bool tg) ∧ w.cell? ⟨b, 2, none⟩ = some (.bool K) ∧ w.cell? ⟨b, 3, none⟩ = some (.string T) ∧ w.cell? ⟨b, 4, none⟩ = some (.bool dt) ∧ w.cell? ⟨b, 5, none⟩ = some (.int .i64 md)
theorem SF.made (w : World) (t : TypeId) (th tg K : Bool) (T : ByteArray) (dt : Bool) (md : Int) (hT : clean3 T = true) : SF (w.alloc (.cells #[.bool th, .bool tg, .bool K, .string T, .bool dt, .int .i64 md] t)) w.heap.size :=
  ⟨by simp, fun i => by simp [go_sem], th, tg, K, T, dt, md, hT, by rw [World.cell?_alloc_mark]; rfl, by rw [World.cell?_alloc_mark]; rfl, by rw [World.cell?_alloc_mark]; rfl, by rw [World.cell?_alloc_mark]; rfl, by rw [World.cell?_alloc_mark]; rfl, by rw [World.cell?_alloc_mark]; rfl⟩
theorem SF.but {w w' : World} {b cb : Nat} (h : SF w b) (hb : But cb w w') (hc : b ≠ cb) : SF w' b := by
  obtain ⟨h1, h2, th, tg, K, T, dt, md, hT, c0, c1, c2, c3, c4, c5⟩ := h
  obtain ⟨ec, ef, hs, _⟩ := but_cells (B := 0) hb h1 hc
  exact ⟨hs, fun i => (ef i).trans (h2 i), th, tg, K, T, dt, md, hT, (ec 0).trans c0, (ec 1).trans c1, (ec 2).trans c2, (ec 3).trans c3, (ec 4).trans c4, (ec 5).trans c5⟩
theorem SF.other {w : World} {b b' : Nat} (h : SF w b) (_hb : b ≠ b') (j : Nat) (u : Value) : SF (w.setCell ⟨b', j, none⟩ u) b := by
  obtain ⟨h1, h2, th, tg, K, T, dt, md, hT, c0, c1, c2, c3, c4, c5⟩ := h
  refine ⟨by simpa [World.setCell] using h1, fun i => by simp [go_sem, h2], th, tg, K, T, dt, md, hT, ?_, ?_, ?_, ?_, ?_, ?_⟩
  all_goals simp [go_sem, c0, c1, c2, c3, c4, c5]
theorem SF.s0 {w : World} {b : Nat} (h : SF w b) (x : Bool) : SF (w.setCell ⟨b, 0, none⟩ (.bool x)) b := by
  obtain ⟨h1, h2, th, tg, K, T, dt, md, hT, c0, c1, c2, c3, c4, c5⟩ := h
  exact ⟨by simpa [World.setCell] using h1, fun i => by simp [go_sem, h2], x, tg, K, T, dt, md, hT, by simp [go_sem, c0], by simp [go_sem, c1], by simp [go_sem, c2], by simp [go_sem, c3], by simp [go_sem, c4], by simp [go_sem, c5]⟩
theorem SF.s1 {w : World} {b : Nat} (h : SF w b) (x : Bool) : SF (w.setCell ⟨b, 1, none⟩ (.bool x)) b := by
  obtain ⟨h1, h2, th, tg, K, T, dt, md, hT, c0, c1, c2, c3, c4, c5⟩ := h
  exact ⟨by simpa [World.setCell] using h1, fun i => by simp [go_sem, h2], th, x, K, T, dt, md, hT, by simp [go_sem, c0], by simp [go_sem, c1], by simp [go_sem, c2], by simp [go_sem, c3], by simp [go_sem, c4], by simp [go_sem, c5]⟩
theorem SF.s2 {w : World} {b : Nat} (h : SF w b) (x : Bool) : SF (w.setCell ⟨b, 2, none⟩ (.bool x)) b := by
  obtain ⟨h1, h2, th, tg, K, T, dt, md, hT, c0, c1, c2, c3, c4, c5⟩ := h
  exact ⟨by simpa [World.setCell] using h1, fun i => by simp [go_sem, h2], th, tg, x, T, dt, md, hT, by simp [go_sem, c0], by simp [go_sem, c1], by simp [go_sem, c2], by simp [go_sem, c3], by simp [go_sem, c4], by simp [go_sem, c5]⟩
theorem SF.s3 {w : World} {b : Nat} (h : SF w b) (x : ByteArray) (hx : clean3 x = true) : SF (w.setCell ⟨b, 3, none⟩ (.string x)) b := by
  obtain ⟨h1, h2, th, tg, K, T, dt, md, hT, c0, c1, c2, c3, c4, c5⟩ := h
  exact ⟨by simpa [World.setCell] using h1, fun i => by simp [go_sem, h2], th, tg, K, x, dt, md, hx, by simp [go_sem, c0], by simp [go_sem, c1], by simp [go_sem, c2], by simp [go_sem, c3], by simp [go_sem, c4], by simp [go_sem, c5]⟩
theorem SF.s4 {w : World} {b : Nat} (h : SF w b) (x : Bool) : SF (w.setCell ⟨b, 4, none⟩ (.bool x)) b := by
  obtain ⟨h1, h2, th, tg, K, T, dt, md, hT, c0, c1, c2, c3, c4, c5⟩ := h
  exact ⟨by simpa [World.setCell] using h1, fun i => by simp [go_sem, h2], th, tg, K, T, x, md, hT, by simp [go_sem, c0], by simp [go_sem, c1], by simp [go_sem, c2], by simp [go_sem, c3], by simp [go_sem, c4], by simp [go_sem, c5]⟩
theorem SF.s5 {w : World} {b : Nat} (h : SF w b) (x : Int) : SF (w.setCell ⟨b, 5, none⟩ (.int .i64 x)) b := by
  obtain ⟨h1, h2, th, tg, K, T, dt, md, hT, c0, c1, c2, c3, c4, c5⟩ := h
  exact ⟨by simpa [World.setCell] using h1, fun i => by simp [go_sem, h2], th, tg, K, T, dt, x, hT, by simp [go_sem, c0], by simp [go_sem, c1], by simp [go_sem, c2], by simp [go_sem, c3], by simp [go_sem, c4], by simp [go_sem, c5]⟩

set_option maxRecDepth 20000 in
set_option maxHeartbeats 3200000 in
theorem state_any (cb : Nat) (v : Value) (n N : Nat) (w : World) (hC : Cursor w cb v n N) (hN : N ≤ 700000000) :
    Calls Tryz.prog 20 #[.pointer (some ⟨cb, 0, none⟩)] w fun e w' => ∃ (th tg K : Bool) (T : ByteArray) (dt : Bool) (md : Int), e = .returned (stV th tg K T dt md) ∧ clean3 T = true ∧ Cursor w' cb v n (N + 30) ∧ But cb w w' := by
  have hcb : cb < w.heap.size := hC.2.2.1
  obtain ⟨W, hW⟩ : ∃ W, W = w.alloc (.cells #[.bool false, .bool false, .bool false, .string ⟨#[]⟩, .bool false, .int .i64 0] 27) := ⟨_, rfl⟩
  have hs : w.heap.size < W.heap.size := by rw [hW]; simp
  have HB0 : Hid (ButB w.heap.size cb w W) := by show ButB _ _ _ _; rw [hW]; exact (ButB.refl _ _ _).alloc (Nat.le_refl _) _
  have HC0 : Hid (Cursor W cb v n N) := by show Cursor _ _ _ _ _; rw [hW]; exact Cursor.below hC ((Below.refl _ _).alloc (Nat.le_refl _) _)
  have HR0 : Hid (SF W w.heap.size) := by show SF _ _; rw [hW]; exact SF.made w _ _ _ _ _ _ _ (by decide)
  clear hC
  go_enter Tryz.func20, Tryz.ntmps20
  go_wp2_with fail
  rw [← hW]
  clear hW
  refine (one_any cb v n _ 5 _ HC0.out (by omega) (by omega) (by omega)).mono ?_
  rintro e w1 ⟨b, rfl, hC1, hb1⟩
  have HC1 : Hid (Cursor w1 cb v n (N + 2)) := hC1
  have HB1 : Hid (ButB w.heap.size cb w w1) := ButB.call HB0.out (Nat.le_refl _) hb1
  have HR1 : Hid (SF w1 w.heap.size) := SF.but HR0.out hb1 (by omega)
  have hs1 : w.heap.size < w1.heap.size := HR1.out.1
  clear hC1 hb1 HC0 HB0 HR0 hs
  cases b
  · obtain ⟨S, hS⟩ : ∃ S, S = w1.heap.size := ⟨_, rfl⟩
    obtain ⟨W2, hW2⟩ : ∃ W, W = w1.alloc (.cells #[.bool true, .bool false, .bool false, .string ⟨#[]⟩, .bool false, .int .i64 0] 27) := ⟨_, rfl⟩
    have HC2 : Hid (Cursor W2 cb v n (N + 2)) := by show Cursor _ _ _ _ _; rw [hW2]; exact Cursor.below HC1.out ((Below.refl _ _).alloc (Nat.le_refl _) _)
    have HB2 : Hid (ButB w.heap.size cb w W2) := by show ButB _ _ _ _; rw [hW2]; exact ButB.alloc HB1.out (Nat.le_refl _) _
    have HR2 : Hid (SF W2 w.heap.size) := by show SF _ _; rw [hW2]; exact SF.but (cb := cb) HR1.out (But.of_below ((Below.refl _ _).alloc (Nat.le_refl _) _)) (by omega)
    have HS2 : Hid (SF W2 S) := by show SF _ _; rw [hW2, hS]; exact SF.made w1 _ _ _ _ _ _ _ (by decide)
    have hSr : w.heap.size < S := by omega
    clear HC1 HB1 HR1
    go_wp2_with fail
    rw [← hW2, ← hS]
    clear hW2 hS hs1
    refine (one_at 4 _ rfl cb v n _ _ HC2.out (by omega) (by omega) (by omega)).mono ?_
    rintro e w3 ⟨b1, rfl, hC3, hb3⟩
    have HCy : Hid (Cursor w3 cb v n (N + 4)) := hC3
    have HBy : Hid (ButB w.heap.size cb w w3) := ButB.call HB2.out (Nat.le_refl _) hb3
    have HRy : Hid (SF w3 w.heap.size) := SF.but HR2.out hb3 (by omega)
    have HSy : Hid (SF w3 S) := SF.but HS2.out hb3 (by omega)
    clear hC3 hb3 HC2 HB2 HR2 HS2
    cases b1
    · obtain ⟨W4, hW4⟩ : ∃ W, W = w3.setCell ⟨S, 1, none⟩ (.bool true) := ⟨_, rfl⟩
      have HC4 : Hid (Cursor W4 cb v n (N + 4)) := by show Cursor _ _ _ _ _; rw [hW4]; exact HCy.out.set (by omega) _
      have HB4 : Hid (ButB w.heap.size cb w W4) := by show ButB _ _ _ _; rw [hW4]; exact ButB.set HBy.out (p := ⟨S, 1, none⟩) (.inl (by show w.heap.size ≤ S; omega)) _
      have HR4 : Hid (SF W4 w.heap.size) := by show SF _ _; rw [hW4]; exact SF.other HRy.out (by omega) _ _
      have HS4 : Hid (SF W4 S) := by show SF _ _; rw [hW4]; exact SF.s1 HSy.out _
      obtain ⟨q1, q2, th, tg, K, T, dt, md, hT, c0, c1, c2, c3, c4, c5⟩ := HSy.out
      clear HCy HBy HRy HSy
      go_wp2_with fail
      rw [← hW4]
      clear hW4 q1 q2 hT c0 c1 c2 c3 c4 c5
      refine (tag_clean cb v n _ _ HC4.out (by omega)).mono ?_
      rintro e w4 ⟨k, y, rfl, hy, hC5, hb5⟩
      obtain ⟨W5, hW5⟩ : ∃ W, W = (w4.setCell ⟨S, 2, none⟩ (.bool k)).setCell ⟨S, 3, none⟩ (.string y) := ⟨_, rfl⟩
      have HCx : Hid (Cursor W5 cb v n (N + 20)) := by show Cursor _ _ _ _ _; rw [hW5]; exact ((Cursor.mono hC5 (by omega)).set (by omega) _).set (by omega) _
      have HBx : Hid (ButB w.heap.size cb w W5) := by show ButB _ _ _ _; rw [hW5]; exact ButB.set (ButB.set (ButB.call HB4.out (Nat.le_refl _) hb5) (p := ⟨S, 2, none⟩) (.inl (by show w.heap.size ≤ S; omega)) _) (p := ⟨S, 3, none⟩) (.inl (by show w.heap.size ≤ S; omega)) _
      have HRx : Hid (SF W5 w.heap.size) := by show SF _ _; rw [hW5]; exact SF.other (SF.other (SF.but HR4.out hb5 (by omega)) (by omega) _ _) (by omega) _ _
      have HSx : Hid (SF W5 S) := by show SF _ _; rw [hW5]; exact SF.s3 (SF.s2 (SF.but HS4.out hb5 (by omega)) _) _ hy
      obtain ⟨q1, q2, th, tg, K, T, dt, md, hT, c0, c1, c2, c3, c4, c5⟩ := SF.but HS4.out hb5 (by omega)
      clear hC5 hb5 HC4 HB4 HR4 HS4 hy
      go_wp2_with fail
      rw [← hW5]
      clear hW5 q1 q2 hT c0 c1 c2 c3 c4 c5
      refine (one_at 4 _ rfl cb v n _ _ HCx.out (by omega) (by omega) (by omega)).mono ?_
      rintro e w5 ⟨b2, rfl, hC5, hb5⟩
      have HC5 : Hid (Cursor w5 cb v n (N + 24)) := Cursor.mono hC5 (by omega)
      have HB5 : Hid (ButB w.heap.size cb w w5) := ButB.call HBx.out (Nat.le_refl _) hb5
      have HR5 : Hid (SF w5 w.heap.size) := SF.but HRx.out hb5 (by omega)
      have HS5 : Hid (SF w5 S) := SF.but HSx.out hb5 (by omega)
      clear hC5 hb5 HCx HBx HRx HSx
      cases b2
      · obtain ⟨W6, hW6⟩ : ∃ W, W = w5.setCell ⟨S, 4, none⟩ (.bool true) := ⟨_, rfl⟩
        have HC6 : Hid (Cursor W6 cb v n (N + 24)) := by show Cursor _ _ _ _ _; rw [hW6]; exact HC5.out.set (by omega) _
        have HB6 : Hid (ButB w.heap.size cb w W6) := by show ButB _ _ _ _; rw [hW6]; exact ButB.set HB5.out (p := ⟨S, 4, none⟩) (.inl (by show w.heap.size ≤ S; omega)) _
        have HR6 : Hid (SF W6 w.heap.size) := by show SF _ _; rw [hW6]; exact SF.other HR5.out (by omega) _ _
        have HS6 : Hid (SF W6 S) := by show SF _ _; rw [hW6]; exact SF.s4 HS5.out _
        obtain ⟨q1, q2, th, tg, K, T, dt, md, hT, c0, c1, c2, c3, c4, c5⟩ := HS5.out
        clear HC5 HB5 HR5 HS5
        go_wp2_with fail
        rw [← hW6]
        clear hW6 q1 q2 hT c0 c1 c2 c3 c4 c5
        refine (pick_at 4 _ rfl cb v n _ _ HC6.out (by omega) (by omega) (by omega)).mono ?_
        rintro e w6 ⟨x, rfl, hx, hC6, hb6⟩
        have H86 : (86400 : Int) * (x : Int) ≤ 345600 := by omega
        have H0 : 0 ≤ (86400 : Int) * (x : Int) := by omega
        obtain ⟨W7, hW7⟩ : ∃ W, W = w6.setCell ⟨S, 5, none⟩ (.int .i64 (86400 * (x : Int))) := ⟨_, rfl⟩
        have HC7 : Hid (Cursor W7 cb v n (N + 26)) := by show Cursor _ _ _ _ _; rw [hW7]; exact Cursor.set hC6 (by omega) _
        have HB7 : Hid (ButB w.heap.size cb w W7) := by show ButB _ _ _ _; rw [hW7]; exact ButB.set (ButB.call HB6.out (Nat.le_refl _) hb6) (p := ⟨S, 5, none⟩) (.inl (by show w.heap.size ≤ S; omega)) _
        have HR7 : Hid (SF W7 w.heap.size) := by show SF _ _; rw [hW7]; exact SF.other (SF.but HR6.out hb6 (by omega)) (by omega) _ _
        have HS7 : Hid (SF W7 S) := by show SF _ _; rw [hW7]; exact SF.s5 (SF.but HS6.out hb6 (by omega)) _
        obtain ⟨q1, q2, th, tg, K, T, dt, md, hT, c0, c1, c2, c3, c4, c5⟩ := SF.but HS6.out hb6 (by omega)
        obtain ⟨r1, r2, _, _, _, _, _, _, _, d0, d1, d2, d3, d4, d5⟩ := SF.but HR6.out hb6 (by omega)
        have HF : Hid (∀ u0 u1 u2 u3 u4 u5, Cursor ((((((W7.setCell ⟨w.heap.size, 0, none⟩ u0).setCell ⟨w.heap.size, 1, none⟩ u1).setCell ⟨w.heap.size, 2, none⟩ u2).setCell ⟨w.heap.size, 3, none⟩ u3).setCell ⟨w.heap.size, 4, none⟩ u4).setCell ⟨w.heap.size, 5, none⟩ u5) cb v n (N + 30) ∧ But cb w ((((((W7.setCell ⟨w.heap.size, 0, none⟩ u0).setCell ⟨w.heap.size, 1, none⟩ u1).setCell ⟨w.heap.size, 2, none⟩ u2).setCell ⟨w.heap.size, 3, none⟩ u3).setCell ⟨w.heap.size, 4, none⟩ u4).setCell ⟨w.heap.size, 5, none⟩ u5)) :=
          fun u0 u1 u2 u3 u4 u5 => ⟨((((((Cursor.mono HC7.out (by omega)).set hcb u0).set hcb u1).set hcb u2).set hcb u3).set hcb u4).set hcb u5, ((((((ButB.set HB7.out (p := ⟨w.heap.size, 0, none⟩) (.inl (Nat.le_refl _)) u0).set (p := ⟨w.heap.size, 1, none⟩) (.inl (Nat.le_refl _)) u1).set (p := ⟨w.heap.size, 2, none⟩) (.inl (Nat.le_refl _)) u2).set (p := ⟨w.heap.size, 3, none⟩) (.inl (Nat.le_refl _)) u3).set (p := ⟨w.heap.size, 4, none⟩) (.inl (Nat.le_refl _)) u4).set (p := ⟨w.heap.size, 5, none⟩) (.inl (Nat.le_refl _)) u5).out⟩
        clear HC7 HB7 HR7 HS7 HC6 HB6 HR6 HS6 hC6 hb6
        subst hW7
        go_wp2_with fail
        exact bodyPost_ret (v := stV th tg K T dt (86400 * (x : Int))) (by simp [results, Tryz.results20, go_sem, stV, d0, d1, d2, d3, d4, d5]) rfl ⟨th, tg, K, T, dt, 86400 * (x : Int), rfl, hT, HF.out _ _ _ _ _ _⟩
      · obtain ⟨W7, hW7⟩ : ∃ W, W = w5 := ⟨_, rfl⟩
        subst hW7
        have HC7 : Hid (Cursor W7 cb v n (N + 26)) := Cursor.mono HC5.out (by omega)
        have HB7 := HB5
        have HR7 := HR5
        have HS7 := HS5
        clear HC5 HB5 HR5 HS5
        obtain ⟨q1, q2, th, tg, K, T, dt, md, hT, c0, c1, c2, c3, c4, c5⟩ := HS7.out
        obtain ⟨r1, r2, _, _, _, _, _, _, _, d0, d1, d2, d3, d4, d5⟩ := HR7.out
        have HF : Hid (∀ u0 u1 u2 u3 u4 u5, Cursor ((((((W7.setCell ⟨w.heap.size, 0, none⟩ u0).setCell ⟨w.heap.size, 1, none⟩ u1).setCell ⟨w.heap.size, 2, none⟩ u2).setCell ⟨w.heap.size, 3, none⟩ u3).setCell ⟨w.heap.size, 4, none⟩ u4).setCell ⟨w.heap.size, 5, none⟩ u5) cb v n (N + 30) ∧ But cb w ((((((W7.setCell ⟨w.heap.size, 0, none⟩ u0).setCell ⟨w.heap.size, 1, none⟩ u1).setCell ⟨w.heap.size, 2, none⟩ u2).setCell ⟨w.heap.size, 3, none⟩ u3).setCell ⟨w.heap.size, 4, none⟩ u4).setCell ⟨w.heap.size, 5, none⟩ u5)) :=
          fun u0 u1 u2 u3 u4 u5 => ⟨((((((Cursor.mono HC7.out (by omega)).set hcb u0).set hcb u1).set hcb u2).set hcb u3).set hcb u4).set hcb u5, ((((((ButB.set HB7.out (p := ⟨w.heap.size, 0, none⟩) (.inl (Nat.le_refl _)) u0).set (p := ⟨w.heap.size, 1, none⟩) (.inl (Nat.le_refl _)) u1).set (p := ⟨w.heap.size, 2, none⟩) (.inl (Nat.le_refl _)) u2).set (p := ⟨w.heap.size, 3, none⟩) (.inl (Nat.le_refl _)) u3).set (p := ⟨w.heap.size, 4, none⟩) (.inl (Nat.le_refl _)) u4).set (p := ⟨w.heap.size, 5, none⟩) (.inl (Nat.le_refl _)) u5).out⟩
        clear HC7 HB7 HR7 HS7
        go_wp2_with fail
        exact bodyPost_ret (v := stV th tg K T dt md) (by simp [results, Tryz.results20, go_sem, stV, d0, d1, d2, d3, d4, d5]) rfl ⟨th, tg, K, T, dt, md, rfl, hT, HF.out _ _ _ _ _ _⟩
    · have HCx : Hid (Cursor w3 cb v n (N + 20)) := Cursor.mono HCy.out (by omega)
      have HBx := HBy
      have HRx := HRy
      have HSx := HSy
      clear HCy HBy HRy HSy
      go_wp2_with fail
      refine (one_at 4 _ rfl cb v n _ _ HCx.out (by omega) (by omega) (by omega)).mono ?_
      rintro e w5 ⟨b2, rfl, hC5, hb5⟩
      have HC5 : Hid (Cursor w5 cb v n (N + 24)) := Cursor.mono hC5 (by omega)
      have HB5 : Hid (ButB w.heap.size cb w w5) := ButB.call HBx.out (Nat.le_refl _) hb5
      have HR5 : Hid (SF w5 w.heap.size) := SF.but HRx.out hb5 (by omega)
      have HS5 : Hid (SF w5 S) := SF.but HSx.out hb5 (by omega)
      clear hC5 hb5 HCx HBx HRx HSx
      cases b2
      · obtain ⟨W6, hW6⟩ : ∃ W, W = w5.setCell ⟨S, 4, none⟩ (.bool true) := ⟨_, rfl⟩
        have HC6 : Hid (Cursor W6 cb v n (N + 24)) := by show Cursor _ _ _ _ _; rw [hW6]; exact HC5.out.set (by omega) _
        have HB6 : Hid (ButB w.heap.size cb w W6) := by show ButB _ _ _ _; rw [hW6]; exact ButB.set HB5.out (p := ⟨S, 4, none⟩) (.inl (by show w.heap.size ≤ S; omega)) _
        have HR6 : Hid (SF W6 w.heap.size) := by show SF _ _; rw [hW6]; exact SF.other HR5.out (by omega) _ _
        have HS6 : Hid (SF W6 S) := by show SF _ _; rw [hW6]; exact SF.s4 HS5.out _
        obtain ⟨q1, q2, th, tg, K, T, dt, md, hT, c0, c1, c2, c3, c4, c5⟩ := HS5.out
        clear HC5 HB5 HR5 HS5
        go_wp2_with fail
        rw [← hW6]
        clear hW6 q1 q2 hT c0 c1 c2 c3 c4 c5
        refine (pick_at 4 _ rfl cb v n _ _ HC6.out (by omega) (by omega) (by omega)).mono ?_
        rintro e w6 ⟨x, rfl, hx, hC6, hb6⟩
        have H86 : (86400 : Int) * (x : Int) ≤ 345600 := by omega
        have H0 : 0 ≤ (86400 : Int) * (x : Int) := by omega
        obtain ⟨W7, hW7⟩ : ∃ W, W = w6.setCell ⟨S, 5, none⟩ (.int .i64 (86400 * (x : Int))) := ⟨_, rfl⟩
        have HC7 : Hid (Cursor W7 cb v n (N + 26)) := by show Cursor _ _ _ _ _; rw [hW7]; exact Cursor.set hC6 (by omega) _
        have HB7 : Hid (ButB w.heap.size cb w W7) := by show ButB _ _ _ _; rw [hW7]; exact ButB.set (ButB.call HB6.out (Nat.le_refl _) hb6) (p := ⟨S, 5, none⟩) (.inl (by show w.heap.size ≤ S; omega)) _
        have HR7 : Hid (SF W7 w.heap.size) := by show SF _ _; rw [hW7]; exact SF.other (SF.but HR6.out hb6 (by omega)) (by omega) _ _
        have HS7 : Hid (SF W7 S) := by show SF _ _; rw [hW7]; exact SF.s5 (SF.but HS6.out hb6 (by omega)) _
        obtain ⟨q1, q2, th, tg, K, T, dt, md, hT, c0, c1, c2, c3, c4, c5⟩ := SF.but HS6.out hb6 (by omega)
        obtain ⟨r1, r2, _, _, _, _, _, _, _, d0, d1, d2, d3, d4, d5⟩ := SF.but HR6.out hb6 (by omega)
        have HF : Hid (∀ u0 u1 u2 u3 u4 u5, Cursor ((((((W7.setCell ⟨w.heap.size, 0, none⟩ u0).setCell ⟨w.heap.size, 1, none⟩ u1).setCell ⟨w.heap.size, 2, none⟩ u2).setCell ⟨w.heap.size, 3, none⟩ u3).setCell ⟨w.heap.size, 4, none⟩ u4).setCell ⟨w.heap.size, 5, none⟩ u5) cb v n (N + 30) ∧ But cb w ((((((W7.setCell ⟨w.heap.size, 0, none⟩ u0).setCell ⟨w.heap.size, 1, none⟩ u1).setCell ⟨w.heap.size, 2, none⟩ u2).setCell ⟨w.heap.size, 3, none⟩ u3).setCell ⟨w.heap.size, 4, none⟩ u4).setCell ⟨w.heap.size, 5, none⟩ u5)) :=
          fun u0 u1 u2 u3 u4 u5 => ⟨((((((Cursor.mono HC7.out (by omega)).set hcb u0).set hcb u1).set hcb u2).set hcb u3).set hcb u4).set hcb u5, ((((((ButB.set HB7.out (p := ⟨w.heap.size, 0, none⟩) (.inl (Nat.le_refl _)) u0).set (p := ⟨w.heap.size, 1, none⟩) (.inl (Nat.le_refl _)) u1).set (p := ⟨w.heap.size, 2, none⟩) (.inl (Nat.le_refl _)) u2).set (p := ⟨w.heap.size, 3, none⟩) (.inl (Nat.le_refl _)) u3).set (p := ⟨w.heap.size, 4, none⟩) (.inl (Nat.le_refl _)) u4).set (p := ⟨w.heap.size, 5, none⟩) (.inl (Nat.le_refl _)) u5).out⟩
        clear HC7 HB7 HR7 HS7 HC6 HB6 HR6 HS6 hC6 hb6
        subst hW7
        go_wp2_with fail
        exact bodyPost_ret (v := stV th tg K T dt (86400 * (x : Int))) (by simp [results, Tryz.results20, go_sem, stV, d0, d1, d2, d3, d4, d5]) rfl ⟨th, tg, K, T, dt, 86400 * (x : Int), rfl, hT, HF.out _ _ _ _ _ _⟩
      · obtain ⟨W7, hW7⟩ : ∃ W, W = w5 := ⟨_, rfl⟩
        subst hW7
        have HC7 : Hid (Cursor W7 cb v n (N + 26)) := Cursor.mono HC5.out (by omega)
        have HB7 := HB5
        have HR7 := HR5
        have HS7 := HS5
        clear HC5 HB5 HR5 HS5
        obtain ⟨q1, q2, th, tg, K, T, dt, md, hT, c0, c1, c2, c3, c4, c5⟩ := HS7.out
        obtain ⟨r1, r2, _, _, _, _, _, _, _, d0, d1, d2, d3, d4, d5⟩ := HR7.out
        have HF : Hid (∀ u0 u1 u2 u3 u4 u5, Cursor ((((((W7.setCell ⟨w.heap.size, 0, none⟩ u0).setCell ⟨w.heap.size, 1, none⟩ u1).setCell ⟨w.heap.size, 2, none⟩ u2).setCell ⟨w.heap.size, 3, none⟩ u3).setCell ⟨w.heap.size, 4, none⟩ u4).setCell ⟨w.heap.size, 5, none⟩ u5) cb v n (N + 30) ∧ But cb w ((((((W7.setCell ⟨w.heap.size, 0, none⟩ u0).setCell ⟨w.heap.size, 1, none⟩ u1).setCell ⟨w.heap.size, 2, none⟩ u2).setCell ⟨w.heap.size, 3, none⟩ u3).setCell ⟨w.heap.size, 4, none⟩ u4).setCell ⟨w.heap.size, 5, none⟩ u5)) :=
          fun u0 u1 u2 u3 u4 u5 => ⟨((((((Cursor.mono HC7.out (by omega)).set hcb u0).set hcb u1).set hcb u2).set hcb u3).set hcb u4).set hcb u5, ((((((ButB.set HB7.out (p := ⟨w.heap.size, 0, none⟩) (.inl (Nat.le_refl _)) u0).set (p := ⟨w.heap.size, 1, none⟩) (.inl (Nat.le_refl _)) u1).set (p := ⟨w.heap.size, 2, none⟩) (.inl (Nat.le_refl _)) u2).set (p := ⟨w.heap.size, 3, none⟩) (.inl (Nat.le_refl _)) u3).set (p := ⟨w.heap.size, 4, none⟩) (.inl (Nat.le_refl _)) u4).set (p := ⟨w.heap.size, 5, none⟩) (.inl (Nat.le_refl _)) u5).out⟩
        clear HC7 HB7 HR7 HS7
        go_wp2_with fail
        exact bodyPost_ret (v := stV th tg K T dt md) (by simp [results, Tryz.results20, go_sem, stV, d0, d1, d2, d3, d4, d5]) rfl ⟨th, tg, K, T, dt, md, rfl, hT, HF.out _ _ _ _ _ _⟩
  · go_wp2_with fail
    refine (one_at 2 _ rfl cb v n _ _ HC1.out (by omega) (by omega) (by omega)).mono ?_
    rintro e w3 ⟨b1, rfl, hC3, hb3⟩
    have HC7 : Hid (Cursor w3 cb v n (N + 4)) := hC3
    have HB7 : Hid (ButB w.heap.size cb w w3) := ButB.call HB1.out (Nat.le_refl _) hb3
    have HR7 : Hid (SF w3 w.heap.size) := SF.but HR1.out hb3 (by omega)
    clear hC3 hb3 HC1 HB1 HR1
    obtain ⟨r1, r2, _, _, _, _, _, _, _, d0, d1, d2, d3, d4, d5⟩ := HR7.out
    have HF : Hid (∀ u0 u1 u2 u3 u4 u5, Cursor ((((((w3.setCell ⟨w.heap.size, 0, none⟩ u0).setCell ⟨w.heap.size, 1, none⟩ u1).setCell ⟨w.heap.size, 2, none⟩ u2).setCell ⟨w.heap.size, 3, none⟩ u3).setCell ⟨w.heap.size, 4, none⟩ u4).setCell ⟨w.heap.size, 5, none⟩ u5) cb v n (N + 30) ∧ But cb w ((((((w3.setCell ⟨w.heap.size, 0, none⟩ u0).setCell ⟨w.heap.size, 1, none⟩ u1).setCell ⟨w.heap.size, 2, none⟩ u2).setCell ⟨w.heap.size, 3, none⟩ u3).setCell ⟨w.heap.size, 4, none⟩ u4).setCell ⟨w.heap.size, 5, none⟩ u5)) :=
      fun u0 u1 u2 u3 u4 u5 => ⟨((((((Cursor.mono HC7.out (by omega)).set hcb u0).set hcb u1).set hcb u2).set hcb u3).set hcb u4).set hcb u5, ((((((ButB.set HB7.out (p := ⟨w.heap.size, 0, none⟩) (.inl (Nat.le_refl _)) u0).set (p := ⟨w.heap.size, 1, none⟩) (.inl (Nat.le_refl _)) u1).set (p := ⟨w.heap.size, 2, none⟩) (.inl (Nat.le_refl _)) u2).set (p := ⟨w.heap.size, 3, none⟩) (.inl (Nat.le_refl _)) u3).set (p := ⟨w.heap.size, 4, none⟩) (.inl (Nat.le_refl _)) u4).set (p := ⟨w.heap.size, 5, none⟩) (.inl (Nat.le_refl _)) u5).out⟩
    clear HC7 HB7 HR7
    go_wp2_with fail
    exact bodyPost_ret (v := stV b1 false false ⟨#[]⟩ false 0) (by simp [results, Tryz.results20, go_sem, stV, d0, d1, d2, d3, d4, d5]) rfl ⟨b1, false, false, ⟨#[]⟩, false, 0, rfl, by decide, HF.out _ _ _ _ _ _⟩

end Go.Proofs.YtgidmoncocbfiaaGreatDoor.Cur
