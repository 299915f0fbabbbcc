/-
  Walk: spec.DrawCheckCond.
-/
import Derived.Test.YtgidmoncocbfiaaGreatDoorDto
namespace Go.Proofs.YtgidmoncocbfiaaGreatDoor.Cur
open Go.RowKit
open Go.Proofs.YtgidmoncocbfiaaGreatDoor.Own
open Go.Proofs.YtgidmoncocbfiaaGreatDoor.Cds (stV)
open Go.Proofs.YtgidmoncocbfiaaGreatDoor.Fdb (fieldsIn fieldsIn.below FV fv_of RowF flat_at)

set_option maxRecDepth 20000 in
set_option maxHeartbeats 3200000 in
theorem drawCheck_any (v : Value) (n : Nat) (w : World) (hA : CodeArg w v n) (hn : n ≤ 2000000) :
    Calls Tryz.prog 6 #[v] w fun e w' => ∃ (m : ByteArray) (a : Option Addr) (ca : Nat) (l : List (ByteArray × ByteArray)) (th tg K : Bool) (T : ByteArray) (dt : Bool) (md : Int) (x : Nat), e = .returned (.tuple #[.string m, .slice a l.length ca, stV th tg K T dt md, .int .i64 (86400 * (x : Int))]) ∧ m.size ≤ 4 ∧ x < 9 ∧ l.length ≤ 3 ∧ l.length ≤ ca ∧ (∀ c ∈ l, c.1.size ≤ 19 ∧ DVe c.2) ∧ clean3 T = true ∧ FV w' a l w.heap.size w'.heap.size ∧ Below w.heap.size w w' := by
  obtain ⟨o, cap, rfl⟩ := hA.form
  have hb0 := (Below.refl w.heap.size w).alloc (Nat.le_refl _) (.cells #[.bool false, .bool false, .bool false, .string ⟨#[]⟩, .bool false, .int .i64 0] 27)
  have hC := start (hA.below (Nat.le_refl _) hb0) hn 55
  have hs : (w.alloc (.cells #[.bool false, .bool false, .bool false, .string ⟨#[]⟩, .bool false, .int .i64 0] 27)).heap.size = w.heap.size + 1 := by simp
  rw [hs] at hC
  obtain ⟨W, hW⟩ : ∃ W, W = (w.alloc (.cells #[.bool false, .bool false, .bool false, .string ⟨#[]⟩, .bool false, .int .i64 0] 27)).alloc (.cells #[.slice o n cap, .int .i64 0, .int .u64 0] 55) := ⟨_, rfl⟩
  have HB0 : Hid (Below w.heap.size w W) := by show Below _ _ _; rw [hW]; exact hb0.alloc (by simp) _
  have HR0 : Hid (SF W w.heap.size) := by
    show SF _ _
    rw [hW]
    exact SF.but (cb := w.heap.size + 5) (SF.made w _ _ _ _ _ _ _ (by decide)) (But.of_below ((Below.refl _ _).alloc (Nat.le_refl _) _)) (by omega)
  have HC0 : Hid (Cursor W (w.heap.size + 1) (.slice o n cap) n 0) := by show Cursor _ _ _ _ _; rw [hW]; exact hC
  have hs2 : W.heap.size = w.heap.size + 2 := by rw [hW]; simp
  clear hC hb0 hA hs
  go_enter Tryz.func6, Tryz.ntmps6
  go_wp2_with fail
  rw [← hW]
  clear hW
  refine (of_new3 (fun x => x.size ≤ 4) [⟨#[71, 69, 84]⟩, ⟨#[72, 69, 65, 68]⟩, ⟨#[80, 85, 84]⟩, ⟨#[103, 101, 116]⟩, ⟨#[]⟩] (by decide) 5 rfl (by omega) (by omega) (w.heap.size + 1) _ n _ _ _ (by omega) HC0.out (by omega)).mono ?_
  rintro e w0 ⟨m, rfl, hm, hC0, hb0⟩
  have hs0 : w.heap.size + 2 ≤ w0.heap.size := by have := hb0.2.2.2.1; omega
  have HCz : Hid (Cursor w0 (w.heap.size + 1) (.slice o n cap) n (0 + 2)) := hC0
  have HRz : Hid (SF w0 w.heap.size) := SF.but HR0.out hb0 (by omega)
  have HBz : Hid (Below w.heap.size w w0) := HB0.out.trans (hb0.below (by omega) (by omega))
  clear hC0 hb0 HC0 HR0 HB0 hs2
  go_wp2_with fail
  refine (condFields_any _ _ n _ _ HCz.out (by omega)).mono ?_
  rintro e w1 ⟨r, l, rfl, hl, hz, hown, hC1, hb1⟩
  have hs1 : w.heap.size + 2 ≤ w1.heap.size := by have := hb1.2.2.2.1; omega
  have hown1 : fieldsIn w1 (w.heap.size + 2) r l := by
    refine ⟨hown.1, ?_⟩
    rcases hown.2 with hn | ⟨g, cap, cur, e, hbg, rest⟩
    · exact .inl hn
    · exact .inr ⟨g, cap, cur, e, by omega, rest⟩
  have HC1 : Hid (Cursor w1 (w.heap.size + 1) (.slice o n cap) n (0 + 2 + 200)) := hC1
  have HR1 : Hid (SF w1 w.heap.size) := SF.but HRz.out hb1 (by omega)
  have HB1 : Hid (Below w.heap.size w w1) := HBz.out.trans (hb1.below (by omega) (by omega))
  clear hown hC1 hb1 HCz HRz HBz hs0
  go_wp2_with fail
  refine (state_any _ _ n _ _ HC1.out (by omega)).mono ?_
  rintro e w2 ⟨th, tg, K, T, dt, md, rfl, hT, hC2, hb2⟩
  have hown2 := fields_but hown1 hb2 (by omega)
  have HC2 : Hid (Cursor w2 (w.heap.size + 1) (.slice o n cap) n (0 + 2 + 200 + 30)) := hC2
  have HR2 : Hid (SF w2 w.heap.size) := SF.but HR1.out hb2 (by omega)
  have HB2 : Hid (Below w.heap.size w w2) := HB1.out.trans (hb2.below (by omega) (by omega))
  have hs3 : w.heap.size + 2 ≤ w2.heap.size := Nat.le_trans hs1 hb2.2.2.2.1
  clear hown1 hC2 hb2 HC1 HR1 HB1 hs1
  unfold stV
  go_wp2_with fail
  refine (pick_at 9 _ rfl _ _ n _ _ HC2.out (by omega) (by omega) (by omega)).mono ?_
  rintro e w3 ⟨x, rfl, hx, hC3, hb3⟩
  have hown3 := fields_but hown2 hb3 (by omega)
  obtain ⟨r1, r2, _, _, _, _, _, _, _, q0, q1, q2, q3, q4, q5⟩ := SF.but HR2.out hb3 (by omega)
  have HB3 : Hid (Below w.heap.size w w3) := HB2.out.trans (hb3.below (by omega) (by omega))
  have hs4 : w.heap.size + 2 ≤ w3.heap.size := Nat.le_trans hs3 hb3.2.2.2.1
  obtain ⟨a, ca, rfl, hca, hTV⟩ := room_of hown3
  have H86 : (86400 : Int) * (x : Int) ≤ 777600 := by omega
  have H0 : 0 ≤ (86400 : Int) * (x : Int) := by omega
  obtain ⟨WE, hWE⟩ : ∃ WE, WE = (((((w3.setCell ⟨w.heap.size, 0, none⟩ (.bool th)).setCell ⟨w.heap.size, 1, none⟩ (.bool tg)).setCell ⟨w.heap.size, 2, none⟩ (.bool K)).setCell ⟨w.heap.size, 3, none⟩ (.string T)).setCell ⟨w.heap.size, 4, none⟩ (.bool dt)).setCell ⟨w.heap.size, 5, none⟩ (.int .i64 md) := ⟨_, rfl⟩
  have hTVE : FV WE a l w.heap.size WE.heap.size := by
    have h1 : FV WE a l (w.heap.size + 2) w3.heap.size := by
      rw [hWE]
      exact fv_past (fv_past (fv_past (fv_past (fv_past (fv_past hTV (by omega) _ _) (by omega) _ _) (by omega) _ _) (by omega) _ _) (by omega) _ _) (by omega) _ _
    have h2 : WE.heap.size = w3.heap.size := by rw [hWE]; simp [World.setCell]
    rw [h2]
    rcases h1 with h | ⟨g, e1, e2, e3⟩
    · exact .inl h
    · exact .inr ⟨g, e1, by omega, e3⟩
  have hBE : Below w.heap.size w WE := by
    rw [hWE]
    exact (((((HB3.out.setCell (p := ⟨w.heap.size, 0, none⟩) (Nat.le_refl _) _).setCell (p := ⟨w.heap.size, 1, none⟩) (Nat.le_refl _) _).setCell (p := ⟨w.heap.size, 2, none⟩) (Nat.le_refl _) _).setCell (p := ⟨w.heap.size, 3, none⟩) (Nat.le_refl _) _).setCell (p := ⟨w.heap.size, 4, none⟩) (Nat.le_refl _) _).setCell (p := ⟨w.heap.size, 5, none⟩) (Nat.le_refl _) _
  rw [hWE] at hTVE hBE
  clear hown2 hown3 HC2 HR2 HB2 hC3 hb3 HB3 hTV hs3 hWE
  go_wp2_with fail
  exact bodyPost_ret (v := .tuple #[.string m, .slice a l.length ca, stV th tg K T dt md, .int .i64 (86400 * (x : Int))]) (by simp [results, Tryz.results6, go_sem, stV, q0, q1, q2, q3, q4, q5]) rfl ⟨m, a, ca, l, th, tg, K, T, dt, md, x, rfl, hm, hx, hl, hca, hz, hT, hTVE, hBE⟩

end Go.Proofs.YtgidmoncocbfiaaGreatDoor.Cur
