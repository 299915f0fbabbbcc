/-
  Walks: draws: spec.DrawGoodResponse, DrawResponseBytes.
-/
import Derived.Test.YtaplkbkpgdpbaaaGreatDoorDge
namespace Go.Proofs.YtaplkbkpgdpbaaaGreatDoor.Cur
open Go.RowKit
open Go.Proofs.YtaplkbkpgdpbaaaGreatDoor.Fdb (fieldsIn FV fv_of RowF)

set_option maxRecDepth 20000 in
set_option maxHeartbeats 3200000 in
theorem drawGoodResp_any (v : Value) (n : Nat) (w : World) (hA : CodeArg w v n) (hn : n ≤ 2000000) :
    Calls Tryz.prog 54 #[v] w fun e w' => ∃ (M : Int) (T : ByteArray) (a : Option Addr) (ca : Nat) (Bd : ByteArray) (l : List (ByteArray × ByteArray)), e = .returned (.agg #[.int .i64 M, .string T, .slice a l.length ca, .string Bd]) ∧ (0 ≤ M ∧ M ≤ 1000) ∧ T.size ≤ 20 ∧ Bd.size ≤ 5 ∧ l.length ≤ 44 ∧ (∀ c ∈ l, c.1.size ≤ 20 ∧ c.2.size ≤ 20) ∧ l.length ≤ ca ∧ FV w' a l w.heap.size w'.heap.size ∧ Below w.heap.size w w' := by
  obtain ⟨o, cap, rfl⟩ := hA.form
  have hb0 := (Below.refl w.heap.size w).alloc (Nat.le_refl _) (.cells #[.int .i64 0, .string ⟨#[]⟩, .slice none 0 0, .string ⟨#[]⟩] 36)
  have hC := start (hA.below (Nat.le_refl _) hb0) hn 78
  have hs : (w.alloc (.cells #[.int .i64 0, .string ⟨#[]⟩, .slice none 0 0, .string ⟨#[]⟩] 36)).heap.size = w.heap.size + 1 := by simp
  rw [hs] at hC
  have HB0 : Hid (Below w.heap.size w ((w.alloc (.cells #[.int .i64 0, .string ⟨#[]⟩, .slice none 0 0, .string ⟨#[]⟩] 36)).alloc (.cells #[.slice o n cap, .int .i64 0, .int .u64 0] 78))) := hb0.alloc (by simp) _
  have HR0 : Hid (RB ((w.alloc (.cells #[.int .i64 0, .string ⟨#[]⟩, .slice none 0 0, .string ⟨#[]⟩] 36)).alloc (.cells #[.slice o n cap, .int .i64 0, .int .u64 0] 78)) w.heap.size (.slice none 0 0)) := RB.but (cb := w.heap.size + 5) (RB.made w 0 ⟨#[]⟩ ⟨#[]⟩ (.slice none 0 0) 36 (by decide) (by decide) (by decide)) (But.of_below ((Below.refl _ _).alloc (Nat.le_refl _) _)) (by omega)
  have HC0 : Hid _ := hC
  have hs2 : ((w.alloc (.cells #[.int .i64 0, .string ⟨#[]⟩, .slice none 0 0, .string ⟨#[]⟩] 36)).alloc (.cells #[.slice o n cap, .int .i64 0, .int .u64 0] 78)).heap.size = w.heap.size + 2 := by simp
  clear hC hb0 hA hs
  go_enter Tryz.func54, Tryz.ntmps54
  go_wp2_with fail
  refine (response_any _ _ n _ _ HC0.out (by omega)).mono ?_
  rintro e w1 ⟨M, T, r, Bd, l, rfl, hM, hT, hBd, hl, hz, hown, hC1, hb1⟩
  have hs1 : w.heap.size + 2 ≤ w1.heap.size := by have := hb1.2.2.2.1; omega
  have hown1 : fieldsIn w1 (w.heap.size + 2) r l := by rw [hs2] at hown; exact hown
  have HB1 : Hid (Below w.heap.size w w1) := HB0.out.trans (hb1.below (by omega) (by omega))
  obtain ⟨r1, r2, _, _, _, _, _, _, q0, q1, q2, q3⟩ := RB.but HR0.out hb1 (by omega)
  have hh := hown1
  obtain ⟨a, ca, rfl, hTV⟩ := fv_of hown1
  have hca : l.length ≤ ca := by
    rcases hh.2 with ⟨he, h0⟩ | ⟨g, cap2, cur, he, hbg, hg, hnc, _⟩
    · injection he with _ h1 _; omega
    · injection he with _ _ h1; rw [h1]; exact hnc
  obtain ⟨we, hwe⟩ : ∃ we, we = (((w1.setCell ⟨w.heap.size, 0, none⟩ (.int .i64 M)).setCell ⟨w.heap.size, 1, none⟩ (.string T)).setCell ⟨w.heap.size, 2, none⟩ (.slice a l.length ca)).setCell ⟨w.heap.size, 3, none⟩ (.string Bd) := ⟨_, rfl⟩
  have hbe : Below w.heap.size w we := by rw [hwe]; exact (((HB1.out.setCell (Nat.le_refl _) _).setCell (Nat.le_refl _) _).setCell (Nat.le_refl _) _).setCell (Nat.le_refl _) _
  have hfe : fieldsIn we (w.heap.size + 2) (.slice a l.length ca) l := by rw [hwe]; exact fields_setb (fields_setb (fields_setb (fields_setb hown1 (by omega) _ _) (by omega) _ _) (by omega) _ _) (by omega) _ _
  have e0 : we.cell? ⟨w.heap.size, 0, none⟩ = some (.int .i64 M) := by rw [hwe]; simp [go_sem, q0]
  have e1 : we.cell? ⟨w.heap.size, 1, none⟩ = some (.string T) := by rw [hwe]; simp [go_sem, q1]
  have e2 : we.cell? ⟨w.heap.size, 2, none⟩ = some (.slice a l.length ca) := by rw [hwe]; simp [go_sem, q2]
  have e3 : we.cell? ⟨w.heap.size, 3, none⟩ = some (.string Bd) := by rw [hwe]; simp [go_sem, q3]
  obtain ⟨a2, ca2, he2, hF⟩ := fv_of hfe
  have hF2 : FV we a l w.heap.size we.heap.size := by
    injection he2 with h1 _ _
    subst h1
    rcases hF with h | ⟨g, h1, h2, h3, h4⟩
    · exact .inl h
    · exact .inr ⟨g, h1, by omega, h3, h4⟩
  clear hown hown1 hC1 hb1 HC0 HR0 HB0 hs2 HB1 hTV hh hfe hF he2
  go_wp2_with fail
  rw [← hwe]
  exact bodyPost_ret (v := .agg #[.int .i64 M, .string T, .slice a l.length ca, .string Bd]) (by simp [results, Tryz.results54, go_sem, e0, e1, e2, e3]) rfl ⟨M, T, a, ca, Bd, l, rfl, hM, hT, hBd, hl, hz, hca, hF2, hbe⟩

set_option maxRecDepth 20000 in
set_option maxHeartbeats 3200000 in
theorem drawRP_any (v : Value) (n : Nat) (w : World) (hA : CodeArg w v n) (hn : n ≤ 2000000) :
    Calls Tryz.prog 19 #[v] w fun e w' => ∃ (M : Int) (T : ByteArray) (a : Option Addr) (ca : Nat) (Bd : ByteArray) (l : List (ByteArray × ByteArray)), e = .returned (.agg #[.int .i64 M, .string T, .slice a l.length ca, .string Bd]) ∧ (0 ≤ M ∧ M ≤ 1000) ∧ T.size ≤ 20 ∧ Bd.size ≤ 5 ∧ l.length ≤ 44 ∧ (∀ c ∈ l, c.1.size ≤ 20 ∧ c.2.size ≤ 20) ∧ l.length ≤ ca ∧ FV w' a l w.heap.size w'.heap.size ∧ Below w.heap.size w w' := by
  obtain ⟨o, cap, rfl⟩ := hA.form
  have hb0 := (Below.refl w.heap.size w).alloc (Nat.le_refl _) (.cells #[.int .i64 0, .string ⟨#[]⟩, .slice none 0 0, .string ⟨#[]⟩] 36)
  have HA : Hid _ := hA.below (Nat.le_refl _) hb0
  have HR : Hid _ := RB.made w 0 ⟨#[]⟩ ⟨#[]⟩ (.slice none 0 0) 36 (by decide) (by decide) (by decide)
  have HB : Hid _ := hb0
  have hs : (w.alloc (.cells #[.int .i64 0, .string ⟨#[]⟩, .slice none 0 0, .string ⟨#[]⟩] 36)).heap.size = w.heap.size + 1 := by simp
  clear hA hb0
  go_enter Tryz.func19, Tryz.ntmps19
  go_wp2_with fail
  refine (drawGoodResp_any _ n _ HA.out hn).mono ?_
  rintro e w1 ⟨M, T, a, ca, Bd, l, rfl, hM, hT, hBd, hl, hz, hca, hF, hb1⟩
  rw [hs] at hF
  have hs1 : w.heap.size + 1 ≤ w1.heap.size := by have := hb1.size; omega
  have hR1 := RB.but (cb := w.heap.size + 5) HR.out (But.of_below hb1) (by omega)
  have hfin : Below w.heap.size w w1 := Below.trans HB.out (Below.mono hb1 (by simp))
  obtain ⟨hr1, hr2, _, _, _, _, _, _, r0, r1, r2, r3⟩ := hR1
  obtain ⟨we, hwe⟩ : ∃ we, we = (((w1.setCell ⟨w.heap.size, 0, none⟩ (.int .i64 M)).setCell ⟨w.heap.size, 1, none⟩ (.string T)).setCell ⟨w.heap.size, 2, none⟩ (.slice a l.length ca)).setCell ⟨w.heap.size, 3, none⟩ (.string Bd) := ⟨_, rfl⟩
  have hbe : Below w.heap.size w we := by rw [hwe]; exact (((hfin.setCell (Nat.le_refl _) _).setCell (Nat.le_refl _) _).setCell (Nat.le_refl _) _).setCell (Nat.le_refl _) _
  have hse : we.heap.size = w1.heap.size := by rw [hwe]; simp [World.setCell]
  have hfe : FV we a l (w.heap.size + 1) w1.heap.size := by rw [hwe]; exact FV.setb (FV.setb (FV.setb (FV.setb hF (by omega) _ _) (by omega) _ _) (by omega) _ _) (by omega) _ _
  have hF2 : FV we a l w.heap.size we.heap.size := by
    rcases hfe with h | ⟨g, h1, h2, h3, h4⟩
    · exact .inl h
    · exact .inr ⟨g, h1, by omega, by omega, h4⟩
  have e0 : we.cell? ⟨w.heap.size, 0, none⟩ = some (.int .i64 M) := by rw [hwe]; simp [go_sem, r0]
  have e1 : we.cell? ⟨w.heap.size, 1, none⟩ = some (.string T) := by rw [hwe]; simp [go_sem, r1]
  have e2 : we.cell? ⟨w.heap.size, 2, none⟩ = some (.slice a l.length ca) := by rw [hwe]; simp [go_sem, r2]
  have e3 : we.cell? ⟨w.heap.size, 3, none⟩ = some (.string Bd) := by rw [hwe]; simp [go_sem, r3]
  clear hb1 hF hfe HA HR HB hfin
  go_wp2_with fail
  rw [← hwe]
  exact bodyPost_ret (v := .agg #[.int .i64 M, .string T, .slice a l.length ca, .string Bd]) (by simp [results, Tryz.results19, go_sem, e0, e1, e2, e3]) rfl ⟨M, T, a, ca, Bd, l, rfl, hM, hT, hBd, hl, hz, hca, hF2, hbe⟩

end Go.Proofs.YtaplkbkpgdpbaaaGreatDoor.Cur
