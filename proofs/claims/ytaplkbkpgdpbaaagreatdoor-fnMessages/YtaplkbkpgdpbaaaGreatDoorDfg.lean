/-
  Walks: draws: (*l1Cur).field, fields; spec.DrawQuoteOf, DrawSetField.
-/
import Derived.Test.YtaplkbkpgdpbaaaGreatDoorDfc
import Derived.Test.YtaplkbkpgdpbaaaGreatDoorMg2
namespace Go.Proofs.YtaplkbkpgdpbaaaGreatDoor.Cur
open Go.RowKit
open Go.Proofs.YtaplkbkpgdpbaaaGreatDoor.Fdb (fieldsIn wpList_append_field FV fv_of RowF)

/-- A block that holds a field, its texts short. -/
def FB (w : World) (b : Nat) : Prop := b < w.heap.size ∧ (∀ i, w.frozen? ⟨b, i, none⟩ = false) ∧ ∃ X z : ByteArray, X.size ≤ 10 ∧ z.size ≤ 10 ∧ w.cell? ⟨b, 0, none⟩ = some (.string X) ∧ w.cell? ⟨b, 1, none⟩ = some (.string z)
theorem FB.made (w : World) (X z : ByteArray) (t : TypeId) (h1 : X.size ≤ 10) (h2 : z.size ≤ 10) : FB (w.alloc (.cells #[.string X, .string z] t)) w.heap.size :=
  ⟨by simp, fun i => World.frozen?_alloc_at _ t _ i rfl, X, z, h1, h2, by rw [World.cell?_alloc_mark]; rfl, by rw [World.cell?_alloc_mark]; rfl⟩
theorem FB.but {w w' : World} {b cb : Nat} (h : FB w b) (hb : But cb w w') (hc : b ≠ cb) : FB w' b := by
  obtain ⟨h1, h2, X, z, e1, e2, k1, k2⟩ := h
  exact ⟨Nat.lt_of_lt_of_le h1 hb.2.2.2.1, fun i => ((bcells hb).2 b i h1 hc).trans (h2 i), X, z, e1, e2, ((bcells hb).1 b 0 h1 hc).trans k1, ((bcells hb).1 b 1 h1 hc).trans k2⟩
theorem FB.other {w : World} {b b' : Nat} (h : FB w b) (hb : b ≠ b') (j : Nat) (u : Value) : FB (w.setCell ⟨b', j, none⟩ u) b := by
  obtain ⟨h1, h2, X, z, e1, e2, k1, k2⟩ := h
  exact ⟨by simpa [World.setCell] using h1, fun i => by simp [go_sem, h2], X, z, e1, e2, by rw [World.cell?_setCell_other _ _ _ _ (by simp)]; exact k1, by rw [World.cell?_setCell_other _ _ _ _ (by simp)]; exact k2⟩
theorem FB.s0 {w : World} {b : Nat} (h : FB w b) (x : ByteArray) (hx : x.size ≤ 10) : FB (w.setCell ⟨b, 0, none⟩ (.string x)) b := by
  obtain ⟨h1, h2, X, z, e1, e2, k1, k2⟩ := h
  exact ⟨by simpa [World.setCell] using h1, fun i => by simp [go_sem, h2], x, z, hx, e2, by simp [go_sem, k1], by simp [go_sem, k2]⟩
theorem FB.s1 {w : World} {b : Nat} (h : FB w b) (x : ByteArray) (hx : x.size ≤ 10) : FB (w.setCell ⟨b, 1, none⟩ (.string x)) b := by
  obtain ⟨h1, h2, X, z, e1, e2, k1, k2⟩ := h
  exact ⟨by simpa [World.setCell] using h1, fun i => by simp [go_sem, h2], X, x, e1, hx, by simp [go_sem, k1], by simp [go_sem, k2]⟩

theorem of_new3 (Pr : ByteArray → Prop) (xs : List ByteArray) (hx : ∀ x ∈ xs, Pr x) (m : Nat) (hm : m = xs.length) (h1 : 1 ≤ m) (h2 : m ≤ 1000) (cb : Nat) (v : Value) (n N : Nat) (w : World) (b : Nat) (hb : b = w.heap.size) (hC : Cursor w cb v n N) (hN : N ≤ 900000000) :
    Calls Tryz.prog 97 #[.pointer (some ⟨cb, 0, none⟩), .slice (some ⟨b, 0, none⟩) m m] (w.alloc (.cells (xs.map Value.string).toArray 9)) fun e w' => ∃ x : ByteArray, e = .returned (.string x) ∧ Pr x ∧ Cursor w' cb v n (N + 2) ∧ But cb w w' := by
  subst hb
  exact of_new2 Pr xs hx m hm h1 h2 cb v n N w hC hN

set_option maxRecDepth 20000 in
set_option maxHeartbeats 1600000 in
theorem field_any (cb : Nat) (v : Value) (n N : Nat) (w : World) (hC : Cursor w cb v n N) (hN : N ≤ 700000000) :
    Calls Tryz.prog 135 #[.pointer (some ⟨cb, 0, none⟩)] w fun e w' => ∃ X z : ByteArray, e = .returned (.agg #[.string X, .string z]) ∧ X.size ≤ 10 ∧ z.size ≤ 10 ∧ Cursor w' cb v n (N + 10) ∧ But cb w w' := by
  have hcb : cb < w.heap.size := hC.2.2.1
  have HC0 : Hid (Cursor (w.alloc (.cells #[.string ⟨#[]⟩, .string ⟨#[]⟩] 102)) cb v n N) := Cursor.below hC ((Below.refl _ _).alloc (Nat.le_refl _) _)
  have HF0 : Hid _ := FB.made w ⟨#[]⟩ ⟨#[]⟩ 102 (by decide) (by decide)
  have HB0 : Hid (But cb w (w.alloc (.cells #[.string ⟨#[]⟩, .string ⟨#[]⟩] 102))) := But.of_below ((Below.refl _ _).alloc (Nat.le_refl _) _)
  clear hC
  go_enter Tryz.func135, Tryz.ntmps135
  go_wp2_with fail
  refine (of_new3 (fun x => x.size ≤ 10) [⟨#[65, 103, 101]⟩, ⟨#[97, 103, 101]⟩, ⟨#[69, 84, 97, 103]⟩, ⟨#[86, 97, 114, 121]⟩, ⟨#[88, 45, 65]⟩, ⟨#[65, 99, 99, 101, 112, 116]⟩] (by decide) 6 rfl (by omega) (by omega) cb v n _ _ _ (by simp) HC0.out (by omega)).mono ?_
  rintro e w1 ⟨x1, rfl, hx1, hC1, hb1⟩
  have HC1 : Hid _ := hC1
  have HF1 : Hid _ := FB.but HF0.out hb1 (by omega)
  have HB1 : Hid _ := But.trans HB0.out hb1
  clear HC0 HF0 HB0 hC1 hb1
  go_wp2_with fail
  refine (of_new2 (fun x => x.size ≤ 10) [⟨#[49]⟩, ⟨#[97, 44, 32, 98]⟩, ⟨#[]⟩, ⟨#[34, 120, 34]⟩, ⟨#[122, 59, 113, 61, 49]⟩] (by decide) 5 rfl (by omega) (by omega) cb v n _ _ HC1.out (by omega)).mono ?_
  rintro e w2 ⟨y1, rfl, hy1, hC2, hb2⟩
  have hsz2 : w.heap.size + 1 ≤ w2.heap.size := by
    have h1 := HF1.out.1
    have h2 := hb2.2.2.2.1
    omega
  have HR2 : Hid (FB (w2.alloc (.cells #[.string x1, .string y1] 102)) w.heap.size) := FB.but (cb := cb) (FB.but HF1.out hb2 (by omega)) (But.of_below ((Below.refl _ _).alloc (Nat.le_refl _) _)) (by omega)
  have HC2 : Hid (Cursor (w2.alloc (.cells #[.string x1, .string y1] 102)) cb v n (N + 4)) := Cursor.below (Cursor.mono hC2 (by omega)) ((Below.refl _ _).alloc (Nat.le_refl _) _)
  have HF2 : Hid (FB (w2.alloc (.cells #[.string x1, .string y1] 102)) w2.heap.size) := FB.made w2 x1 y1 102 hx1 hy1
  have HB2 : Hid (But cb w (w2.alloc (.cells #[.string x1, .string y1] 102))) := But.then (But.trans HB1.out hb2) ((Below.refl w.heap.size w2).alloc (by omega) _)
  clear HC1 HF1 HB1 hC2 hb2
  go_wp2_with fail
  refine (pick_at 60 _ rfl cb v n _ _ HC2.out (by omega) (by omega) (by omega)).mono ?_
  rintro e w3 ⟨k, rfl, hk, hC3, hb3⟩
  have HR3 : Hid _ := FB.but HR2.out hb3 (by omega)
  have HF3 : Hid _ := FB.but HF2.out hb3 (by omega)
  have HC3 : Hid _ := hC3
  have HB3 : Hid _ := But.trans HB2.out hb3
  have hsz3 : w.heap.size + 1 ≤ w3.heap.size := Nat.le_trans hsz2 (Nat.le_trans (by simp) hb3.2.2.2.1)
  clear HR2 HF2 HC2 HB2 hC3 hb3
  by_cases h0 : k = 0
  · subst h0
    go_wp2_with fail
    refine (of_new2 (fun x => x.size ≤ 10) [⟨#[]⟩, ⟨#[97, 32, 98]⟩] (by decide) 2 rfl (by omega) (by omega) cb v n _ _ HC3.out (by omega)).mono ?_
    rintro e w4 ⟨y, rfl, hy, hC4, hb4⟩
    have hF4 := FB.but HF3.out hb4 (by omega)
    have hR4 := FB.but HR3.out hb4 (by omega)
    have HC5 : Hid (Cursor (w4.setCell ⟨w2.heap.size, 0, none⟩ (.string y)) cb v n (N + 8)) := Cursor.set (Cursor.mono hC4 (by omega)) (by omega) _
    have HF5 : Hid (FB (w4.setCell ⟨w2.heap.size, 0, none⟩ (.string y)) w2.heap.size) := FB.s0 hF4 y hy
    have HR5 : Hid (FB (w4.setCell ⟨w2.heap.size, 0, none⟩ (.string y)) w.heap.size) := FB.other hR4 (by omega) 0 _
    have HB5 : Hid (But cb w (w4.setCell ⟨w2.heap.size, 0, none⟩ (.string y))) := But.then (But.trans HB3.out hb4) ((Below.refl w.heap.size w4).setCell (by show w.heap.size ≤ w2.heap.size; omega) _)
    obtain ⟨f1, f2, X4, z4, _, _, k1, k2⟩ := hF4
    clear hR4 hC4 hb4 HF3 HR3 HC3 HB3
    generalize hw5 : w4.setCell ⟨w2.heap.size, 0, none⟩ (.string y) = w5 at HC5 HF5 HR5 HB5
    obtain ⟨g1, g2, X, z, eX, ez, kx, kz⟩ := HF5.out
    obtain ⟨r1, r2, X', z', _, _, q1, q2⟩ := HR5.out
    have hbe : But cb w ((w5.setCell ⟨w.heap.size, 0, none⟩ (.string X)).setCell ⟨w.heap.size, 1, none⟩ (.string z)) := But.then HB5.out (((Below.refl w.heap.size w5).setCell (Nat.le_refl _) _).setCell (Nat.le_refl _) _)
    have hce : Cursor ((w5.setCell ⟨w.heap.size, 0, none⟩ (.string X)).setCell ⟨w.heap.size, 1, none⟩ (.string z)) cb v n (N + 10) := Cursor.set (Cursor.set (Cursor.mono HC5.out (by omega)) hcb _) hcb _
    clear HF5 HR5 HB5 HC5
    go_wp2_with fail
    exact bodyPost_ret (v := .agg #[.string X, .string z]) (by simp [results, Tryz.results135, go_sem, q1, q2]) rfl ⟨X, z, rfl, eX, ez, hce, hbe⟩
  by_cases h1 : k = 1
  · subst h1
    go_wp2_with fail
    refine (of_new2 (fun x => x.size ≤ 10) [⟨#[32, 120]⟩, ⟨#[120, 32]⟩, ⟨#[10]⟩] (by decide) 3 rfl (by omega) (by omega) cb v n _ _ HC3.out (by omega)).mono ?_
    rintro e w4 ⟨y, rfl, hy, hC4, hb4⟩
    have hF4 := FB.but HF3.out hb4 (by omega)
    have hR4 := FB.but HR3.out hb4 (by omega)
    have HC5 : Hid (Cursor (w4.setCell ⟨w2.heap.size, 1, none⟩ (.string y)) cb v n (N + 8)) := Cursor.set (Cursor.mono hC4 (by omega)) (by omega) _
    have HF5 : Hid (FB (w4.setCell ⟨w2.heap.size, 1, none⟩ (.string y)) w2.heap.size) := FB.s1 hF4 y hy
    have HR5 : Hid (FB (w4.setCell ⟨w2.heap.size, 1, none⟩ (.string y)) w.heap.size) := FB.other hR4 (by omega) 1 _
    have HB5 : Hid (But cb w (w4.setCell ⟨w2.heap.size, 1, none⟩ (.string y))) := But.then (But.trans HB3.out hb4) ((Below.refl w.heap.size w4).setCell (by show w.heap.size ≤ w2.heap.size; omega) _)
    obtain ⟨f1, f2, X4, z4, _, _, k1, k2⟩ := hF4
    clear hR4 hC4 hb4 HF3 HR3 HC3 HB3
    generalize hw5 : w4.setCell ⟨w2.heap.size, 1, none⟩ (.string y) = w5 at HC5 HF5 HR5 HB5
    obtain ⟨g1, g2, X, z, eX, ez, kx, kz⟩ := HF5.out
    obtain ⟨r1, r2, X', z', _, _, q1, q2⟩ := HR5.out
    have hbe : But cb w ((w5.setCell ⟨w.heap.size, 0, none⟩ (.string X)).setCell ⟨w.heap.size, 1, none⟩ (.string z)) := But.then HB5.out (((Below.refl w.heap.size w5).setCell (Nat.le_refl _) _).setCell (Nat.le_refl _) _)
    have hce : Cursor ((w5.setCell ⟨w.heap.size, 0, none⟩ (.string X)).setCell ⟨w.heap.size, 1, none⟩ (.string z)) cb v n (N + 10) := Cursor.set (Cursor.set (Cursor.mono HC5.out (by omega)) hcb _) hcb _
    clear HF5 HR5 HB5 HC5
    go_wp2_with fail
    exact bodyPost_ret (v := .agg #[.string X, .string z]) (by simp [results, Tryz.results135, go_sem, q1, q2]) rfl ⟨X, z, rfl, eX, ez, hce, hbe⟩
  · have d0 : ((k : Int) == 0) = false := by simp; omega
    have d1 : ((k : Int) == 1) = false := by simp; omega
    obtain ⟨g1, g2, X, z, eX, ez, kx, kz⟩ := HF3.out
    obtain ⟨r1, r2, X', z', _, _, q1, q2⟩ := HR3.out
    have hbe : But cb w ((w3.setCell ⟨w.heap.size, 0, none⟩ (.string X)).setCell ⟨w.heap.size, 1, none⟩ (.string z)) := But.then HB3.out (((Below.refl w.heap.size w3).setCell (Nat.le_refl _) _).setCell (Nat.le_refl _) _)
    have hce : Cursor ((w3.setCell ⟨w.heap.size, 0, none⟩ (.string X)).setCell ⟨w.heap.size, 1, none⟩ (.string z)) cb v n (N + 10) := Cursor.set (Cursor.set (Cursor.mono HC3.out (by omega)) hcb _) hcb _
    clear HF3 HR3 HB3 HC3
    go_wp2_with fail
    exact bodyPost_ret (v := .agg #[.string X, .string z]) (by simp [results, Tryz.results135, go_sem, q1, q2]) rfl ⟨X, z, rfl, eX, ez, hce, hbe⟩

end Go.Proofs.YtaplkbkpgdpbaaaGreatDoor.Cur
