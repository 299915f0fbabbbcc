/-
  Walks: draws: (*l1Cur).response, cutBytes.
-/
import Derived.Test.YtaplkbkpgdpbaaaGreatDoorDgb
namespace Go.Proofs.YtaplkbkpgdpbaaaGreatDoor.Cur
open Go.RowKit
open Go.Proofs.YtaplkbkpgdpbaaaGreatDoor.Fdb (fieldsIn wpList_append_field FV fv_of RowF flatF flat_len infoF)

set_option maxHeartbeats 800000 in
theorem among_pr (Pr : Int → Prop) (cb b m : Nat) (v : Value) (n N : Nat) (w : World) (hC : Cursor w cb v n N) (hN : N ≤ 900000000) (h1 : 1 ≤ m) (h2 : m ≤ 1000) (hb : b < w.heap.size) (hbc : b ≠ cb) (hcell : ∀ i, i < m → ∃ z : Int, Pr z ∧ w.cell? ⟨b, i, none⟩ = some (.int .i64 z)) :
    Calls Tryz.prog 108 #[.pointer (some ⟨cb, 0, none⟩), .slice (some ⟨b, 0, none⟩) m m] w fun e w' => ∃ x : Int, e = .returned (.int .i64 x) ∧ Pr x ∧ Cursor w' cb v n (N + 2) ∧ But cb w w' := by
  have HC : Hid _ := hC
  have HL : Hid _ := hcell
  clear hC hcell
  go_enter Tryz.func108, Tryz.ntmps108
  go_wp2_with fail
  refine (pick_any cb v n N m _ HC.out hN h1 (by omega)).mono ?_
  rintro e w1 ⟨x, rfl, hx, hC1, hb1⟩
  obtain ⟨z, hM, hz⟩ := HL.out x hx
  have hz1 := ((bcells hb1).1 b x hb hbc).trans hz
  have HC1 : Hid _ := hC1
  have Hb1 : Hid _ := hb1
  clear hC1 hb1
  go_wp2_with fail
  go_ret
  exact ⟨z, rfl, hM, HC1.out, Hb1.out⟩
theorem among_new (Pr : Int → Prop) (xs : List Int) (hx : ∀ x ∈ xs, Pr x) (m : Nat) (hm : m = xs.length) (h1 : 1 ≤ m) (h2 : m ≤ 1000) (cb : Nat) (v : Value) (n N : Nat) (w : World) (hC : Cursor w cb v n N) (hN : N ≤ 900000000) :
    Calls Tryz.prog 108 #[.pointer (some ⟨cb, 0, none⟩), .slice (some ⟨w.heap.size, 0, none⟩) m m] (w.alloc (.cells (xs.map fun z => Value.int .i64 z).toArray 3)) fun e w' => ∃ x : Int, e = .returned (.int .i64 x) ∧ Pr x ∧ Cursor w' cb v n (N + 2) ∧ But cb w w' := by
  subst hm
  have hcb : cb < w.heap.size := hC.2.2.1
  have hb1 := (Below.refl w.heap.size w).alloc (Nat.le_refl _) (.cells (xs.map fun z => Value.int .i64 z).toArray 3)
  refine (among_pr Pr cb _ xs.length v n N _ (Cursor.below hC hb1) hN h1 h2 (by simp) (by omega) ?_).mono ?_
  · intro i hi
    exact ⟨xs[i], hx _ (List.getElem_mem hi), by rw [World.cell?_alloc_mark]; simp [hi]⟩
  · rintro e w' ⟨x, rfl, hx, hC', hb'⟩
    exact ⟨x, rfl, hx, hC', But.trans (But.of_below hb1) hb'⟩

/-- A block that holds a response, its texts short. -/
def RB (w : World) (b : Nat) (r : Value) : Prop := b < w.heap.size ∧ (∀ i, w.frozen? ⟨b, i, none⟩ = false) ∧ ∃ (S : Int) (T Bd : ByteArray), (0 ≤ S ∧ S ≤ 1000) ∧ T.size ≤ 20 ∧ Bd.size ≤ 5 ∧ w.cell? ⟨b, 0, none⟩ = some (.int .i64 S) ∧ w.cell? ⟨b, 1, none⟩ = some (.string T) ∧ w.cell? ⟨b, 2, none⟩ = some r ∧ w.cell? ⟨b, 3, none⟩ = some (.string Bd)
theorem RB.made (w : World) (S : Int) (T Bd : ByteArray) (r : Value) (t : TypeId) (h1 : 0 ≤ S ∧ S ≤ 1000) (h2 : T.size ≤ 20) (h3 : Bd.size ≤ 5) : RB (w.alloc (.cells #[.int .i64 S, .string T, r, .string Bd] t)) w.heap.size r :=
  ⟨by simp, fun i => World.frozen?_alloc_at _ t _ i rfl, S, T, Bd, h1, h2, h3, by rw [World.cell?_alloc_mark]; rfl, by rw [World.cell?_alloc_mark]; rfl, by rw [World.cell?_alloc_mark]; rfl, by rw [World.cell?_alloc_mark]; rfl⟩
theorem RB.but {w w' : World} {b cb : Nat} {r : Value} (h : RB w b r) (hb : But cb w w') (hc : b ≠ cb) : RB w' b r := by
  obtain ⟨h1, h2, M, T, Bd, e1, e2, e3, k0, k1, k2, k3⟩ := h
  exact ⟨Nat.lt_of_lt_of_le h1 hb.2.2.2.1, fun i => ((bcells hb).2 b i h1 hc).trans (h2 i), M, T, Bd, e1, e2, e3, ((bcells hb).1 b 0 h1 hc).trans k0, ((bcells hb).1 b 1 h1 hc).trans k1, ((bcells hb).1 b 2 h1 hc).trans k2, ((bcells hb).1 b 3 h1 hc).trans k3⟩
theorem RB.s0 {w : World} {b : Nat} {r : Value} (h : RB w b r) (x : Int) (hx : 0 ≤ x ∧ x ≤ 1000) : RB (w.setCell ⟨b, 0, none⟩ (.int .i64 x)) b r := by
  obtain ⟨h1, h2, M, T, Bd, e1, e2, e3, k0, k1, k2, k3⟩ := h
  exact ⟨by simpa [World.setCell] using h1, fun i => by simp [go_sem, h2], x, T, Bd, hx, e2, e3, by simp [go_sem, k0], by simp [go_sem, k1], by simp [go_sem, k2], by simp [go_sem, k3]⟩
theorem RB.other {w : World} {b b' : Nat} {r : Value} (h : RB w b r) (hb : b ≠ b') (j : Nat) (u : Value) : RB (w.setCell ⟨b', j, none⟩ u) b r := by
  obtain ⟨h1, h2, M, T, Bd, e1, e2, e3, k0, k1, k2, k3⟩ := h
  exact ⟨by simpa [World.setCell] using h1, fun i => by simp [go_sem, h2], M, T, Bd, e1, e2, e3, by rw [World.cell?_setCell_other _ _ _ _ (by simp)]; exact k0, by rw [World.cell?_setCell_other _ _ _ _ (by simp)]; exact k1, by rw [World.cell?_setCell_other _ _ _ _ (by simp)]; exact k2, by rw [World.cell?_setCell_other _ _ _ _ (by simp)]; exact k3⟩
/-- A block of a response's type. -/
def TP (w : World) (b : Nat) : Prop := ∃ cs f, w.heap[b]? = some (.cells cs 36 f)
theorem TP.made (w : World) (cs : Array Value) : TP (w.alloc (.cells cs 36)) w.heap.size := ⟨cs, (0, 0), by show (w.heap.push _)[w.heap.size]? = _; simp⟩
theorem TP.lt {w : World} {b : Nat} (h : TP w b) : b < w.heap.size := by
  obtain ⟨cs, f, h⟩ := h
  exact (Array.getElem?_eq_some_iff.1 h).1
theorem TP.but {w w' : World} {b cb : Nat} (h : TP w b) (hb : But cb w w') (hc : b ≠ cb) : TP w' b := by
  have hl := h.lt
  obtain ⟨cs, f, h⟩ := h
  exact ⟨cs, f, (hb.2.2.2.2 b hl hc).trans h⟩
theorem TP.set {w : World} {b : Nat} (h : TP w b) (b' j : Nat) (u : Value) : TP (w.setCell ⟨b', j, none⟩ u) b := by
  obtain ⟨cs, f, h⟩ := h
  by_cases e : b' = b
  · subst e
    exact ⟨cs.setIfInBounds j u, f, by simp [World.setCell, Array.getElem?_modify, h]⟩
  · exact ⟨cs, f, by simp [World.setCell, Array.getElem?_modify, e, h]⟩
theorem fields_setp {w : World} {B b : Nat} {v : Value} {l : List (ByteArray × ByteArray)} (h : fieldsIn w B v l) (hb : TP w b) (j : Nat) (u : Value) : fieldsIn (w.setCell ⟨b, j, none⟩ u) B v l := by
  refine ⟨h.1, ?_⟩
  rcases h.2 with hn | ⟨g, cap, cur, rfl, hbg, hg, rest⟩
  · exact .inl hn
  · refine .inr ⟨g, cap, cur, rfl, hbg, ?_, rest⟩
    have hne : b ≠ g := by
      intro e
      subst e
      obtain ⟨cs, f, h⟩ := hb
      rw [h] at hg
      have := Option.some.inj hg
      injection this with _ h2 _
      exact absurd h2 (by decide)
    rw [← hg]
    simp [World.setCell, Array.getElem?_modify, hne]


set_option maxRecDepth 20000 in
set_option maxHeartbeats 25600000 in
theorem response_any (cb : Nat) (v : Value) (n N : Nat) (w : World) (hC : Cursor w cb v n N) (hN : N ≤ 500000000) :
    Calls Tryz.prog 65 #[.pointer (some ⟨cb, 0, none⟩)] w fun e w' => ∃ (S : Int) (T : ByteArray) (r : Value) (Bd : ByteArray) (l : List (ByteArray × ByteArray)), e = .returned (.agg #[.int .i64 S, .string T, r, .string Bd]) ∧ (0 ≤ S ∧ S ≤ 1000) ∧ T.size ≤ 20 ∧ Bd.size ≤ 5 ∧ l.length ≤ 44 ∧ (∀ c ∈ l, c.1.size ≤ 20 ∧ c.2.size ≤ 20) ∧ fieldsIn w' w.heap.size r l ∧ Cursor w' cb v n (N + 1000) ∧ But cb w w' := by
  have hcb : cb < w.heap.size := hC.2.2.1
  have HC0 : Hid (Cursor (w.alloc (.cells #[.int .i64 0, .string ⟨#[]⟩, .slice none 0 0, .string ⟨#[]⟩] 36)) cb v n N) := Cursor.below hC ((Below.refl _ _).alloc (Nat.le_refl _) _)
  have HB0 : Hid (But cb w (w.alloc (.cells #[.int .i64 0, .string ⟨#[]⟩, .slice none 0 0, .string ⟨#[]⟩] 36))) := But.of_below ((Below.refl _ _).alloc (Nat.le_refl _) _)
  have HR0 : Hid (RB (w.alloc (.cells #[.int .i64 0, .string ⟨#[]⟩, .slice none 0 0, .string ⟨#[]⟩] 36)) w.heap.size (.slice none 0 0)) := RB.made w 0 ⟨#[]⟩ ⟨#[]⟩ (.slice none 0 0) 36 (by decide) (by decide) (by decide)
  have hw0 : (w.alloc (.cells #[.int .i64 0, .string ⟨#[]⟩, .slice none 0 0, .string ⟨#[]⟩] 36)).heap.size = w.heap.size + 1 := by simp
  clear hC
  go_enter Tryz.func65, Tryz.ntmps65
  go_wp2_with fail
  refine (body_any cb v n _ _ HC0.out (by omega)).mono ?_
  rintro e w1 ⟨Bd, r1, l1, rfl, hBd, hl1, hz1, hown1, hC1, hb1⟩
  have hs1 : w.heap.size + 1 ≤ w1.heap.size := by have := hb1.2.2.2.1; omega
  rw [hw0] at hown1
  have HC1 : Hid _ := hC1
  have HB1 : Hid _ := But.trans HB0.out hb1
  have HR1 : Hid _ := RB.but HR0.out hb1 (by omega)
  clear HC0 HB0 hC1 hb1 HR0
  go_wp2_with fail
  refine (among_new (fun x => 0 ≤ x ∧ x ≤ 1000) [200, 304, 404, 500, 206] (by decide) 5 rfl (by omega) (by omega) cb v n _ _ HC1.out (by omega)).mono ?_
  rintro e w2 ⟨S, rfl, hS, hC2, hb2⟩
  have hown2 := fields_but hown1 hb2 (by omega)
  have hs2 := Nat.le_trans hs1 hb2.2.2.2.1
  have HC2 : Hid _ := hC2
  have HB2 : Hid _ := But.trans HB1.out hb2
  have HR2 : Hid _ := RB.but HR1.out hb2 (by omega)
  clear HC1 HB1 hC2 hb2 hown1 HR1 hs1
  go_wp2_with fail
  refine (of_new2 (fun x => x.size ≤ 20) [⟨#[79, 75]⟩, ⟨#[]⟩, ⟨#[78, 111, 116, 32, 70, 111, 117, 110, 100]⟩] (by decide) 3 rfl (by omega) (by omega) cb v n _ _ HC2.out (by omega)).mono ?_
  rintro e w3 ⟨T, rfl, hT, hC3, hb3⟩
  have hown3 := fields_but hown2 hb3 (by omega)
  have hs3 := Nat.le_trans hs2 hb3.2.2.2.1
  have HC3 : Hid _ := hC3
  have HB3 : Hid _ := But.trans HB2.out hb3
  have HR3 : Hid _ := RB.but HR2.out hb3 (by omega)
  clear HC2 HB2 hC3 hb3 hown2 HR2 hs2
  go_wp2_with fail
  refine (fields_any cb v n _ _ HC3.out (by omega)).mono ?_
  rintro e w4 ⟨r4, l4, rfl, hl4, hz4, hown4, hC4, hb4⟩
  have hown14 := fields_but hown3 hb4 (by omega)
  have hs4 := Nat.le_trans hs3 hb4.2.2.2.1
  have hs34 := hb4.2.2.2.1
  have HC4 : Hid _ := hC4
  have HB4 : Hid _ := But.trans HB3.out hb4
  have HR4 : Hid _ := RB.but HR3.out hb4 (by omega)
  clear HC3 HB3 hC4 hb4 hown3 HR3
  go_wp2_with (at_builtin; refine wpList_append_fields w4 rfl _ _ rfl w3.heap.size _ l4 (by rfl) hown4 (w.heap.size + 1) _ l1 (by rfl) hown14 (by omega) hs34 w4 (Below.refl _ _) ?_)
  intro r5 w5 hown5 hbel5
  have hs45 : w4.heap.size ≤ w5.heap.size := hbel5.size
  have hs5 : w.heap.size + 1 ≤ w5.heap.size := Nat.le_trans hs4 hs45
  have hs35 : w3.heap.size ≤ w5.heap.size := Nat.le_trans hs34 hs45
  have hbt5 : But cb w w5 := But.then HB4.out (hbel5.mono (by omega))
  have hbt45 : But (w.heap.size + w5.heap.size + 7) w4 w5 → True := fun _ => trivial
  have hl5 : (l4 ++ l1).length ≤ 43 := by rw [List.length_append]; omega
  have hz5 : ∀ c ∈ l4 ++ l1, c.1.size ≤ 20 ∧ c.2.size ≤ 20 := by
    intro c hc
    rcases List.mem_append.1 hc with hc | hc
    · have := hz4 c hc; omega
    · exact hz1 c hc
  obtain ⟨l5, hl5e⟩ : ∃ l5, l5 = l4 ++ l1 := ⟨_, rfl⟩
  rw [← hl5e] at hown5 hl5 hz5
  obtain ⟨a5, c5, rfl, _⟩ := fv_of hown5
  have HC6 : Hid (Cursor (w5.alloc (.cells #[.int .i64 S, .string T, .slice a5 l5.length c5, .string Bd] 36)) cb v n (N + 700)) := Cursor.below (Cursor.belowB (Cursor.mono HC4.out (by omega)) (by omega) hbel5) ((Below.refl _ _).alloc (Nat.le_refl _) _)
  have HB6 : Hid (But cb w (w5.alloc (.cells #[.int .i64 S, .string T, .slice a5 l5.length c5, .string Bd] 36))) := But.then hbt5 ((Below.refl w.heap.size w5).alloc (by omega) _)
  have hR5 : RB w5 w.heap.size (.slice none 0 0) := by
    have h := HR4.out
    obtain ⟨h1, h2, M', T', Bd', e1, e2, e3, k0, k1, k2, k3⟩ := h
    have hc : ∀ i, w5.cell? ⟨w.heap.size, i, none⟩ = w4.cell? ⟨w.heap.size, i, none⟩ := fun i => hbel5.cell (p := ⟨w.heap.size, i, none⟩) (by show w.heap.size < w3.heap.size; omega)
    have hf : ∀ i, w5.frozen? ⟨w.heap.size, i, none⟩ = w4.frozen? ⟨w.heap.size, i, none⟩ := fun i => hbel5.frozen (p := ⟨w.heap.size, i, none⟩) (by show w.heap.size < w3.heap.size; omega)
    exact ⟨by omega, fun i => (hf i).trans (h2 i), M', T', Bd', e1, e2, e3, (hc 0).trans k0, (hc 1).trans k1, (hc 2).trans k2, (hc 3).trans k3⟩
  have HR6 : Hid (RB (w5.alloc (.cells #[.int .i64 S, .string T, .slice a5 l5.length c5, .string Bd] 36)) w.heap.size (.slice none 0 0)) := RB.but (cb := cb) hR5 (But.of_below ((Below.refl _ _).alloc (Nat.le_refl _) _)) (by omega)
  have HQ6 : Hid (RB (w5.alloc (.cells #[.int .i64 S, .string T, .slice a5 l5.length c5, .string Bd] 36)) w5.heap.size (.slice a5 l5.length c5)) := RB.made w5 S T Bd (.slice a5 l5.length c5) 36 hS hT hBd
  have HT6 : Hid (TP (w5.alloc (.cells #[.int .i64 S, .string T, .slice a5 l5.length c5, .string Bd] 36)) w5.heap.size) := TP.made w5 _
  have hown6 : fieldsIn (w5.alloc (.cells #[.int .i64 S, .string T, .slice a5 l5.length c5, .string Bd] 36)) w3.heap.size (.slice a5 l5.length c5) l5 := Fdb.fieldsIn.alloc hown5 _
  obtain ⟨w6, hw6⟩ : ∃ w6, w6 = w5.alloc (.cells #[.int .i64 S, .string T, .slice a5 l5.length c5, .string Bd] 36) := ⟨_, rfl⟩
  have hs6 : w5.heap.size + 1 ≤ w6.heap.size := by rw [hw6]; simp
  rw [← hw6] at HC6 HB6 HR6 HQ6 HT6 hown6
  clear hown4 hown14 hown5 hbel5 HC4 HB4 HR4 hbt5 hR5 hl5e hbt45
  go_wp2_with fail
  rw [← hw6]
  refine (one_at 30 _ rfl cb v n _ _ HC6.out (by omega) (by omega) (by omega)).mono ?_
  rintro e w7 ⟨b, rfl, hC7, hb7⟩
  have hs7 : w5.heap.size + 1 ≤ w7.heap.size := Nat.le_trans hs6 hb7.2.2.2.1
  have HC7 : Hid _ := hC7
  have HB7 : Hid _ := But.trans HB6.out hb7
  have HR7 : Hid _ := RB.but HR6.out hb7 (by omega)
  have HQ7 : Hid _ := RB.but HQ6.out hb7 (by omega)
  have HT7 : Hid _ := TP.but HT6.out hb7 (by omega)
  have hown7 := fields_but hown6 hb7 (by omega)
  clear HC6 HB6 HR6 HQ6 HT6 hown6 hC7 hb7 hw6
  cases b
  · obtain ⟨g1, g2, Se, Te, Be, m1, m2, m3, c0, c1, c2, c3⟩ := HQ7.out
    obtain ⟨f1, f2, _, _, _, _, _, _, d0, d1, d2, d3⟩ := HR7.out
    obtain ⟨we, hwe⟩ : ∃ we, we = (((w7.setCell ⟨w.heap.size, 0, none⟩ (.int .i64 Se)).setCell ⟨w.heap.size, 1, none⟩ (.string Te)).setCell ⟨w.heap.size, 2, none⟩ (.slice a5 l5.length c5)).setCell ⟨w.heap.size, 3, none⟩ (.string Be) := ⟨_, rfl⟩
    have hbe : But cb w we := by rw [hwe]; exact But.then HB7.out (((((Below.refl w.heap.size w7).setCell (Nat.le_refl _) _).setCell (Nat.le_refl _) _).setCell (Nat.le_refl _) _).setCell (Nat.le_refl _) _)
    have hce : Cursor we cb v n (N + 1000) := by rw [hwe]; exact Cursor.set (Cursor.set (Cursor.set (Cursor.set (Cursor.mono HC7.out (by omega)) hcb _) hcb _) hcb _) hcb _
    have hfe : fieldsIn we w.heap.size (.slice a5 l5.length c5) l5 := by rw [hwe]; exact Fdb.fieldsIn.base (fields_setb (fields_setb (fields_setb (fields_setb hown7 (by omega) _ _) (by omega) _ _) (by omega) _ _) (by omega) _ _) (by omega)
    have e0 : we.cell? ⟨w.heap.size, 0, none⟩ = some (.int .i64 Se) := by rw [hwe]; simp [go_sem, d0]
    have e1 : we.cell? ⟨w.heap.size, 1, none⟩ = some (.string Te) := by rw [hwe]; simp [go_sem, d1]
    have e2 : we.cell? ⟨w.heap.size, 2, none⟩ = some (.slice a5 l5.length c5) := by rw [hwe]; simp [go_sem, d2]
    have e3 : we.cell? ⟨w.heap.size, 3, none⟩ = some (.string Be) := by rw [hwe]; simp [go_sem, d3]
    clear HQ7 HR7 HB7 HC7
    go_wp2_with fail
    rw [← hwe]
    exact bodyPost_ret (v := .agg #[.int .i64 Se, .string Te, (.slice a5 l5.length c5), .string Be]) (by simp [results, Tryz.results65, go_sem, e0, e1, e2, e3]) rfl ⟨Se, Te, _, Be, l5, rfl, m1, m2, m3, by omega, hz5, hfe, hce, hbe⟩
  · go_wp2_with fail
    refine (among_new (fun x => 0 ≤ x ∧ x ≤ 1000) [99, 100, 599, 600] (by decide) 4 rfl (by omega) (by omega) cb v n _ _ HC7.out (by omega)).mono ?_
    rintro e wy ⟨y, rfl, hy, hCy, hby⟩
    have hQy := RB.but HQ7.out hby (by omega)
    have hRy := RB.but HR7.out hby (by omega)
    have hTy := TP.but HT7.out hby (by omega)
    have hownz := fields_setp (fields_but hown7 hby (by omega)) hTy 0 (.int .i64 y)
    have HCz : Hid (Cursor (wy.setCell ⟨w5.heap.size, 0, none⟩ (.int .i64 y)) cb v n (N + 800)) := Cursor.set (Cursor.mono hCy (by omega)) (by omega) _
    have HQz : Hid (RB (wy.setCell ⟨w5.heap.size, 0, none⟩ (.int .i64 y)) w5.heap.size (.slice a5 l5.length c5)) := RB.s0 hQy y hy
    have HRz : Hid (RB (wy.setCell ⟨w5.heap.size, 0, none⟩ (.int .i64 y)) w.heap.size (.slice none 0 0)) := RB.other hRy (by omega) 0 _
    have HBz : Hid (But cb w (wy.setCell ⟨w5.heap.size, 0, none⟩ (.int .i64 y))) := But.then (But.trans HB7.out hby) ((Below.refl w.heap.size wy).setCell (by show w.heap.size ≤ w5.heap.size; omega) _)
    obtain ⟨p1, p2, _, _, _, _, _, _, s0, s1, s2, s3⟩ := hQy
    clear hRy hTy hCy hby HQ7 HR7 HT7 HC7 HB7
    generalize hwz : wy.setCell ⟨w5.heap.size, 0, none⟩ (.int .i64 y) = wz at HCz HQz HRz HBz hownz
    obtain ⟨g1, g2, Se, Te, Be, m1, m2, m3, c0, c1, c2, c3⟩ := HQz.out
    obtain ⟨f1, f2, _, _, _, _, _, _, d0, d1, d2, d3⟩ := HRz.out
    obtain ⟨we, hwe⟩ : ∃ we, we = (((wz.setCell ⟨w.heap.size, 0, none⟩ (.int .i64 Se)).setCell ⟨w.heap.size, 1, none⟩ (.string Te)).setCell ⟨w.heap.size, 2, none⟩ (.slice a5 l5.length c5)).setCell ⟨w.heap.size, 3, none⟩ (.string Be) := ⟨_, rfl⟩
    have hbe : But cb w we := by rw [hwe]; exact But.then HBz.out (((((Below.refl w.heap.size wz).setCell (Nat.le_refl _) _).setCell (Nat.le_refl _) _).setCell (Nat.le_refl _) _).setCell (Nat.le_refl _) _)
    have hce : Cursor we cb v n (N + 1000) := by rw [hwe]; exact Cursor.set (Cursor.set (Cursor.set (Cursor.set (Cursor.mono HCz.out (by omega)) hcb _) hcb _) hcb _) hcb _
    have hfe : fieldsIn we w.heap.size (.slice a5 l5.length c5) l5 := by rw [hwe]; exact Fdb.fieldsIn.base (fields_setb (fields_setb (fields_setb (fields_setb hownz (by omega) _ _) (by omega) _ _) (by omega) _ _) (by omega) _ _) (by omega)
    have e0 : we.cell? ⟨w.heap.size, 0, none⟩ = some (.int .i64 Se) := by rw [hwe]; simp [go_sem, d0]
    have e1 : we.cell? ⟨w.heap.size, 1, none⟩ = some (.string Te) := by rw [hwe]; simp [go_sem, d1]
    have e2 : we.cell? ⟨w.heap.size, 2, none⟩ = some (.slice a5 l5.length c5) := by rw [hwe]; simp [go_sem, d2]
    have e3 : we.cell? ⟨w.heap.size, 3, none⟩ = some (.string Be) := by rw [hwe]; simp [go_sem, d3]
    clear HQz HRz HBz HCz
    go_wp2_with fail
    rw [← hwe]
    exact bodyPost_ret (v := .agg #[.int .i64 Se, .string Te, (.slice a5 l5.length c5), .string Be]) (by simp [results, Tryz.results65, go_sem, e0, e1, e2, e3]) rfl ⟨Se, Te, _, Be, l5, rfl, m1, m2, m3, by omega, hz5, hfe, hce, hbe⟩

set_option maxHeartbeats 1600000 in
theorem cutBytes_any (cb : Nat) (v : Value) (n N : Nat) (w : World) (t : ByteArray) (hC : Cursor w cb v n N) (hN : N ≤ 700000000) (ht : t.size ≤ 100000) :
    Calls Tryz.prog 59 #[.pointer (some ⟨cb, 0, none⟩), .string t] w fun e w' => ∃ T : ByteArray, e = .returned (.string T) ∧ T.size ≤ t.size + 20 ∧ Cursor w' cb v n (N + 40) ∧ But cb w w' := by
  have hcb : cb < w.heap.size := hC.2.2.1
  have hwr : IntKind.i64.wrap ((t.size : Int) + 1) = (t.size : Int) + 1 := by rw [IntKind.wrap_i64]; omega
  have HC0 : Hid _ := hC
  clear hC
  go_enter Tryz.func59, Tryz.ntmps59
  go_wp2_with fail
  refine (pick_at 4 _ rfl cb v n _ _ HC0.out (by omega) (by omega) (by omega)).mono ?_
  rintro e w1 ⟨k, rfl, hk, hC1, hb1⟩
  have HC1 : Hid _ := hC1
  have HB1 : Hid _ := hb1
  clear hC1 hb1 HC0
  rcases (show k = 0 ∨ k = 1 ∨ k = 2 ∨ k = 3 by omega) with rfl | rfl | rfl | rfl
  · go_wp2_with fail
    refine (pick_at (t.size + 1) _ (by omega) cb v n _ _ HC1.out (by omega) (by omega) (by omega)).mono ?_
    rintro e w2 ⟨j, rfl, hj, hC2, hb2⟩
    have HC2 : Hid _ := hC2
    have HB2 : Hid _ := But.trans HB1.out hb2
    have hz : (t.extract 0 j).size ≤ t.size := by rw [ByteArray.size_extract]; omega
    clear HC1 HB1 hC2 hb2
    go_wp2_with fail
    go_ret
    exact ⟨_, rfl, by omega, Cursor.mono HC2.out (by omega), HB2.out⟩
  · go_wp2_with fail
    refine (spoilt_any cb v n _ _ t ⟨#[58, 32, 13, 10, 72, 49]⟩ HC1.out (by omega) (by omega) (by decide) (by decide)).mono ?_
    rintro e w2 ⟨T, rfl, hT, hC2, hb2⟩
    have HC2 : Hid _ := hC2
    have HB2 : Hid _ := But.trans HB1.out hb2
    clear HC1 HB1 hC2 hb2
    go_wp2_with fail
    go_ret
    exact ⟨T, rfl, by omega, Cursor.mono HC2.out (by omega), HB2.out⟩
  · go_wp2_with fail
    refine (of_new2 (fun x => x.size ≤ 20) [⟨#[109, 111, 114, 101]⟩, ⟨#[71, 69, 84, 32, 47, 32, 72, 84, 84, 80, 47, 49, 46, 49, 13, 10]⟩] (by decide) 2 rfl (by omega) (by omega) cb v n _ _ HC1.out (by omega)).mono ?_
    rintro e w2 ⟨y, rfl, hy, hC2, hb2⟩
    have HC2 : Hid _ := hC2
    have HB2 : Hid _ := But.trans HB1.out hb2
    have hz : (t ++ y).size ≤ t.size + 20 := by rw [ByteArray.size_append]; omega
    clear HC1 HB1 hC2 hb2
    go_wp2_with fail
    go_ret
    exact ⟨_, rfl, hz, Cursor.mono HC2.out (by omega), HB2.out⟩
  · go_wp2_with fail
    go_ret
    exact ⟨t, rfl, by omega, Cursor.mono HC1.out (by omega), HB1.out⟩

end Go.Proofs.YtaplkbkpgdpbaaaGreatDoor.Cur
