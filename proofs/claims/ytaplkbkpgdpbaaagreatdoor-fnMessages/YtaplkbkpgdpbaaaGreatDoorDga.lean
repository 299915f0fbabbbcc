/-
  Walks: draws: (*l1Cur).body.
-/
import Derived.Test.YtaplkbkpgdpbaaaGreatDoorDfh
import Derived.Test.YtaplkbkpgdpbaaaGreatDoorNum
namespace Go.Proofs.YtaplkbkpgdpbaaaGreatDoor.Cur
open Go.RowKit
open Go.Proofs.YtaplkbkpgdpbaaaGreatDoor.Fdb (fieldsIn wpList_append_field FV fv_of RowF flatF flat_len)

/-- A block that holds a field, its texts at most 20 bytes. -/
def FC (w : World) (b : Nat) : Prop := b < w.heap.size ∧ (∀ i, w.frozen? ⟨b, i, none⟩ = false) ∧ ∃ X z : ByteArray, X.size ≤ 20 ∧ z.size ≤ 20 ∧ w.cell? ⟨b, 0, none⟩ = some (.string X) ∧ w.cell? ⟨b, 1, none⟩ = some (.string z)
theorem FC.made (w : World) (X z : ByteArray) (t : TypeId) (h1 : X.size ≤ 20) (h2 : z.size ≤ 20) : FC (w.alloc (.cells #[.string X, .string z] t)) w.heap.size :=
  ⟨by simp, fun i => World.frozen?_alloc_at _ t _ i rfl, X, z, h1, h2, by rw [World.cell?_alloc_mark]; rfl, by rw [World.cell?_alloc_mark]; rfl⟩
theorem FC.but {w w' : World} {b cb : Nat} (h : FC w b) (hb : But cb w w') (hc : b ≠ cb) : FC w' b := by
  obtain ⟨h1, h2, X, z, e1, e2, k1, k2⟩ := h
  exact ⟨Nat.lt_of_lt_of_le h1 hb.2.2.2.1, fun i => ((bcells hb).2 b i h1 hc).trans (h2 i), X, z, e1, e2, ((bcells hb).1 b 0 h1 hc).trans k1, ((bcells hb).1 b 1 h1 hc).trans k2⟩
theorem FC.s1 {w : World} {b : Nat} (h : FC w b) (x : ByteArray) (hx : x.size ≤ 20) : FC (w.setCell ⟨b, 1, none⟩ (.string x)) b := by
  obtain ⟨h1, h2, X, z, e1, e2, k1, k2⟩ := h
  exact ⟨by simpa [World.setCell] using h1, fun i => by simp [go_sem, h2], X, x, e1, hx, by simp [go_sem, k1], by simp [go_sem, k2]⟩

/-- A row of fields that is made whole. -/
theorem fields_made (w : World) (B : Nat) (l : List (ByteArray × ByteArray)) (h : B ≤ w.heap.size) (hl : l.length ≤ 1000) (cs : Array Value) (hcs : cs = (flatF l).toArray) : fieldsIn (w.alloc (.cells cs 102)) B (.slice (some ⟨w.heap.size, 0, none⟩) l.length l.length) l := by
  subst hcs
  have hf := flat_len l
  exact ⟨hf, .inr ⟨w.heap.size, l.length, (flatF l).toArray, rfl, h, by show (w.heap.push _)[w.heap.size]? = _; simp, Nat.le_refl _, by unfold maxLen; omega, by simp; omega, by simp [List.take_of_length_le, hf]⟩⟩

set_option maxRecDepth 20000 in
set_option maxHeartbeats 1600000 in
theorem body_any (cb : Nat) (v : Value) (n N : Nat) (w : World) (hC : Cursor w cb v n N) (hN : N ≤ 600000000) :
    Calls Tryz.prog 96 #[.pointer (some ⟨cb, 0, none⟩)] w fun e w' => ∃ (s : ByteArray) (r : Value) (l : List (ByteArray × ByteArray)), e = .returned (.tuple #[.string s, r]) ∧ s.size ≤ 5 ∧ l.length ≤ 2 ∧ (∀ c ∈ l, c.1.size ≤ 20 ∧ c.2.size ≤ 20) ∧ fieldsIn w' w.heap.size r l ∧ Cursor w' cb v n (N + 20) ∧ But cb w w' := by
  have hcb : cb < w.heap.size := hC.2.2.1
  have HC0 : Hid _ := hC
  clear hC
  go_enter Tryz.func96, Tryz.ntmps96
  go_wp2_with fail
  refine (of_new2 (fun x => x.size ≤ 5) [⟨#[]⟩, ⟨#[]⟩, ⟨#[104, 101, 108, 108, 111]⟩, ⟨#[120]⟩, ⟨#[13, 10, 13, 10]⟩] (by decide) 5 rfl (by omega) (by omega) cb v n _ _ HC0.out (by omega)).mono ?_
  rintro e w1 ⟨s, rfl, hs, hC1, hb1⟩
  have HC1 : Hid _ := hC1
  have HB1 : Hid _ := hb1
  clear hC1 hb1 HC0
  by_cases h0 : s.size = 0
  · have he : s = ⟨#[]⟩ := by
      apply ByteArray.ext
      exact Array.eq_empty_of_size_eq_zero h0
    subst he
    go_wp2_with fail
    refine (one_at 2 _ rfl cb v n _ _ HC1.out (by omega) (by omega) (by omega)).mono ?_
    rintro e w2 ⟨b, rfl, hC2, hb2⟩
    have HC2 : Hid _ := hC2
    have HB2 : Hid _ := But.trans HB1.out hb2
    clear HC1 HB1 hC2 hb2
    cases b
    · go_wp2_with fail
      refine (of_new2 (fun x => x.size ≤ 20) [⟨#[67, 111, 110, 116, 101, 110, 116, 45, 76, 101, 110, 103, 116, 104]⟩, ⟨#[99, 111, 110, 116, 101, 110, 116, 45, 108, 101, 110, 103, 116, 104]⟩] (by decide) 2 rfl (by omega) (by omega) cb v n _ _ HC2.out (by omega)).mono ?_
      rintro e w3 ⟨y, rfl, hy, hC3, hb3⟩
      have HC3 : Hid _ := hC3
      have HB3 : Hid _ := But.trans HB2.out hb3
      clear HC2 HB2 hC3 hb3
      have hnz := Num.num_size_le 0 0 (by omega)
      have HN : Hid (∀ w, Calls Tryz.prog 94 #[.int .i64 0] w fun e w' => e = .returned (.string (Num.num 0)) ∧ Below w.heap.size w w') := fun w => Num.num_any 0 0 w (by omega) (by omega)
      generalize Num.num 0 = d at HN hnz
      go_wp2_with fail
      refine (HN.out _).mono ?_
      rintro e w4 ⟨rfl, hb4⟩
      have hs4 : w.heap.size ≤ w4.heap.size := Nat.le_trans HB3.out.2.2.2.1 hb4.size
      have HC4 : Hid (Cursor (w4.alloc (.cells #[.string y, .string d] 102)) cb v n (N + 6)) := Cursor.below (Cursor.mono (Cursor.below HC3.out hb4) (by omega)) ((Below.refl _ _).alloc (Nat.le_refl _) _)
      have HF4 : Hid (FC (w4.alloc (.cells #[.string y, .string d] 102)) w4.heap.size) := FC.made w4 y d 102 hy (by omega)
      have HB4 : Hid (But cb w (w4.alloc (.cells #[.string y, .string d] 102))) := But.then (But.then HB3.out (hb4.mono HB3.out.2.2.2.1)) ((Below.refl w.heap.size w4).alloc hs4 _)
      clear HC3 HB3 hb4 HN
      go_wp2_with fail
      refine (pick_at 30 _ rfl cb v n _ _ HC4.out (by omega) (by omega) (by omega)).mono ?_
      rintro e w5 ⟨k, rfl, hk, hC5, hb5⟩
      have HF5 : Hid _ := FC.but HF4.out hb5 (by omega)
      have HC5 : Hid _ := hC5
      have HB5 : Hid _ := But.trans HB4.out hb5
      clear HC4 HF4 HB4 hC5 hb5
      by_cases k0 : k = 0
      · subst k0
        go_wp2_with fail
        refine (of_new2 (fun x => x.size ≤ 20) [⟨#[53, 44, 32, 53]⟩, ⟨#[48, 53]⟩, ⟨#[120]⟩, ⟨#[51, 48, 49]⟩, ⟨#[53, 44, 32, 54]⟩] (by decide) 5 rfl (by omega) (by omega) cb v n _ _ HC5.out (by omega)).mono ?_
        rintro e w6 ⟨q, rfl, hq, hC6, hb6⟩
        have hF6 := FC.but HF5.out hb6 (by omega)
        have HC7 : Hid (Cursor (w6.setCell ⟨w4.heap.size, 1, none⟩ (.string q)) cb v n (N + 10)) := Cursor.set (Cursor.mono hC6 (by omega)) (by omega) _
        have HF7 : Hid (FC (w6.setCell ⟨w4.heap.size, 1, none⟩ (.string q)) w4.heap.size) := FC.s1 hF6 q hq
        have HB7 : Hid (But cb w (w6.setCell ⟨w4.heap.size, 1, none⟩ (.string q))) := But.then (But.trans HB5.out hb6) ((Below.refl w.heap.size w6).setCell (by show w.heap.size ≤ w4.heap.size; omega) _)
        obtain ⟨f1, f2, X6, z6, _, _, k1, k2⟩ := hF6
        clear hC6 hb6 HF5 HC5 HB5
        generalize hw7 : w6.setCell ⟨w4.heap.size, 1, none⟩ (.string q) = w7 at HC7 HF7 HB7
        obtain ⟨g1, g2, X, z, eX, ez, kx, kz⟩ := HF7.out
        have hsz7 : w.heap.size ≤ w7.heap.size := HB7.out.2.2.2.1
        have FM := fields_made w7 w.heap.size [(X, z)] hsz7 (by simp) #[.string X, .string z] rfl
        have hbe : But cb w (w7.alloc (.cells #[.string X, .string z] 102)) := But.then HB7.out ((Below.refl w.heap.size w7).alloc hsz7 _)
        have hce : Cursor (w7.alloc (.cells #[.string X, .string z] 102)) cb v n (N + 20) := Cursor.below (Cursor.mono HC7.out (by omega)) ((Below.refl _ _).alloc (Nat.le_refl _) _)
        have FM2 : fieldsIn (w7.alloc (.cells #[.string X, .string z] 102)).drew w.heap.size (.slice (some ⟨w7.heap.size, 0, none⟩) [(X, z)].length [(X, z)].length) [(X, z)] := FM
        have hbe2 : But cb w (w7.alloc (.cells #[.string X, .string z] 102)).drew := hbe
        have hce2 : Cursor (w7.alloc (.cells #[.string X, .string z] 102)).drew cb v n (N + 20) := hce
        clear HF7 HB7 HC7 FM hbe hce
        go_wp2_with fail
        go_region
        go_wp2_with fail
        go_ret2
        exact ⟨⟨#[]⟩, _, [(X, z)], rfl, by decide, by simp, by simp; exact ⟨eX, ez⟩, FM2, hce2, hbe2⟩
      by_cases k1 : k = 1
      · subst k1
        obtain ⟨g1, g2, X, z, eX, ez, kx, kz⟩ := HF5.out
        have hsz5 : w.heap.size ≤ w5.heap.size := HB5.out.2.2.2.1
        have FM := fields_made w5 w.heap.size [(X, z), (X, z)] hsz5 (by simp) #[.string X, .string z, .string X, .string z] rfl
        have hbe : But cb w (w5.alloc (.cells #[.string X, .string z, .string X, .string z] 102)) := But.then HB5.out ((Below.refl w.heap.size w5).alloc hsz5 _)
        have hce : Cursor (w5.alloc (.cells #[.string X, .string z, .string X, .string z] 102)) cb v n (N + 20) := Cursor.below (Cursor.mono HC5.out (by omega)) ((Below.refl _ _).alloc (Nat.le_refl _) _)
        have FM2 : fieldsIn (w5.alloc (.cells #[.string X, .string z, .string X, .string z] 102)).drew w.heap.size (.slice (some ⟨w5.heap.size, 0, none⟩) [(X, z), (X, z)].length [(X, z), (X, z)].length) [(X, z), (X, z)] := FM
        have hbe2 : But cb w (w5.alloc (.cells #[.string X, .string z, .string X, .string z] 102)).drew := hbe
        have hce2 : Cursor (w5.alloc (.cells #[.string X, .string z, .string X, .string z] 102)).drew cb v n (N + 20) := hce
        clear HF5 HB5 HC5 FM hbe hce
        go_wp2_with fail
        go_region
        go_wp2_with fail
        go_ret2
        exact ⟨⟨#[]⟩, _, [(X, z), (X, z)], rfl, by decide, by simp, by simp; exact ⟨eX, ez⟩, FM2, hce2, hbe2⟩
      have d0 : ((k : Int) == 0) = false := by simp; omega
      have d1 : ((k : Int) == 1) = false := by simp; omega
      obtain ⟨g1, g2, X, z, eX, ez, kx, kz⟩ := HF5.out
      have hsz5 : w.heap.size ≤ w5.heap.size := HB5.out.2.2.2.1
      have FM := fields_made w5 w.heap.size [(X, z)] hsz5 (by simp) #[.string X, .string z] rfl
      have hbe : But cb w (w5.alloc (.cells #[.string X, .string z] 102)) := But.then HB5.out ((Below.refl w.heap.size w5).alloc hsz5 _)
      have hce : Cursor (w5.alloc (.cells #[.string X, .string z] 102)) cb v n (N + 20) := Cursor.below (Cursor.mono HC5.out (by omega)) ((Below.refl _ _).alloc (Nat.le_refl _) _)
      have FM2 : fieldsIn (w5.alloc (.cells #[.string X, .string z] 102)).drew w.heap.size (.slice (some ⟨w5.heap.size, 0, none⟩) [(X, z)].length [(X, z)].length) [(X, z)] := FM
      have hbe2 : But cb w (w5.alloc (.cells #[.string X, .string z] 102)).drew := hbe
      have hce2 : Cursor (w5.alloc (.cells #[.string X, .string z] 102)).drew cb v n (N + 20) := hce
      clear HF5 HB5 HC5 FM hbe hce
      go_wp2_with fail
      go_region
      go_wp2_with fail
      go_ret2
      exact ⟨⟨#[]⟩, _, [(X, z)], rfl, by decide, by simp, by simp; exact ⟨eX, ez⟩, FM2, hce2, hbe2⟩
    · go_wp2_with fail
      go_ret2
      exact ⟨⟨#[]⟩, _, [], rfl, by decide, by simp, fun c hc => (by cases hc), World.ownsRow_nil _ _ _ _, Cursor.mono HC2.out (by omega), HB2.out⟩
  · have hne : s.toList.isEmpty = false := by
      rw [ByteArray.toList_eq]
      cases hp : s.data.toList with
      | nil =>
        have : s.data.toList.length = s.size := by simp
        rw [hp] at this; simp at this; omega
      | cons c r => rfl
    go_wp2_with fail
    refine (of_new2 (fun x => x.size ≤ 20) [⟨#[67, 111, 110, 116, 101, 110, 116, 45, 76, 101, 110, 103, 116, 104]⟩, ⟨#[99, 111, 110, 116, 101, 110, 116, 45, 108, 101, 110, 103, 116, 104]⟩] (by decide) 2 rfl (by omega) (by omega) cb v n _ _ HC1.out (by omega)).mono ?_
    rintro e w3 ⟨y, rfl, hy, hC3, hb3⟩
    have HC3 : Hid _ := hC3
    have HB3 : Hid _ := But.trans HB1.out hb3
    clear HC1 HB1 hC3 hb3
    have hnz := Num.num_size_le 0 s.size (by omega)
    have HN : Hid (∀ w, Calls Tryz.prog 94 #[.int .i64 (s.size : Int)] w fun e w' => e = .returned (.string (Num.num s.size)) ∧ Below w.heap.size w w') := fun w => Num.num_any 0 s.size w (by omega) (by omega)
    generalize Num.num s.size = d at HN hnz
    go_wp2_with fail
    refine (HN.out _).mono ?_
    rintro e w4 ⟨rfl, hb4⟩
    have hs4 : w.heap.size ≤ w4.heap.size := Nat.le_trans HB3.out.2.2.2.1 hb4.size
    have HC4 : Hid (Cursor (w4.alloc (.cells #[.string y, .string d] 102)) cb v n (N + 6)) := Cursor.below (Cursor.mono (Cursor.below HC3.out hb4) (by omega)) ((Below.refl _ _).alloc (Nat.le_refl _) _)
    have HF4 : Hid (FC (w4.alloc (.cells #[.string y, .string d] 102)) w4.heap.size) := FC.made w4 y d 102 hy (by omega)
    have HB4 : Hid (But cb w (w4.alloc (.cells #[.string y, .string d] 102))) := But.then (But.then HB3.out (hb4.mono HB3.out.2.2.2.1)) ((Below.refl w.heap.size w4).alloc hs4 _)
    clear HC3 HB3 hb4 HN
    go_wp2_with fail
    refine (pick_at 30 _ rfl cb v n _ _ HC4.out (by omega) (by omega) (by omega)).mono ?_
    rintro e w5 ⟨k, rfl, hk, hC5, hb5⟩
    have HF5 : Hid _ := FC.but HF4.out hb5 (by omega)
    have HC5 : Hid _ := hC5
    have HB5 : Hid _ := But.trans HB4.out hb5
    clear HC4 HF4 HB4 hC5 hb5
    by_cases k0 : k = 0
    · subst k0
      go_wp2_with fail
      refine (of_new2 (fun x => x.size ≤ 20) [⟨#[53, 44, 32, 53]⟩, ⟨#[48, 53]⟩, ⟨#[120]⟩, ⟨#[51, 48, 49]⟩, ⟨#[53, 44, 32, 54]⟩] (by decide) 5 rfl (by omega) (by omega) cb v n _ _ HC5.out (by omega)).mono ?_
      rintro e w6 ⟨q, rfl, hq, hC6, hb6⟩
      have hF6 := FC.but HF5.out hb6 (by omega)
      have HC7 : Hid (Cursor (w6.setCell ⟨w4.heap.size, 1, none⟩ (.string q)) cb v n (N + 10)) := Cursor.set (Cursor.mono hC6 (by omega)) (by omega) _
      have HF7 : Hid (FC (w6.setCell ⟨w4.heap.size, 1, none⟩ (.string q)) w4.heap.size) := FC.s1 hF6 q hq
      have HB7 : Hid (But cb w (w6.setCell ⟨w4.heap.size, 1, none⟩ (.string q))) := But.then (But.trans HB5.out hb6) ((Below.refl w.heap.size w6).setCell (by show w.heap.size ≤ w4.heap.size; omega) _)
      obtain ⟨f1, f2, X6, z6, _, _, k1, k2⟩ := hF6
      clear hC6 hb6 HF5 HC5 HB5
      generalize hw7 : w6.setCell ⟨w4.heap.size, 1, none⟩ (.string q) = w7 at HC7 HF7 HB7
      obtain ⟨g1, g2, X, z, eX, ez, kx, kz⟩ := HF7.out
      have hsz7 : w.heap.size ≤ w7.heap.size := HB7.out.2.2.2.1
      have FM := fields_made w7 w.heap.size [(X, z)] hsz7 (by simp) #[.string X, .string z] rfl
      have hbe : But cb w (w7.alloc (.cells #[.string X, .string z] 102)) := But.then HB7.out ((Below.refl w.heap.size w7).alloc hsz7 _)
      have hce : Cursor (w7.alloc (.cells #[.string X, .string z] 102)) cb v n (N + 20) := Cursor.below (Cursor.mono HC7.out (by omega)) ((Below.refl _ _).alloc (Nat.le_refl _) _)
      have FM2 : fieldsIn (w7.alloc (.cells #[.string X, .string z] 102)).drew w.heap.size (.slice (some ⟨w7.heap.size, 0, none⟩) [(X, z)].length [(X, z)].length) [(X, z)] := FM
      have hbe2 : But cb w (w7.alloc (.cells #[.string X, .string z] 102)).drew := hbe
      have hce2 : Cursor (w7.alloc (.cells #[.string X, .string z] 102)).drew cb v n (N + 20) := hce
      clear HF7 HB7 HC7 FM hbe hce
      go_wp2_with fail
      go_region
      go_wp2_with fail
      go_ret2
      exact ⟨s, _, [(X, z)], rfl, hs, by simp, by simp; exact ⟨eX, ez⟩, FM2, hce2, hbe2⟩
    by_cases k1 : k = 1
    · subst k1
      obtain ⟨g1, g2, X, z, eX, ez, kx, kz⟩ := HF5.out
      have hsz5 : w.heap.size ≤ w5.heap.size := HB5.out.2.2.2.1
      have FM := fields_made w5 w.heap.size [(X, z), (X, z)] hsz5 (by simp) #[.string X, .string z, .string X, .string z] rfl
      have hbe : But cb w (w5.alloc (.cells #[.string X, .string z, .string X, .string z] 102)) := But.then HB5.out ((Below.refl w.heap.size w5).alloc hsz5 _)
      have hce : Cursor (w5.alloc (.cells #[.string X, .string z, .string X, .string z] 102)) cb v n (N + 20) := Cursor.below (Cursor.mono HC5.out (by omega)) ((Below.refl _ _).alloc (Nat.le_refl _) _)
      have FM2 : fieldsIn (w5.alloc (.cells #[.string X, .string z, .string X, .string z] 102)).drew w.heap.size (.slice (some ⟨w5.heap.size, 0, none⟩) [(X, z), (X, z)].length [(X, z), (X, z)].length) [(X, z), (X, z)] := FM
      have hbe2 : But cb w (w5.alloc (.cells #[.string X, .string z, .string X, .string z] 102)).drew := hbe
      have hce2 : Cursor (w5.alloc (.cells #[.string X, .string z, .string X, .string z] 102)).drew cb v n (N + 20) := hce
      clear HF5 HB5 HC5 FM hbe hce
      go_wp2_with fail
      go_region
      go_wp2_with fail
      go_ret2
      exact ⟨s, _, [(X, z), (X, z)], rfl, hs, by simp, by simp; exact ⟨eX, ez⟩, FM2, hce2, hbe2⟩
    have d0 : ((k : Int) == 0) = false := by simp; omega
    have d1 : ((k : Int) == 1) = false := by simp; omega
    obtain ⟨g1, g2, X, z, eX, ez, kx, kz⟩ := HF5.out
    have hsz5 : w.heap.size ≤ w5.heap.size := HB5.out.2.2.2.1
    have FM := fields_made w5 w.heap.size [(X, z)] hsz5 (by simp) #[.string X, .string z] rfl
    have hbe : But cb w (w5.alloc (.cells #[.string X, .string z] 102)) := But.then HB5.out ((Below.refl w.heap.size w5).alloc hsz5 _)
    have hce : Cursor (w5.alloc (.cells #[.string X, .string z] 102)) cb v n (N + 20) := Cursor.below (Cursor.mono HC5.out (by omega)) ((Below.refl _ _).alloc (Nat.le_refl _) _)
    have FM2 : fieldsIn (w5.alloc (.cells #[.string X, .string z] 102)).drew w.heap.size (.slice (some ⟨w5.heap.size, 0, none⟩) [(X, z)].length [(X, z)].length) [(X, z)] := FM
    have hbe2 : But cb w (w5.alloc (.cells #[.string X, .string z] 102)).drew := hbe
    have hce2 : Cursor (w5.alloc (.cells #[.string X, .string z] 102)).drew cb v n (N + 20) := hce
    clear HF5 HB5 HC5 FM hbe hce
    go_wp2_with fail
    go_region
    go_wp2_with fail
    go_ret2
    exact ⟨s, _, [(X, z)], rfl, hs, by simp, by simp; exact ⟨eX, ez⟩, FM2, hce2, hbe2⟩

end Go.Proofs.YtaplkbkpgdpbaaaGreatDoor.Cur
