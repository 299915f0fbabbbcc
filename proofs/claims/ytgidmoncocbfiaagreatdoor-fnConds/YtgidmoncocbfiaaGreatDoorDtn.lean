/-
  Walk: draws: (*l1Cur).condFields. (tools/gen_dtn.py)
-/
import Derived.Test.YtgidmoncocbfiaaGreatDoorMg21
import Derived.Test.YtgidmoncocbfiaaGreatDoorDtl
import Derived.Test.YtgidmoncocbfiaaGreatDoorMg22
namespace Go.Proofs.YtgidmoncocbfiaaGreatDoor.Cur
open Go.RowKit
open Go.Proofs.YtgidmoncocbfiaaGreatDoor.Own
open Go.Proofs.YtgidmoncocbfiaaGreatDoor.Fdb (fieldsIn fieldsIn.below wpList_append_field FV fv_of RowF)

set_option maxRecDepth 20000 in
set_option maxHeartbeats 6400000 in
theorem condFields_any (cb : Nat) (v : Value) (n N : Nat) (w : World) (hC : Cursor w cb v n N) (hN : N ≤ 600000000) :
    Calls Tryz.prog 19 #[.pointer (some ⟨cb, 0, none⟩)] w fun e w' => ∃ (r : Value) (l : List (ByteArray × ByteArray)), e = .returned r ∧ l.length ≤ 3 ∧ (∀ c ∈ l, c.1.size ≤ 19 ∧ DVe c.2) ∧ fieldsIn w' w.heap.size r l ∧ Cursor w' cb v n (N + 200) ∧ But cb w w' := by
  have hcb : cb < w.heap.size := hC.2.2.1
  have HC0 : Hid _ := hC
  clear hC
  go_enter Tryz.func19, Tryz.ntmps19
  go_wp2_with fail
  refine (pick_at 4 _ rfl cb v n _ _ HC0.out (by omega) (by omega) (by omega)).mono ?_
  rintro e wa ⟨x1, rfl, hx1, hC1, hb1⟩
  have HCa : Hid _ := hC1
  have HBa : Hid _ := hb1
  clear hC1 hb1 HC0
  go_wp2_with fail
  go_loopw [3, 4] (fun lv nv wr => ∃ (m : Nat) (l : List (ByteArray × ByteArray)), nv = .int .i64 m ∧ l.length + m = x1 ∧ (∀ c ∈ l, c.1.size ≤ 19 ∧ DVe c.2) ∧ fieldsIn wr w.heap.size lv l ∧ Hid (Cursor wr cb v n (N + 2 + 50 * l.length)) ∧ Hid (But cb w wr)) (fun _ nv _ => (intOf nv).toNat)
  case atStart => exact ⟨x1, [], rfl, by simp, fun c hc => (by cases hc), World.ownsRow_nil _ _ _ _, Cursor.mono HCa.out (by simp), HBa⟩
  case round =>

    obtain ⟨m, l, rfl, hl, hz, hown0, HC0, HB0⟩ := hrel
    clear HCa HBa
    by_cases h0 : 0 < m
    · go_wp2_with fail
      refine (of_new2 (fun x => x.size ≤ 19) [⟨#[73, 102, 45, 77, 97, 116, 99, 104]⟩, ⟨#[73, 102, 45, 78, 111, 110, 101, 45, 77, 97, 116, 99, 104]⟩, ⟨#[73, 102, 45, 77, 111, 100, 105, 102, 105, 101, 100, 45, 83, 105, 110, 99, 101]⟩, ⟨#[73, 102, 45, 85, 110, 109, 111, 100, 105, 102, 105, 101, 100, 45, 83, 105, 110, 99, 101]⟩, ⟨#[73, 102, 45, 82, 97, 110, 103, 101]⟩, ⟨#[105, 102, 45, 110, 111, 110, 101, 45, 109, 97, 116, 99, 104]⟩] (by decide) 6 rfl (by omega) (by omega) cb v n _ wr HC0.out (by omega)).mono ?_
      rintro e w1 ⟨X, rfl, hX, hC1, hb1⟩
      have hown1 := fields_but hown0 hb1 hcb
      have HC1 : Hid (Cursor w1 cb v n (N + 2 + 50 * l.length + 2)) := Cursor.mono hC1 (by omega)
      have HB1 : Hid (But cb w w1) := But.trans HB0.out hb1
      clear hC1 hb1 HC0 HB0 hown0
      go_wp2_with fail
      refine (tag_clean cb v n _ _ HC1.out (by omega)).mono ?_
      rintro e w2 ⟨k1, T1, rfl, hT1, hC2, hb2⟩
      have hown2 := fields_but hown1 hb2 hcb
      have HC2 : Hid (Cursor w2 cb v n (N + 2 + 50 * l.length + 12)) := Cursor.mono hC2 (by omega)
      have HB2 : Hid (But cb w w2) := But.trans HB1.out hb2
      clear hC2 hb2 HC1 HB1 hown1
      have HL1 : Hid _ := fun wx => Tga.l7Text_any k1 T1 wx (by have := (clean_parts hT1).1; omega)
      go_wp2_with fail
      refine (HL1.out _).mono ?_
      rintro e w3 ⟨rfl, hb3⟩
      have hown3 := fieldsIn.below hown2 hb3
      have HC3 : Hid (Cursor w3 cb v n (N + 2 + 50 * l.length + 12)) := Cursor.below HC2.out hb3
      have HB3 : Hid (But cb w w3) := But.then HB2.out (hb3.mono HB2.out.2.2.2.1)
      clear hb3 HC2 HB2 hown2
      clear HL1
      go_wp2_with fail
      refine (one_at 3 _ rfl cb v n _ _ HC3.out (by omega) (by omega) (by omega)).mono ?_
      rintro e w4 ⟨b7, rfl, hC4, hb4⟩
      have hown4 := fields_but hown3 hb4 hcb
      have HC4 : Hid (Cursor w4 cb v n (N + 2 + 50 * l.length + 14)) := Cursor.mono hC4 (by omega)
      have HB4 : Hid (But cb w w4) := But.trans HB3.out hb4
      clear hC4 hb4 HC3 HB3 hown3
      cases b7
      · have hzz := dve_tag k1 hT1
        generalize Tga.tagT k1 T1 = z at hzz ⊢
        clear hT1
        by_cases hlong : 13 < X.size
        · have hlg : decide ((13 : Int) < (X.size : Int)) = true := decide_eq_true (by omega)
          go_wp2_with fail
          refine (pick_at 4 _ rfl cb v n _ _ HC4.out (by omega) (by omega) (by omega)).mono ?_
          rintro e w5 ⟨x, rfl, hx, hC5, hb5⟩
          have hown5 := fields_but hown4 hb5 hcb
          have HC5 : Hid (Cursor w5 cb v n (N + 2 + 50 * l.length + 38)) := Cursor.mono hC5 (by omega)
          have HB5 : Hid (But cb w w5) := But.trans HB4.out hb5
          clear hC5 hb5 HC4 HB4 hown4
          have H86 : (86400 : Int) * (x : Int) ≤ 345600 := by omega
          have H0 : 0 ≤ (86400 : Int) * (x : Int) := by omega
          obtain ⟨A, D, hA, hD, hDe⟩ := date_four x hx
          have HAt : Hid _ := hA
          have HDt : Hid _ := hD
          clear hA hD
          go_wp2_with fail
          refine (HAt.out _).mono ?_
          rintro e w6 ⟨rfl, hb6⟩
          have hown6 := fieldsIn.below hown5 hb6
          have HC6 : Hid (Cursor w6 cb v n (N + 2 + 50 * l.length + 38)) := Cursor.below HC5.out hb6
          have HB6 : Hid (But cb w w6) := But.then HB5.out (hb6.mono HB5.out.2.2.2.1)
          clear hb6 HC5 HB5 hown5
          go_wp2_with fail
          refine (HDt.out _).mono ?_
          rintro e w7 ⟨rfl, hb7⟩
          have hown7 := fieldsIn.below hown6 hb7
          have HC7 : Hid (Cursor w7 cb v n (N + 2 + 50 * l.length + 38)) := Cursor.below HC6.out hb7
          have HB7 : Hid (But cb w w7) := But.then HB6.out (hb7.mono HB6.out.2.2.2.1)
          clear hb7 HC6 HB6 hown6
          clear hzz H86 H0 hx HAt HDt
          have hzz := hDe
          clear hDe
          generalize D = z at hzz ⊢
          go_wp2_with fail
          refine (one_at 6 _ rfl cb v n _ _ HC7.out (by omega) (by omega) (by omega)).mono ?_
          rintro e w8 ⟨b9, rfl, hC8, hb8⟩
          have hown8 := fields_but hown7 hb8 hcb
          have HC8 : Hid (Cursor w8 cb v n (N + 2 + 50 * l.length + 40)) := Cursor.mono hC8 (by omega)
          have HB8 : Hid (But cb w w8) := But.trans HB7.out hb8
          clear hC8 hb8 HC7 HB7 hown7
          cases b9
          · have hs8 : w.heap.size ≤ w8.heap.size := HB8.out.2.2.2.1
            have hz' : ∀ c ∈ l ++ [(X, z)], c.1.size ≤ 19 ∧ DVe c.2 := by
              intro c hc
              rcases List.mem_append.1 hc with hc | hc
              · exact hz c hc
              · rw [List.mem_singleton.1 hc]; exact ⟨hX, hzz⟩
            clear hz
            go_wp2_with (at_builtin; refine wpList_append_field w8 rfl _ _ rfl w.heap.size _ l (by rfl) hown8 _ _ _ rfl ?q3 hs8 w.heap.size (Nat.le_refl _) w8 (Below.refl _ _) ?_)
            case q3 => omega
            intro v' w99 hown' hbel'
            have HC99 : Hid _ := Cursor.belowB HC8.out hcb hbel'
            have HB99 : Hid _ := But.then HB8.out hbel'
            clear hown8 HC8 HB8 hbel'
            go_wp2_with fail
            go_roundw
            case rel => exact ⟨m - 1, _, by go_num, by simp; omega, hz', hown', Cursor.mono HC99.out (by simp; omega), HB99⟩
            case measure => simp [intOf]; omega
          · go_wp2_with fail
            refine (of_new2 DVe [⟨#[42]⟩, ⟨#[120]⟩, ⟨#[42, 44, 32, 34, 97, 34]⟩, ⟨#[]⟩] dve_lits 4 rfl (by omega) (by omega) cb v n _ w8 HC8.out (by omega)).mono ?_
            rintro e w9 ⟨z2, rfl, hz2, hC9, hb9⟩
            have hown9 := fields_but hown8 hb9 hcb
            have HC9 : Hid (Cursor w9 cb v n (N + 2 + 50 * l.length + 45)) := Cursor.mono hC9 (by omega)
            have HB9 : Hid (But cb w w9) := But.trans HB8.out hb9
            clear hC9 hb9 HC8 HB8 hown8
            clear hzz
            have hzz := hz2
            have hs9 : w.heap.size ≤ w9.heap.size := HB9.out.2.2.2.1
            have hz' : ∀ c ∈ l ++ [(X, z2)], c.1.size ≤ 19 ∧ DVe c.2 := by
              intro c hc
              rcases List.mem_append.1 hc with hc | hc
              · exact hz c hc
              · rw [List.mem_singleton.1 hc]; exact ⟨hX, hzz⟩
            clear hz
            go_wp2_with (at_builtin; refine wpList_append_field w9 rfl _ _ rfl w.heap.size _ l (by rfl) hown9 _ _ _ rfl ?q3 hs9 w.heap.size (Nat.le_refl _) w9 (Below.refl _ _) ?_)
            case q3 => omega
            intro v' w99 hown' hbel'
            have HC99 : Hid _ := Cursor.belowB HC9.out hcb hbel'
            have HB99 : Hid _ := But.then HB9.out hbel'
            clear hown9 HC9 HB9 hbel'
            go_wp2_with fail
            go_roundw
            case rel => exact ⟨m - 1, _, by go_num, by simp; omega, hz', hown', Cursor.mono HC99.out (by simp; omega), HB99⟩
            case measure => simp [intOf]; omega
        · have hlg : decide ((13 : Int) < (X.size : Int)) = false := decide_eq_false (by omega)
          go_wp2_with fail
          refine (one_at 6 _ rfl cb v n _ _ HC4.out (by omega) (by omega) (by omega)).mono ?_
          rintro e w5 ⟨b8, rfl, hC5, hb5⟩
          have hown5 := fields_but hown4 hb5 hcb
          have HC5 : Hid (Cursor w5 cb v n (N + 2 + 50 * l.length + 36)) := Cursor.mono hC5 (by omega)
          have HB5 : Hid (But cb w w5) := But.trans HB4.out hb5
          clear hC5 hb5 HC4 HB4 hown4
          cases b8
          · go_wp2_with fail
            refine (one_at 6 _ rfl cb v n _ _ HC5.out (by omega) (by omega) (by omega)).mono ?_
            rintro e w6 ⟨b9, rfl, hC6, hb6⟩
            have hown6 := fields_but hown5 hb6 hcb
            have HC6 : Hid (Cursor w6 cb v n (N + 2 + 50 * l.length + 40)) := Cursor.mono hC6 (by omega)
            have HB6 : Hid (But cb w w6) := But.trans HB5.out hb6
            clear hC6 hb6 HC5 HB5 hown5
            cases b9
            · have hs6 : w.heap.size ≤ w6.heap.size := HB6.out.2.2.2.1
              have hz' : ∀ c ∈ l ++ [(X, z)], c.1.size ≤ 19 ∧ DVe c.2 := by
                intro c hc
                rcases List.mem_append.1 hc with hc | hc
                · exact hz c hc
                · rw [List.mem_singleton.1 hc]; exact ⟨hX, hzz⟩
              clear hz
              go_wp2_with (at_builtin; refine wpList_append_field w6 rfl _ _ rfl w.heap.size _ l (by rfl) hown6 _ _ _ rfl ?q3 hs6 w.heap.size (Nat.le_refl _) w6 (Below.refl _ _) ?_)
              case q3 => omega
              intro v' w99 hown' hbel'
              have HC99 : Hid _ := Cursor.belowB HC6.out hcb hbel'
              have HB99 : Hid _ := But.then HB6.out hbel'
              clear hown6 HC6 HB6 hbel'
              go_wp2_with fail
              go_roundw
              case rel => exact ⟨m - 1, _, by go_num, by simp; omega, hz', hown', Cursor.mono HC99.out (by simp; omega), HB99⟩
              case measure => simp [intOf]; omega
            · go_wp2_with fail
              refine (of_new2 DVe [⟨#[42]⟩, ⟨#[120]⟩, ⟨#[42, 44, 32, 34, 97, 34]⟩, ⟨#[]⟩] dve_lits 4 rfl (by omega) (by omega) cb v n _ w6 HC6.out (by omega)).mono ?_
              rintro e w7 ⟨z2, rfl, hz2, hC7, hb7⟩
              have hown7 := fields_but hown6 hb7 hcb
              have HC7 : Hid (Cursor w7 cb v n (N + 2 + 50 * l.length + 45)) := Cursor.mono hC7 (by omega)
              have HB7 : Hid (But cb w w7) := But.trans HB6.out hb7
              clear hC7 hb7 HC6 HB6 hown6
              clear hzz
              have hzz := hz2
              have hs7 : w.heap.size ≤ w7.heap.size := HB7.out.2.2.2.1
              have hz' : ∀ c ∈ l ++ [(X, z2)], c.1.size ≤ 19 ∧ DVe c.2 := by
                intro c hc
                rcases List.mem_append.1 hc with hc | hc
                · exact hz c hc
                · rw [List.mem_singleton.1 hc]; exact ⟨hX, hzz⟩
              clear hz
              go_wp2_with (at_builtin; refine wpList_append_field w7 rfl _ _ rfl w.heap.size _ l (by rfl) hown7 _ _ _ rfl ?q3 hs7 w.heap.size (Nat.le_refl _) w7 (Below.refl _ _) ?_)
              case q3 => omega
              intro v' w99 hown' hbel'
              have HC99 : Hid _ := Cursor.belowB HC7.out hcb hbel'
              have HB99 : Hid _ := But.then HB7.out hbel'
              clear hown7 HC7 HB7 hbel'
              go_wp2_with fail
              go_roundw
              case rel => exact ⟨m - 1, _, by go_num, by simp; omega, hz', hown', Cursor.mono HC99.out (by simp; omega), HB99⟩
              case measure => simp [intOf]; omega
          · go_wp2_with fail
            refine (pick_at 4 _ rfl cb v n _ _ HC5.out (by omega) (by omega) (by omega)).mono ?_
            rintro e w6 ⟨x, rfl, hx, hC6, hb6⟩
            have hown6 := fields_but hown5 hb6 hcb
            have HC6 : Hid (Cursor w6 cb v n (N + 2 + 50 * l.length + 38)) := Cursor.mono hC6 (by omega)
            have HB6 : Hid (But cb w w6) := But.trans HB5.out hb6
            clear hC6 hb6 HC5 HB5 hown5
            have H86 : (86400 : Int) * (x : Int) ≤ 345600 := by omega
            have H0 : 0 ≤ (86400 : Int) * (x : Int) := by omega
            obtain ⟨A, D, hA, hD, hDe⟩ := date_four x hx
            have HAt : Hid _ := hA
            have HDt : Hid _ := hD
            clear hA hD
            go_wp2_with fail
            refine (HAt.out _).mono ?_
            rintro e w7 ⟨rfl, hb7⟩
            have hown7 := fieldsIn.below hown6 hb7
            have HC7 : Hid (Cursor w7 cb v n (N + 2 + 50 * l.length + 38)) := Cursor.below HC6.out hb7
            have HB7 : Hid (But cb w w7) := But.then HB6.out (hb7.mono HB6.out.2.2.2.1)
            clear hb7 HC6 HB6 hown6
            go_wp2_with fail
            refine (HDt.out _).mono ?_
            rintro e w8 ⟨rfl, hb8⟩
            have hown8 := fieldsIn.below hown7 hb8
            have HC8 : Hid (Cursor w8 cb v n (N + 2 + 50 * l.length + 38)) := Cursor.below HC7.out hb8
            have HB8 : Hid (But cb w w8) := But.then HB7.out (hb8.mono HB7.out.2.2.2.1)
            clear hb8 HC7 HB7 hown7
            clear hzz H86 H0 hx HAt HDt
            have hzz := hDe
            clear hDe
            generalize D = z at hzz ⊢
            go_wp2_with fail
            refine (one_at 6 _ rfl cb v n _ _ HC8.out (by omega) (by omega) (by omega)).mono ?_
            rintro e w9 ⟨b9, rfl, hC9, hb9⟩
            have hown9 := fields_but hown8 hb9 hcb
            have HC9 : Hid (Cursor w9 cb v n (N + 2 + 50 * l.length + 40)) := Cursor.mono hC9 (by omega)
            have HB9 : Hid (But cb w w9) := But.trans HB8.out hb9
            clear hC9 hb9 HC8 HB8 hown8
            cases b9
            · have hs9 : w.heap.size ≤ w9.heap.size := HB9.out.2.2.2.1
              have hz' : ∀ c ∈ l ++ [(X, z)], c.1.size ≤ 19 ∧ DVe c.2 := by
                intro c hc
                rcases List.mem_append.1 hc with hc | hc
                · exact hz c hc
                · rw [List.mem_singleton.1 hc]; exact ⟨hX, hzz⟩
              clear hz
              go_wp2_with (at_builtin; refine wpList_append_field w9 rfl _ _ rfl w.heap.size _ l (by rfl) hown9 _ _ _ rfl ?q3 hs9 w.heap.size (Nat.le_refl _) w9 (Below.refl _ _) ?_)
              case q3 => omega
              intro v' w99 hown' hbel'
              have HC99 : Hid _ := Cursor.belowB HC9.out hcb hbel'
              have HB99 : Hid _ := But.then HB9.out hbel'
              clear hown9 HC9 HB9 hbel'
              go_wp2_with fail
              go_roundw
              case rel => exact ⟨m - 1, _, by go_num, by simp; omega, hz', hown', Cursor.mono HC99.out (by simp; omega), HB99⟩
              case measure => simp [intOf]; omega
            · go_wp2_with fail
              refine (of_new2 DVe [⟨#[42]⟩, ⟨#[120]⟩, ⟨#[42, 44, 32, 34, 97, 34]⟩, ⟨#[]⟩] dve_lits 4 rfl (by omega) (by omega) cb v n _ w9 HC9.out (by omega)).mono ?_
              rintro e w10 ⟨z2, rfl, hz2, hC10, hb10⟩
              have hown10 := fields_but hown9 hb10 hcb
              have HC10 : Hid (Cursor w10 cb v n (N + 2 + 50 * l.length + 45)) := Cursor.mono hC10 (by omega)
              have HB10 : Hid (But cb w w10) := But.trans HB9.out hb10
              clear hC10 hb10 HC9 HB9 hown9
              clear hzz
              have hzz := hz2
              have hs10 : w.heap.size ≤ w10.heap.size := HB10.out.2.2.2.1
              have hz' : ∀ c ∈ l ++ [(X, z2)], c.1.size ≤ 19 ∧ DVe c.2 := by
                intro c hc
                rcases List.mem_append.1 hc with hc | hc
                · exact hz c hc
                · rw [List.mem_singleton.1 hc]; exact ⟨hX, hzz⟩
              clear hz
              go_wp2_with (at_builtin; refine wpList_append_field w10 rfl _ _ rfl w.heap.size _ l (by rfl) hown10 _ _ _ rfl ?q3 hs10 w.heap.size (Nat.le_refl _) w10 (Below.refl _ _) ?_)
              case q3 => omega
              intro v' w99 hown' hbel'
              have HC99 : Hid _ := Cursor.belowB HC10.out hcb hbel'
              have HB99 : Hid _ := But.then HB10.out hbel'
              clear hown10 HC10 HB10 hbel'
              go_wp2_with fail
              go_roundw
              case rel => exact ⟨m - 1, _, by go_num, by simp; omega, hz', hown', Cursor.mono HC99.out (by simp; omega), HB99⟩
              case measure => simp [intOf]; omega
      · have c2 : (⟨#[44, 32]⟩ : ByteArray).size = 2 := rfl
        have z1 := (tagT_no k1 hT1).1
        have z2 : (Tga.tagT k1 T1 ++ (⟨#[44, 32]⟩ : ByteArray)).size ≤ 9 := by rw [ByteArray.size_append]; omega
        go_wp2_with fail
        refine (tag_clean cb v n _ _ HC4.out (by omega)).mono ?_
        rintro e w5 ⟨k2, T2, rfl, hT2, hC5, hb5⟩
        have hown5 := fields_but hown4 hb5 hcb
        have HC5 : Hid (Cursor w5 cb v n (N + 2 + 50 * l.length + 24)) := Cursor.mono hC5 (by omega)
        have HB5 : Hid (But cb w w5) := But.trans HB4.out hb5
        clear hC5 hb5 HC4 HB4 hown4
        have z3 := (tagT_no k2 hT2).1
        have HL2 : Hid _ := fun wx => Tga.l7Text_any k2 T2 wx (by have := (clean_parts hT2).1; omega)
        go_wp2_with fail
        refine (HL2.out _).mono ?_
        rintro e w6 ⟨rfl, hb6⟩
        have hown6 := fieldsIn.below hown5 hb6
        have HC6 : Hid (Cursor w6 cb v n (N + 2 + 50 * l.length + 24)) := Cursor.below HC5.out hb6
        have HB6 : Hid (But cb w w6) := But.then HB5.out (hb6.mono HB5.out.2.2.2.1)
        clear hb6 HC5 HB5 hown5
        clear HL2
        have hzz := dve_two k1 k2 hT1 hT2
        -- generalize Tga.tagT k1 T1 ++ ⟨#[44, 32]⟩ ++ Tga.tagT k2 T2 = z at hzz ⊢
        by_cases hlong : 13 < X.size
        · have hlg : decide ((13 : Int) < (X.size : Int)) = true := decide_eq_true (by omega)
          go_wp2_with fail
          refine (pick_at 4 _ rfl cb v n _ _ HC6.out (by omega) (by omega) (by omega)).mono ?_
          rintro e w7 ⟨x, rfl, hx, hC7, hb7⟩
          have hown7 := fields_but hown6 hb7 hcb
          have HC7 : Hid (Cursor w7 cb v n (N + 2 + 50 * l.length + 38)) := Cursor.mono hC7 (by omega)
          have HB7 : Hid (But cb w w7) := But.trans HB6.out hb7
          clear hC7 hb7 HC6 HB6 hown6
          have H86 : (86400 : Int) * (x : Int) ≤ 345600 := by omega
          have H0 : 0 ≤ (86400 : Int) * (x : Int) := by omega
          obtain ⟨A, D, hA, hD, hDe⟩ := date_four x hx
          have HAt : Hid _ := hA
          have HDt : Hid _ := hD
          clear hA hD
          go_wp2_with fail
          refine (HAt.out _).mono ?_
          rintro e w8 ⟨rfl, hb8⟩
          have hown8 := fieldsIn.below hown7 hb8
          have HC8 : Hid (Cursor w8 cb v n (N + 2 + 50 * l.length + 38)) := Cursor.below HC7.out hb8
          have HB8 : Hid (But cb w w8) := But.then HB7.out (hb8.mono HB7.out.2.2.2.1)
          clear hb8 HC7 HB7 hown7
          go_wp2_with fail
          refine (HDt.out _).mono ?_
          rintro e w9 ⟨rfl, hb9⟩
          have hown9 := fieldsIn.below hown8 hb9
          have HC9 : Hid (Cursor w9 cb v n (N + 2 + 50 * l.length + 38)) := Cursor.below HC8.out hb9
          have HB9 : Hid (But cb w w9) := But.then HB8.out (hb9.mono HB8.out.2.2.2.1)
          clear hb9 HC8 HB8 hown8
          clear hzz H86 H0 hx HAt HDt
          have hzz := hDe
          clear hDe
          generalize D = z at hzz ⊢
          go_wp2_with fail
          refine (one_at 6 _ rfl cb v n _ _ HC9.out (by omega) (by omega) (by omega)).mono ?_
          rintro e w10 ⟨b9, rfl, hC10, hb10⟩
          have hown10 := fields_but hown9 hb10 hcb
          have HC10 : Hid (Cursor w10 cb v n (N + 2 + 50 * l.length + 40)) := Cursor.mono hC10 (by omega)
          have HB10 : Hid (But cb w w10) := But.trans HB9.out hb10
          clear hC10 hb10 HC9 HB9 hown9
          cases b9
          · have hs10 : w.heap.size ≤ w10.heap.size := HB10.out.2.2.2.1
            have hz' : ∀ c ∈ l ++ [(X, z)], c.1.size ≤ 19 ∧ DVe c.2 := by
              intro c hc
              rcases List.mem_append.1 hc with hc | hc
              · exact hz c hc
              · rw [List.mem_singleton.1 hc]; exact ⟨hX, hzz⟩
            clear hz
            go_wp2_with (at_builtin; refine wpList_append_field w10 rfl _ _ rfl w.heap.size _ l (by rfl) hown10 _ _ _ rfl ?q3 hs10 w.heap.size (Nat.le_refl _) w10 (Below.refl _ _) ?_)
            case q3 => omega
            intro v' w99 hown' hbel'
            have HC99 : Hid _ := Cursor.belowB HC10.out hcb hbel'
            have HB99 : Hid _ := But.then HB10.out hbel'
            clear hown10 HC10 HB10 hbel'
            go_wp2_with fail
            go_roundw
            case rel => exact ⟨m - 1, _, by go_num, by simp; omega, hz', hown', Cursor.mono HC99.out (by simp; omega), HB99⟩
            case measure => simp [intOf]; omega
          · go_wp2_with fail
            refine (of_new2 DVe [⟨#[42]⟩, ⟨#[120]⟩, ⟨#[42, 44, 32, 34, 97, 34]⟩, ⟨#[]⟩] dve_lits 4 rfl (by omega) (by omega) cb v n _ w10 HC10.out (by omega)).mono ?_
            rintro e w11 ⟨z2, rfl, hz2, hC11, hb11⟩
            have hown11 := fields_but hown10 hb11 hcb
            have HC11 : Hid (Cursor w11 cb v n (N + 2 + 50 * l.length + 45)) := Cursor.mono hC11 (by omega)
            have HB11 : Hid (But cb w w11) := But.trans HB10.out hb11
            clear hC11 hb11 HC10 HB10 hown10
            clear hzz
            have hzz := hz2
            have hs11 : w.heap.size ≤ w11.heap.size := HB11.out.2.2.2.1
            have hz' : ∀ c ∈ l ++ [(X, z2)], c.1.size ≤ 19 ∧ DVe c.2 := by
              intro c hc
              rcases List.mem_append.1 hc with hc | hc
              · exact hz c hc
              · rw [List.mem_singleton.1 hc]; exact ⟨hX, hzz⟩
            clear hz
            go_wp2_with (at_builtin; refine wpList_append_field w11 rfl _ _ rfl w.heap.size _ l (by rfl) hown11 _ _ _ rfl ?q3 hs11 w.heap.size (Nat.le_refl _) w11 (Below.refl _ _) ?_)
            case q3 => omega
            intro v' w99 hown' hbel'
            have HC99 : Hid _ := Cursor.belowB HC11.out hcb hbel'
            have HB99 : Hid _ := But.then HB11.out hbel'
            clear hown11 HC11 HB11 hbel'
            go_wp2_with fail
            go_roundw
            case rel => exact ⟨m - 1, _, by go_num, by simp; omega, hz', hown', Cursor.mono HC99.out (by simp; omega), HB99⟩
            case measure => simp [intOf]; omega
        · have hlg : decide ((13 : Int) < (X.size : Int)) = false := decide_eq_false (by omega)
          go_wp2_with fail
          refine (one_at 6 _ rfl cb v n _ _ HC6.out (by omega) (by omega) (by omega)).mono ?_
          rintro e w7 ⟨b8, rfl, hC7, hb7⟩
          have hown7 := fields_but hown6 hb7 hcb
          have HC7 : Hid (Cursor w7 cb v n (N + 2 + 50 * l.length + 36)) := Cursor.mono hC7 (by omega)
          have HB7 : Hid (But cb w w7) := But.trans HB6.out hb7
          clear hC7 hb7 HC6 HB6 hown6
          cases b8
          · go_wp2_with fail
            refine (one_at 6 _ rfl cb v n _ _ HC7.out (by omega) (by omega) (by omega)).mono ?_
            rintro e w8 ⟨b9, rfl, hC8, hb8⟩
            have hown8 := fields_but hown7 hb8 hcb
            have HC8 : Hid (Cursor w8 cb v n (N + 2 + 50 * l.length + 40)) := Cursor.mono hC8 (by omega)
            have HB8 : Hid (But cb w w8) := But.trans HB7.out hb8
            clear hC8 hb8 HC7 HB7 hown7
            cases b9
            · have hs8 : w.heap.size ≤ w8.heap.size := HB8.out.2.2.2.1
              have hz' : ∀ c ∈ l ++ [(X, (Tga.tagT k1 T1 ++ ⟨#[44, 32]⟩ ++ Tga.tagT k2 T2))], c.1.size ≤ 19 ∧ DVe c.2 := by
                intro c hc
                rcases List.mem_append.1 hc with hc | hc
                · exact hz c hc
                · rw [List.mem_singleton.1 hc]; exact ⟨hX, hzz⟩
              clear hz
              go_wp2_with (at_builtin; refine wpList_append_field w8 rfl _ _ rfl w.heap.size _ l (by rfl) hown8 _ _ _ rfl ?q3 hs8 w.heap.size (Nat.le_refl _) w8 (Below.refl _ _) ?_)
              case q3 => omega
              intro v' w99 hown' hbel'
              have HC99 : Hid _ := Cursor.belowB HC8.out hcb hbel'
              have HB99 : Hid _ := But.then HB8.out hbel'
              clear hown8 HC8 HB8 hbel'
              go_wp2_with fail
              go_roundw
              case rel => exact ⟨m - 1, _, by go_num, by simp; omega, hz', hown', Cursor.mono HC99.out (by simp; omega), HB99⟩
              case measure => simp [intOf]; omega
            · go_wp2_with fail
              refine (of_new2 DVe [⟨#[42]⟩, ⟨#[120]⟩, ⟨#[42, 44, 32, 34, 97, 34]⟩, ⟨#[]⟩] dve_lits 4 rfl (by omega) (by omega) cb v n _ w8 HC8.out (by omega)).mono ?_
              rintro e w9 ⟨z2, rfl, hz2, hC9, hb9⟩
              have hown9 := fields_but hown8 hb9 hcb
              have HC9 : Hid (Cursor w9 cb v n (N + 2 + 50 * l.length + 45)) := Cursor.mono hC9 (by omega)
              have HB9 : Hid (But cb w w9) := But.trans HB8.out hb9
              clear hC9 hb9 HC8 HB8 hown8
              clear hzz
              have hzz := hz2
              have hs9 : w.heap.size ≤ w9.heap.size := HB9.out.2.2.2.1
              have hz' : ∀ c ∈ l ++ [(X, z2)], c.1.size ≤ 19 ∧ DVe c.2 := by
                intro c hc
                rcases List.mem_append.1 hc with hc | hc
                · exact hz c hc
                · rw [List.mem_singleton.1 hc]; exact ⟨hX, hzz⟩
              clear hz
              go_wp2_with (at_builtin; refine wpList_append_field w9 rfl _ _ rfl w.heap.size _ l (by rfl) hown9 _ _ _ rfl ?q3 hs9 w.heap.size (Nat.le_refl _) w9 (Below.refl _ _) ?_)
              case q3 => omega
              intro v' w99 hown' hbel'
              have HC99 : Hid _ := Cursor.belowB HC9.out hcb hbel'
              have HB99 : Hid _ := But.then HB9.out hbel'
              clear hown9 HC9 HB9 hbel'
              go_wp2_with fail
              go_roundw
              case rel => exact ⟨m - 1, _, by go_num, by simp; omega, hz', hown', Cursor.mono HC99.out (by simp; omega), HB99⟩
              case measure => simp [intOf]; omega
          · go_wp2_with fail
            refine (pick_at 4 _ rfl cb v n _ _ HC7.out (by omega) (by omega) (by omega)).mono ?_
            rintro e w8 ⟨x, rfl, hx, hC8, hb8⟩
            have hown8 := fields_but hown7 hb8 hcb
            have HC8 : Hid (Cursor w8 cb v n (N + 2 + 50 * l.length + 38)) := Cursor.mono hC8 (by omega)
            have HB8 : Hid (But cb w w8) := But.trans HB7.out hb8
            clear hC8 hb8 HC7 HB7 hown7
            have H86 : (86400 : Int) * (x : Int) ≤ 345600 := by omega
            have H0 : 0 ≤ (86400 : Int) * (x : Int) := by omega
            obtain ⟨A, D, hA, hD, hDe⟩ := date_four x hx
            have HAt : Hid _ := hA
            have HDt : Hid _ := hD
            clear hA hD
            go_wp2_with fail
            refine (HAt.out _).mono ?_
            rintro e w9 ⟨rfl, hb9⟩
            have hown9 := fieldsIn.below hown8 hb9
            have HC9 : Hid (Cursor w9 cb v n (N + 2 + 50 * l.length + 38)) := Cursor.below HC8.out hb9
            have HB9 : Hid (But cb w w9) := But.then HB8.out (hb9.mono HB8.out.2.2.2.1)
            clear hb9 HC8 HB8 hown8
            go_wp2_with fail
            refine (HDt.out _).mono ?_
            rintro e w10 ⟨rfl, hb10⟩
            have hown10 := fieldsIn.below hown9 hb10
            have HC10 : Hid (Cursor w10 cb v n (N + 2 + 50 * l.length + 38)) := Cursor.below HC9.out hb10
            have HB10 : Hid (But cb w w10) := But.then HB9.out (hb10.mono HB9.out.2.2.2.1)
            clear hb10 HC9 HB9 hown9
            clear hzz H86 H0 hx HAt HDt
            have hzz := hDe
            clear hDe
            generalize D = z at hzz ⊢
            go_wp2_with fail
            refine (one_at 6 _ rfl cb v n _ _ HC10.out (by omega) (by omega) (by omega)).mono ?_
            rintro e w11 ⟨b9, rfl, hC11, hb11⟩
            have hown11 := fields_but hown10 hb11 hcb
            have HC11 : Hid (Cursor w11 cb v n (N + 2 + 50 * l.length + 40)) := Cursor.mono hC11 (by omega)
            have HB11 : Hid (But cb w w11) := But.trans HB10.out hb11
            clear hC11 hb11 HC10 HB10 hown10
            cases b9
            · have hs11 : w.heap.size ≤ w11.heap.size := HB11.out.2.2.2.1
              have hz' : ∀ c ∈ l ++ [(X, z)], c.1.size ≤ 19 ∧ DVe c.2 := by
                intro c hc
                rcases List.mem_append.1 hc with hc | hc
                · exact hz c hc
                · rw [List.mem_singleton.1 hc]; exact ⟨hX, hzz⟩
              clear hz
              go_wp2_with (at_builtin; refine wpList_append_field w11 rfl _ _ rfl w.heap.size _ l (by rfl) hown11 _ _ _ rfl ?q3 hs11 w.heap.size (Nat.le_refl _) w11 (Below.refl _ _) ?_)
              case q3 => omega
              intro v' w99 hown' hbel'
              have HC99 : Hid _ := Cursor.belowB HC11.out hcb hbel'
              have HB99 : Hid _ := But.then HB11.out hbel'
              clear hown11 HC11 HB11 hbel'
              go_wp2_with fail
              go_roundw
              case rel => exact ⟨m - 1, _, by go_num, by simp; omega, hz', hown', Cursor.mono HC99.out (by simp; omega), HB99⟩
              case measure => simp [intOf]; omega
            · go_wp2_with fail
              refine (of_new2 DVe [⟨#[42]⟩, ⟨#[120]⟩, ⟨#[42, 44, 32, 34, 97, 34]⟩, ⟨#[]⟩] dve_lits 4 rfl (by omega) (by omega) cb v n _ w11 HC11.out (by omega)).mono ?_
              rintro e w12 ⟨z2, rfl, hz2, hC12, hb12⟩
              have hown12 := fields_but hown11 hb12 hcb
              have HC12 : Hid (Cursor w12 cb v n (N + 2 + 50 * l.length + 45)) := Cursor.mono hC12 (by omega)
              have HB12 : Hid (But cb w w12) := But.trans HB11.out hb12
              clear hC12 hb12 HC11 HB11 hown11
              clear hzz
              have hzz := hz2
              have hs12 : w.heap.size ≤ w12.heap.size := HB12.out.2.2.2.1
              have hz' : ∀ c ∈ l ++ [(X, z2)], c.1.size ≤ 19 ∧ DVe c.2 := by
                intro c hc
                rcases List.mem_append.1 hc with hc | hc
                · exact hz c hc
                · rw [List.mem_singleton.1 hc]; exact ⟨hX, hzz⟩
              clear hz
              go_wp2_with (at_builtin; refine wpList_append_field w12 rfl _ _ rfl w.heap.size _ l (by rfl) hown12 _ _ _ rfl ?q3 hs12 w.heap.size (Nat.le_refl _) w12 (Below.refl _ _) ?_)
              case q3 => omega
              intro v' w99 hown' hbel'
              have HC99 : Hid _ := Cursor.belowB HC12.out hcb hbel'
              have HB99 : Hid _ := But.then HB12.out hbel'
              clear hown12 HC12 HB12 hbel'
              go_wp2_with fail
              go_roundw
              case rel => exact ⟨m - 1, _, by go_num, by simp; omega, hz', hown', Cursor.mono HC99.out (by simp; omega), HB99⟩
              case measure => simp [intOf]; omega
    · go_wp2_with fail
      go_ret
      exact ⟨_, l, rfl, by omega, hz, hown0, Cursor.mono HC0.out (by omega), HB0.out⟩

end Go.Proofs.YtgidmoncocbfiaaGreatDoor.Cur
