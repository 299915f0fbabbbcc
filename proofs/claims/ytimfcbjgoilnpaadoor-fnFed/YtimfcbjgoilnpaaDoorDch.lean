/-
  Walks: draws: (*l1Cur).pieces, spec.DrawChunkBytes, DrawHexText.
-/
import Derived.Test.YtimfcbjgoilnpaaDoorDfc
import Derived.Test.YtimfcbjgoilnpaaDoorMrk
namespace Go.Proofs.YtimfcbjgoilnpaaDoor.Cur
open Go.RowKit
open Go.Proofs.YtimfcbjgoilnpaaDoor.Ows
open Go.Proofs.YtimfcbjgoilnpaaDoor.Mrk (TV RowT tv_of)

theorem textsIn_but {w w' : World} {B cb : Nat} {v : Value} {l : List ByteArray} (h : textsIn w B v l) (hb : But cb w w') (hc : cb < B) : textsIn w' B v l := by
  refine ⟨h.1, ?_⟩
  rcases h.2 with hn | ⟨g, cap, cur, rfl, hbg, hg, rest⟩
  · exact .inl hn
  · exact .inr ⟨g, cap, cur, rfl, hbg, (hb.2.2.2.2 g (Array.getElem?_eq_some_iff.1 hg).1 (by omega)).trans hg, rest⟩

set_option maxRecDepth 20000 in
set_option maxHeartbeats 6400000 in
theorem pieces_any (cb : Nat) (v : Value) (n N : Nat) (w : World) (hC : Cursor w cb v n N) (hN : N ≤ 500000000) :
    Calls Tryd.prog 53 #[.pointer (some ⟨cb, 0, none⟩)] w fun e w' => ∃ (r : Value) (l : List ByteArray), e = .returned r ∧ l.length ≤ 62 ∧ (∀ x ∈ l, x.size ≤ 20) ∧ textsIn w' w.heap.size r l ∧ Cursor w' cb v n (N + 300) ∧ But cb w w' := by
  have hcb : cb < w.heap.size := hC.2.2.1
  have HC0 : Hid _ := hC
  clear hC
  go_enter Tryd.func53, Tryd.ntmps53
  go_wp2_with fail
  refine (pick_at 5 _ rfl cb v n _ _ HC0.out (by omega) (by omega) (by omega)).mono ?_
  rintro e w1 ⟨k0, rfl, hk0, hC1, hb1⟩
  have HC1 : Hid _ := hC1
  have HB1 : Hid _ := hb1
  clear hC1 hb1 HC0
  go_wp2_with fail
  refine (one_at 30 _ rfl cb v n _ _ HC1.out (by omega) (by omega) (by omega)).mono ?_
  rintro e w2 ⟨b, rfl, hC2, hb2⟩
  have HC2 : Hid _ := hC2
  have HB2 : Hid _ := But.trans HB1.out hb2
  clear hC2 hb2 HC1 HB1
  cases b
  · have hk : k0 ≤ 61 := by omega
    have HC3 : Hid (Cursor w2 cb v n (N + 10)) := Cursor.mono HC2.out (by omega)
    have HB3 : Hid (But cb w w2) := HB2.out
    clear HC2 HB2
    go_wp2_with fail
    go_loopw [3, 4] (fun lv nv wr => ∃ (m : Nat) (l : List ByteArray), nv = .int .i64 m ∧ m ≤ k0 ∧ l.length + m = k0 ∧ (∀ x ∈ l, x.size ≤ 20) ∧ textsIn wr w.heap.size lv l ∧ Hid (Cursor wr cb v n (N + 10 + 2 * (k0 - m))) ∧ Hid (But cb w wr)) (fun _ nv _ => (intOf nv).toNat)
    case atStart => exact ⟨k0, [], rfl, by omega, by simp, fun x hx => (by cases hx), World.ownsRow_nil _ _ _ _, Cursor.mono HC3.out (by omega), HB3⟩
    case round =>
      obtain ⟨m, l, rfl, hm, hl, hx4, hown, HC, HB⟩ := hrel
      clear HC3 HB3
      by_cases h0 : 0 < m
      · go_wp2_with fail
        refine (of_new2 (fun x => x.size ≤ 20) [⟨#[97]⟩, ⟨#[104, 101, 108, 108, 111]⟩, ⟨#[13, 10]⟩, ⟨#[48, 13, 10, 13, 10]⟩, ⟨#[97, 32, 108, 111, 110, 103, 32, 112, 105, 101, 99, 101, 32, 111, 102, 32, 116, 101, 120, 116]⟩] (by decide) 5 rfl (by omega) (by omega) cb v n _ _ HC.out (by omega)).mono ?_
        rintro e u2 ⟨y, rfl, hy, hC2, hb2⟩
        have hown2 := textsIn_but hown hb2 hcb
        have hs2 : w.heap.size ≤ u2.heap.size := Nat.le_trans HB.out.2.2.2.1 hb2.2.2.2.1
        have HB2 : Hid _ := But.trans HB.out hb2
        have HC2 : Hid _ := hC2
        have hy4 : ∀ x ∈ l ++ [y], x.size ≤ 20 := by
          intro x hx
          rcases List.mem_append.1 hx with hx | hx
          · exact hx4 x hx
          · have : x = y := by simpa using hx
            subst this; exact hy
        clear HC HB hC2 hb2 hown hx4
        go_wp2_with (at_builtin; refine wpList_append_text u2 rfl _ _ rfl w.heap.size _ l (by rfl) hown2 _ _ rfl ?q3 hs2 w.heap.size (Nat.le_refl _) u2 (Below.refl _ _) ?_)
        case q3 => omega
        intro v' u3 hown' hbel'
        have HC3 : Hid _ := Cursor.belowB HC2.out hcb hbel'
        have HB3 : Hid _ := But.then HB2.out hbel'
        clear hown2 HC2 HB2 hbel'
        go_wp2_with fail
        go_roundw
        case rel => exact ⟨m - 1, _, by go_num, by omega, by simp; omega, hy4, hown', Cursor.mono HC3.out (by omega), HB3⟩
        case measure => simp [intOf]; omega
      · have hll : l.length ≤ 61 := by omega
        go_wp2_with fail
        refine (one_at 40 _ rfl cb v n _ _ HC.out (by omega) (by omega) (by omega)).mono ?_
        rintro e u2 ⟨b2, rfl, hC2, hb2⟩
        have hown2 := textsIn_but hown hb2 hcb
        have hs2 : w.heap.size ≤ u2.heap.size := Nat.le_trans HB.out.2.2.2.1 hb2.2.2.2.1
        have HB2 : Hid _ := But.trans HB.out hb2
        have HC2 : Hid _ := hC2
        clear HC HB hC2 hb2 hown
        cases b2
        · go_wp2_with fail
          go_ret
          exact ⟨_, l, rfl, by omega, hx4, hown2, Cursor.mono HC2.out (by omega), HB2.out⟩
        · go_wp2_with (at_builtin; refine wpList_append_text u2 rfl _ _ rfl w.heap.size _ l (by rfl) hown2 _ _ rfl ?q3 hs2 w.heap.size (Nat.le_refl _) u2 (Below.refl _ _) ?_)
          case q3 => omega
          intro v' u3 hown' hbel'
          have HC3 : Hid _ := Cursor.belowB HC2.out hcb hbel'
          have HB3 : Hid _ := But.then HB2.out hbel'
          have hy4 : ∀ x ∈ l ++ [(⟨#[]⟩ : ByteArray)], x.size ≤ 20 := by
            intro x hx
            rcases List.mem_append.1 hx with hx | hx
            · exact hx4 x hx
            · have : x = ⟨#[]⟩ := by simpa using hx
              subst this; decide
          clear hown2 HC2 HB2 hbel'
          go_wp2_with fail
          go_ret
          exact ⟨v', l ++ [⟨#[]⟩], rfl, by simp; omega, hy4, hown', Cursor.mono HC3.out (by omega), HB3.out⟩
  · go_wp2_with fail
    refine (pick_at 2 _ rfl cb v n _ _ HC2.out (by omega) (by omega) (by omega)).mono ?_
    rintro e w3 ⟨k1, rfl, hk1, hC3, hb3⟩
    have HC3 : Hid (Cursor w3 cb v n (N + 10)) := Cursor.mono hC3 (by omega)
    have HB3 : Hid (But cb w w3) := But.trans HB2.out hb3
    have hk : 60 + k1 ≤ 61 := by omega
    have hwr : IntKind.i64.wrap ((60 : Int) + (k1 : Int)) = ((60 + k1 : Nat) : Int) := by rw [IntKind.wrap_i64]; omega
    obtain ⟨k0, hk0e⟩ : ∃ k0, k0 = 60 + k1 := ⟨_, rfl⟩
    rw [← hk0e] at hwr hk
    clear HC2 HB2 hC3 hb3 hk0e
    go_wp2_with fail
    go_loopw [3, 4] (fun lv nv wr => ∃ (m : Nat) (l : List ByteArray), nv = .int .i64 m ∧ m ≤ k0 ∧ l.length + m = k0 ∧ (∀ x ∈ l, x.size ≤ 20) ∧ textsIn wr w.heap.size lv l ∧ Hid (Cursor wr cb v n (N + 10 + 2 * (k0 - m))) ∧ Hid (But cb w wr)) (fun _ nv _ => (intOf nv).toNat)
    case atStart => exact ⟨k0, [], rfl, by omega, by simp, fun x hx => (by cases hx), World.ownsRow_nil _ _ _ _, Cursor.mono HC3.out (by omega), HB3⟩
    case round =>
      obtain ⟨m, l, rfl, hm, hl, hx4, hown, HC, HB⟩ := hrel
      clear HC3 HB3
      by_cases h0 : 0 < m
      · go_wp2_with fail
        refine (of_new2 (fun x => x.size ≤ 20) [⟨#[97]⟩, ⟨#[104, 101, 108, 108, 111]⟩, ⟨#[13, 10]⟩, ⟨#[48, 13, 10, 13, 10]⟩, ⟨#[97, 32, 108, 111, 110, 103, 32, 112, 105, 101, 99, 101, 32, 111, 102, 32, 116, 101, 120, 116]⟩] (by decide) 5 rfl (by omega) (by omega) cb v n _ _ HC.out (by omega)).mono ?_
        rintro e u2 ⟨y, rfl, hy, hC2, hb2⟩
        have hown2 := textsIn_but hown hb2 hcb
        have hs2 : w.heap.size ≤ u2.heap.size := Nat.le_trans HB.out.2.2.2.1 hb2.2.2.2.1
        have HB2 : Hid _ := But.trans HB.out hb2
        have HC2 : Hid _ := hC2
        have hy4 : ∀ x ∈ l ++ [y], x.size ≤ 20 := by
          intro x hx
          rcases List.mem_append.1 hx with hx | hx
          · exact hx4 x hx
          · have : x = y := by simpa using hx
            subst this; exact hy
        clear HC HB hC2 hb2 hown hx4
        go_wp2_with (at_builtin; refine wpList_append_text u2 rfl _ _ rfl w.heap.size _ l (by rfl) hown2 _ _ rfl ?q3 hs2 w.heap.size (Nat.le_refl _) u2 (Below.refl _ _) ?_)
        case q3 => omega
        intro v' u3 hown' hbel'
        have HC3 : Hid _ := Cursor.belowB HC2.out hcb hbel'
        have HB3 : Hid _ := But.then HB2.out hbel'
        clear hown2 HC2 HB2 hbel'
        go_wp2_with fail
        go_roundw
        case rel => exact ⟨m - 1, _, by go_num, by omega, by simp; omega, hy4, hown', Cursor.mono HC3.out (by omega), HB3⟩
        case measure => simp [intOf]; omega
      · have hll : l.length ≤ 61 := by omega
        go_wp2_with fail
        refine (one_at 40 _ rfl cb v n _ _ HC.out (by omega) (by omega) (by omega)).mono ?_
        rintro e u2 ⟨b2, rfl, hC2, hb2⟩
        have hown2 := textsIn_but hown hb2 hcb
        have hs2 : w.heap.size ≤ u2.heap.size := Nat.le_trans HB.out.2.2.2.1 hb2.2.2.2.1
        have HB2 : Hid _ := But.trans HB.out hb2
        have HC2 : Hid _ := hC2
        clear HC HB hC2 hb2 hown
        cases b2
        · go_wp2_with fail
          go_ret
          exact ⟨_, l, rfl, by omega, hx4, hown2, Cursor.mono HC2.out (by omega), HB2.out⟩
        · go_wp2_with (at_builtin; refine wpList_append_text u2 rfl _ _ rfl w.heap.size _ l (by rfl) hown2 _ _ rfl ?q3 hs2 w.heap.size (Nat.le_refl _) u2 (Below.refl _ _) ?_)
          case q3 => omega
          intro v' u3 hown' hbel'
          have HC3 : Hid _ := Cursor.belowB HC2.out hcb hbel'
          have HB3 : Hid _ := But.then HB2.out hbel'
          have hy4 : ∀ x ∈ l ++ [(⟨#[]⟩ : ByteArray)], x.size ≤ 20 := by
            intro x hx
            rcases List.mem_append.1 hx with hx | hx
            · exact hx4 x hx
            · have : x = ⟨#[]⟩ := by simpa using hx
              subst this; decide
          clear hown2 HC2 HB2 hbel'
          go_wp2_with fail
          go_ret
          exact ⟨v', l ++ [⟨#[]⟩], rfl, by simp; omega, hy4, hown', Cursor.mono HC3.out (by omega), HB3.out⟩

set_option maxRecDepth 20000 in
set_option maxHeartbeats 1600000 in
theorem drawChunk_any (v : Value) (n : Nat) (w : World) (hA : CodeArg w v n) (hn : n ≤ 2000000) :
    Calls Tryd.prog 32 #[v] w fun e w' => ∃ (a : Option Addr) (ca : Nat) (l : List ByteArray), e = .returned (.slice a l.length ca) ∧ l.length ≤ 62 ∧ (∀ x ∈ l, x.size ≤ 20) ∧ TV w' a l w.heap.size w'.heap.size ∧ Below w.heap.size w w' := by
  obtain ⟨o, cap, rfl⟩ := hA.form
  have HC0 : Hid _ := start hA hn 72
  have HB0 : Hid _ := (Below.refl w.heap.size w).alloc (Nat.le_refl _) (.cells #[.slice o n cap, .int .i64 0, .int .u64 0] 72)
  have hs0 : (w.alloc (.cells #[.slice o n cap, .int .i64 0, .int .u64 0] 72)).heap.size = w.heap.size + 1 := by simp
  clear hA
  go_enter Tryd.func32, Tryd.ntmps32
  go_wp2_with fail
  refine (pieces_any _ _ n _ _ HC0.out (by omega)).mono ?_
  rintro e w1 ⟨r, l, rfl, hl, hz, hown, hC1, hb1⟩
  obtain ⟨a, ca, rfl, hTV⟩ := tv_of hown
  have hB : Below w.heap.size w w1 := HB0.out.trans (hb1.below (Nat.le_refl _) (by omega))
  have hTV2 : TV w1 a l w.heap.size w1.heap.size := by
    rcases hTV with h | ⟨g, h1, h2, h3, h4⟩
    · exact .inl h
    · exact .inr ⟨g, h1, by omega, h3, h4⟩
  clear HC0 HB0 hC1 hb1 hown hTV
  go_wp2_with fail
  go_ret
  exact ⟨a, ca, l, rfl, hl, hz, hTV2, hB⟩

set_option maxHeartbeats 800000 in
theorem amongPr (Pr : Int → Prop) (cb b m : Nat) (v : Value) (n N : Nat) (w : World) (hC : Cursor w cb v n N) (hN : N ≤ 900000000) (h1 : 1 ≤ m) (h2 : m ≤ 1000) (hb : b < w.heap.size) (hbc : b ≠ cb) (hcell : ∀ i, i < m → ∃ z : Int, Pr z ∧ w.cell? ⟨b, i, none⟩ = some (.int .i64 z)) :
    Calls Tryd.prog 54 #[.pointer (some ⟨cb, 0, none⟩), .slice (some ⟨b, 0, none⟩) m m] w fun e w' => ∃ x : Int, e = .returned (.int .i64 x) ∧ Pr x ∧ Cursor w' cb v n (N + 2) ∧ But cb w w' := by
  have HC : Hid _ := hC
  have HL : Hid _ := hcell
  clear hC hcell
  go_enter Tryd.func54, Tryd.ntmps54
  go_wp2_with fail
  refine (pick_any cb v n N m _ HC.out hN h1 (by omega)).mono ?_
  rintro e w1 ⟨x, rfl, hx, hC1, hb1⟩
  obtain ⟨z, hM, hz⟩ := HL.out x hx
  have hz1 := ((bcells hb1).1 b x hb hbc).trans hz
  have HC1 : Hid _ := hC1
  have Hb1 : Hid _ := hb1
  clear hC1 hb1
  go_wp2_with fail
  go_ret
  exact ⟨z, rfl, hM, HC1.out, Hb1.out⟩
theorem amongNew (Pr : Int → Prop) (xs : List Int) (hx : ∀ x ∈ xs, Pr x) (m : Nat) (hm : m = xs.length) (h1 : 1 ≤ m) (h2 : m ≤ 1000) (cb : Nat) (v : Value) (n N : Nat) (w : World) (hC : Cursor w cb v n N) (hN : N ≤ 900000000) :
    Calls Tryd.prog 54 #[.pointer (some ⟨cb, 0, none⟩), .slice (some ⟨w.heap.size, 0, none⟩) m m] (w.alloc (.cells (xs.map fun z => Value.int .i64 z).toArray 3)) fun e w' => ∃ x : Int, e = .returned (.int .i64 x) ∧ Pr x ∧ Cursor w' cb v n (N + 2) ∧ But cb w w' := by
  subst hm
  have hcb : cb < w.heap.size := hC.2.2.1
  have hb1 := (Below.refl w.heap.size w).alloc (Nat.le_refl _) (.cells (xs.map fun z => Value.int .i64 z).toArray 3)
  refine (amongPr Pr cb _ xs.length v n N _ (Cursor.below hC hb1) hN h1 h2 (by simp) (by omega) ?_).mono ?_
  · intro i hi
    exact ⟨xs[i], hx _ (List.getElem_mem hi), by rw [World.cell?_alloc_mark]; simp [hi]⟩
  · rintro e w' ⟨x, rfl, hx, hC', hb'⟩
    exact ⟨x, rfl, hx, hC', But.trans (But.of_below hb1) hb'⟩

set_option maxRecDepth 20000 in
set_option maxHeartbeats 1600000 in
theorem drawHexText_any (v : Value) (n : Nat) (w : World) (hA : CodeArg w v n) (hn : n ≤ 2000000) :
    Calls Tryd.prog 34 #[v] w fun e w' => ∃ x : Int, e = .returned (.int .i64 x) ∧ -1 ≤ x ∧ x ≤ 65538 ∧ Below w.heap.size w w' := by
  obtain ⟨o, cap, rfl⟩ := hA.form
  have HC0 : Hid _ := start hA hn 72
  have HB0 : Hid _ := (Below.refl w.heap.size w).alloc (Nat.le_refl _) (.cells #[.slice o n cap, .int .i64 0, .int .u64 0] 72)
  have hs0 : (w.alloc (.cells #[.slice o n cap, .int .i64 0, .int .u64 0] 72)).heap.size = w.heap.size + 1 := by simp
  have e1 : w.heap.size + 1 = (w.alloc (.cells #[.slice o n cap, .int .i64 0, .int .u64 0] 72)).heap.size := hs0.symm
  have hbx := (Below.refl (w.alloc (.cells #[.slice o n cap, .int .i64 0, .int .u64 0] 72)).heap.size (w.alloc (.cells #[.slice o n cap, .int .i64 0, .int .u64 0] 72))).alloc (Nat.le_refl _) (.cells #[.int .i64 (-1), .int .i64 0, .int .i64 9, .int .i64 10, .int .i64 255, .int .i64 65535, .int .i64 65536] 3)
  have hcell : ∀ i, i < 7 → ∃ z : Int, (-1 ≤ z ∧ z ≤ 65536) ∧ ((w.alloc (.cells #[.slice o n cap, .int .i64 0, .int .u64 0] 72)).alloc (.cells #[.int .i64 (-1), .int .i64 0, .int .i64 9, .int .i64 10, .int .i64 255, .int .i64 65535, .int .i64 65536] 3)).cell? ⟨w.heap.size + 1, i, none⟩ = some (.int .i64 z) := by
    intro i hi
    rw [e1]
    rcases (show i = 0 ∨ i = 1 ∨ i = 2 ∨ i = 3 ∨ i = 4 ∨ i = 5 ∨ i = 6 by omega) with rfl | rfl | rfl | rfl | rfl | rfl | rfl
    · exact ⟨-1, by omega, by rw [World.cell?_alloc_mark]; rfl⟩
    · exact ⟨0, by omega, by rw [World.cell?_alloc_mark]; rfl⟩
    · exact ⟨9, by omega, by rw [World.cell?_alloc_mark]; rfl⟩
    · exact ⟨10, by omega, by rw [World.cell?_alloc_mark]; rfl⟩
    · exact ⟨255, by omega, by rw [World.cell?_alloc_mark]; rfl⟩
    · exact ⟨65535, by omega, by rw [World.cell?_alloc_mark]; rfl⟩
    · exact ⟨65536, by omega, by rw [World.cell?_alloc_mark]; rfl⟩
  have Hbx : Hid _ := hbx
  have HCl : Hid _ := hcell
  clear hA e1 hbx hcell hs0
  go_enter Tryd.func34, Tryd.ntmps34
  go_wp2_with fail
  refine (amongPr (fun x => -1 ≤ x ∧ x ≤ 65536) w.heap.size (w.heap.size + 1) 7 _ n _ _ (Cursor.below HC0.out Hbx.out) (by omega) (by omega) (by omega) (by simp) (by omega) HCl.out).mono ?_
  rintro e w1 ⟨x, rfl, hx, hC1, hb1⟩
  have HC1 : Hid _ := hC1
  have HB1 : Hid (Below w.heap.size w w1) := (HB0.out.trans (Hbx.out.mono HB0.out.size)).trans (hb1.below (Nat.le_refl _) (HB0.out.trans (Hbx.out.mono HB0.out.size)).size)
  clear HC0 HB0 hC1 hb1 Hbx HCl
  go_wp2_with fail
  refine (pick_at 3 _ rfl _ _ n _ _ HC1.out (by omega) (by omega) (by omega)).mono ?_
  rintro e w2 ⟨k, rfl, hk, hC2, hb2⟩
  have hB2 : Below w.heap.size w w2 := HB1.out.trans (hb2.below (Nat.le_refl _) HB1.out.size)
  have hwr : IntKind.i64.wrap (x + (k : Int)) = x + (k : Int) := by rw [IntKind.wrap_i64]; omega
  clear HC1 HB1 hC2 hb2
  go_wp2_with fail
  go_ret
  exact ⟨_, rfl, by omega, by omega, hB2⟩

end Go.Proofs.YtimfcbjgoilnpaaDoor.Cur
