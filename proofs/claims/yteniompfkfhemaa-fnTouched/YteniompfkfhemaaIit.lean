/-
  Walks: draws of references and of sizes: spec's (*l1Cur).refs, size.
-/
import Derived.Test.YteniompfkfhemaaDrb
import Derived.Test.YteniompfkfhemaaIik
namespace Go.Proofs.Yteniompfkfhemaa.Iit
open Go.RowKit
open Go.Proofs.Yteniompfkfhemaa.Cur (Cursor But ButB among_any pick_any pick_at one_at bcells CodeIn CodeArg start)
open Go.Proofs.Yteniompfkfhemaa.Iia (intsIn intsIn.nil wpList_append_int iw_of IW IL flI flI_at)

theorem ints_but {w w' : World} {B cb : Nat} {v : Value} {l : List Int} (h : intsIn w B v l) (hb : But cb w w') (hc : cb < B) : intsIn w' B v l := by
  refine ⟨h.1, ?_⟩
  rcases h.2 with hn | ⟨g, cap, cur, rfl, hbg, hg, rest⟩
  · exact .inl hn
  · exact .inr ⟨g, cap, cur, rfl, hbg, (hb.2.2.2.2 g (Array.getElem?_eq_some_iff.1 hg).1 (by omega)).trans hg, rest⟩
theorem ints_head {w : World} {B g n cap : Nat} {c : Int} {r : List Int} (h : intsIn w B (.slice (some ⟨g, 0, none⟩) n cap) (c :: r)) (F : Int) :
    (∃ x, w.cell? ⟨g, 0, none⟩ = some x) ∧ (∀ i, w.frozen? ⟨g, i, none⟩ = false) ∧ g < w.heap.size ∧ B ≤ g ∧
    intsIn (w.setCell ⟨g, 0, none⟩ (.int .i64 F)) B (.slice (some ⟨g, 0, none⟩) n cap) (F :: r) := by
  have hn : n = (c :: r).length := by
    rcases h.2 with ⟨h', _⟩ | ⟨_, _, _, h', _⟩
    · cases h'
    · injection h'
  have hh := h
  unfold intsIn at h
  rw [← hn] at h
  have e0 := World.ownsRow.cells hh (g := g) rfl 0 _ (flI_at (c :: r) 0 c rfl)
  rw [Addr.add_lit, Nat.zero_add] at e0
  refine ⟨⟨_, e0⟩, fun i => World.ownsRow.frozenAt (n := n) (cap := cap) h i, (h.lt g rfl).2, (h.lt g rfl).1, ?_⟩
  have s0 := (World.ownsRow.stored h 0 (.int .i64 F)).1
  unfold intsIn
  rw [show (F :: r).length = n by rw [hn]; rfl]
  exact s0
theorem but_set {w0 w : World} {cb g : Nat} (h : But cb w0 w) (hg : w0.heap.size ≤ g) (X : Value) : But cb w0 (w.setCell ⟨g, 0, none⟩ X) := by
  refine ⟨h.1, h.2.1, h.2.2.1, by simpa [World.setCell] using h.2.2.2.1, fun k hk hc => ?_⟩
  rw [Below.heap_setCell _ _ _ _ (by show k ≠ g; omega)]
  exact h.2.2.2.2 k hk hc
set_option maxHeartbeats 800000 in
/-- A choice among numbers of which something is known. -/
theorem among_p (p : Int → Prop) (cb b m : Nat) (v : Value) (n N : Nat) (w : World) (hC : Cursor w cb v n N) (hN : N ≤ 900000000) (h1 : 1 ≤ m) (h2 : m ≤ 1000) (hb : b < w.heap.size) (hbc : b ≠ cb) (hcell : ∀ i, i < m → ∃ z : Int, p z ∧ w.cell? ⟨b, i, none⟩ = some (.int .i64 z)) :
    Calls Try.prog 58 #[.pointer (some ⟨cb, 0, none⟩), .slice (some ⟨b, 0, none⟩) m m] w fun e w' => ∃ x : Int, e = .returned (.int .i64 x) ∧ p x ∧ Cursor w' cb v n (N + 2) ∧ But cb w w' := by
  have HC : Hid _ := hC
  have HL : Hid _ := hcell
  clear hC hcell
  go_enter Try.func58, Try.ntmps58
  go_wp2_with fail
  refine (pick_any cb v n N m _ HC.out hN h1 (by omega)).mono ?_
  rintro e w1 ⟨x, rfl, hx, hC1, hb1⟩
  obtain ⟨z, hp, hz⟩ := HL.out x hx
  have hz1 := ((bcells hb1).1 b x hb hbc).trans hz
  have HC1 : Hid _ := hC1
  have Hb1 : Hid _ := hb1
  have HP : Hid _ := hp
  clear hC1 hb1 hp
  go_wp2_with fail
  go_ret
  exact ⟨z, rfl, HP.out, HC1.out, Hb1.out⟩
theorem amongI (p : Int → Prop) (zs : List Int) (m : Nat) (hm : m = zs.length) (h1 : 1 ≤ m) (h2 : m ≤ 1000) (hp : ∀ z ∈ zs, p z) (cb : Nat) (v : Value) (n N : Nat) (w : World) (hC : Cursor w cb v n N) (hN : N ≤ 900000000) :
    Calls Try.prog 58 #[.pointer (some ⟨cb, 0, none⟩), .slice (some ⟨w.heap.size, 0, none⟩) m m] (w.alloc (.cells (zs.map fun z => Value.int .i64 z).toArray 3)) fun e w' => ∃ x : Int, e = .returned (.int .i64 x) ∧ p x ∧ Cursor w' cb v n (N + 2) ∧ But cb w w' := by
  subst hm
  have hcb : cb < w.heap.size := hC.2.2.1
  have hb1 := (Below.refl w.heap.size w).alloc (Nat.le_refl _) (.cells (zs.map fun z => Value.int .i64 z).toArray 3)
  refine (among_p p cb _ zs.length v n N _ (Cursor.below hC hb1) hN h1 h2 (by simp) (by omega) (fun i hi => ⟨zs[i], hp _ (List.getElem_mem hi), by rw [World.cell?_alloc_mark]; simp [hi]⟩)).mono ?_
  rintro e w' ⟨x, rfl, hx, hC', hb'⟩
  exact ⟨x, rfl, hx, hC', But.trans (But.of_below hb1) hb'⟩

set_option maxHeartbeats 800000 in
theorem size_any (cb : Nat) (v : Value) (n N : Nat) (w : World) (hC : Cursor w cb v n N) (hN : N ≤ 500000000) :
    Calls Try.prog 40 #[.pointer (some ⟨cb, 0, none⟩)] w fun e w' => ∃ x : Int, e = .returned (.int .i64 x) ∧ (-1 ≤ x ∧ x ≤ 41) ∧ Cursor w' cb v n (N + 10) ∧ But cb w w' := by
  have HC0 : Hid _ := hC
  clear hC
  go_enter Try.func40, Try.ntmps40
  go_wp2_with fail
  refine (one_at 20 _ rfl cb v n _ _ HC0.out (by omega) (by omega) (by omega)).mono ?_
  rintro e w2 ⟨b, rfl, hC2, hb2⟩
  have HC2 : Hid _ := hC2
  have HB2 : Hid _ := hb2
  clear hC2 hb2 HC0
  cases b
  · go_wp2_with fail
    refine (pick_at 8 _ rfl cb v n _ _ HC2.out (by omega) (by omega) (by omega)).mono ?_
    rintro e w3 ⟨x, rfl, hx, hC3, hb3⟩
    have HC3 : Hid _ := hC3
    have HB3 : Hid _ := But.trans HB2.out hb3
    clear hC3 hb3 HC2 HB2
    go_wp2_with fail
    go_ret
    exact ⟨_, rfl, by omega, Cursor.mono HC3.out (by omega), HB3.out⟩
  · go_wp2_with fail
    refine (amongI (fun z => -1 ≤ z ∧ z ≤ 41) [-1, 0, 40, 41] 4 rfl (by omega) (by omega) (by intro z hz; simp at hz; omega) cb v n _ w2 HC2.out (by omega)).mono ?_
    rintro e w3 ⟨x, rfl, hx, hC3, hb3⟩
    have HC3 : Hid _ := hC3
    have HB3 : Hid _ := But.trans HB2.out hb3
    clear hC3 hb3 HC2 HB2
    go_wp2_with fail
    go_ret
    exact ⟨x, rfl, hx, Cursor.mono HC3.out (by omega), HB3.out⟩

set_option maxRecDepth 20000 in
set_option maxHeartbeats 6400000 in
theorem refs_any (cb : Nat) (v : Value) (n N : Nat) (w : World) (hC : Cursor w cb v n N) (hN : N ≤ 500000000) :
    Calls Try.prog 39 #[.pointer (some ⟨cb, 0, none⟩)] w fun e w' => ∃ (r : Value) (l : List Int), e = .returned r ∧ l.length ≤ 201 ∧ intsIn w' w.heap.size r l ∧ Cursor w' cb v n (N + 600) ∧ But cb w w' := by
  have hcb : cb < w.heap.size := hC.2.2.1
  have HC0 : Hid _ := hC
  clear hC
  go_enter Try.func39, Try.ntmps39
  go_wp2_with fail
  refine (pick_at 30 _ rfl cb v n _ _ HC0.out (by omega) (by omega) (by omega)).mono ?_
  rintro e w1 ⟨k0, rfl, hk0, hC1, hb1⟩
  have HC1 : Hid _ := hC1
  have HB1 : Hid _ := hb1
  clear hC1 hb1 HC0
  go_wp2_with fail
  refine (one_at 12 _ rfl cb v n _ _ HC1.out (by omega) (by omega) (by omega)).mono ?_
  rintro e w2 ⟨b, rfl, hC2, hb2⟩
  have HC2 : Hid _ := hC2
  have HB2 : Hid _ := But.trans HB1.out hb2
  clear hC2 hb2 HC1 HB1
  cases b
  · have hkk : k0 ≤ 201 := by omega
    have HC3 : Hid (Cursor w2 cb v n (N + 6)) := Cursor.mono HC2.out (by omega)
    have HB3 : Hid (But cb w w2) := HB2.out
    clear HC2 HB2 hk0
    go_wp2_with fail
    refine (pick_at 9 _ rfl cb v n _ _ HC3.out (by omega) (by omega) (by omega)).mono ?_
    rintro e w4 ⟨y, rfl, hy, hC4, hb4⟩
    have HC4 : Hid _ := hC4
    have HB4 : Hid _ := But.trans HB3.out hb4
    obtain ⟨mm, hmme⟩ : ∃ mm : Nat, mm = 1 + y := ⟨_, rfl⟩
    have hmi : (1 : Int) + (y : Int) = (mm : Int) := by omega
    have hm1 : 1 ≤ mm := by omega
    have hm2 : mm ≤ 9 := by omega
    clear hC4 hb4 HC3 HB3 hmme hy
    go_wp2_with fail
    refine (one_at 20 _ rfl cb v n _ _ HC4.out (by omega) (by omega) (by omega)).mono ?_
    rintro e w5 ⟨b, rfl, hC5, hb5⟩
    have HC5 : Hid _ := hC5
    have HB5 : Hid _ := But.trans HB4.out hb5
    clear hC5 hb5 HC4 HB4
    cases b
    · go_wp2_with fail
      go_loopw [3, 4] (fun lv nv wr => ∃ (m : Nat) (l : List Int), nv = .int .i64 m ∧ m ≤ k0 ∧ l.length + m = k0 ∧ intsIn wr w.heap.size lv l ∧ Hid (Cursor wr cb v n (N + 10 + 2 * (k0 - m))) ∧ Hid (But cb w wr)) (fun _ nv _ => (intOf nv).toNat)
      case atStart => exact ⟨k0, [], rfl, Nat.le_refl _, by simp, intsIn.nil _ _, Cursor.mono HC5.out (by omega), HB5⟩
      case round =>
        obtain ⟨m, l, rfl, hm, hl, hown, HC, HB⟩ := hrel
        clear HC5 HB5
        by_cases h0 : 0 < m
        · have h0i : (0 : Int) < (m : Int) := by omega
          go_wp2_with fail
          refine (pick_at mm _ rfl cb v n _ _ HC.out (by omega) (by omega) (by omega)).mono ?_
          rintro e u1 ⟨a, rfl, ha, hC1, hb1⟩
          have hown1 := ints_but hown hb1 hcb
          have HB1 : Hid _ := But.trans HB.out hb1
          have HC1 : Hid _ := hC1
          have hs2 : w.heap.size ≤ u1.heap.size := HB1.out.2.2.2.1
          clear HC HB hC1 hb1 hown
          go_wp2_with (at_builtin; refine wpList_append_int u1 rfl _ _ rfl w.heap.size _ l (by rfl) hown1 (a : Int) _ rfl ?q3 hs2 w.heap.size (Nat.le_refl _) u1 (Below.refl _ _) ?_)
          case q3 => omega
          intro v' u3 hown' hbel'
          have HC3 : Hid _ := Cursor.belowB HC1.out hcb hbel'
          have HB3 : Hid _ := But.then HB1.out hbel'
          clear hown1 HC1 HB1 hbel'
          go_wp2_with fail
          go_roundw
          case rel => exact ⟨m - 1, _, by go_num, by omega, by simp; omega, hown', Cursor.mono HC3.out (by omega), HB3⟩
          case measure => simp [intOf]; omega
        · have hll : l.length ≤ 201 := by omega
          have h0i : ¬ ((0 : Int) < (m : Int)) := by omega
          have HC4 : Hid (Cursor wr cb v n (N + 500)) := Cursor.mono HC.out (by omega)
          obtain ⟨la, lc, hlv, hIWl⟩ := iw_of hown
          have HOw : Hid (intsIn wr w.heap.size u3 l) := hown
          clear HC hown hl
          cases l with
          | nil =>
            subst hlv
            clear hIWl
            go_wp2_with fail
            go_ret
            first | exact ⟨_, [], rfl, by simp, HOw.out, Cursor.mono HC4.out (by omega), HB.out⟩ | exact ⟨_, rfl, [], by simp, HOw.out, Cursor.mono HC4.out (by omega), HB.out⟩
          | cons c r =>
            obtain ⟨g, hla⟩ : ∃ g, la = some ⟨g, 0, none⟩ := by
              rcases hIWl with h | ⟨g, h, _⟩
              · cases h
              · exact ⟨g, h⟩
            subst hla
            subst hlv
            obtain ⟨len, hlen⟩ : ∃ len, len = (c :: r).length := ⟨_, rfl⟩
            rw [← hlen] at HOw hll
            rw [← hlen]
            have hlen0 : 0 < len := by rw [hlen]; simp
            have hleni : (0 : Int) < (len : Int) := by omega
            have HLn : Hid (len = (c :: r).length) := hlen
            clear hlen hIWl
            go_wp2_with fail
            refine (one_at 40 _ rfl cb v n _ _ HC4.out (by omega) (by omega) (by omega)).mono ?_
            rintro e u5 ⟨b, rfl, hC5, hb5⟩
            have hO5 := ints_but HOw.out hb5 hcb
            have HO5 : Hid _ := hO5
            have HC5 : Hid _ := hC5
            have HB5 : Hid _ := But.trans HB.out hb5
            clear hO5 hC5 hb5 HC4 HB HOw
            cases b
            · go_wp2_with fail
              go_ret
              exact ⟨_, c :: r, rfl, by rw [← HLn.out]; exact hll, HO5.out, Cursor.mono HC5.out (by omega), HB5.out⟩
            · go_wp2_with fail
              refine (amongI (fun _ => True) [-1, 99, 100] 3 rfl (by omega) (by omega) (fun _ _ => trivial) cb v n _ u5 HC5.out (by omega)).mono ?_
              rintro e u6 ⟨x, rfl, _, hC6, hb6⟩
              have hO6 := ints_but HO5.out hb6 hcb
              obtain ⟨⟨x0, d0⟩, d1, d2, d3, hO7⟩ := ints_head hO6 x
              have HO7 : Hid _ := hO7
              have HC7 : Hid (Cursor (u6.setCell ⟨g, 0, none⟩ (.int .i64 x)) cb v n (N + 600)) := Cursor.mono (Cursor.set hC6 (by omega) _) (by omega)
              have HB7 : Hid (But cb w (u6.setCell ⟨g, 0, none⟩ (.int .i64 x))) := but_set (But.trans HB5.out hb6) d3 _
              clear hO6 hC6 hb6 hO7 HO5 HC5 HB5
              go_wp2_with fail
              go_ret
              exact ⟨_, x :: r, rfl, by have := HLn.out; simp at this ⊢; omega, HO7.out, HC7.out, HB7.out⟩
    · go_wp2_with fail
      go_loopw [3, 4] (fun lv nv wr => ∃ (m : Nat) (l : List Int), nv = .int .i64 m ∧ m ≤ k0 ∧ l.length + m = k0 ∧ intsIn wr w.heap.size lv l ∧ Hid (Cursor wr cb v n (N + 10 + 2 * (k0 - m))) ∧ Hid (But cb w wr)) (fun _ nv _ => (intOf nv).toNat)
      case atStart => exact ⟨k0, [], rfl, Nat.le_refl _, by simp, intsIn.nil _ _, Cursor.mono HC5.out (by omega), HB5⟩
      case round =>
        obtain ⟨m, l, rfl, hm, hl, hown, HC, HB⟩ := hrel
        clear HC5 HB5
        by_cases h0 : 0 < m
        · have h0i : (0 : Int) < (m : Int) := by omega
          go_wp2_with fail
          refine (pick_at 60 _ rfl cb v n _ _ HC.out (by omega) (by omega) (by omega)).mono ?_
          rintro e u1 ⟨a, rfl, ha, hC1, hb1⟩
          have hown1 := ints_but hown hb1 hcb
          have HB1 : Hid _ := But.trans HB.out hb1
          have HC1 : Hid _ := hC1
          have hs2 : w.heap.size ≤ u1.heap.size := HB1.out.2.2.2.1
          clear HC HB hC1 hb1 hown
          go_wp2_with (at_builtin; refine wpList_append_int u1 rfl _ _ rfl w.heap.size _ l (by rfl) hown1 (a : Int) _ rfl ?q3 hs2 w.heap.size (Nat.le_refl _) u1 (Below.refl _ _) ?_)
          case q3 => omega
          intro v' u3 hown' hbel'
          have HC3 : Hid _ := Cursor.belowB HC1.out hcb hbel'
          have HB3 : Hid _ := But.then HB1.out hbel'
          clear hown1 HC1 HB1 hbel'
          go_wp2_with fail
          go_roundw
          case rel => exact ⟨m - 1, _, by go_num, by omega, by simp; omega, hown', Cursor.mono HC3.out (by omega), HB3⟩
          case measure => simp [intOf]; omega
        · have hll : l.length ≤ 201 := by omega
          have h0i : ¬ ((0 : Int) < (m : Int)) := by omega
          have HC4 : Hid (Cursor wr cb v n (N + 500)) := Cursor.mono HC.out (by omega)
          obtain ⟨la, lc, hlv, hIWl⟩ := iw_of hown
          have HOw : Hid (intsIn wr w.heap.size u3 l) := hown
          clear HC hown hl
          cases l with
          | nil =>
            subst hlv
            clear hIWl
            go_wp2_with fail
            go_ret
            first | exact ⟨_, [], rfl, by simp, HOw.out, Cursor.mono HC4.out (by omega), HB.out⟩ | exact ⟨_, rfl, [], by simp, HOw.out, Cursor.mono HC4.out (by omega), HB.out⟩
          | cons c r =>
            obtain ⟨g, hla⟩ : ∃ g, la = some ⟨g, 0, none⟩ := by
              rcases hIWl with h | ⟨g, h, _⟩
              · cases h
              · exact ⟨g, h⟩
            subst hla
            subst hlv
            obtain ⟨len, hlen⟩ : ∃ len, len = (c :: r).length := ⟨_, rfl⟩
            rw [← hlen] at HOw hll
            rw [← hlen]
            have hlen0 : 0 < len := by rw [hlen]; simp
            have hleni : (0 : Int) < (len : Int) := by omega
            have HLn : Hid (len = (c :: r).length) := hlen
            clear hlen hIWl
            go_wp2_with fail
            refine (one_at 40 _ rfl cb v n _ _ HC4.out (by omega) (by omega) (by omega)).mono ?_
            rintro e u5 ⟨b, rfl, hC5, hb5⟩
            have hO5 := ints_but HOw.out hb5 hcb
            have HO5 : Hid _ := hO5
            have HC5 : Hid _ := hC5
            have HB5 : Hid _ := But.trans HB.out hb5
            clear hO5 hC5 hb5 HC4 HB HOw
            cases b
            · go_wp2_with fail
              go_ret
              exact ⟨_, c :: r, rfl, by rw [← HLn.out]; exact hll, HO5.out, Cursor.mono HC5.out (by omega), HB5.out⟩
            · go_wp2_with fail
              refine (amongI (fun _ => True) [-1, 99, 100] 3 rfl (by omega) (by omega) (fun _ _ => trivial) cb v n _ u5 HC5.out (by omega)).mono ?_
              rintro e u6 ⟨x, rfl, _, hC6, hb6⟩
              have hO6 := ints_but HO5.out hb6 hcb
              obtain ⟨⟨x0, d0⟩, d1, d2, d3, hO7⟩ := ints_head hO6 x
              have HO7 : Hid _ := hO7
              have HC7 : Hid (Cursor (u6.setCell ⟨g, 0, none⟩ (.int .i64 x)) cb v n (N + 600)) := Cursor.mono (Cursor.set hC6 (by omega) _) (by omega)
              have HB7 : Hid (But cb w (u6.setCell ⟨g, 0, none⟩ (.int .i64 x))) := but_set (But.trans HB5.out hb6) d3 _
              clear hO6 hC6 hb6 hO7 HO5 HC5 HB5
              go_wp2_with fail
              go_ret
              exact ⟨_, x :: r, rfl, by have := HLn.out; simp at this ⊢; omega, HO7.out, HC7.out, HB7.out⟩
  · go_wp2_with fail
    refine (pick_at 12 _ rfl cb v n _ _ HC2.out (by omega) (by omega) (by omega)).mono ?_
    rintro e w3 ⟨x, rfl, hx, hC3, hb3⟩
    have HC3 : Hid (Cursor w3 cb v n (N + 6)) := Cursor.mono hC3 (by omega)
    have HB3 : Hid _ := But.trans HB2.out hb3
    obtain ⟨kk, hkke⟩ : ∃ kk : Nat, kk = 190 + x := ⟨_, rfl⟩
    have hki : (190 : Int) + (x : Int) = (kk : Int) := by omega
    have hkk : kk ≤ 201 := by omega
    clear hC3 hb3 HC2 HB2 hkke hx hk0
    go_wp2_with fail
    refine (pick_at 9 _ rfl cb v n _ _ HC3.out (by omega) (by omega) (by omega)).mono ?_
    rintro e w4 ⟨y, rfl, hy, hC4, hb4⟩
    have HC4 : Hid _ := hC4
    have HB4 : Hid _ := But.trans HB3.out hb4
    obtain ⟨mm, hmme⟩ : ∃ mm : Nat, mm = 1 + y := ⟨_, rfl⟩
    have hmi : (1 : Int) + (y : Int) = (mm : Int) := by omega
    have hm1 : 1 ≤ mm := by omega
    have hm2 : mm ≤ 9 := by omega
    clear hC4 hb4 HC3 HB3 hmme hy
    go_wp2_with fail
    refine (one_at 20 _ rfl cb v n _ _ HC4.out (by omega) (by omega) (by omega)).mono ?_
    rintro e w5 ⟨b, rfl, hC5, hb5⟩
    have HC5 : Hid _ := hC5
    have HB5 : Hid _ := But.trans HB4.out hb5
    clear hC5 hb5 HC4 HB4
    cases b
    · go_wp2_with fail
      go_loopw [3, 4] (fun lv nv wr => ∃ (m : Nat) (l : List Int), nv = .int .i64 m ∧ m ≤ kk ∧ l.length + m = kk ∧ intsIn wr w.heap.size lv l ∧ Hid (Cursor wr cb v n (N + 10 + 2 * (kk - m))) ∧ Hid (But cb w wr)) (fun _ nv _ => (intOf nv).toNat)
      case atStart => exact ⟨kk, [], rfl, Nat.le_refl _, by simp, intsIn.nil _ _, Cursor.mono HC5.out (by omega), HB5⟩
      case round =>
        obtain ⟨m, l, rfl, hm, hl, hown, HC, HB⟩ := hrel
        clear HC5 HB5
        by_cases h0 : 0 < m
        · have h0i : (0 : Int) < (m : Int) := by omega
          go_wp2_with fail
          refine (pick_at mm _ rfl cb v n _ _ HC.out (by omega) (by omega) (by omega)).mono ?_
          rintro e u1 ⟨a, rfl, ha, hC1, hb1⟩
          have hown1 := ints_but hown hb1 hcb
          have HB1 : Hid _ := But.trans HB.out hb1
          have HC1 : Hid _ := hC1
          have hs2 : w.heap.size ≤ u1.heap.size := HB1.out.2.2.2.1
          clear HC HB hC1 hb1 hown
          go_wp2_with (at_builtin; refine wpList_append_int u1 rfl _ _ rfl w.heap.size _ l (by rfl) hown1 (a : Int) _ rfl ?q3 hs2 w.heap.size (Nat.le_refl _) u1 (Below.refl _ _) ?_)
          case q3 => omega
          intro v' u3 hown' hbel'
          have HC3 : Hid _ := Cursor.belowB HC1.out hcb hbel'
          have HB3 : Hid _ := But.then HB1.out hbel'
          clear hown1 HC1 HB1 hbel'
          go_wp2_with fail
          go_roundw
          case rel => exact ⟨m - 1, _, by go_num, by omega, by simp; omega, hown', Cursor.mono HC3.out (by omega), HB3⟩
          case measure => simp [intOf]; omega
        · have hll : l.length ≤ 201 := by omega
          have h0i : ¬ ((0 : Int) < (m : Int)) := by omega
          have HC4 : Hid (Cursor wr cb v n (N + 500)) := Cursor.mono HC.out (by omega)
          obtain ⟨la, lc, hlv, hIWl⟩ := iw_of hown
          have HOw : Hid (intsIn wr w.heap.size u3 l) := hown
          clear HC hown hl
          cases l with
          | nil =>
            subst hlv
            clear hIWl
            go_wp2_with fail
            go_ret
            first | exact ⟨_, [], rfl, by simp, HOw.out, Cursor.mono HC4.out (by omega), HB.out⟩ | exact ⟨_, rfl, [], by simp, HOw.out, Cursor.mono HC4.out (by omega), HB.out⟩
          | cons c r =>
            obtain ⟨g, hla⟩ : ∃ g, la = some ⟨g, 0, none⟩ := by
              rcases hIWl with h | ⟨g, h, _⟩
              · cases h
              · exact ⟨g, h⟩
            subst hla
            subst hlv
            obtain ⟨len, hlen⟩ : ∃ len, len = (c :: r).length := ⟨_, rfl⟩
            rw [← hlen] at HOw hll
            rw [← hlen]
            have hlen0 : 0 < len := by rw [hlen]; simp
            have hleni : (0 : Int) < (len : Int) := by omega
            have HLn : Hid (len = (c :: r).length) := hlen
            clear hlen hIWl
            go_wp2_with fail
            refine (one_at 40 _ rfl cb v n _ _ HC4.out (by omega) (by omega) (by omega)).mono ?_
            rintro e u5 ⟨b, rfl, hC5, hb5⟩
            have hO5 := ints_but HOw.out hb5 hcb
            have HO5 : Hid _ := hO5
            have HC5 : Hid _ := hC5
            have HB5 : Hid _ := But.trans HB.out hb5
            clear hO5 hC5 hb5 HC4 HB HOw
            cases b
            · go_wp2_with fail
              go_ret
              exact ⟨_, c :: r, rfl, by rw [← HLn.out]; exact hll, HO5.out, Cursor.mono HC5.out (by omega), HB5.out⟩
            · go_wp2_with fail
              refine (amongI (fun _ => True) [-1, 99, 100] 3 rfl (by omega) (by omega) (fun _ _ => trivial) cb v n _ u5 HC5.out (by omega)).mono ?_
              rintro e u6 ⟨x, rfl, _, hC6, hb6⟩
              have hO6 := ints_but HO5.out hb6 hcb
              obtain ⟨⟨x0, d0⟩, d1, d2, d3, hO7⟩ := ints_head hO6 x
              have HO7 : Hid _ := hO7
              have HC7 : Hid (Cursor (u6.setCell ⟨g, 0, none⟩ (.int .i64 x)) cb v n (N + 600)) := Cursor.mono (Cursor.set hC6 (by omega) _) (by omega)
              have HB7 : Hid (But cb w (u6.setCell ⟨g, 0, none⟩ (.int .i64 x))) := but_set (But.trans HB5.out hb6) d3 _
              clear hO6 hC6 hb6 hO7 HO5 HC5 HB5
              go_wp2_with fail
              go_ret
              exact ⟨_, x :: r, rfl, by have := HLn.out; simp at this ⊢; omega, HO7.out, HC7.out, HB7.out⟩
    · go_wp2_with fail
      go_loopw [3, 4] (fun lv nv wr => ∃ (m : Nat) (l : List Int), nv = .int .i64 m ∧ m ≤ kk ∧ l.length + m = kk ∧ intsIn wr w.heap.size lv l ∧ Hid (Cursor wr cb v n (N + 10 + 2 * (kk - m))) ∧ Hid (But cb w wr)) (fun _ nv _ => (intOf nv).toNat)
      case atStart => exact ⟨kk, [], rfl, Nat.le_refl _, by simp, intsIn.nil _ _, Cursor.mono HC5.out (by omega), HB5⟩
      case round =>
        obtain ⟨m, l, rfl, hm, hl, hown, HC, HB⟩ := hrel
        clear HC5 HB5
        by_cases h0 : 0 < m
        · have h0i : (0 : Int) < (m : Int) := by omega
          go_wp2_with fail
          refine (pick_at 60 _ rfl cb v n _ _ HC.out (by omega) (by omega) (by omega)).mono ?_
          rintro e u1 ⟨a, rfl, ha, hC1, hb1⟩
          have hown1 := ints_but hown hb1 hcb
          have HB1 : Hid _ := But.trans HB.out hb1
          have HC1 : Hid _ := hC1
          have hs2 : w.heap.size ≤ u1.heap.size := HB1.out.2.2.2.1
          clear HC HB hC1 hb1 hown
          go_wp2_with (at_builtin; refine wpList_append_int u1 rfl _ _ rfl w.heap.size _ l (by rfl) hown1 (a : Int) _ rfl ?q3 hs2 w.heap.size (Nat.le_refl _) u1 (Below.refl _ _) ?_)
          case q3 => omega
          intro v' u3 hown' hbel'
          have HC3 : Hid _ := Cursor.belowB HC1.out hcb hbel'
          have HB3 : Hid _ := But.then HB1.out hbel'
          clear hown1 HC1 HB1 hbel'
          go_wp2_with fail
          go_roundw
          case rel => exact ⟨m - 1, _, by go_num, by omega, by simp; omega, hown', Cursor.mono HC3.out (by omega), HB3⟩
          case measure => simp [intOf]; omega
        · have hll : l.length ≤ 201 := by omega
          have h0i : ¬ ((0 : Int) < (m : Int)) := by omega
          have HC4 : Hid (Cursor wr cb v n (N + 500)) := Cursor.mono HC.out (by omega)
          obtain ⟨la, lc, hlv, hIWl⟩ := iw_of hown
          have HOw : Hid (intsIn wr w.heap.size u3 l) := hown
          clear HC hown hl
          cases l with
          | nil =>
            subst hlv
            clear hIWl
            go_wp2_with fail
            go_ret
            first | exact ⟨_, [], rfl, by simp, HOw.out, Cursor.mono HC4.out (by omega), HB.out⟩ | exact ⟨_, rfl, [], by simp, HOw.out, Cursor.mono HC4.out (by omega), HB.out⟩
          | cons c r =>
            obtain ⟨g, hla⟩ : ∃ g, la = some ⟨g, 0, none⟩ := by
              rcases hIWl with h | ⟨g, h, _⟩
              · cases h
              · exact ⟨g, h⟩
            subst hla
            subst hlv
            obtain ⟨len, hlen⟩ : ∃ len, len = (c :: r).length := ⟨_, rfl⟩
            rw [← hlen] at HOw hll
            rw [← hlen]
            have hlen0 : 0 < len := by rw [hlen]; simp
            have hleni : (0 : Int) < (len : Int) := by omega
            have HLn : Hid (len = (c :: r).length) := hlen
            clear hlen hIWl
            go_wp2_with fail
            refine (one_at 40 _ rfl cb v n _ _ HC4.out (by omega) (by omega) (by omega)).mono ?_
            rintro e u5 ⟨b, rfl, hC5, hb5⟩
            have hO5 := ints_but HOw.out hb5 hcb
            have HO5 : Hid _ := hO5
            have HC5 : Hid _ := hC5
            have HB5 : Hid _ := But.trans HB.out hb5
            clear hO5 hC5 hb5 HC4 HB HOw
            cases b
            · go_wp2_with fail
              go_ret
              exact ⟨_, c :: r, rfl, by rw [← HLn.out]; exact hll, HO5.out, Cursor.mono HC5.out (by omega), HB5.out⟩
            · go_wp2_with fail
              refine (amongI (fun _ => True) [-1, 99, 100] 3 rfl (by omega) (by omega) (fun _ _ => trivial) cb v n _ u5 HC5.out (by omega)).mono ?_
              rintro e u6 ⟨x, rfl, _, hC6, hb6⟩
              have hO6 := ints_but HO5.out hb6 hcb
              obtain ⟨⟨x0, d0⟩, d1, d2, d3, hO7⟩ := ints_head hO6 x
              have HO7 : Hid _ := hO7
              have HC7 : Hid (Cursor (u6.setCell ⟨g, 0, none⟩ (.int .i64 x)) cb v n (N + 600)) := Cursor.mono (Cursor.set hC6 (by omega) _) (by omega)
              have HB7 : Hid (But cb w (u6.setCell ⟨g, 0, none⟩ (.int .i64 x))) := but_set (But.trans HB5.out hb6) d3 _
              clear hO6 hC6 hb6 hO7 HO5 HC5 HB5
              go_wp2_with fail
              go_ret
              exact ⟨_, x :: r, rfl, by have := HLn.out; simp at this ⊢; omega, HO7.out, HC7.out, HB7.out⟩

end Go.Proofs.Yteniompfkfhemaa.Iit
