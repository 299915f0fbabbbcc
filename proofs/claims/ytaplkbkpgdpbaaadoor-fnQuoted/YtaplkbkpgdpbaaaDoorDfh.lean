/-
  Walks: draws: (*l1Cur).fields; spec.DrawQuoteOf, DrawSetField.
-/
import Derived.Test.YtaplkbkpgdpbaaaDoorDfg
namespace Go.Proofs.YtaplkbkpgdpbaaaDoor.Cur
open Go.RowKit
open Go.Proofs.YtaplkbkpgdpbaaaDoor.Fdb (fieldsIn wpList_append_field FV fv_of RowF)

theorem fields_but {w w' : World} {B cb : Nat} {v : Value} {l : List (ByteArray × ByteArray)} (h : fieldsIn w B v l) (hb : But cb w w') (hc : cb < B) : fieldsIn w' B v l := by
  refine ⟨h.1, ?_⟩
  rcases h.2 with hn | ⟨g, cap, cur, rfl, hbg, hg, rest⟩
  · exact .inl hn
  · exact .inr ⟨g, cap, cur, rfl, hbg, (hb.2.2.2.2 g (Array.getElem?_eq_some_iff.1 hg).1 (by omega)).trans hg, rest⟩

set_option maxRecDepth 20000 in
set_option maxHeartbeats 1600000 in
theorem fields_any (cb : Nat) (v : Value) (n N : Nat) (w : World) (hC : Cursor w cb v n N) (hN : N ≤ 600000000) :
    Calls Tryd.prog 49 #[.pointer (some ⟨cb, 0, none⟩)] w fun e w' => ∃ (r : Value) (l : List (ByteArray × ByteArray)), e = .returned r ∧ l.length ≤ 41 ∧ (∀ c ∈ l, c.1.size ≤ 10 ∧ c.2.size ≤ 10) ∧ fieldsIn w' w.heap.size r l ∧ Cursor w' cb v n (N + 600) ∧ But cb w w' := by
  have hcb : cb < w.heap.size := hC.2.2.1
  have HC0 : Hid _ := hC
  clear hC
  go_enter Tryd.func49, Tryd.ntmps49
  go_wp2_with fail
  refine (pick_at 6 _ rfl cb v n _ _ HC0.out (by omega) (by omega) (by omega)).mono ?_
  rintro e w1 ⟨x1, rfl, hx1, hC1, hb1⟩
  have HC1 : Hid _ := hC1
  have Hb1 : Hid _ := hb1
  clear hC1 hb1 HC0
  go_wp2_with fail
  refine (one_at 40 _ rfl cb v n _ _ HC1.out (by omega) (by omega) (by omega)).mono ?_
  rintro e w2 ⟨b, rfl, hC2, hb2⟩
  have HC2 : Hid _ := hC2
  have Hb2 : Hid _ := But.trans Hb1.out hb2
  clear hC2 hb2 HC1 Hb1
  cases b
  · go_wp2_with fail
    go_loopw [3, 4] (fun lv nv wr => ∃ (m : Nat) (l : List (ByteArray × ByteArray)), nv = .int .i64 m ∧ l.length + m = x1 ∧ (∀ c ∈ l, c.1.size ≤ 10 ∧ c.2.size ≤ 10) ∧ fieldsIn wr w.heap.size lv l ∧ Hid (Cursor wr cb v n (N + 6 + 10 * l.length)) ∧ Hid (But cb w wr)) (fun _ nv _ => (intOf nv).toNat)
    case atStart => exact ⟨x1, [], rfl, by simp, fun c hc => (by cases hc), World.ownsRow_nil _ _ _ _, Cursor.mono HC2.out (by omega), Hb2⟩
    case round =>
      obtain ⟨m, l, rfl, hl, hz, hown, HC, HB⟩ := hrel
      clear HC2 Hb2
      by_cases h0 : 0 < m
      · go_wp2_with fail
        refine (field_any cb v n _ _ HC.out (by omega)).mono ?_
        rintro e w5 ⟨X, z, rfl, hX, hz2, hC5, hb5⟩
        have hown2 := fields_but hown hb5 hcb
        have HC5 : Hid _ := hC5
        have HB5 : Hid _ := But.trans HB.out hb5
        have hs5 : w.heap.size ≤ w5.heap.size := HB5.out.2.2.2.1
        have hz' : ∀ c ∈ l ++ [(X, z)], c.1.size ≤ 10 ∧ c.2.size ≤ 10 := by
          intro c hc
          rcases List.mem_append.1 hc with hc | hc
          · exact hz c hc
          · rw [List.mem_singleton.1 hc]; exact ⟨hX, hz2⟩
        clear HC HB hC5 hb5 hown hz
        go_wp2_with (at_builtin; refine wpList_append_field w5 rfl _ _ rfl w.heap.size _ l (by rfl) hown2 _ _ _ rfl ?q3 hs5 w.heap.size (Nat.le_refl _) w5 (Below.refl _ _) ?_)
        case q3 => omega
        intro v' w6 hown' hbel'
        have HC6 : Hid _ := Cursor.belowB HC5.out hcb hbel'
        have HB6 : Hid _ := But.then HB5.out hbel'
        clear hown2 HC5 HB5 hbel'
        go_wp2_with fail
        go_roundw
        case rel => exact ⟨m - 1, _, by go_num, by simp; omega, hz', hown', Cursor.mono HC6.out (by simp; omega), HB6⟩
        case measure => simp [intOf]; omega
      · go_wp2_with fail
        go_ret
        exact ⟨_, l, rfl, by omega, hz, hown, Cursor.mono HC.out (by omega), HB.out⟩
  · go_wp2_with fail
    refine (pick_at 2 _ rfl cb v n _ _ HC2.out (by omega) (by omega) (by omega)).mono ?_
    rintro e w3 ⟨x3, rfl, hx3, hC3, hb3⟩
    have HC3 : Hid _ := hC3
    have Hb3 : Hid _ := But.trans Hb2.out hb3
    clear hC3 hb3 HC2 Hb2
    go_wp2_with fail
    go_loopw [3, 4] (fun lv nv wr => ∃ (m : Nat) (l : List (ByteArray × ByteArray)), nv = .int .i64 m ∧ l.length + m = 40 + x3 ∧ (∀ c ∈ l, c.1.size ≤ 10 ∧ c.2.size ≤ 10) ∧ fieldsIn wr w.heap.size lv l ∧ Hid (Cursor wr cb v n (N + 6 + 10 * l.length)) ∧ Hid (But cb w wr)) (fun _ nv _ => (intOf nv).toNat)
    case atStart => exact ⟨40 + x3, [], by go_num, by simp, fun c hc => (by cases hc), World.ownsRow_nil _ _ _ _, Cursor.mono HC3.out (by omega), Hb3⟩
    case round =>
      obtain ⟨m, l, rfl, hl, hz, hown, HC, HB⟩ := hrel
      clear HC3 Hb3
      by_cases h0 : 0 < m
      · go_wp2_with fail
        refine (field_any cb v n _ _ HC.out (by omega)).mono ?_
        rintro e w5 ⟨X, z, rfl, hX, hz2, hC5, hb5⟩
        have hown2 := fields_but hown hb5 hcb
        have HC5 : Hid _ := hC5
        have HB5 : Hid _ := But.trans HB.out hb5
        have hs5 : w.heap.size ≤ w5.heap.size := HB5.out.2.2.2.1
        have hz' : ∀ c ∈ l ++ [(X, z)], c.1.size ≤ 10 ∧ c.2.size ≤ 10 := by
          intro c hc
          rcases List.mem_append.1 hc with hc | hc
          · exact hz c hc
          · rw [List.mem_singleton.1 hc]; exact ⟨hX, hz2⟩
        clear HC HB hC5 hb5 hown hz
        go_wp2_with (at_builtin; refine wpList_append_field w5 rfl _ _ rfl w.heap.size _ l (by rfl) hown2 _ _ _ rfl ?q3 hs5 w.heap.size (Nat.le_refl _) w5 (Below.refl _ _) ?_)
        case q3 => omega
        intro v' w6 hown' hbel'
        have HC6 : Hid _ := Cursor.belowB HC5.out hcb hbel'
        have HB6 : Hid _ := But.then HB5.out hbel'
        clear hown2 HC5 HB5 hbel'
        go_wp2_with fail
        go_roundw
        case rel => exact ⟨m - 1, _, by go_num, by simp; omega, hz', hown', Cursor.mono HC6.out (by simp; omega), HB6⟩
        case measure => simp [intOf]; omega
      · go_wp2_with fail
        go_ret
        exact ⟨_, l, rfl, by omega, hz, hown, Cursor.mono HC.out (by omega), HB.out⟩

set_option maxRecDepth 20000 in
set_option maxHeartbeats 1600000 in
theorem drawSet_any (v : Value) (n : Nat) (w : World) (hA : CodeArg w v n) (hn : n ≤ 2000000) :
    Calls Tryd.prog 14 #[v] w fun e w' => ∃ (a : Option Addr) (ca : Nat) (l : List (ByteArray × ByteArray)) (X z : ByteArray), e = .returned (.tuple #[.slice a l.length ca, .agg #[.string X, .string z]]) ∧ l.length ≤ 41 ∧ (∀ c ∈ l, c.1.size ≤ 10 ∧ c.2.size ≤ 10) ∧ X.size ≤ 10 ∧ z.size ≤ 10 ∧ FV w' a l w.heap.size w'.heap.size ∧ Below w.heap.size w w' := by
  obtain ⟨o, cap, rfl⟩ := hA.form
  have hb0 := (Below.refl w.heap.size w).alloc (Nat.le_refl _) (.cells #[.string ⟨#[]⟩, .string ⟨#[]⟩] 31)
  have hC := start (hA.below (Nat.le_refl _) hb0) hn 65
  have hs : (w.alloc (.cells #[.string ⟨#[]⟩, .string ⟨#[]⟩] 31)).heap.size = w.heap.size + 1 := by simp
  rw [hs] at hC
  have HB0 : Hid (Below w.heap.size w ((w.alloc (.cells #[.string ⟨#[]⟩, .string ⟨#[]⟩] 31)).alloc (.cells #[.slice o n cap, .int .i64 0, .int .u64 0] 65))) := hb0.alloc (by simp) _
  have HR0 : Hid (FB ((w.alloc (.cells #[.string ⟨#[]⟩, .string ⟨#[]⟩] 31)).alloc (.cells #[.slice o n cap, .int .i64 0, .int .u64 0] 65)) w.heap.size) := FB.but (cb := w.heap.size + 5) (FB.made w ⟨#[]⟩ ⟨#[]⟩ 31 (by decide) (by decide)) (But.of_below ((Below.refl _ _).alloc (Nat.le_refl _) _)) (by omega)
  have HC0 : Hid _ := hC
  have hs2 : ((w.alloc (.cells #[.string ⟨#[]⟩, .string ⟨#[]⟩] 31)).alloc (.cells #[.slice o n cap, .int .i64 0, .int .u64 0] 65)).heap.size = w.heap.size + 2 := by simp
  clear hC hb0 hA hs
  go_enter Tryd.func14, Tryd.ntmps14
  go_wp2_with fail
  refine (fields_any _ _ n _ _ HC0.out (by omega)).mono ?_
  rintro e w1 ⟨r, l, rfl, hl, hz, hown, hC1, hb1⟩
  have hs1 : w.heap.size + 2 ≤ w1.heap.size := by have := hb1.2.2.2.1; omega
  have hown1 : fieldsIn w1 (w.heap.size + 2) r l := by rw [hs2] at hown; exact hown
  have HC1 : Hid _ := hC1
  have HR1 : Hid _ := FB.but HR0.out hb1 (by omega)
  have HB1 : Hid (Below w.heap.size w w1) := HB0.out.trans (hb1.below (by omega) (by omega))
  clear hown hC1 hb1 HC0 HR0 HB0 hs2
  go_wp2_with fail
  refine (field_any _ _ n _ _ HC1.out (by omega)).mono ?_
  rintro e w2 ⟨X, z, rfl, hX, hz2, hC2, hb2⟩
  have hown2 := fields_but hown1 hb2 (by omega)
  obtain ⟨r1, r2, X', z', _, _, q1, q2⟩ := FB.but HR1.out hb2 (by omega)
  have HB2 : Hid (Below w.heap.size w w2) := HB1.out.trans (hb2.below (by omega) (by omega))
  have hs3 : w.heap.size + 2 ≤ w2.heap.size := Nat.le_trans hs1 hb2.2.2.2.1
  obtain ⟨a, ca, rfl, hTV⟩ := fv_of hown2
  have hTV3 : FV ((w2.setCell ⟨w.heap.size, 0, none⟩ (.string X)).setCell ⟨w.heap.size, 1, none⟩ (.string z)) a l w.heap.size w2.heap.size := by
    rcases hTV with h | ⟨g, h1, h2, h3, h4, h5, h6⟩
    · exact .inl h
    · refine .inr ⟨g, h1, by omega, h3, by simpa [World.setCell] using h4, fun i => by simp [go_sem, h5], fun i c hc => ?_⟩
      obtain ⟨k1, k2⟩ := h6 i c hc
      exact ⟨by rw [World.cell?_setCell_other _ _ _ _ (by simp), World.cell?_setCell_other _ _ _ _ (by simp)]; exact k1, by rw [World.cell?_setCell_other _ _ _ _ (by simp), World.cell?_setCell_other _ _ _ _ (by simp)]; exact k2⟩
  have hBe : Below w.heap.size w ((w2.setCell ⟨w.heap.size, 0, none⟩ (.string X)).setCell ⟨w.heap.size, 1, none⟩ (.string z)) := (HB2.out.setCell (Nat.le_refl _) _).setCell (Nat.le_refl _) _
  have hse : ((w2.setCell ⟨w.heap.size, 0, none⟩ (.string X)).setCell ⟨w.heap.size, 1, none⟩ (.string z)).heap.size = w2.heap.size := by simp [World.setCell]
  clear hown1 hown2 HC1 HR1 HB1 hC2 hb2 HB2 hTV
  go_wp2_with fail
  exact bodyPost_ret (v := .tuple #[.slice a l.length ca, .agg #[.string X, .string z]]) (by simp [results, Tryd.results14, go_sem, q1, q2]) rfl ⟨a, ca, l, X, z, rfl, hl, hz, hX, hz2, by rw [hse]; exact hTV3, hBe⟩

set_option maxRecDepth 20000 in
set_option maxHeartbeats 1600000 in
theorem drawQuote_any (v : Value) (n : Nat) (w : World) (hA : CodeArg w v n) (hn : n ≤ 2000000) :
    Calls Tryd.prog 9 #[v] w fun e w' => ∃ s : ByteArray, e = .returned (.string s) ∧ s.size ≤ 100 ∧ Below w.heap.size w w' := by
  obtain ⟨o, cap, rfl⟩ := hA.form
  have HC0 : Hid _ := start hA hn 65
  have HB0 : Hid _ := (Below.refl w.heap.size w).alloc (Nat.le_refl _) (.cells #[.slice o n cap, .int .i64 0, .int .u64 0] 65)
  have hs0 : (w.alloc (.cells #[.slice o n cap, .int .i64 0, .int .u64 0] 65)).heap.size = w.heap.size + 1 := by simp
  clear hA
  go_enter Tryd.func9, Tryd.ntmps9
  go_wp2_with fail
  refine (one_at 20 _ rfl _ _ n _ _ HC0.out (by omega) (by omega) (by omega)).mono ?_
  rintro e w1 ⟨b, rfl, hC1, hb1⟩
  have HC1 : Hid _ := hC1
  have HB1 : Hid (Below w.heap.size w w1) := HB0.out.trans (hb1.below (Nat.le_refl _) (by omega))
  have hs1 : w.heap.size + 1 ≤ w1.heap.size := by have := hb1.2.2.2.1; omega
  clear hC1 hb1 HC0 HB0
  cases b
  · go_wp2_with fail
    refine (printed_any _ _ n _ _ HC1.out (by omega)).mono ?_
    rintro e w2 ⟨T, rfl, hT, hC2, hb2⟩
    have hB2 : Below w.heap.size w w2 := HB1.out.trans (hb2.below (Nat.le_refl _) (by omega))
    clear HC1 HB1 hC2 hb2
    go_wp2_with fail
    go_ret
    exact ⟨T, rfl, by omega, hB2⟩
  · go_wp2_with fail
    refine (of_new2 (fun x => x.size ≤ 10) [⟨#[10]⟩, ⟨#[127]⟩] (by decide) 2 rfl (by omega) (by omega) w.heap.size _ n _ _ HC1.out (by omega)).mono ?_
    rintro e w2 ⟨T, rfl, hT, hC2, hb2⟩
    have hB2 : Below w.heap.size w w2 := HB1.out.trans (hb2.below (Nat.le_refl _) (by omega))
    clear HC1 HB1 hC2 hb2
    go_wp2_with fail
    go_ret
    exact ⟨T, rfl, by omega, hB2⟩

end Go.Proofs.YtaplkbkpgdpbaaaDoor.Cur
