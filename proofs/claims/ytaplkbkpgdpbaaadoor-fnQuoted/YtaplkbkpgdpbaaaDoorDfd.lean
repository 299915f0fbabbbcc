/-
  Walks: draws: (*l1Cur).choices, printed; spec.DrawBestChoice, DrawListOf.
-/
import Derived.Test.YtaplkbkpgdpbaaaDoorDfc
namespace Go.Proofs.YtaplkbkpgdpbaaaDoor.Cur
open Go.RowKit
open Go.Proofs.YtaplkbkpgdpbaaaDoor.Own

set_option maxHeartbeats 1600000 in
theorem choices_any (cb : Nat) (v : Value) (n N : Nat) (w : World) (hC : Cursor w cb v n N) (hN : N ≤ 700000000) :
    Calls Tryd.prog 63 #[.pointer (some ⟨cb, 0, none⟩)] w fun e w' => ∃ T : ByteArray, e = .returned (.string T) ∧ T.size ≤ 100 ∧ Cursor w' cb v n (N + 100) ∧ But cb w w' := by
  have hcb : cb < w.heap.size := hC.2.2.1
  have HC0 : Hid _ := hC
  clear hC
  go_enter Tryd.func63, Tryd.ntmps63
  go_wp2_with fail
  refine (pick_at 5 _ rfl cb v n _ _ HC0.out (by omega) (by omega) (by omega)).mono ?_
  rintro e w1 ⟨x1, rfl, hx1', hC1, hb1⟩
  have HC1 : Hid _ := hC1
  have Hb1 : Hid _ := hb1
  clear hC1 hb1 HC0
  go_wp2_with fail
  go_loopw [3, 4] (fun sv nv wr => ∃ (m : Nat) (T : ByteArray), sv = .string T ∧ nv = .int .i64 m ∧ m ≤ x1 ∧ T.size ≤ 14 * (x1 - m) ∧ Hid (Cursor wr cb v n (N + 2 + 4 * (x1 - m))) ∧ Hid (But cb w wr)) (fun _ nv _ => (intOf nv).toNat)
  case atStart => exact ⟨x1, ⟨#[]⟩, rfl, rfl, by omega, Nat.zero_le _, Cursor.mono HC1.out (by omega), Hb1⟩
  case round =>
    obtain ⟨m, T, rfl, rfl, hm, hsz, HC, HB⟩ := hrel
    clear HC1 Hb1
    by_cases h0 : 0 < m
    · go_wp2_with fail
      refine (of_new (fun x => x.size ≤ 4) [⟨#[103, 122, 105, 112]⟩, ⟨#[98, 114]⟩, ⟨#[42]⟩, ⟨#[120]⟩, ⟨#[71, 90, 73, 80]⟩] (by decide) 5 rfl (by omega) (by omega) cb v n _ w _ HC.out HB.out (by omega)).mono ?_
      rintro e w2 ⟨y1, rfl, hy1, hC2, hb2⟩
      have HC2 : Hid _ := hC2
      have HB2 : Hid _ := hb2
      clear HC HB hC2 hb2
      go_wp2_with fail
      refine (of_new (fun x => x.size ≤ 8) [⟨#[]⟩, ⟨#[59, 113, 61, 48, 46, 53]⟩, ⟨#[59, 32, 113, 61, 49]⟩, ⟨#[59, 113, 61, 48]⟩, ⟨#[59, 113, 61, 48, 46, 48, 48, 49]⟩, ⟨#[59, 113, 61, 49, 46, 48, 48, 48]⟩] (by decide) 6 rfl (by omega) (by omega) cb v n _ w _ HC2.out HB2.out (by omega)).mono ?_
      rintro e w3 ⟨y2, rfl, hy2, hC3, hb3⟩
      have HC3 : Hid _ := hC3
      have HB3 : Hid _ := hb3
      have z1 : (y1 ++ y2).size ≤ 12 := by rw [ByteArray.size_append]; omega
      have z2 : ((y1 ++ y2) ++ (⟨#[44, 32]⟩ : ByteArray)).size ≤ 14 := by rw [ByteArray.size_append]; have : (⟨#[44, 32]⟩ : ByteArray).size = 2 := rfl; omega
      clear HC2 HB2 hC3 hb3
      go_wp2_with fail
      go_roundw
      case rel => exact ⟨m - 1, _, rfl, by go_num, by omega, by rw [ByteArray.size_append]; omega, Cursor.mono HC3.out (by omega), HB3⟩
      case measure => simp [intOf]; omega
    · go_wp2_with fail
      refine (one_at 8 _ rfl cb v n _ _ HC.out (by omega) (by omega) (by omega)).mono ?_
      rintro e w2 ⟨b, rfl, hC2, hb2⟩
      have HC2 : Hid _ := hC2
      have HB2 : Hid _ := But.trans HB.out hb2
      clear HC HB hC2 hb2
      cases b
      · go_wp2_with fail
        go_ret
        exact ⟨T, rfl, by omega, Cursor.mono HC2.out (by omega), HB2.out⟩
      · go_wp2_with fail
        refine (spoilt_any cb v n _ _ T ⟨#[59, 113, 61, 46, 49, 44]⟩ HC2.out (by omega) (by omega) (by decide) (by decide)).mono ?_
        rintro e w3 ⟨T2, rfl, hT2, hC3, hb3⟩
        have HC3 : Hid _ := hC3
        have HB3 : Hid _ := But.trans HB2.out hb3
        clear HC2 HB2 hC3 hb3
        go_wp2_with fail
        go_ret
        exact ⟨T2, rfl, by omega, Cursor.mono HC3.out (by omega), HB3.out⟩

/-- A row of bytes of the call's own. -/
def RowB (w : World) (g k : Nat) : Prop := g < w.heap.size ∧ (∀ i, w.frozen? ⟨g, i, none⟩ = false) ∧ ∀ j, j < k → ∃ c : UInt8, w.cell? ⟨g, j, none⟩ = some (.int .u8 (c.toNat : Int))
theorem RowB.but {w w' : World} {g k cb : Nat} (h : RowB w g k) (hb : But cb w w') (hc : g ≠ cb) : RowB w' g k :=
  ⟨Nat.lt_of_lt_of_le h.1 hb.2.2.2.1, fun i => ((bcells hb).2 g i h.1 hc).trans (h.2.1 i), fun j hj => by obtain ⟨c, e⟩ := h.2.2 j hj; exact ⟨c, ((bcells hb).1 g j h.1 hc).trans e⟩⟩
theorem RowB.set {w : World} {g k : Nat} (h : RowB w g k) (i : Nat) (c : UInt8) (x : Int) (hx : x = (c.toNat : Int)) : RowB (w.setCell ⟨g, i, none⟩ (.int .u8 x)) g k := by
  subst hx
  obtain ⟨h1, h2, h3⟩ := h
  refine ⟨by simpa [World.setCell] using h1, fun j => by simp [go_sem, h2], fun j hj => ?_⟩
  obtain ⟨d, e⟩ := h3 j hj
  by_cases hji : j = i
  · subst hji
    exact ⟨c, World.cell?_setCell_same _ _ _ e⟩
  · exact ⟨d, by rw [World.cell?_setCell_other _ _ _ _ (by simp)]; exact e⟩
theorem RowB.text {w : World} {g k : Nat} (h : RowB w g k) (cap : Nat) : ∃ T : ByteArray, T.size = k ∧ (convert 22 9 (.slice (some ⟨g, 0, none⟩) k cap)).run Tryd.prog w = .ok (.string T) w := by
  have hl : ∃ l : List UInt8, l.length = k ∧ ∀ j, (hj : j < l.length) → w.cell? ⟨g, j, none⟩ = some (.int .u8 (l[j].toNat : Int)) := by
    refine ⟨List.ofFn fun j : Fin k => Classical.choose (h.2.2 j.1 j.2), by simp, fun j hj => ?_⟩
    have hk : j < k := by simpa using hj
    rw [List.getElem_ofFn]
    exact Classical.choose_spec (h.2.2 j hk)
  obtain ⟨l, rfl, hc⟩ := hl
  refine ⟨⟨l.toArray⟩, by show l.toArray.size = _; simp, ?_⟩
  refine run_convert_bytes_back w 22 9 5 ⟨g, 0, none⟩ cap l Tryd.underlying22 Tryd.underlying5 Tryd.underlying9 (fun j hj => ?_)
  rw [Addr.add_lit, Nat.zero_add]
  exact hc j hj
theorem row_of {w : World} {B : Nat} {v : Value} {l : List UInt8} (h : bytesIn w B v l) : (v = .slice none 0 0 ∧ l = []) ∨ ∃ g cap, v = .slice (some ⟨g, 0, none⟩) l.length cap ∧ B ≤ g ∧ RowB w g l.length := by
  have hh := h
  rcases h.2 with ⟨rfl, h0⟩ | ⟨g, cap, cur, rfl, hbg, hg, hnc, hcm, hcs, htake⟩
  · exact .inl ⟨rfl, by simpa using h0⟩
  · refine .inr ⟨g, cap, rfl, hbg, (Array.getElem?_eq_some_iff.1 hg).1, fun i => by simp [World.frozen?, hg], fun j hj => ⟨l[j], ?_⟩⟩
    have := World.ownsRow.cells hh (g := g) rfl j _ (by simp [List.getElem?_eq_getElem hj]; rfl)
    rwa [Addr.add_lit, Nat.zero_add] at this

theorem seen_byte (c : UInt8) : ∃ d : UInt8, IntKind.u8.wrap (32 + (c.toNat : Int) % 95) = (d.toNat : Int) := by
  refine ⟨UInt8.ofNat (32 + c.toNat % 95), ?_⟩
  rw [IntKind.wrap_u8, UInt8.toNat_ofNat']
  omega

set_option maxRecDepth 20000 in
set_option maxHeartbeats 1600000 in
theorem printed_any (cb : Nat) (v : Value) (n N : Nat) (w : World) (hC : Cursor w cb v n N) (hN : N ≤ 700000000) :
    Calls Tryd.prog 44 #[.pointer (some ⟨cb, 0, none⟩)] w fun e w' => ∃ T : ByteArray, e = .returned (.string T) ∧ T.size ≤ 8 ∧ Cursor w' cb v n (N + 100) ∧ But cb w w' := by
  have hcb : cb < w.heap.size := hC.2.2.1
  have HC0 : Hid _ := hC
  clear hC
  go_enter Tryd.func44, Tryd.ntmps44
  go_wp2_with fail
  refine (pick_at 9 _ rfl cb v n _ _ HC0.out (by omega) (by omega) (by omega)).mono ?_
  rintro e w1 ⟨x1, rfl, hx1', hC1, hb1⟩
  have HC1 : Hid _ := hC1
  have Hb1 : Hid _ := hb1
  have hs1 := hb1.2.2.2.1
  clear hC1 hb1 HC0
  go_wp2_with fail
  refine (bytes_any cb x1 v n _ _ HC1.out (by omega) (by omega)).mono ?_
  rintro e w2 ⟨r, l, rfl, hl, hown, hC2, hb2⟩
  have HC2 : Hid _ := hC2
  have HB2 : Hid _ := But.trans Hb1.out hb2
  clear hC2 hb2 HC1 Hb1
  rcases row_of hown with ⟨rfl, rfl⟩ | ⟨g, cap, rfl, hg, hrow⟩
  · clear hown
    go_wp2_with fail
    go_loop [11] (fun i => i = .int .i64 0) (fun _ => 0)
    case atStart => rfl
    case round =>
      obtain rfl := hrel
      have hcv := run_convert_bytes_nil (P := Tryd.prog) w2 22 5 Tryd.underlying22 Tryd.underlying5 0 0 9 Tryd.underlying9
      go_wp2_with fail
      go_ret
      exact ⟨⟨#[]⟩, rfl, by decide, Cursor.mono HC2.out (by omega), HB2.out⟩
  · have HR : Hid _ := hrow
    clear hown hrow
    obtain ⟨k, hk⟩ : ∃ k, k = l.length := ⟨_, rfl⟩
    rw [← hk] at HR hl ⊢
    clear hk
    go_wp2_with fail
    go_loopw [11] (fun iv wr => ∃ i : Nat, iv = .int .i64 i ∧ i ≤ k ∧ Hid (RowB wr g k) ∧ Hid (Cursor wr cb v n (N + 12 + 4 * i)) ∧ Hid (But cb w wr)) (fun iv _ => k - (intOf iv).toNat)
    case atStart => exact ⟨0, rfl, by omega, HR, Cursor.mono HC2.out (by omega), HB2⟩
    case round =>
      obtain ⟨i, rfl, hi, HRr, HC, HB⟩ := hrel
      clear HC2 HB2 HR
      by_cases hlt : i < k
      · obtain ⟨c, hc⟩ := HRr.out.2.2 i hlt
        have hf := HRr.out.2.1 i
        have hgs := HRr.out.1
        obtain ⟨d, hd⟩ := seen_byte c
        have HR1 : Hid (RowB (wr.setCell ⟨g, i, none⟩ (.int .u8 (d.toNat : Int))) g k) := HRr.out.set i d _ rfl
        have HC1 : Hid (Cursor (wr.setCell ⟨g, i, none⟩ (.int .u8 (d.toNat : Int))) cb v n (N + 12 + 4 * i)) := Cursor.set HC.out (by omega) _
        have HB1 : Hid (But cb w (wr.setCell ⟨g, i, none⟩ (.int .u8 (d.toNat : Int)))) := But.then HB.out ((Below.refl w.heap.size wr).setCell (by show w.heap.size ≤ g; omega) _)
        go_wp2_with fail
        refine (one_at 4 _ rfl cb v n _ _ HC1.out (by omega) (by omega) (by omega)).mono ?_
        rintro e w3 ⟨b, rfl, hC3, hb3⟩
        have HC3 : Hid _ := hC3
        have HB3 : Hid _ := But.trans HB1.out hb3
        have HR3 : Hid _ := RowB.but HR1.out hb3 (by omega)
        clear HC1 HB1 HR1 hC3 hb3 HRr HC HB
        cases b
        · go_wp2_with fail
          go_roundw
          case rel => exact ⟨i + 1, by go_num, by omega, HR3, Cursor.mono HC3.out (by omega), HB3⟩
          case measure => simp [intOf]; omega
        · go_wp2_with fail
          refine (of_new2 (fun x => x.size = 1) [⟨#[34]⟩, ⟨#[92]⟩, ⟨#[44]⟩, ⟨#[32]⟩] (by decide) 4 rfl (by omega) (by omega) cb v n _ _ HC3.out (by omega)).mono ?_
          rintro e w4 ⟨y, rfl, hy, hC4, hb4⟩
          have HR4 := RowB.but HR3.out hb4 (by omega)
          obtain ⟨c4, hc4⟩ := HR4.2.2 i hlt
          have hf4 := HR4.2.1 i
          have hgs4 := HR4.1
          have HR5 : Hid (RowB (w4.setCell ⟨g, i, none⟩ (.int .u8 (y[0].toNat : Int))) g k) := HR4.set i y[0] _ rfl
          have HC5 : Hid (Cursor (w4.setCell ⟨g, i, none⟩ (.int .u8 (y[0].toNat : Int))) cb v n (N + 12 + 4 * i + 2 + 2)) := Cursor.set hC4 (by omega) _
          have HB5 : Hid (But cb w (w4.setCell ⟨g, i, none⟩ (.int .u8 (y[0].toNat : Int)))) := But.then (But.trans HB3.out hb4) ((Below.refl w.heap.size w4).setCell (by show w.heap.size ≤ g; omega) _)
          clear HR4 HC3 HB3 HR3 hC4 hb4
          go_wp2_with fail
          go_roundw
          case rel => exact ⟨i + 1, by go_num, by omega, HR5, Cursor.mono HC5.out (by omega), HB5⟩
          case measure => simp [intOf]; omega
      · obtain rfl : i = k := by omega
        obtain ⟨T, hT, hcv⟩ := HRr.out.text cap
        go_wp2_with fail
        go_ret
        exact ⟨T, rfl, by omega, Cursor.mono HC.out (by omega), HB.out⟩

end Go.Proofs.YtaplkbkpgdpbaaaDoor.Cur
