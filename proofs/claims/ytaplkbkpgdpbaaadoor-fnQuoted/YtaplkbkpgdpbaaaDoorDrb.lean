/-
  Walks: draws: (*l1Cur).bytes.
-/
import Derived.Test.YtaplkbkpgdpbaaaDoorDrc
import Derived.Test.YtaplkbkpgdpbaaaDoorOwn
import Derived.Deep.OwnRows
namespace Go.Proofs.YtaplkbkpgdpbaaaDoor.Cur
open Go.RowKit
open Go.Proofs.YtaplkbkpgdpbaaaDoor.Own

theorem But.then {cb : Nat} {w wr w' : World} (h : But cb w wr) (hb : Below w.heap.size wr w') : But cb w w' :=
  ⟨hb.os.trans h.1, hb.tape.trans h.2.1, hb.output.trans h.2.2.1, Nat.le_trans h.2.2.2.1 hb.size, fun k hk hc => (hb.block k hk).trans (h.2.2.2.2 k hk hc)⟩
theorem Cursor.belowB {w w' : World} {B cb n N : Nat} {v : Value} (h : Cursor w cb v n N) (hB : cb < B) (hb : Below B w w') : Cursor w' cb v n N := by
  obtain ⟨h1, h2, h3, h4, ⟨a, ha, h5⟩, ⟨s, h6⟩, h7⟩ := h
  have e : ∀ i, w'.cell? ⟨cb, i, none⟩ = w.cell? ⟨cb, i, none⟩ := fun i => hb.cell (p := ⟨cb, i, none⟩) hB
  refine ⟨?_, h2, Nat.lt_of_lt_of_le h3 hb.size, (e 0).trans h4, ⟨a, ha, (e 1).trans h5⟩, ⟨s, (e 2).trans h6⟩, fun i => (hb.frozen (p := ⟨cb, i, none⟩) hB).trans (h7 i)⟩
  rcases h1 with h | ⟨a, cap, k1, k2, k3, k6⟩
  · exact .inl h
  · refine .inr ⟨a, cap, k1, k2, k3, fun i hi => ?_⟩
    obtain ⟨k4, c, hc⟩ := k6 i hi
    exact ⟨k4, c, (hb.cell (p := a.add i) (by rw [add_block]; omega)).trans hc⟩
theorem bytes_but {w w' : World} {B cb : Nat} {v : Value} {l : List UInt8} (h : bytesIn w B v l) (hb : But cb w w') (hc : cb < B) : bytesIn w' B v l := by
  refine ⟨h.1, ?_⟩
  rcases h.2 with hn | ⟨g, cap, cur, rfl, hbg, hg, rest⟩
  · exact .inl hn
  · exact .inr ⟨g, cap, cur, rfl, hbg, (hb.2.2.2.2 g (Array.getElem?_eq_some_iff.1 hg).1 (by omega)).trans hg, rest⟩

set_option maxHeartbeats 1600000 in
theorem bytes_any (cb most : Nat) (v : Value) (n N : Nat) (w : World) (hC : Cursor w cb v n N) (hN : N ≤ 800000000) (hm : most ≤ 100) :
    Calls Tryd.prog 79 #[.pointer (some ⟨cb, 0, none⟩), .int .i64 most] w fun e w' => ∃ (r : Value) (l : List UInt8), e = .returned r ∧ l.length ≤ most ∧ bytesIn w' w.heap.size r l ∧ Cursor w' cb v n (N + 2 + most) ∧ But cb w w' := by
  have hcb : cb < w.heap.size := hC.2.2.1
  have HC0 : Hid _ := hC
  clear hC
  have hw : IntKind.i64.wrap ((most : Int) + 1) = (most : Int) + 1 := by rw [IntKind.wrap_i64]; omega
  go_enter Tryd.func79, Tryd.ntmps79
  go_wp2_with fail
  refine (pick_at (most + 1) _ (by omega) cb v n _ _ HC0.out (by omega) (by omega) (by omega)).mono ?_
  rintro e w1 ⟨x1, rfl, hx1, hC1, hb1⟩
  have HC1 : Hid _ := hC1
  have Hb1 : Hid _ := hb1
  clear hC1 hb1 HC0
  go_wp2_with fail
  go_loopw [5, 6] (fun ov nv wr => ∃ (m : Nat) (l : List UInt8), nv = .int .i64 m ∧ m ≤ x1 ∧ l.length + m = x1 ∧ bytesIn wr w.heap.size ov l ∧ Hid (Cursor wr cb v n (N + 2 + (x1 - m))) ∧ Hid (But cb w wr)) (fun _ nv _ => (intOf nv).toNat)
  case atStart => exact ⟨x1, [], rfl, Nat.le_refl _, by simp, World.ownsRow_nil _ _ _ _, Cursor.mono HC1.out (by omega), Hb1⟩
  case round =>
    obtain ⟨m, l, rfl, hm1, hl, hown, HC, HB⟩ := hrel
    clear HC1 Hb1
    by_cases h0 : 0 < m
    · have hsz := HB.out.2.2.2.1
      go_wp2_with fail
      refine (next_any cb v n _ _ HC.out (by omega)).mono ?_
      rintro e w2 ⟨x, rfl, hx, hC2, hb2⟩
      have hown2 := bytes_but hown hb2 hcb
      have hsz2 : w.heap.size ≤ w2.heap.size := Nat.le_trans hsz hb2.2.2.2.1
      have HC2 : Hid _ := hC2
      have HB2 : Hid _ := But.trans HB.out hb2
      have hX : (x : Int) = ((UInt8.ofNat x).toNat : Int) := by rw [UInt8.toNat_ofNat']; omega
      have HX : Hid _ := hX
      clear hown hb2 hC2 HC HB hX
      go_wp2_with (at_builtin; refine wpList_append_one w2 rfl _ _ rfl w.heap.size _ l (by rfl) hown2 _ _ HX.out _ rfl ?q3 hsz2 w2 (Below.refl _ _) ?_)
      case q3 => omega
      intro v' w3 hown' hbel'
      have HC3 : Hid _ := Cursor.belowB HC2.out hcb hbel'
      have HB3 : Hid _ := But.then HB2.out hbel'
      clear hown2 HC2 HB2 hbel'
      go_wp2_with fail
      go_roundw
      case rel => exact ⟨m - 1, _, by go_num, by omega, by simp; omega, hown', Cursor.mono HC3.out (by omega), HB3⟩
      case measure => simp [intOf]; omega
    · go_wp2_with fail
      go_ret
      exact ⟨_, l, rfl, by omega, hown, Cursor.mono HC.out (by omega), HB.out⟩

end Go.Proofs.YtaplkbkpgdpbaaaDoor.Cur
