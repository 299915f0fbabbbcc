/-
  Walks: draws: (*l1Cur).fields; spec.DrawSetField.
-/
import Derived.Test.YtaplkbkpgdpbaaaGreatDoorDfg
namespace Go.Proofs.YtaplkbkpgdpbaaaGreatDoor.Cur
open Go.RowKit
open Go.Proofs.YtaplkbkpgdpbaaaGreatDoor.Fdb (fieldsIn wpList_append_field FV fv_of RowF)

theorem fields_but {w w' : World} {B cb : Nat} {v : Value} {l : List (ByteArray × ByteArray)} (h : fieldsIn w B v l) (hb : But cb w w') (hc : cb < B) : fieldsIn w' B v l := by
  refine ⟨h.1, ?_⟩
  rcases h.2 with hn | ⟨g, cap, cur, rfl, hbg, hg, rest⟩
  · exact .inl hn
  · exact .inr ⟨g, cap, cur, rfl, hbg, (hb.2.2.2.2 g (Array.getElem?_eq_some_iff.1 hg).1 (by omega)).trans hg, rest⟩

set_option maxRecDepth 20000 in
set_option maxHeartbeats 1600000 in
theorem fields_any (cb : Nat) (v : Value) (n N : Nat) (w : World) (hC : Cursor w cb v n N) (hN : N ≤ 600000000) :
    Calls Tryz.prog 98 #[.pointer (some ⟨cb, 0, none⟩)] w fun e w' => ∃ (r : Value) (l : List (ByteArray × ByteArray)), e = .returned r ∧ l.length ≤ 41 ∧ (∀ c ∈ l, c.1.size ≤ 10 ∧ c.2.size ≤ 10) ∧ fieldsIn w' w.heap.size r l ∧ Cursor w' cb v n (N + 600) ∧ But cb w w' := by
  have hcb : cb < w.heap.size := hC.2.2.1
  have HC0 : Hid _ := hC
  clear hC
  go_enter Tryz.func98, Tryz.ntmps98
  go_wp2_with fail
  refine (pick_at 6 _ rfl cb v n _ _ HC0.out (by omega) (by omega) (by omega)).mono ?_
  rintro e w1 ⟨x1, rfl, hx1, hC1, hb1⟩
  have HC1 : Hid _ := hC1
  have Hb1 : Hid _ := hb1
  clear hC1 hb1 HC0
  go_wp2_with fail
  refine (one_at 40 _ rfl cb v n _ _ HC1.out (by omega) (by omega) (by omega)).mono ?_
  rintro e w2 ⟨b, rfl, hC2, hb2⟩
  have HC2 : Hid _ := hC2
  have Hb2 : Hid _ := But.trans Hb1.out hb2
  clear hC2 hb2 HC1 Hb1
  cases b
  · go_wp2_with fail
    go_loopw [3, 4] (fun lv nv wr => ∃ (m : Nat) (l : List (ByteArray × ByteArray)), nv = .int .i64 m ∧ l.length + m = x1 ∧ (∀ c ∈ l, c.1.size ≤ 10 ∧ c.2.size ≤ 10) ∧ fieldsIn wr w.heap.size lv l ∧ Hid (Cursor wr cb v n (N + 6 + 10 * l.length)) ∧ Hid (But cb w wr)) (fun _ nv _ => (intOf nv).toNat)
    case atStart => exact ⟨x1, [], rfl, by simp, fun c hc => (by cases hc), World.ownsRow_nil _ _ _ _, Cursor.mono HC2.out (by omega), Hb2⟩
    case round =>
      obtain ⟨m, l, rfl, hl, hz, hown, HC, HB⟩ := hrel
      clear HC2 Hb2
      by_cases h0 : 0 < m
      · go_wp2_with fail
        refine (field_any cb v n _ _ HC.out (by omega)).mono ?_
        rintro e w5 ⟨X, z, rfl, hX, hz2, hC5, hb5⟩
        have hown2 := fields_but hown hb5 hcb
        have HC5 : Hid _ := hC5
        have HB5 : Hid _ := But.trans HB.out hb5
        have hs5 : w.heap.size ≤ w5.heap.size := HB5.out.2.2.2.1
        have hz' : ∀ c ∈ l ++ [(X, z)], c.1.size ≤ 10 ∧ c.2.size ≤ 10 := by
          intro c hc
          rcases List.mem_append.1 hc with hc | hc
          · exact hz c hc
          · rw [List.mem_singleton.1 hc]; exact ⟨hX, hz2⟩
        clear HC HB hC5 hb5 hown hz
        go_wp2_with (at_builtin; refine wpList_append_field w5 rfl _ _ rfl w.heap.size _ l (by rfl) hown2 _ _ _ rfl ?q3 hs5 w.heap.size (Nat.le_refl _) w5 (Below.refl _ _) ?_)
        case q3 => omega
        intro v' w6 hown' hbel'
        have HC6 : Hid _ := Cursor.belowB HC5.out hcb hbel'
        have HB6 : Hid _ := But.then HB5.out hbel'
        clear hown2 HC5 HB5 hbel'
        go_wp2_with fail
        go_roundw
        case rel => exact ⟨m - 1, _, by go_num, by simp; omega, hz', hown', Cursor.mono HC6.out (by simp; omega), HB6⟩
        case measure => simp [intOf]; omega
      · go_wp2_with fail
        go_ret
        exact ⟨_, l, rfl, by omega, hz, hown, Cursor.mono HC.out (by omega), HB.out⟩
  · go_wp2_with fail
    refine (pick_at 2 _ rfl cb v n _ _ HC2.out (by omega) (by omega) (by omega)).mono ?_
    rintro e w3 ⟨x3, rfl, hx3, hC3, hb3⟩
    have HC3 : Hid _ := hC3
    have Hb3 : Hid _ := But.trans Hb2.out hb3
    clear hC3 hb3 HC2 Hb2
    go_wp2_with fail
    go_loopw [3, 4] (fun lv nv wr => ∃ (m : Nat) (l : List (ByteArray × ByteArray)), nv = .int .i64 m ∧ l.length + m = 40 + x3 ∧ (∀ c ∈ l, c.1.size ≤ 10 ∧ c.2.size ≤ 10) ∧ fieldsIn wr w.heap.size lv l ∧ Hid (Cursor wr cb v n (N + 6 + 10 * l.length)) ∧ Hid (But cb w wr)) (fun _ nv _ => (intOf nv).toNat)
    case atStart => exact ⟨40 + x3, [], by go_num, by simp, fun c hc => (by cases hc), World.ownsRow_nil _ _ _ _, Cursor.mono HC3.out (by omega), Hb3⟩
    case round =>
      obtain ⟨m, l, rfl, hl, hz, hown, HC, HB⟩ := hrel
      clear HC3 Hb3
      by_cases h0 : 0 < m
      · go_wp2_with fail
        refine (field_any cb v n _ _ HC.out (by omega)).mono ?_
        rintro e w5 ⟨X, z, rfl, hX, hz2, hC5, hb5⟩
        have hown2 := fields_but hown hb5 hcb
        have HC5 : Hid _ := hC5
        have HB5 : Hid _ := But.trans HB.out hb5
        have hs5 : w.heap.size ≤ w5.heap.size := HB5.out.2.2.2.1
        have hz' : ∀ c ∈ l ++ [(X, z)], c.1.size ≤ 10 ∧ c.2.size ≤ 10 := by
          intro c hc
          rcases List.mem_append.1 hc with hc | hc
          · exact hz c hc
          · rw [List.mem_singleton.1 hc]; exact ⟨hX, hz2⟩
        clear HC HB hC5 hb5 hown hz
        go_wp2_with (at_builtin; refine wpList_append_field w5 rfl _ _ rfl w.heap.size _ l (by rfl) hown2 _ _ _ rfl ?q3 hs5 w.heap.size (Nat.le_refl _) w5 (Below.refl _ _) ?_)
        case q3 => omega
        intro v' w6 hown' hbel'
        have HC6 : Hid _ := Cursor.belowB HC5.out hcb hbel'
        have HB6 : Hid _ := But.then HB5.out hbel'
        clear hown2 HC5 HB5 hbel'
        go_wp2_with fail
        go_roundw
        case rel => exact ⟨m - 1, _, by go_num, by simp; omega, hz', hown', Cursor.mono HC6.out (by simp; omega), HB6⟩
        case measure => simp [intOf]; omega
      · go_wp2_with fail
        go_ret
        exact ⟨_, l, rfl, by omega, hz, hown, Cursor.mono HC.out (by omega), HB.out⟩

end Go.Proofs.YtaplkbkpgdpbaaaGreatDoor.Cur
