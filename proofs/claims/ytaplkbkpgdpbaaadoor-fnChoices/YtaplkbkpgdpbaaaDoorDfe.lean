/-
  Walks: draws: spec.DrawBestChoice.
-/
import Derived.Test.YtaplkbkpgdpbaaaDoorDfd
namespace Go.Proofs.YtaplkbkpgdpbaaaDoor.Cur
open Go.RowKit
open Go.Proofs.YtaplkbkpgdpbaaaDoor.Ows
open Go.Proofs.YtaplkbkpgdpbaaaDoor.Mrk (TV RowT tv_of)

theorem texts_but {w w' : World} {B cb : Nat} {v : Value} {l : List ByteArray} (h : textsIn w B v l) (hb : But cb w w') (hc : cb < B) : textsIn w' B v l := by
  refine ⟨h.1, ?_⟩
  rcases h.2 with hn | ⟨g, cap, cur, rfl, hbg, hg, rest⟩
  · exact .inl hn
  · exact .inr ⟨g, cap, cur, rfl, hbg, (hb.2.2.2.2 g (Array.getElem?_eq_some_iff.1 hg).1 (by omega)).trans hg, rest⟩

set_option maxRecDepth 20000 in
set_option maxHeartbeats 1600000 in
theorem drawBest_any (v : Value) (n : Nat) (w : World) (hA : CodeArg w v n) (hn : n ≤ 2000000) :
    Calls Tryd.prog 22 #[v] w fun e w' => ∃ (s : ByteArray) (a : Option Addr) (ca : Nat) (l : List ByteArray), e = .returned (.tuple #[.string s, .slice a l.length ca]) ∧ s.size ≤ 100 ∧ l.length ≤ 4 ∧ (∀ x ∈ l, x.size ≤ 4) ∧ TV w' a l w.heap.size w'.heap.size ∧ Below w.heap.size w w' := by
  obtain ⟨o, cap, rfl⟩ := hA.form
  have HC0 : Hid _ := start hA hn 65
  have HB0 : Hid _ := (Below.refl w.heap.size w).alloc (Nat.le_refl _) (.cells #[.slice o n cap, .int .i64 0, .int .u64 0] 65)
  have hs0 : (w.alloc (.cells #[.slice o n cap, .int .i64 0, .int .u64 0] 65)).heap.size = w.heap.size + 1 := by simp
  clear hA
  go_enter Tryd.func22, Tryd.ntmps22
  go_wp2_with fail
  refine (pick_at 5 _ rfl _ _ n _ _ HC0.out (by omega) (by omega) (by omega)).mono ?_
  rintro e w1 ⟨x1, rfl, hx1, hC1, hb1⟩
  have HC1 : Hid _ := hC1
  have Hb1 : Hid (Below w.heap.size w w1) := HB0.out.trans (hb1.below (Nat.le_refl _) (by omega))
  have hs1 : w.heap.size + 1 ≤ w1.heap.size := by have := hb1.2.2.2.1; omega
  clear hC1 hb1 HC0 HB0
  go_wp2_with fail
  go_loopw [5, 6] (fun lv nv wr => ∃ (m : Nat) (l : List ByteArray), nv = .int .i64 m ∧ m ≤ x1 ∧ l.length + m = x1 ∧ (∀ x ∈ l, x.size ≤ 4) ∧ textsIn wr (w.heap.size + 1) lv l ∧ Hid (Cursor wr w.heap.size (.slice o n cap) n (2 + 2 * (x1 - m))) ∧ Hid (Below w.heap.size w wr) ∧ w.heap.size + 1 ≤ wr.heap.size) (fun _ nv _ => (intOf nv).toNat)
  case atStart => exact ⟨x1, [], rfl, by omega, by simp, fun x hx => (by cases hx), World.ownsRow_nil _ _ _ _, Cursor.mono HC1.out (by omega), Hb1, hs1⟩
  case round =>
    obtain ⟨m, l, rfl, hm, hl, hx4, hown, HC, HB, hs⟩ := hrel
    clear HC1 Hb1
    by_cases h0 : 0 < m
    · go_wp2_with fail
      refine (of_new2 (fun x => x.size ≤ 4) [⟨#[103, 122, 105, 112]⟩, ⟨#[98, 114]⟩, ⟨#[120]⟩, ⟨#[110, 111, 110, 101]⟩] (by decide) 4 rfl (by omega) (by omega) w.heap.size _ n _ _ HC.out (by omega)).mono ?_
      rintro e w2 ⟨y, rfl, hy, hC2, hb2⟩
      have hown2 := texts_but hown hb2 (Nat.lt_succ_self _)
      have hs2 : w.heap.size + 1 ≤ w2.heap.size := Nat.le_trans hs hb2.2.2.2.1
      have HB2 : Hid (Below w.heap.size w w2) := HB.out.trans (hb2.below (Nat.le_refl _) (by omega))
      have HC2 : Hid _ := hC2
      have hy4 : ∀ x ∈ l ++ [y], x.size ≤ 4 := by
        intro x hx
        rcases List.mem_append.1 hx with hx | hx
        · exact hx4 x hx
        · have : x = y := by simpa using hx
          subst this; exact hy
      clear HC HB hC2 hb2 hown hx4
      go_wp2_with (at_builtin; refine wpList_append_text w2 rfl _ _ rfl (w.heap.size + 1) _ l (by rfl) hown2 _ _ rfl ?q3 hs2 (w.heap.size + 1) (Nat.le_refl _) w2 (Below.refl _ _) ?_)
      case q3 => omega
      intro v' w3 hown' hbel'
      have HC3 : Hid _ := Cursor.belowB HC2.out (Nat.lt_succ_self _) hbel'
      have HB3 : Hid (Below w.heap.size w w3) := HB2.out.trans (hbel'.mono (by omega))
      have hs3 : w.heap.size + 1 ≤ w3.heap.size := Nat.le_trans hs2 hbel'.size
      clear hown2 HC2 HB2 hbel'
      go_wp2_with fail
      go_roundw
      case rel => exact ⟨m - 1, _, by go_num, by omega, by simp; omega, hy4, hown', Cursor.mono HC3.out (by omega), HB3, hs3⟩
      case measure => simp [intOf]; omega
    · obtain ⟨a, ca, rfl, hTV⟩ := tv_of hown
      go_wp2_with fail
      refine (choices_any _ _ n _ _ HC.out (by omega)).mono ?_
      rintro e w2 ⟨s, rfl, hsz, hC2, hb2⟩
      have hown2 := texts_but hown hb2 (Nat.lt_succ_self _)
      have hB2 : Below w.heap.size w w2 := HB.out.trans (hb2.below (Nat.le_refl _) (by omega))
      obtain ⟨a2, ca2, he, hTV2⟩ := tv_of hown2
      cases he
      have hTV3 : TV w2 a l w.heap.size w2.heap.size := by
        rcases hTV2 with h | ⟨g, h1, h2, h3, h4⟩
        · exact .inl h
        · exact .inr ⟨g, h1, by omega, h3, h4⟩
      clear HC HB hC2 hb2 hown hown2 hTV hTV2
      go_wp2_with fail
      go_ret2
      exact ⟨s, a, ca, l, rfl, hsz, by omega, hx4, hTV3, hB2⟩

end Go.Proofs.YtaplkbkpgdpbaaaDoor.Cur
