/-
  Walks: draws: (*l1Cur).chunks, cuts, spec.DrawFeedAll.
-/
import Derived.Test.YtimfcbjgoilnpaaDoorDch
import Derived.Test.YtimfcbjgoilnpaaDoorCks
import Derived.Test.YtimfcbjgoilnpaaDoorFkp
namespace Go.Proofs.YtimfcbjgoilnpaaDoor.Cur
open Go.RowKit
open Go.Proofs.YtimfcbjgoilnpaaDoor.Ows
open Go.Proofs.YtimfcbjgoilnpaaDoor.Mrk (TV RowT tv_of)
open Go.Proofs.YtimfcbjgoilnpaaDoor.Ckm (chkL l5Bytes_any chkL_len sumS_bd sumS)
open Go.Proofs.YtimfcbjgoilnpaaDoor.Fkp (allT allT_size)

set_option maxRecDepth 20000 in
set_option maxHeartbeats 3200000 in
theorem chunks_any (cb : Nat) (v : Value) (n N : Nat) (w : World) (hC : Cursor w cb v n N) (hN : N ≤ 500000000) :
    Calls Tryd.prog 57 #[.pointer (some ⟨cb, 0, none⟩)] w fun e w' => ∃ T : ByteArray, e = .returned (.string T) ∧ T.size ≤ 1760 ∧ Cursor w' cb v n (N + 400) ∧ But cb w w' := by
  have hcb : cb < w.heap.size := hC.2.2.1
  have HC0 : Hid _ := hC
  clear hC
  go_enter Tryd.func57, Tryd.ntmps57
  go_wp2_with fail
  refine (pieces_any cb v n _ _ HC0.out (by omega)).mono ?_
  rintro e w1 ⟨r, l, rfl, hl, hz, hown, hC1, hb1⟩
  obtain ⟨a, ca, rfl, hTV⟩ := tv_of hown
  have HC1 : Hid _ := hC1
  have HB1 : Hid _ := hb1
  have HL : Hid _ := l5Bytes_any a ca l w1 _ _ hl (fun x hx => Nat.le_trans (hz x hx) (by decide)) hTV
  have hlen : (chkL l ++ [48, 13, 10, 13, 10]).length ≤ 1741 := by
    have h1 := chkL_len l (fun x hx => Nat.le_trans (hz x hx) (by decide)) l.length (Nat.le_refl _)
    have h2 := sumS_bd l 20 hz l.length (Nat.le_refl _)
    rw [List.take_length] at h1 h2
    rw [List.length_append]
    simp
    omega
  have hTz : (⟨(chkL l ++ [48, 13, 10, 13, 10]).toArray⟩ : ByteArray).size ≤ 1741 := by
    show (List.toArray _).size ≤ 1741
    rw [List.size_toArray]; exact hlen
  generalize (⟨(chkL l ++ [48, 13, 10, 13, 10]).toArray⟩ : ByteArray) = T at *
  clear hC1 hb1 hown hTV hlen HC0
  go_wp2_with fail
  refine Calls.mono HL.out ?_
  rintro e w2 ⟨rfl, hb2⟩
  have HC2 : Hid _ := Cursor.below HC1.out hb2
  have HB2 : Hid _ := But.then HB1.out (hb2.mono HB1.out.2.2.2.1)
  clear hb2 HC1 HB1 HL
  go_wp2_with fail
  refine (pick_at 4 _ rfl cb v n _ _ HC2.out (by omega) (by omega) (by omega)).mono ?_
  rintro e w3 ⟨k, rfl, hk, hC3, hb3⟩
  have HC3 : Hid _ := hC3
  have HB3 : Hid _ := But.trans HB2.out hb3
  clear hC3 hb3 HC2 HB2
  rcases (show k = 0 ∨ k = 1 ∨ k = 2 ∨ k = 3 by omega) with rfl | rfl | rfl | rfl
  · go_wp2_with fail
    refine (spoilt_any cb v n _ _ T ⟨#[48, 97, 70, 13, 10]⟩ HC3.out (by omega) (by omega) (by decide) (by decide)).mono ?_
    rintro e w4 ⟨T2, rfl, hT2, hC4, hb4⟩
    have HC4 : Hid _ := hC4
    have HB4 : Hid _ := But.trans HB3.out hb4
    clear hC4 hb4 HC3 HB3
    go_wp2_with fail
    go_ret
    exact ⟨T2, rfl, by omega, Cursor.mono HC4.out (by omega), HB4.out⟩
  · go_wp2_with fail
    refine (pick_at (T.size + 1) _ (by omega) cb v n _ _ HC3.out (by omega) (by omega) (by omega)).mono ?_
    rintro e w4 ⟨j, rfl, hj, hC4, hb4⟩
    have HC4 : Hid _ := hC4
    have HB4 : Hid _ := But.trans HB3.out hb4
    have hj2 : j ≤ T.size := by omega
    clear hC4 hb4 HC3 HB3 hj
    go_wp2_with fail
    go_ret
    exact ⟨_, rfl, by rw [ByteArray.size_extract]; omega, Cursor.mono HC4.out (by omega), HB4.out⟩
  · go_wp2_with fail
    go_ret
    exact ⟨_, rfl, by rw [ByteArray.size_append]; show _ + 4 ≤ _; omega, Cursor.mono HC3.out (by omega), HB3.out⟩
  · go_wp2_with fail
    go_ret
    exact ⟨_, rfl, by omega, Cursor.mono HC3.out (by omega), HB3.out⟩

theorem allT_snoc (l : List ByteArray) (x : ByteArray) : allT (l ++ [x]) = allT l ++ x := by
  unfold allT
  apply ByteArray.ext
  simp
theorem split_text (S : ByteArray) (m : Nat) : S.extract 0 m ++ S.extract m S.size = S := by
  apply ByteArray.ext
  apply Array.toList_inj.1
  have app : ∀ A B : ByteArray, (A ++ B).data.toList = A.data.toList ++ B.data.toList := fun A B => by simp
  have hl : S.data.toList.length = S.size := by simp
  rw [app, Hdg.ext_list, Hdg.ext_list, List.drop_zero, List.take_of_length_le (i := S.size) (by omega), List.take_append_drop]
/-- How long a text in a slot is. -/
def szV : Value → Nat
  | .string S => S.size
  | _ => 0

/-- The cut so far, and what is left. -/
def CutS (S0 S : ByteArray) (l : List ByteArray) : Prop := allT l ++ S = S0 ∧ l.length ≤ 60 ∧ (S.size ≠ 0 → l.length ≤ 59) ∧ ∀ x ∈ l, x.size ≤ S0.size
theorem cut_next {S0 S : ByteArray} {l : List ByteArray} {m : Nat} (h : CutS S0 S l) (h0 : S.size ≠ 0) (hm : l.length = 59 → m = S.size) : CutS S0 (S.extract m S.size) (l ++ [S.extract 0 m]) := by
  obtain ⟨h1, h2, h3, h4⟩ := h
  have h5 := h3 h0
  have hsz : S.size ≤ S0.size := by rw [← h1, ByteArray.size_append]; omega
  refine ⟨?_, by simp; omega, fun hne => ?_, fun x hx => ?_⟩
  · rw [allT_snoc, ← h1, ByteArray.append_assoc, split_text]
  · rw [ByteArray.size_extract] at hne
    have : l.length ≠ 59 := fun e => by rw [hm e] at hne; omega
    simp; omega
  · rcases List.mem_append.1 hx with hx | hx
    · exact h4 x hx
    · have : x = S.extract 0 m := by simpa using hx
      rw [this, ByteArray.size_extract]; omega

theorem cut_last {S0 S : ByteArray} {l : List ByteArray} (h : CutS S0 S l) (h0 : S.size ≠ 0) : CutS S0 ByteArray.empty (l ++ [S]) := by
  have := cut_next (m := S.size) h h0 (fun _ => rfl)
  rwa [show S.extract 0 S.size = S by simp, show S.extract S.size S.size = ByteArray.empty by simp] at this

set_option maxRecDepth 20000 in
set_option maxHeartbeats 3200000 in
theorem cuts_any (S0 : ByteArray) (cb : Nat) (v : Value) (n N : Nat) (w : World) (hC : Cursor w cb v n N) (hN : N ≤ 500000000) (hS : S0.size ≤ 100000) :
    Calls Tryd.prog 56 #[.pointer (some ⟨cb, 0, none⟩), .string S0] w fun e w' => ∃ (r : Value) (l : List ByteArray), e = .returned r ∧ l.length ≤ 60 ∧ (∀ x ∈ l, x.size ≤ S0.size) ∧ allT l = S0 ∧ textsIn w' w.heap.size r l ∧ Cursor w' cb v n (N + 130) ∧ But cb w w' := by
  have hcb : cb < w.heap.size := hC.2.2.1
  have HC0 : Hid _ := hC
  clear hC
  go_enter Tryd.func56, Tryd.ntmps56
  go_wp2_with fail
  go_loopw [1, 5] (fun sv lv wr => ∃ (S : ByteArray) (l : List ByteArray), sv = .string S ∧ S.size ≤ S0.size ∧ textsIn wr w.heap.size lv l ∧ Hid (CutS S0 S l) ∧ Hid (Cursor wr cb v n (N + 2 * l.length)) ∧ Hid (But cb w wr)) (fun sv _ _ => szV sv)
  case atStart => exact ⟨S0, [], rfl, Nat.le_refl _, World.ownsRow_nil _ _ _ _, ⟨by apply ByteArray.ext; simp [allT], by simp, by simp, fun x hx => (by cases hx)⟩, Cursor.mono HC0.out (by omega), But.refl _ _⟩
  case round =>
    obtain ⟨S, l, rfl, hSz, hown, HS, HC, HB⟩ := hrel
    clear HC0
    obtain ⟨a, ca, rfl, _⟩ := tv_of hown
    have hl60 := HS.out.2.1
    by_cases h0 : 0 < S.size
    · have hl59 := HS.out.2.2.1 (by omega)
      go_wp2_with fail
      refine (pick_at 7 _ rfl cb v n _ _ HC.out (by omega) (by omega) (by omega)).mono ?_
      rintro e u2 ⟨x, rfl, hx, hC2, hb2⟩
      have hown2 := textsIn_but hown hb2 hcb
      have hs2 : w.heap.size ≤ u2.heap.size := Nat.le_trans HB.out.2.2.2.1 hb2.2.2.2.1
      have HB2 : Hid _ := But.trans HB.out hb2
      have HC2 : Hid _ := hC2
      clear HC HB hC2 hb2 hown
      by_cases hbig : S.size < 1 + x
      · have hd : decide ((S.size : Int) < 1 + (x : Int)) = true := decide_eq_true (by omega)
        have HN : Hid _ := cut_last HS.out (by omega)
        clear HS
        go_wp2_with (at_builtin; refine wpList_append_text u2 rfl _ _ rfl w.heap.size _ l (by rfl) hown2 _ _ rfl ?q3 hs2 w.heap.size (Nat.le_refl _) u2 (Below.refl _ _) ?_)
        case q3 => omega
        intro v' u3 hown' hbel'
        have HC3 : Hid _ := Cursor.belowB HC2.out hcb hbel'
        have HB3 : Hid _ := But.then HB2.out hbel'
        clear hown2 HC2 HB2 hbel'
        go_wp2_with fail
        go_roundw
        case rel => exact ⟨ByteArray.empty, _, by first | rfl | simp, by simp, by first | exact hown' | simpa using hown', HN, Cursor.mono HC3.out (by simp; omega), HB3⟩
        case measure => simp [szV] <;> omega
      · have hd : decide ((S.size : Int) < 1 + (x : Int)) = false := decide_eq_false (by omega)
        by_cases h9 : l.length = 59
        · have hd9 : ((l.length : Int) == 59) = true := by rw [beq_iff_eq]; omega
          have HN : Hid _ := cut_last HS.out (by omega)
          clear HS h9
          go_wp2_with (at_builtin; refine wpList_append_text u2 rfl _ _ rfl w.heap.size _ l (by rfl) hown2 _ _ rfl ?q3 hs2 w.heap.size (Nat.le_refl _) u2 (Below.refl _ _) ?_)
          case q3 => omega
          intro v' u3 hown' hbel'
          have HC3 : Hid _ := Cursor.belowB HC2.out hcb hbel'
          have HB3 : Hid _ := But.then HB2.out hbel'
          clear hown2 HC2 HB2 hbel'
          go_wp2_with fail
          go_roundw
          case rel => exact ⟨ByteArray.empty, _, by first | rfl | simp, by simp, by first | exact hown' | simpa using hown', HN, Cursor.mono HC3.out (by simp; omega), HB3⟩
          case measure => simp [szV] <;> omega
        · have hd9 : ((l.length : Int) == 59) = false := by rw [beq_eq_false_iff_ne]; omega
          obtain ⟨m, hm⟩ : ∃ m, m = 1 + x := ⟨_, rfl⟩
          have hwm : IntKind.i64.wrap (1 + (x : Int)) = (m : Int) := by rw [IntKind.wrap_i64]; omega
          have hm1 : 1 ≤ m := by omega
          have hms : m ≤ S.size := by omega
          have HN : Hid _ := cut_next (m := m) HS.out (by omega) (fun e => absurd e h9)
          have hd' : decide ((S.size : Int) < (m : Int)) = false := decide_eq_false (by omega)
          have hmi : 1 + (x : Int) = (m : Int) := by omega
          clear HS hm hd hbig hx
          go_wp2_with (at_builtin; refine wpList_append_text u2 rfl _ _ rfl w.heap.size _ l (by rfl) hown2 _ _ rfl ?q3 hs2 w.heap.size (Nat.le_refl _) u2 (Below.refl _ _) ?_)
          case q3 => omega
          intro v' u3 hown' hbel'
          have HC3 : Hid _ := Cursor.belowB HC2.out hcb hbel'
          have HB3 : Hid _ := But.then HB2.out hbel'
          clear hown2 HC2 HB2 hbel'
          go_wp2_with fail
          go_roundw
          case rel => exact ⟨S.extract m S.size, _, rfl, by rw [ByteArray.size_extract]; omega, hown', HN, Cursor.mono HC3.out (by simp; omega), HB3⟩
          case measure => simp [szV] <;> omega
    · have hz : S = ⟨#[]⟩ := Ckm.empty_of (by omega)
      have he : allT l = S0 := by
        rw [← HS.out.1, hz]
        apply ByteArray.ext
        simp
      have HE : Hid (allT l = S0 ∧ ∀ x ∈ l, x.size ≤ S0.size) := ⟨he, HS.out.2.2.2⟩
      clear he HS
      go_wp2_with fail
      go_ret
      exact ⟨_, l, rfl, hl60, HE.out.2, HE.out.1, hown, Cursor.mono HC.out (by omega), HB.out⟩

set_option maxRecDepth 20000 in
set_option maxHeartbeats 1600000 in
theorem drawFeedAll_any (v : Value) (n : Nat) (w : World) (hA : CodeArg w v n) (hn : n ≤ 2000000) :
    Calls Tryd.prog 35 #[v] w fun e w' => ∃ (a : Option Addr) (ca : Nat) (l : List ByteArray), e = .returned (.slice a l.length ca) ∧ l.length ≤ 60 ∧ (∀ x ∈ l, x.size ≤ 1760) ∧ (allT l).size ≤ 1760 ∧ TV w' a l w.heap.size w'.heap.size ∧ Below w.heap.size w w' := by
  obtain ⟨o, cap, rfl⟩ := hA.form
  have HC0 : Hid _ := start hA hn 72
  have HB0 : Hid _ := (Below.refl w.heap.size w).alloc (Nat.le_refl _) (.cells #[.slice o n cap, .int .i64 0, .int .u64 0] 72)
  have hs0 : (w.alloc (.cells #[.slice o n cap, .int .i64 0, .int .u64 0] 72)).heap.size = w.heap.size + 1 := by simp
  clear hA
  go_enter Tryd.func35, Tryd.ntmps35
  go_wp2_with fail
  refine (chunks_any _ _ n _ _ HC0.out (by omega)).mono ?_
  rintro e w1 ⟨T, rfl, hT, hC1, hb1⟩
  have HC1 : Hid _ := hC1
  have HB1 : Hid (Below w.heap.size w w1) := HB0.out.trans (hb1.below (Nat.le_refl _) (by omega))
  have hs1 : w.heap.size + 1 ≤ w1.heap.size := by have := hb1.2.2.2.1; omega
  clear hC1 hb1 HC0 HB0
  go_wp2_with fail
  refine (cuts_any T _ _ n _ _ HC1.out (by omega) (by omega)).mono ?_
  rintro e w2 ⟨r, l, rfl, hl, hz, hall, hown, hC2, hb2⟩
  obtain ⟨a, ca, rfl, hTV⟩ := tv_of hown
  have hB : Below w.heap.size w w2 := HB1.out.trans (hb2.below (Nat.le_refl _) (by omega))
  have hTV2 : TV w2 a l w.heap.size w2.heap.size := by
    rcases hTV with h | ⟨g, h1, h2, h3, h4⟩
    · exact .inl h
    · exact .inr ⟨g, h1, by omega, h3, h4⟩
  have hz2 : ∀ x ∈ l, x.size ≤ 1760 := fun x hx => Nat.le_trans (hz x hx) hT
  have hall2 : (allT l).size ≤ 1760 := by rw [hall]; exact hT
  clear HC1 HB1 hC2 hb2 hown hTV
  go_wp2_with fail
  go_ret
  exact ⟨a, ca, l, rfl, hl, hz2, hall2, hTV2, hB⟩

end Go.Proofs.YtimfcbjgoilnpaaDoor.Cur
