/-
  Walk: impl.cutHead.
-/
import Derived.Test.YtaplkbkpgdpbaaaGreatDoorHdm
import Derived.Test.YtaplkbkpgdpbaaaGreatDoorRqi
import Derived.Test.YtaplkbkpgdpbaaaGreatDoorShelf
namespace Go.Proofs.YtaplkbkpgdpbaaaGreatDoor.Hdl
open Go.RowKit Go.Lib
open Go.Proofs.YtaplkbkpgdpbaaaGreatDoor.Fbs
open Go.Proofs.YtaplkbkpgdpbaaaGreatDoor.Ows
open Go.Proofs.YtaplkbkpgdpbaaaGreatDoor.Lnp (fault)
open Go.Proofs.YtaplkbkpgdpbaaaGreatDoor.Rqb (errV)

/-- What a cut head leaves, the fault as 'v' tells it. -/
def ToldH (w : World) (B : Nat) (e : Ending) (v : Int → Value) (s : ByteArray) : Prop :=
  match cutO s with
  | none => e = .returned (.tuple #[.slice none 0 0, .int .i64 0, v (cdS s)])
  | some (ls, n) => ∃ x, e = .returned (.tuple #[x, .int .i64 n, v 0]) ∧ textsIn w B x ls
theorem told_none {w : World} {B : Nat} {e : Ending} {v : Int → Value} {s : ByteArray} (h : cutO s = none) (he : e = .returned (.tuple #[.slice none 0 0, .int .i64 0, v (cdS s)])) : ToldH w B e v s := by
  unfold ToldH; rw [h]; exact he
theorem told_some {w : World} {B : Nat} {e : Ending} {v : Int → Value} {s : ByteArray} {ls : List ByteArray} {n : Nat} (h : cutO s = some (ls, n)) (x : Value) (he : e = .returned (.tuple #[x, .int .i64 n, v 0])) (ht : textsIn w B x ls) : ToldH w B e v s := by
  unfold ToldH; rw [h]; exact ⟨x, he, ht⟩
theorem texts_new (w : World) (B : Nat) (l : List ByteArray) (h : B ≤ w.heap.size) (hl : l.length ≤ maxLen) : textsIn (w.alloc (.cells (l.map Value.string).toArray 9)) B (.slice (some ⟨w.heap.size, 0, none⟩) l.length l.length) l :=
  ⟨by simp, .inr ⟨w.heap.size, l.length, (l.map Value.string).toArray, rfl, h, by show (w.heap.push _)[w.heap.size]? = _; simp, Nat.le_refl _, hl, by simp, by simp [List.take_of_length_le]⟩⟩

set_option maxRecDepth 20000 in
set_option maxHeartbeats 1600000 in
theorem cutHead_any (s : ByteArray) (m : Int) (w : World) (hs : s.size ≤ 2000000) (hm : w.cell? ⟨3, 0, none⟩ = some (.int .i64 m)) :
    Calls Tryz.prog 84 #[.string s] w fun e w' => ToldH w' w.heap.size e errV s ∧ Below w.heap.size w w' := by
  have hlen := len_list s
  obtain ⟨N, hN⟩ : ∃ N, N = min s.size 2000 := ⟨_, rfl⟩
  have HI := fun w h => Tryz.strings_Index (s.extract 0 N) ⟨#[13, 10, 13, 10]⟩ m w (by rw [ByteArray.size_extract]; omega) h
  have eL : (s.extract 0 N).data.toList = s.data.toList.take N := extract_from_zero s N
  rw [eL] at HI
  have hmin : min (s.size : Int) 2000 = (N : Int) := by omega
  have HP : Hid (∀ p : Nat, ∀ w, w.cell? ⟨3, 0, none⟩ = some (.int .i64 m) → Calls Tryz.prog 124 #[.string (s.extract 0 p), .string ⟨#[13, 10]⟩] w fun e w' => (∃ x, e = .returned x ∧ textsIn w' w.heap.size x ((split (s.data.toList.take p) C).map mkB)) ∧ Below w.heap.size w w') := by
    intro p w h
    refine (Tryz.strings_Split (s.extract 0 p) ⟨#[13, 10]⟩ m w (by rw [ByteArray.size_extract]; omega) h (by decide)).mono ?_
    rintro e w' ⟨rfl, rfl⟩
    have hc := countB_le ⟨#[13, 10]⟩ (by decide) (s.extract 0 p).size (s.extract 0 p) (Nat.le_refl _)
    have hcl := splitB_all ⟨#[13, 10]⟩ (by decide) 0 _ (s.extract 0 p) rfl
    have hsz : (s.extract 0 p).size ≤ s.size := by rw [ByteArray.size_extract]; omega
    refine ⟨⟨_, rfl, ?_⟩, (Below.refl _ _).alloc (Nat.le_refl _) _⟩
    rw [← extract_from_zero, ← split_texts, ← hcl]
    exact texts_new w _ _ (Nat.le_refl _) (by rw [hcl]; unfold maxLen; omega)
  have hNN : (2000 < s.size ∧ N = 2000) ∨ (s.size ≤ 2000 ∧ N = s.size) := by omega
  have HW : (index (s.data.toList.take N) CC = -1 ∧ cutO s = none) ∨ ∃ p : Nat, index (s.data.toList.take N) CC = p ∧ p + 4 ≤ s.size ∧ cutO s = some ((split (s.data.toList.take p) C).map mkB, p + 4) := by
    rcases index_spec s.data.toList CC with ⟨h, _⟩ | ⟨p, h, _⟩
    · exact .inl ⟨idx_none h, cut_none h⟩
    · have hr := idx_room h
      by_cases h4 : p + 4 ≤ 2000
      · exact .inr ⟨p, idx_yes h (by omega) (by omega), by omega, cut_some h h4⟩
      · exact .inl ⟨idx_late h (by omega), cut_late h (by omega)⟩
  have HI1 : Hid (∀ w, w.cell? ⟨3, 0, none⟩ = some (.int .i64 m) → Calls Tryz.prog 123 #[.string (s.extract 0 N), .string ⟨#[13, 10, 13, 10]⟩] w fun e w' => e = .returned (.int .i64 (index (s.data.toList.take N) CC)) ∧ w' = w) := HI
  clear HI eL hlen
  generalize index (s.data.toList.take N) CC = J at HW HI1
  have HM : Hid _ := hm
  clear hN hmin
  rcases hNN with ⟨hz, hN2⟩ | ⟨hz, hN2⟩
  · subst hN2
    have hmin : min (s.size : Int) 2000 = 2000 := by omega
    have hd : decide (2000 < (s.size : Int)) = true := decide_eq_true (by omega)
    have hcd : Hid (errV (cdS s) = .iface 104 (.agg #[.int .i64 5])) := by show _ = _; unfold cdS; rw [if_pos (by omega)]; rfl
    rcases HW with ⟨rfl, hc⟩ | ⟨p, rfl, hp, hc⟩
    · have HC : Hid _ := hc
      have HT : Hid (∀ w' B e, e = .returned (.tuple #[.slice none 0 0, .int .i64 0, .iface 104 (.agg #[.int .i64 5])]) → ToldH w' B e errV s) := fun w' B e h => told_none HC.out (by rw [hcd.out]; exact h)
      clear hc HP
      go_enter Tryz.func84, Tryz.ntmps84
      go_wp2_with fail
      refine (HI1.out _ HM.out).mono ?_
      rintro e w2 ⟨rfl, hw⟩
      obtain rfl := hw.symm
      go_wp2_with fail
      go_ret3
      exact ⟨HT.out _ _ _ rfl, Below.refl _ _⟩
    · have HC : Hid _ := hc
      have HT : Hid (∀ w' B x, textsIn w' B x ((split (s.data.toList.take p) C).map mkB) → ToldH w' B (.returned (.tuple #[x, .int .i64 ((p : Int) + 4), .nilIface])) errV s) := fun w' B x h => told_some HC.out x (by rw [Rqb.err_none]; congr 1) h
      have HP1 : Hid _ := HP.out p
      have hd0 : decide ((0 : Int) ≤ (p : Int)) = true := decide_eq_true (by omega)
      clear hc HP
      go_enter Tryz.func84, Tryz.ntmps84
      go_wp2_with fail
      refine (HI1.out _ HM.out).mono ?_
      rintro e w2 ⟨rfl, hw⟩
      obtain rfl := hw.symm
      go_wp2_with fail
      refine (HP1.out _ HM.out).mono ?_
      rintro e w3 ⟨⟨x, rfl, hx⟩, hb3⟩
      go_wp2_with fail
      go_ret3
      exact ⟨HT.out _ _ _ hx, hb3⟩
  · subst hN2
    have hmin : min (s.size : Int) 2000 = (s.size : Int) := by omega
    have es : s.extract 0 s.size = s := by rw [mkB_extract, List.drop_zero, Nat.sub_zero, ← len_list s, List.take_length, mkB_list]
    rw [es] at HI1
    clear es
    have hd : decide (2000 < (s.size : Int)) = false := decide_eq_false (by omega)
    have hcd : Hid (errV (cdS s) = .iface 104 (.agg #[.int .i64 1])) := by show _ = _; unfold cdS; rw [if_neg (by omega)]; rfl
    rcases HW with ⟨rfl, hc⟩ | ⟨p, rfl, hp, hc⟩
    · have HC : Hid _ := hc
      have HT : Hid (∀ w' B e, e = .returned (.tuple #[.slice none 0 0, .int .i64 0, .iface 104 (.agg #[.int .i64 1])]) → ToldH w' B e errV s) := fun w' B e h => told_none HC.out (by rw [hcd.out]; exact h)
      clear hc HP
      go_enter Tryz.func84, Tryz.ntmps84
      go_wp2_with fail
      refine (HI1.out _ HM.out).mono ?_
      rintro e w2 ⟨rfl, hw⟩
      obtain rfl := hw.symm
      go_wp2_with fail
      go_ret3
      exact ⟨HT.out _ _ _ rfl, Below.refl _ _⟩
    · have HC : Hid _ := hc
      have HT : Hid (∀ w' B x, textsIn w' B x ((split (s.data.toList.take p) C).map mkB) → ToldH w' B (.returned (.tuple #[x, .int .i64 ((p : Int) + 4), .nilIface])) errV s) := fun w' B x h => told_some HC.out x (by rw [Rqb.err_none]; congr 1) h
      have HP1 : Hid _ := HP.out p
      have hd0 : decide ((0 : Int) ≤ (p : Int)) = true := decide_eq_true (by omega)
      clear hc HP
      go_enter Tryz.func84, Tryz.ntmps84
      go_wp2_with fail
      refine (HI1.out _ HM.out).mono ?_
      rintro e w2 ⟨rfl, hw⟩
      obtain rfl := hw.symm
      go_wp2_with fail
      refine (HP1.out _ HM.out).mono ?_
      rintro e w3 ⟨⟨x, rfl, hx⟩, hb3⟩
      go_wp2_with fail
      go_ret3
      exact ⟨HT.out _ _ _ hx, hb3⟩

end Go.Proofs.YtaplkbkpgdpbaaaGreatDoor.Hdl
