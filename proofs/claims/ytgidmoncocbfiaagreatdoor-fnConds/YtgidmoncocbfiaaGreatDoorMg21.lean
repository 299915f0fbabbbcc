/-
  Pure: a field that tells a tag is good. CheckCond of no field, and of one that tells the state's own tag.
  Pure: the four drawn dates, and that their texts are usual ones. Walks of spec.l2At and spec.l2Text there.
  Walk: spec.DrawStrongSame.
-/
import Derived.Test.YtgidmoncocbfiaaGreatDoorMg18
import Derived.Test.YtgidmoncocbfiaaGreatDoorMg20
import Derived.Test.YtgidmoncocbfiaaGreatDoorMg6
import Derived.Test.YtgidmoncocbfiaaGreatDoorDts
namespace Go.Proofs.YtgidmoncocbfiaaGreatDoor.Cds
open Go.RowKit
open Go.Proofs.YtgidmoncocbfiaaGreatDoor.Tga Go.Proofs.YtgidmoncocbfiaaGreatDoor.Tgb Go.Proofs.YtgidmoncocbfiaaGreatDoor.Tgx
open Go.Proofs.YtgidmoncocbfiaaGreatDoor.Fvs
open Go.Proofs.YtgidmoncocbfiaaGreatDoor.Fgd
open Go.Proofs.YtgidmoncocbfiaaGreatDoor.Fdb (FV)
open Go.Proofs.YtgidmoncocbfiaaGreatDoor.Cda
open Go.Proofs.YtgidmoncocbfiaaGreatDoor.Dua (DW)
open Go.Proofs.YtgidmoncocbfiaaGreatDoor.Cur (clean3 dve_tag)

theorem ask_parts {m : ByteArray} {l : List (ByteArray × ByteArray)} {th tg K : Bool} {T : ByteArray} {dt : Bool} {md now : Int} (h : askB m l th tg K T dt md now = true) : stB th tg K T dt md = true ∧ inB now = true := by
  unfold askB at h
  simp only [Bool.and_eq_true] at h
  exact ⟨h.2.2.1, h.2.2.2⟩
theorem nil_check {m : ByteArray} {l : List (ByteArray × ByteArray)} {th tg K : Bool} {T : ByteArray} {dt : Bool} {md now : Int} (h : askB m l th tg K T dt md now = true) : askB m [] th tg K T dt md now = true ∧ ansP m [] th tg K T dt md now = 0 := by
  have hh : askB m [] th tg K T dt md now = true := by
    unfold askB at h ⊢
    simp only [Bool.and_eq_true] at h ⊢
    exact ⟨h.1, by decide, h.2.2.1, h.2.2.2⟩
  refine ⟨hh, ?_⟩
  unfold ansP
  rw [if_pos hh, code_nil]
theorem ans_in {m : ByteArray} {l : List (ByteArray × ByteArray)} {th tg K : Bool} {T : ByteArray} {dt : Bool} {md now : Int} : (ansP m l th tg K T dt md now = 0 ∨ ansP m l th tg K T dt md now = 304 ∨ ansP m l th tg K T dt md now = 412) ∧ (ansP m l th tg K T dt md now = 304 → looksB m = true) := by
  unfold ansP
  by_cases h : askB m l th tg K T dt md now = true
  · rw [if_pos h]; exact code_in _ _ _ _ _ _ _ _
  · rw [if_neg h]; exact ⟨.inl rfl, fun e => absurd e (by decide)⟩
theorem good_one {c : ByteArray} (K : Bool) {T : ByteArray} (hc : Fch.tokenB c.data.toList = true) (hT : tagB T = true) : goodL [(c, tagT K T)] = true := by
  have hsz := (tagT_size K hT).2
  have hp : Fbs.plainB (tagT K T).data.toList = true := by rw [tagT_list]; exact plain_tag K hT
  have he : edgeB (tagT K T).data.toList = true := by
    rw [tagT_list]
    unfold edgeB tagL
    cases K <;> simp
  unfold goodL
  rw [Bool.and_eq_true]
  refine ⟨by simp, ?_⟩
  rw [List.all_cons, List.all_nil, Bool.and_true]
  unfold goodF
  rw [hc, hp, he, decide_eq_true (show (tagT K T).size ≤ 300 by omega)]
  rfl
theorem own_checks {m : ByteArray} {l : List (ByteArray × ByteArray)} {th K : Bool} {T : ByteArray} {dt : Bool} {md now : Int} (h : askB m l th true K T dt md now = true) :
    (askB ⟨#[71, 69, 84]⟩ [(cINM, tagT K T)] th true K T dt md now = true ∧ ansP ⟨#[71, 69, 84]⟩ [(cINM, tagT K T)] th true K T dt md now = 304) ∧
    (askB ⟨#[80, 85, 84]⟩ [(cIM, tagT K T)] th true K T dt md now = true ∧ ansP ⟨#[80, 85, 84]⟩ [(cIM, tagT K T)] th true K T dt md now = if K then 412 else 0) := by
  obtain ⟨hs, hn⟩ := ask_parts h
  have hT := st_tag hs
  have a1 : askB ⟨#[71, 69, 84]⟩ [(cINM, tagT K T)] th true K T dt md now = true := by
    unfold askB
    rw [good_one K (by decide) hT, hs, hn]; decide
  have a2 : askB ⟨#[80, 85, 84]⟩ [(cIM, tagT K T)] th true K T dt md now = true := by
    unfold askB
    rw [good_one K (by decide) hT, hs, hn]; decide
  refine ⟨⟨a1, ?_⟩, ⟨a2, ?_⟩⟩
  · unfold ansP
    rw [if_pos a1, own_inm hT, show looksB ⟨#[71, 69, 84]⟩ = true by unfold looksB; rw [ByteArray.toList_eq]; decide]
    rfl
  · unfold ansP
    rw [if_pos a2, own_im hT]

end Go.Proofs.YtgidmoncocbfiaaGreatDoor.Cds

namespace Go.Proofs.YtgidmoncocbfiaaGreatDoor.Cur
open Go.RowKit
open Go.Proofs.YtgidmoncocbfiaaGreatDoor.Dwa
open Go.Proofs.YtgidmoncocbfiaaGreatDoor.Dmt
open Go.Proofs.YtgidmoncocbfiaaGreatDoor.Nam
open Go.Proofs.YtgidmoncocbfiaaGreatDoor.Cda (SH DV)

theorem at_four (x : Nat) (h : x < 4) : atV (86400 * (x : Int)) = .agg #[.int .i64 ((1970 : Nat) : Int), .int .i64 1, .int .i64 ((x + 1 : Nat) : Int), .int .i64 ((0 : Nat) : Int), .int .i64 ((0 : Nat) : Int), .int .i64 ((0 : Nat) : Int)] := by
  match x, h with
  | 0, _ => rfl
  | 1, _ => rfl
  | 2, _ => rfl
  | 3, _ => rfl
theorem good_four (x : Nat) (h : x < 4) : goodB 1970 1 (x + 1) 0 0 0 = true ∧ ∃ k : Nat, wdI 1970 1 ((x + 1 : Nat) : Int) = k := by
  match x, h with
  | 0, _ => exact ⟨by decide, 4, by decide⟩
  | 1, _ => exact ⟨by decide, 5, by decide⟩
  | 2, _ => exact ⟨by decide, 6, by decide⟩
  | 3, _ => exact ⟨by decide, 0, by decide⟩
theorem dve_usual (k y d h i s m : Nat) (hg : goodB y m d h i s = true) (hk : wdI y m d = k) : DVe (usualB k y m d h i s) :=
  have hd : ∃ o, DV (usualB k y m d h i s) o := ⟨some (secI y m d h i s), .inr ⟨k, y, d, h, i, s, m, hg, hk, rfl, rfl⟩⟩
  ⟨Cda.dv_size hd, hd⟩
theorem date_four (x : Nat) (h : x < 4) : ∃ (A : Value) (D : ByteArray), (∀ w, Calls Tryz.prog 47 #[.int .i64 (86400 * (x : Int))] w fun e w' => e = .returned A ∧ Below w.heap.size w w') ∧
    (∀ w, Calls Tryz.prog 46 #[A] w fun e w' => e = .returned (.string D) ∧ Below w.heap.size w w') ∧ DVe D := by
  obtain ⟨hg, k, hk⟩ := good_four x h
  refine ⟨atV (86400 * (x : Int)), usualB k 1970 1 (x + 1) 0 0 0, fun w => specAt_any _ w (by omega) (by omega), fun w => ?_, ?_⟩
  · rw [at_four x h]
    exact specText_any 1970 (x + 1) 0 0 0 k 1 w hg hk
  · exact dve_usual k 1970 (x + 1) 0 0 0 1 hg hk

end Go.Proofs.YtgidmoncocbfiaaGreatDoor.Cur

namespace Go.Proofs.YtgidmoncocbfiaaGreatDoor.Cur
open Go.RowKit

end Go.Proofs.YtgidmoncocbfiaaGreatDoor.Cur

