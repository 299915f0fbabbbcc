/-
  Walks: spec.l5Bytes, ChunkBytes.
-/
import Derived.Test.YtimfcbjgoilnpaaDoorCkm
namespace Go.Proofs.YtimfcbjgoilnpaaDoor.Ckm
open Go.RowKit
open Go.Proofs.YtimfcbjgoilnpaaDoor.Hxt
open Go.Proofs.YtimfcbjgoilnpaaDoor.Mrk (TV RowT)

theorem ret_s {a b : ByteArray} (h : a = b) : Ending.returned (.string a) = .returned (.string b) := by rw [h]

set_option maxHeartbeats 1600000 in
theorem l5Bytes_any (a : Option Addr) (ca : Nat) (l : List ByteArray) (w : World) (lo hi : Nat) (hl : l.length ≤ 62) (hs : ∀ x ∈ l, x.size ≤ 300) (ha : TV w a l lo hi) :
    Calls Tryd.prog 36 #[.slice a l.length ca] w fun e w' => e = .returned (.string ⟨(chkL l ++ [48, 13, 10, 13, 10]).toArray⟩) ∧ Below w.heap.size w w' := by
  by_cases h0 : l = []
  · subst h0
    go_enter Tryd.func36, Tryd.ntmps36
    go_wp2_with fail
    go_loop [3, 8] (fun s i => s = .string ⟨#[]⟩ ∧ i = .int .i64 0) (fun _ _ => 0)
    case atStart => exact ⟨rfl, rfl⟩
    case round =>
      obtain ⟨rfl, rfl⟩ := hrel
      go_wp2_with fail
      go_ret
      exact ⟨rfl, Below.refl _ _⟩
  rcases ha with ha | ⟨g, rfl, _, _, ga⟩
  · exact absurd ha h0
  have GA : Hid (RowT w g l) := ga
  clear ga
  go_enter Tryd.func36, Tryd.ntmps36
  go_wp2_with fail
  go_loopw [3, 8] (fun s i wr => ∃ k : Nat, k ≤ l.length ∧ s = .string ⟨(chkL (l.take k)).toArray⟩ ∧ i = .int .i64 k ∧ Below w.heap.size w wr) (fun _ i _ => l.length - (intOf i).toNat)
  case atStart => exact ⟨0, by omega, rfl, rfl, Below.refl _ _⟩
  case round =>
    obtain ⟨k, hk, rfl, rfl, hbel⟩ := hrel
    have hlen := chkL_len l hs k hk
    have hsum := sumS_bd l 300 hs k hk
    by_cases hlt : k < l.length
    · have hc := (GA.out.below hbel).2.2 k l[k] (List.getElem?_eq_getElem hlt)
      have hsk := hs l[k] (List.getElem_mem hlt)
      have hn : l[k].size < 65536 := by omega
      have HX0 := fun wx => Hxw.l5Hex_any l[k].size hn wx
      have HX : Hid _ := HX0
      have e1 := chunk_app (hexT l[k].size) l[k]
      have HE : Hid (⟨(chkL (l.take k)).toArray⟩ ++ ⟨(chk l[k]).toArray⟩ = (⟨(chkL (l.take (k + 1))).toArray⟩ : ByteArray)) := by
        show _ = _
        rw [app_list, chkL_take l k hlt]
      have hck := chk_len l[k] hsk
      have hht := hexT_len 3 l[k].size hn
      clear HX0
      go_wp2_with (go_at_call 47; refine (HX.out _).mono ?_; rintro e w1 ⟨rfl, hb1⟩)
      refine ⟨⟨k + 1, by omega, by rw [← HE.out]; rfl, by go_num, hbel.trans (hb1.mono hbel.size)⟩, ?_⟩
      simp [intOf]; omega
    · obtain rfl : k = l.length := by omega
      rw [List.take_length] at *
      have e2 := app_list (chkL l) [48, 13, 10, 13, 10]
      have e2 : ((⟨(chkL l).toArray⟩ : ByteArray) ++ ⟨#[48, 13, 10, 13, 10]⟩) = ⟨(chkL l ++ [48, 13, 10, 13, 10]).toArray⟩ := e2
      go_wp2_with fail
      go_ret
      exact ⟨ret_s (by first | rfl | exact e2), hbel⟩

set_option maxHeartbeats 1600000 in
theorem specChunk_any (a : Option Addr) (ca : Nat) (l : List ByteArray) (w : World) (lo hi : Nat) (hl : l.length ≤ 2000000) (hs : ∀ x ∈ l, x.size ≤ 2000000) (ha : TV w a l lo hi) :
    Calls Tryd.prog 13 #[.slice a l.length ca] w fun e w' => e = .returned (.tuple #[.string (ckS l), .bool (pcs l)]) ∧ Below w.heap.size w w' := by
  by_cases h0 : l = []
  · subst h0
    have HF0 := fun wx hx => l5Bytes_any a ca [] wx lo hi (by simp) (by simp) hx
    have HF : Hid _ := HF0
    have HA : Hid (TV w a [] lo hi) := ha
    clear HF0 ha
    go_enter Tryd.func13, Tryd.ntmps13
    go_wp2_with fail
    go_loop [4, 9] (fun n i => n = .int .i64 0 ∧ i = .int .i64 0) (fun _ _ => 0)
    case atStart => exact ⟨rfl, rfl⟩
    case round =>
      obtain ⟨rfl, rfl⟩ := hrel
      go_wp2_with fail
      refine (HF.out _ HA.out).mono ?_
      rintro e w1 ⟨rfl, hb1⟩
      go_wp2_with fail
      go_ret2
      exact ⟨rfl, hb1⟩
  rcases ha with ha | ⟨g, rfl, hlo, hhi, ga⟩
  · exact absurd ha h0
  have GA : Hid (RowT w g l) := ga
  clear ga
  go_enter Tryd.func13, Tryd.ntmps13
  go_wp2_with fail
  go_loopw [4, 9] (fun n i wr => ∃ k : Nat, k ≤ l.length ∧ n = .int .i64 (sumS (l.take k) : Int) ∧ i = .int .i64 k ∧ Below w.heap.size w wr ∧ Hid (∀ j, (hj : j < l.length) → j < k → l[j].size ≠ 0)) (fun _ i _ => l.length - (intOf i).toNat)
  case atStart => exact ⟨0, by omega, rfl, rfl, Below.refl _ _, fun j _ h => absurd h (by omega)⟩
  case round =>
    obtain ⟨k, hk, rfl, rfl, hbel, HT⟩ := hrel
    have hsum := sumS_bd l 2000000 hs k hk
    by_cases hlt : k < l.length
    · have hc := (GA.out.below hbel).2.2 k l[k] (List.getElem?_eq_getElem hlt)
      have hsk := hs l[k] (List.getElem_mem hlt)
      by_cases hz : l[k].size = 0
      · have HR : Hid (pcs l = false) := pcs_no (fun h => h.2.1 k hlt hz)
        have hx := empty_of hz
        clear HT
        go_wp2_with fail
        go_ret2
        exact ⟨ret_sb (ck_no HR.out).symm HR.out.symm, hbel⟩
      · have HT' : Hid (∀ j, (hj : j < l.length) → j < k + 1 → l[j].size ≠ 0) := by
          intro j hj h
          by_cases e : j = k
          · subst e; exact hz
          · exact HT.out j hj (by omega)
        have HN := sumS_take l k hlt
        have hy := ne_of hz
        clear HT
        go_wp2_with fail
        refine ⟨⟨k + 1, by omega, by rw [HN]; go_num, by go_num, hbel, HT'⟩, ?_⟩
        simp [intOf]; omega
    · obtain rfl : k = l.length := by omega
      rw [List.take_length] at *
      by_cases hp : l.length ≤ 60 ∧ sumS l ≤ 300
      · have HR : Hid (pcs l = true) := pcs_yes hp.1 (fun j hj => HT.out j hj hj) hp.2
        have hd1 : decide (60 < (l.length : Int)) = false := decide_eq_false (by omega)
        have hd2 : decide (300 < (sumS l : Int)) = false := decide_eq_false (by omega)
        have HF0 := fun wx hx => l5Bytes_any (some ⟨g, 0, none⟩) ca l wx lo hi (Nat.le_trans hp.1 (by decide)) (fun x hx => by obtain ⟨j, hj, rfl⟩ := List.getElem_of_mem hx; exact Nat.le_trans (sumS_at l j hj) hp.2) hx
        have HF : Hid _ := HF0
        have GV : Hid (TV wr (some ⟨g, 0, none⟩) l lo hi) := .inr ⟨g, rfl, hlo, hhi, GA.out.below hbel⟩
        clear HT HF0
        go_wp2_with fail
        refine (HF.out _ GV.out).mono ?_
        rintro e w1 ⟨rfl, hb1⟩
        go_wp2_with fail
        go_ret2
        exact ⟨ret_sb (ck_yes HR.out).symm HR.out.symm, hbel.trans (hb1.mono hbel.size)⟩
      · have HR : Hid (pcs l = false) := pcs_no (fun h => hp ⟨h.1, h.2.2⟩)
        clear HT
        by_cases h60 : 60 < l.length
        · have hd1 : decide (60 < (l.length : Int)) = true := decide_eq_true (by omega)
          go_wp2_with fail
          go_ret2
          exact ⟨ret_sb (ck_no HR.out).symm HR.out.symm, hbel⟩
        · have hd1 : decide (60 < (l.length : Int)) = false := decide_eq_false (by omega)
          have hd2 : decide (300 < (sumS l : Int)) = true := decide_eq_true (by omega)
          go_wp2_with fail
          go_ret2
          exact ⟨ret_sb (ck_no HR.out).symm HR.out.symm, hbel⟩

end Go.Proofs.YtimfcbjgoilnpaaDoor.Ckm
