/-
  Walks: a text in small letters, for the texts on fields: impl.smallLetters and spec.l1Lower tell the same.
-/
import Derived.Test.YtfgcgnhffljiaaaGreatDoorFbs
import Derived.Test.YtfgcgnhffljiaaaGreatDoorByt
import Derived.Test.YtfgcgnhffljiaaaGreatDoorOwn
import Derived.Below
import Derived.Deep.QuietTactic
import Derived.BigQuiet
import Derived.Deep.RegionLaw
namespace Go.Proofs.YtfgcgnhffljiaaaGreatDoor.Lof
open Go.RowKit
open Go.Proofs.YtfgcgnhffljiaaaGreatDoor.Byt
open Go.Proofs.YtfgcgnhffljiaaaGreatDoor.Fbs
open Go.Proofs.YtfgcgnhffljiaaaGreatDoor.Own

/-- A great letter as a small one. -/
def lowB (c : UInt8) : UInt8 := if 65 ≤ c.toNat ∧ c.toNat ≤ 90 then UInt8.ofNat (c.toNat + 32) else c
def lowS (s : ByteArray) : ByteArray := ⟨(s.data.toList.map lowB).toArray⟩
theorem lowB_yes {c : UInt8} (h1 : 65 ≤ c.toNat) (h2 : c.toNat ≤ 90) : ((lowB c).toNat : Int) = (c.toNat : Int) + 32 := by
  unfold lowB; rw [if_pos ⟨h1, h2⟩, UInt8.toNat_ofNat']; omega
theorem lowB_no {c : UInt8} (h : ¬ (65 ≤ c.toNat ∧ c.toNat ≤ 90)) : lowB c = c := by unfold lowB; rw [if_neg h]
theorem lowS_size (s : ByteArray) : (lowS s).size = s.size := by
  show (s.data.toList.map lowB).toArray.size = s.size
  simp

/-- A byte of the text behind k rounds. -/
def lowAt (s : ByteArray) (k j : Nat) : UInt8 := if j < k then lowB (s.data.toList.getD j 0) else s.data.toList.getD j 0
theorem getD_at (s : ByteArray) (k : Nat) (h : k < s.size) : s.data.toList.getD k 0 = s[k] := by
  have := at_list s k h
  simpa [List.getD] using this

theorem bytes_of (s : ByteArray) (w : World) : ∃ g w1, (convert 9 120 (.string s)).run Tryz.prog w = .ok (.slice (some ⟨w.heap.size, 0, none⟩) s.size g) w1 ∧ s.size ≤ g ∧ Below w.heap.size w w1 ∧ w.heap.size < w1.heap.size ∧
    (∀ j, j < s.size → w1.cell? ⟨w.heap.size, j, none⟩ = some (.int .u8 ((lowAt s 0 j).toNat : Int))) ∧ (∀ j, j < s.size → w1.frozen? ⟨w.heap.size, j, none⟩ = false) := by
  refine ⟨_, _, run_bytes_of_string w 9 120 5 s Tryz.underlying9 Tryz.underlying120 Tryz.underlying5, grownCap_ge _ _ _ _, ((Below.refl _ _).drew).alloc (Nat.le_refl _) _, by simp, fun j hj => ?_, fun j hj => ?_⟩
  · have := World.cell?_alloc_mark w.drew (bytesRow s (grownCap w s.size 0 5)) 5 ((bytesRow s (grownCap w s.size 0 5)).size, (bytesRow s (grownCap w s.size 0 5)).size + 1) j
    refine Eq.trans this ?_
    rw [bytesRow_at s _ j hj]
    unfold lowAt
    rw [if_neg (by omega), getD_at s j hj]
    rfl
  · have := World.frozen?_alloc_mark w.drew (bytesRow s (grownCap w s.size 0 5)) 5 (bytesRow s (grownCap w s.size 0 5)).size ((bytesRow s (grownCap w s.size 0 5)).size + 1) j
    refine Eq.trans this ?_
    have hsz : j < (bytesRow s (grownCap w s.size 0 5)).size := by
      have := bytesRow_at s (grownCap w s.size 0 5) j hj
      exact (Array.getElem?_eq_some_iff.1 this).1
    rw [decide_eq_false (by omega)]; rfl

theorem text_of (s : ByteArray) (w1 : World) (b g : Nat) (h : ∀ j, j < s.size → w1.cell? ⟨b, j, none⟩ = some (.int .u8 ((lowAt s s.size j).toNat : Int))) :
    (convert 120 9 (.slice (some ⟨b, 0, none⟩) s.size g)).run Tryz.prog w1 = .ok (.string (lowS s)) w1 := by
  have hl : (s.data.toList.map lowB).length = s.size := by simp
  have := run_convert_bytes_back w1 120 9 5 ⟨b, 0, none⟩ g (s.data.toList.map lowB) Tryz.underlying120 Tryz.underlying5 Tryz.underlying9 (fun j hj => by
    rw [Addr.add_lit, Nat.zero_add]
    have hj' : j < s.size := by rw [← hl]; exact hj
    rw [h j hj']
    unfold lowAt
    rw [if_pos hj', getD_at s j hj']
    congr 3
    simp
    rfl)
  rw [hl] at this
  exact this

theorem lowAt_ne {s : ByteArray} {k j : Nat} (h : j ≠ k) : lowAt s (k + 1) j = lowAt s k j := by
  unfold lowAt
  by_cases h1 : j < k
  · rw [if_pos h1, if_pos (by omega)]
  · rw [if_neg h1, if_neg (by omega)]
theorem lowAt_self {s : ByteArray} {k : Nat} (h : k < s.size) : lowAt s k k = s[k] ∧ lowAt s (k + 1) k = lowB s[k] := by
  unfold lowAt
  rw [if_neg (by omega), if_pos (by omega), getD_at s k h]
  exact ⟨rfl, rfl⟩

/-- The cells behind a round that leaves them. -/
theorem low_stay {s : ByteArray} {k B : Nat} {wr : World} (h : k < s.size) (hn : ¬ (65 ≤ s[k].toNat ∧ s[k].toNat ≤ 90)) (hc : ∀ j, j < s.size → wr.cell? ⟨B, j, none⟩ = some (.int .u8 ((lowAt s k j).toNat : Int))) :
    ∀ j, j < s.size → wr.cell? ⟨B, j, none⟩ = some (.int .u8 ((lowAt s (k + 1) j).toNat : Int)) := by
  intro j hj
  rw [hc j hj]
  by_cases e : j = k
  · subst e; rw [(lowAt_self h).1, (lowAt_self h).2, lowB_no hn]
  · rw [lowAt_ne e]
/-- The cells behind a round that turns one. -/
theorem low_set {s : ByteArray} {k B : Nat} {wr : World} {x : Int} (h : k < s.size) (hx : x = ((lowB s[k]).toNat : Int)) (hc : ∀ j, j < s.size → wr.cell? ⟨B, j, none⟩ = some (.int .u8 ((lowAt s k j).toNat : Int))) :
    ∀ j, j < s.size → (wr.setCell ⟨B, k, none⟩ (.int .u8 x)).cell? ⟨B, j, none⟩ = some (.int .u8 ((lowAt s (k + 1) j).toNat : Int)) := by
  intro j hj
  by_cases e : j = k
  · subst e
    rw [(lowAt_self h).2, ← hx]
    simp [go_sem, hc j hj]
  · rw [lowAt_ne e, ← hc j hj]
    simp [go_sem]

set_option maxRecDepth 20000 in
set_option maxHeartbeats 800000 in
theorem implLow_any (s : ByteArray) (w : World) (hs : s.size ≤ 2000000) :
    Calls Tryz.prog 45 #[.string s] w fun e w' => e = .returned (.string (lowS s)) ∧ Below w.heap.size w w' := by
  obtain ⟨g, w1, hcv, hg, hb1, hs1, hc1, hf1⟩ := bytes_of s w
  have HC : Hid _ := hc1
  have HF : Hid _ := hf1
  have HB : Hid _ := hb1
  clear hc1 hf1 hb1
  go_enter Tryz.func45, Tryz.ntmps45
  go_wp2
  go_loopw [10] (fun i wr => ∃ k : Nat, k ≤ s.size ∧ i = .int .i64 k ∧ w.heap.size < wr.heap.size ∧ Hid (Below w.heap.size w wr) ∧ Hid (∀ j, j < s.size → wr.cell? ⟨w.heap.size, j, none⟩ = some (.int .u8 ((lowAt s k j).toNat : Int))) ∧ Hid (∀ j, j < s.size → wr.frozen? ⟨w.heap.size, j, none⟩ = false))
    (fun i _ => s.size - (intOf i).toNat)
  case atStart => exact ⟨0, by omega, rfl, hs1, HB, HC, HF⟩
  case round =>
    obtain ⟨k, hk, rfl, hs2, HB2, HC2, HF2⟩ := hrel
    clear HC HF HB hcv
    by_cases hlt : k < s.size
    · have hck := HC2.out k hlt
      rw [(lowAt_self hlt).1] at hck
      have hfk := HF2.out k hlt
      have hbd := byte_bd s[k]
      obtain ⟨b, hb⟩ : ∃ b, b = s[k] := ⟨_, rfl⟩
      rw [← hb] at hck hbd
      have HBQ : Hid (b = s[k]) := hb
      clear hb
      rcases (show (b.toNat < 65) ∨ (65 ≤ b.toNat ∧ 90 < b.toNat) ∨ (65 ≤ b.toNat ∧ b.toNat ≤ 90) from by omega) with h1 | ⟨h1, h2⟩ | ⟨h1, h2⟩
      · go_wp2
        go_roundw
        case rel => exact ⟨k + 1, by omega, by go_num, hs2, HB2, low_stay hlt (by rw [← HBQ.out]; omega) HC2.out, HF2⟩
        case measure => simp [intOf]; omega
      · have hd : decide ((b.toNat : Int) ≤ 90) = false := decide_eq_false (by omega)
        go_wp2
        go_roundw
        case rel => exact ⟨k + 1, by omega, by go_num, hs2, HB2, low_stay hlt (by rw [← HBQ.out]; omega) HC2.out, HF2⟩
        case measure => simp [intOf]; omega
      · have hd : decide ((b.toNat : Int) ≤ 90) = true := decide_eq_true (by omega)
        go_wp2
        go_roundw
        case rel => exact ⟨k + 1, by omega, by go_num, by simpa [World.setCell] using hs2, Below.setCell HB2.out (Nat.le_refl _) _, low_set hlt (by rw [← HBQ.out, lowB_yes h1 h2]; try omega) HC2.out, fun j hj => by simp [go_sem, HF2.out j hj]⟩
        case measure => simp [intOf]; omega
    · obtain rfl : k = s.size := by omega
      have hcv := text_of s wr w.heap.size g HC2.out
      go_wp2
      go_ret
      exact ⟨rfl, HB2.out⟩

set_option maxRecDepth 20000 in
set_option maxHeartbeats 800000 in
theorem specLow_any (s : ByteArray) (w : World) (hs : s.size ≤ 2000000) :
    Calls Tryz.prog 79 #[.string s] w fun e w' => e = .returned (.string (lowS s)) ∧ Below w.heap.size w w' := by
  obtain ⟨g, w1, hcv, hg, hb1, hs1, hc1, hf1⟩ := bytes_of s w
  have HC : Hid _ := hc1
  have HF : Hid _ := hf1
  have HB : Hid _ := hb1
  clear hc1 hf1 hb1
  go_enter Tryz.func79, Tryz.ntmps79
  go_wp2
  go_loopw [9] (fun i wr => ∃ k : Nat, k ≤ s.size ∧ i = .int .i64 k ∧ w.heap.size < wr.heap.size ∧ Hid (Below w.heap.size w wr) ∧ Hid (∀ j, j < s.size → wr.cell? ⟨w.heap.size, j, none⟩ = some (.int .u8 ((lowAt s k j).toNat : Int))) ∧ Hid (∀ j, j < s.size → wr.frozen? ⟨w.heap.size, j, none⟩ = false))
    (fun i _ => s.size - (intOf i).toNat)
  case atStart => exact ⟨0, by omega, rfl, hs1, HB, HC, HF⟩
  case round =>
    obtain ⟨k, hk, rfl, hs2, HB2, HC2, HF2⟩ := hrel
    clear HC HF HB hcv
    by_cases hlt : k < s.size
    · have hck := HC2.out k hlt
      rw [(lowAt_self hlt).1] at hck
      have hfk := HF2.out k hlt
      have hbd := byte_bd s[k]
      obtain ⟨b, hb⟩ : ∃ b, b = s[k] := ⟨_, rfl⟩
      rw [← hb] at hck hbd
      have HBQ : Hid (b = s[k]) := hb
      clear hb
      rcases (show (b.toNat < 65) ∨ (65 ≤ b.toNat ∧ 90 < b.toNat) ∨ (65 ≤ b.toNat ∧ b.toNat ≤ 90) from by omega) with h1 | ⟨h1, h2⟩ | ⟨h1, h2⟩
      · go_wp2
        go_roundw
        case rel => exact ⟨k + 1, by omega, by go_num, hs2, HB2, low_stay hlt (by rw [← HBQ.out]; omega) HC2.out, HF2⟩
        case measure => simp [intOf]; omega
      · have hd : decide ((b.toNat : Int) ≤ 90) = false := decide_eq_false (by omega)
        go_wp2
        go_roundw
        case rel => exact ⟨k + 1, by omega, by go_num, hs2, HB2, low_stay hlt (by rw [← HBQ.out]; omega) HC2.out, HF2⟩
        case measure => simp [intOf]; omega
      · have hd : decide ((b.toNat : Int) ≤ 90) = true := decide_eq_true (by omega)
        go_wp2
        go_roundw
        case rel => exact ⟨k + 1, by omega, by go_num, by simpa [World.setCell] using hs2, Below.setCell HB2.out (Nat.le_refl _) _, low_set hlt (by rw [← HBQ.out, lowB_yes h1 h2]; try omega) HC2.out, fun j hj => by simp [go_sem, HF2.out j hj]⟩
        case measure => simp [intOf]; omega
    · obtain rfl : k = s.size := by omega
      have hcv := text_of s wr w.heap.size g HC2.out
      go_wp2
      go_ret
      exact ⟨rfl, HB2.out⟩

end Go.Proofs.YtfgcgnhffljiaaaGreatDoor.Lof
