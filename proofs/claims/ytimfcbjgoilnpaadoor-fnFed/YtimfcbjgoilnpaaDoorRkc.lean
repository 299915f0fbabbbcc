/-
  Walks: strings.HasPrefix at a line end; (*chunkReader).takeLineEnd, takePieceEnd.
-/
import Derived.Test.YtimfcbjgoilnpaaDoorRkb
import Derived.Lib.MinMax
namespace Go.Proofs.YtimfcbjgoilnpaaDoor.Rkb
open Go.RowKit
open Go.Proofs.YtimfcbjgoilnpaaDoor.Chp (expC)

def le2 : ByteArray := ⟨#[13, 10]⟩

theorem litePrefix_any (X : ByteArray) (w : World) (hX : X.size ≤ 2) :
    Calls Tryd.prog 69 #[.string ⟨#[13, 10]⟩, .string X] w fun e w' => e = .returned (.bool (((⟨#[13, 10]⟩ : ByteArray).extract 0 X.size).toList == X.toList)) ∧ w' = w := by
  go_enter Tryd.func69, Tryd.ntmps69
  go_wp2_with fail
  go_ret
  exact ⟨rfl, rfl⟩
theorem hasPrefix_any (X : ByteArray) (w : World) (hX : X.size ≤ 2) :
    Calls Tryd.prog 60 #[.string ⟨#[13, 10]⟩, .string X] w fun e w' => e = .returned (.bool (((⟨#[13, 10]⟩ : ByteArray).extract 0 X.size).toList == X.toList)) ∧ w' = w := by
  go_enter Tryd.func60, Tryd.ntmps60
  go_wp2_with (go_at_call 69; refine (litePrefix_any X _ hX).mono ?_; rintro e w1 ⟨rfl, hw⟩; obtain rfl := hw.symm)
  go_ret
  exact ⟨rfl, rfl⟩

/-- What stands ahead, two bytes at most. -/
def two (t : ByteArray) : ByteArray := t.extract 0 (min t.size 2)
theorem two_list (t : ByteArray) : (two t).toList = t.data.toList.take 2 := by
  rw [ByteArray.toList_eq]
  unfold two
  rw [Hdg.ext_list, List.drop_zero]
  have e : t.data.toList.length = t.size := by simp
  rcases Nat.le_total t.size 2 with h | h
  · rw [Nat.min_eq_left h, List.take_of_length_le (by omega), List.take_of_length_le (by omega)]
  · rw [Nat.min_eq_right h]
theorem pre_list (X : ByteArray) : (((⟨#[13, 10]⟩ : ByteArray).extract 0 X.size).toList == X.toList) = ([13, 10].take X.toList.length == X.toList) := by
  rw [ByteArray.toList_eq, ByteArray.toList_eq, Hdg.ext_list, List.drop_zero]
  have e : X.data.toList.length = X.size := by simp
  rw [e]
theorem two_facts (t : ByteArray) : (((⟨#[13, 10]⟩ : ByteArray).extract 0 (two t).size).toList == (two t).toList) = decide (expC t.data.toList ≠ 2) ∧ ((two t).toList == [13, 10]) = decide (expC t.data.toList = 0) := by
  rw [pre_list, two_list]
  generalize t.data.toList = l
  match l with
  | [] => decide
  | [a] =>
    by_cases h : a = 13
    · subst h; decide
    · have h' : ¬ (13 : UInt8) = a := fun x => h x.symm
      simp [expC, h, h']
  | a :: b :: r =>
    by_cases h : a = 13
    · subst h
      by_cases h2 : b = 10
      · subst h2; simp [expC]
      · have h2' : ¬ (10 : UInt8) = b := fun x => h2 x.symm
        simp [expC, h2, h2']
    · have h' : ¬ (13 : UInt8) = a := fun x => h x.symm
      simp [expC, h, h']
theorem expC_cases (l : List UInt8) : expC l = 0 ∨ expC l = 1 ∨ expC l = 2 := by
  match l with
  | [] => exact .inr (.inl rfl)
  | [a] => by_cases h : a = 13 <;> simp [expC, h]
  | a :: b :: r => by_cases h : a = 13 <;> by_cases h2 : b = 10 <;> simp [expC, h, h2]

set_option maxHeartbeats 1600000 in
theorem takeLineEnd_any (R : Nat) (t : ByteArray) (x n p : Int) (b : List UInt8) (w : World) (hR : Rdr w R t x n p b) (hs : t.size ≤ 4000000) (hx0 : 0 ≤ x) (hx4 : x ≤ 4) :
    Calls Tryd.prog 40 #[.pointer (some ⟨R, 0, none⟩)] w fun e w' => e = .returned (.int .i64 (expC t.data.toList)) ∧ Below R w w' ∧ (expC t.data.toList = 0 → Rdr w' R (t.extract 2 t.size) (x + 1) n p b) := by
  have HRd : Hid (Rdr w R t x n p b) := hR
  obtain ⟨hp, he⟩ := two_facts t
  have hlt := hR.lt
  obtain ⟨c0, c1, _, _, _, hf⟩ := hR
  have HP0 := fun wx h => hasPrefix_any (two t) wx h
  rw [hp] at HP0
  have h2 : (two t).size ≤ 2 := by unfold two; rw [ByteArray.size_extract]; omega
  have hm : t.extract 0 (min (t.size : Int) 2).toNat = two t := by
    unfold two
    rw [show (min (t.size : Int) 2).toNat = min t.size 2 by omega]
  have hT : expC t.data.toList = 0 → 2 ≤ t.size := fun h => by
    have := Chp.exp_len h
    simpa using this
  clear hp
  rcases expC_cases t.data.toList with h | h | h
  · have h2t := hT h
    rw [h] at HP0 he ⊢
    have HP : Hid (∀ wx, Calls Tryd.prog 60 #[.string ⟨#[13, 10]⟩, .string (two t)] wx fun e w' => e = .returned (.bool true) ∧ w' = wx) := fun wx => HP0 wx h2
    have hn : ((two t).toList == [13, 10]) = true := he
    clear HP0 h2 he h hT
    go_enter Tryd.func40, Tryd.ntmps40
    go_wp2_with fail
    go_region
    clear hm
    generalize two t = X at *
    go_wp2_with (go_at_call 60; refine (HP.out _).mono ?_; rintro e w1 ⟨rfl, hw⟩; obtain rfl := hw.symm)
    go_ret
    exact ⟨rfl, bset (bset (Below.refl R w).drew _ _) _ _, fun _ => ((HRd.out.drewN 1).put0 _).put1 _⟩
  · rw [h] at HP0 he ⊢
    have HP : Hid (∀ wx, Calls Tryd.prog 60 #[.string ⟨#[13, 10]⟩, .string (two t)] wx fun e w' => e = .returned (.bool true) ∧ w' = wx) := fun wx => HP0 wx h2
    have hn : ((two t).toList == [13, 10]) = false := he
    clear HP0 h2 he h hT
    go_enter Tryd.func40, Tryd.ntmps40
    go_wp2_with fail
    go_region
    clear hm
    generalize two t = X at *
    go_wp2_with (go_at_call 60; refine (HP.out _).mono ?_; rintro e w1 ⟨rfl, hw⟩; obtain rfl := hw.symm)
    go_ret
    exact ⟨rfl, (Below.refl R w).drew, fun h => absurd h (by decide)⟩
  · rw [h] at HP0 ⊢
    have HP : Hid (∀ wx, Calls Tryd.prog 60 #[.string ⟨#[13, 10]⟩, .string (two t)] wx fun e w' => e = .returned (.bool false) ∧ w' = wx) := fun wx => HP0 wx h2
    clear HP0 h2 he h hT
    go_enter Tryd.func40, Tryd.ntmps40
    go_wp2_with fail
    go_region
    clear hm
    generalize two t = X at *
    go_wp2_with (go_at_call 60; refine (HP.out _).mono ?_; rintro e w1 ⟨rfl, hw⟩; obtain rfl := hw.symm)
    go_ret
    exact ⟨rfl, (Below.refl R w).drew, fun h => absurd h (by decide)⟩

end Go.Proofs.YtimfcbjgoilnpaaDoor.Rkb
