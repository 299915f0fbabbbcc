/-
  Walks: impl.DropDots and spec.DropDots tell the same.
-/
import Derived.Test.YtlgjgdpalflmfaaDoorSdw
import Derived.Test.YtlgjgdpalflmfaaDoorUtx
namespace Go.Proofs.YtlgjgdpalflmfaaDoor.Idd
open Go.RowKit
open Go.Lib
open Go.Proofs.YtlgjgdpalflmfaaDoor.Dot
open Go.Proofs.YtlgjgdpalflmfaaDoor.Ows
open Go.Proofs.YtlgjgdpalflmfaaDoor.Enc
open Go.Proofs.YtlgjgdpalflmfaaDoor.Cut

/-- Whether DropDots takes a path. -/
def ddB (s : ByteArray) : Bool := decide (s.size ≤ 200) && Lib.hasPrefix s.data.toList [47]
def ddS (s : ByteArray) : ByteArray := if ddB s then dots (parts (s.extract 1 s.size)) else ⟨#[]⟩

theorem ret_pair {a b : ByteArray} {x y : Bool} (h : a = b) (k : x = y) : Ending.returned (.tuple #[.string a, .bool x]) = .returned (.tuple #[.string b, .bool y]) := by rw [h, k]

theorem parts_le (t : ByteArray) (h : t.size ≤ 2000000) : 1 ≤ (parts t).length ∧ (∀ p ∈ parts t, p.size ≤ 2000000) :=
  ⟨parts_ne t, fun p hp => Nat.le_trans (split_le slash _ t p hp) h⟩

theorem parts_many : ∀ (n : Nat) (t : ByteArray), t.size ≤ n → (parts t).length ≤ n + 1
  | 0, t, h => by
    rcases cutI_index t with ⟨k, hk, hi⟩ | ⟨hk, hi⟩
    · have := (first_some _ _ _ _ _ hk).2.1
      have h2 := (List.getElem?_eq_some_iff.1 this).1
      simp at h2; omega
    · rw [(parts_one (cut_none hk).2.2).1]; simp
  | n + 1, t, h => by
    rcases cutI_index t with ⟨k, hk, hi⟩ | ⟨hk, hi⟩
    · have h1 := (first_some _ _ _ _ _ hk).2.1
      have h2 := (List.getElem?_eq_some_iff.1 h1).1
      have h3 : k < t.size := by simpa using h2
      have hz := (cut_some hk).2.1
      have ih := parts_many n (cutZ t 47) (by rw [hz, ByteArray.size_extract]; omega)
      rw [parts_more (cut_some hk).2.2, List.length_cons]; omega
    · rw [(parts_one (cut_none hk).2.2).1]; simp

theorem implDots_any (s : ByteArray) (m : Int) (w : World) (h1 : 1 ≤ s.size) (hs : s.size ≤ 2000000) (hm : w.cell? ⟨1, 0, none⟩ = some (.int .i64 m)) :
    Calls Tryd.prog 57 #[.string s] w fun e w' => e = .returned (.string (dots (parts (s.extract 1 s.size)))) ∧ Below w.heap.size w w' := by
  have hT : (s.extract 1 s.size).size ≤ 2000000 := by rw [ByteArray.size_extract]; omega
  obtain ⟨a, b⟩ := parts_le _ hT
  exact core s _ w h1 hs a (by have := parts_many 2000000 _ hT; omega) b (split_any _ m w hT hm)
theorem specDots_any (s : ByteArray) (w : World) (h1 : 1 ≤ s.size) (hs : s.size ≤ 2000000) :
    Calls Tryd.prog 62 #[.string s] w fun e w' => e = .returned (.string (dots (parts (s.extract 1 s.size)))) ∧ Below w.heap.size w w' := by
  have hT : (s.extract 1 s.size).size ≤ 2000000 := by rw [ByteArray.size_extract]; omega
  obtain ⟨a, b⟩ := parts_le _ hT
  exact specDots_core s _ w h1 hs a (by have := parts_many 2000000 _ hT; omega) b rfl

theorem pre_cases (s : ByteArray) : (Lib.hasPrefix s.data.toList [47] = true ∧ ∃ h : 0 < s.size, (s[0].toNat : Int) = 47) ∨ (Lib.hasPrefix s.data.toList [47] = false ∧ (s.toList.isEmpty = true ∨ ∃ h : 0 < s.size, (s[0].toNat : Int) ≠ 47)) := by
  cases hp : s.data.toList with
  | nil => right; exact ⟨rfl, Or.inl (by rw [ByteArray.toList_eq, hp]; rfl)⟩
  | cons c r =>
    have hl : 0 < s.data.toList.length := by rw [hp]; simp
    have h0 : 0 < s.size := by simpa using hl
    have hc : s[0] = c := by
      have e := Hex.at_list s 0 h0
      rw [hp] at e
      exact e.symm
    by_cases h47 : c = 47
    · left
      refine ⟨by subst h47; rfl, h0, ?_⟩
      rw [hc, h47]; rfl
    · right
      refine ⟨?_, Or.inr ⟨h0, ?_⟩⟩
      · simp [Lib.hasPrefix, List.isPrefixOf]; intro e'; exact h47 e'.symm
      · rw [hc]; intro e'; exact h47 (UInt8.toNat_inj.1 (show c.toNat = (47 : UInt8).toNat from by have : (47 : UInt8).toNat = 47 := rfl; omega))

theorem ne_of (s : ByteArray) (h : 0 < s.size) : s.toList.isEmpty = false := by
  rw [ByteArray.toList_eq]
  cases hp : s.data.toList with
  | nil => have : s.data.toList.length = s.size := by simp
           rw [hp] at this; simp at this; omega
  | cons c r => rfl

set_option maxHeartbeats 800000 in
theorem implDd_any (s : ByteArray) (m : Int) (w : World) (hs : s.size ≤ 2000000) (hm : w.cell? ⟨1, 0, none⟩ = some (.int .i64 m)) :
    Calls Tryd.prog 27 #[.string s] w fun e w' => e = .returned (.tuple #[.string (ddS s), .bool (ddB s)]) ∧ Below w.heap.size w w' := by
  have HM : Hid (w.cell? ⟨1, 0, none⟩ = some (.int .i64 m)) := hm
  clear hm
  by_cases h2 : s.size ≤ 200
  · rcases pre_cases s with ⟨hp, h0, _⟩ | ⟨hp, _⟩
    · have hb : ddB s = true := by unfold ddB; rw [decide_eq_true h2, hp]; rfl
      have HB : Hid (ddB s = true) := hb
      have HS : Hid (ddS s = dots (parts (s.extract 1 s.size))) := by show _ = _; unfold ddS; rw [hb]; rfl
      clear hb
      go_enter Tryd.func27, Tryd.ntmps27
      go_wp2_with (first
        | (go_at_call 43; refine (Tryd.strings_HasPrefix _ _ _).mono ?_; rintro e w' ⟨rfl, rfl⟩)
        | (go_at_call 57; refine (implDots_any s m _ h0 hs HM.out).mono ?_; rintro e w1 ⟨rfl, hb1⟩))
      go_ret2
      exact ⟨ret_pair HS.out.symm HB.out.symm, hb1⟩
    · have hb : ddB s = false := by unfold ddB; rw [hp, Bool.and_false]
      have HB : Hid (ddB s = false) := hb
      have HS : Hid (ddS s = ⟨#[]⟩) := by show _ = _; unfold ddS; rw [hb]; rfl
      clear hb
      go_enter Tryd.func27, Tryd.ntmps27
      go_wp2_with (go_at_call 43; refine (Tryd.strings_HasPrefix _ _ _).mono ?_; rintro e w' ⟨rfl, rfl⟩)
      go_ret2
      exact ⟨ret_pair HS.out.symm HB.out.symm, Below.refl _ _⟩
  · have hb : ddB s = false := by unfold ddB; rw [decide_eq_false h2]; rfl
    have HB : Hid (ddB s = false) := hb
    have HS : Hid (ddS s = ⟨#[]⟩) := by show _ = _; unfold ddS; rw [hb]; rfl
    clear hb
    go_enter Tryd.func27, Tryd.ntmps27
    go_wp2
    go_ret2
    exact ⟨ret_pair HS.out.symm HB.out.symm, Below.refl _ _⟩

set_option maxHeartbeats 800000 in
theorem specDd_any (s : ByteArray) (w : World) (hs : s.size ≤ 2000000) :
    Calls Tryd.prog 29 #[.string s] w fun e w' => e = .returned (.tuple #[.string (ddS s), .bool (ddB s)]) ∧ Below w.heap.size w w' := by
  rcases pre_cases s with ⟨hp, h0, h47⟩ | ⟨hp, hbad⟩
  · have he := ne_of s h0
    have h47' : ((s[0].toNat : Int) != 47) = false := by rw [bne, h47]; rfl
    clear h47
    by_cases h2 : s.size ≤ 200
    · have hb : ddB s = true := by unfold ddB; rw [decide_eq_true h2, hp]; rfl
      have HB : Hid (ddB s = true) := hb
      have HS : Hid (ddS s = dots (parts (s.extract 1 s.size))) := by show _ = _; unfold ddS; rw [hb]; rfl
      clear hb hp
      go_enter Tryd.func29, Tryd.ntmps29
      go_wp2_with (go_at_call 62; refine (specDots_any s _ h0 hs).mono ?_; rintro e w1 ⟨rfl, hb1⟩)
      go_ret2
      exact ⟨ret_pair HS.out.symm HB.out.symm, hb1⟩
    · have hb : ddB s = false := by unfold ddB; rw [decide_eq_false h2]; rfl
      have HB : Hid (ddB s = false) := hb
      have HS : Hid (ddS s = ⟨#[]⟩) := by show _ = _; unfold ddS; rw [hb]; rfl
      clear hb hp
      go_enter Tryd.func29, Tryd.ntmps29
      go_wp2
      go_ret2
      exact ⟨ret_pair HS.out.symm HB.out.symm, Below.refl _ _⟩
  · have hb : ddB s = false := by unfold ddB; rw [hp, Bool.and_false]
    have HB : Hid (ddB s = false) := hb
    have HS : Hid (ddS s = ⟨#[]⟩) := by show _ = _; unfold ddS; rw [hb]; rfl
    clear hb hp
    rcases hbad with he | ⟨h0, h47⟩
    · go_enter Tryd.func29, Tryd.ntmps29
      go_wp2
      go_ret2
      exact ⟨ret_pair HS.out.symm HB.out.symm, Below.refl _ _⟩
    · have he := ne_of s h0
      have h47' : ((s[0].toNat : Int) != 47) = true := by simpa using h47
      clear h47
      go_enter Tryd.func29, Tryd.ntmps29
      go_wp2
      go_ret2
      exact ⟨ret_pair HS.out.symm HB.out.symm, Below.refl _ _⟩

end Go.Proofs.YtlgjgdpalflmfaaDoor.Idd
