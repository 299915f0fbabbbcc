/-
  Heads cut into lines, over texts: what both programs tell. No program.
-/
import Derived.Test.YtaplkbkpgdpbaaaGreatDoorHdl
import Derived.Test.YtaplkbkpgdpbaaaGreatDoorFbs
namespace Go.Proofs.YtaplkbkpgdpbaaaGreatDoor.Hdl
open Go.Lib
open Go.Proofs.YtaplkbkpgdpbaaaGreatDoor.Fbs

theorem cc_take {u : List UInt8} {j n : Nat} (h : occAt (u.take n) CC j = true) : occAt u CC j = true := by
  unfold occAt at *
  rw [List.isPrefixOf_iff_prefix] at *
  obtain ⟨t, ht⟩ := h
  rw [List.drop_take] at ht
  exact ⟨t ++ (u.drop j).drop (n - j), by rw [← List.append_assoc, ht, List.take_append_drop]⟩
theorem take_cc {u : List UInt8} {j n : Nat} (h : occAt u CC j = true) (hn : j + 4 ≤ n) : occAt (u.take n) CC j = true := by
  unfold occAt at *
  rw [List.isPrefixOf_iff_prefix] at *
  obtain ⟨t, ht⟩ := h
  rw [List.drop_take, ← ht]
  refine ⟨t.take (n - j - 4), ?_⟩
  rw [List.take_append]
  have e1 : CC.take (n - j) = CC := List.take_of_length_le (by show 4 ≤ _; omega)
  rw [e1]; rfl
theorem idx_yes {u : List UInt8} {p n : Nat} (h : index u CC = p) (hn : p + 4 ≤ n) (hl : n ≤ u.length) : index (u.take n) CC = p := by
  rcases index_spec u CC with ⟨h2, _⟩ | ⟨i, h2, hi, ho, hno⟩
  · omega
  · have : i = p := by omega
    subst this
    exact index_first (by rw [List.length_take]; omega) (take_cc ho hn) (fun j hj => by
      cases hc : occAt (u.take n) CC j
      · rfl
      · have := cc_take hc
        rw [hno j hj] at this; cases this)
theorem idx_none {u : List UInt8} {n : Nat} (h : index u CC = -1) : index (u.take n) CC = -1 := by
  rcases index_spec u CC with ⟨_, hn⟩ | ⟨i, h2, _⟩
  · exact index_none (fun j hj => by
      cases hc : occAt (u.take n) CC j
      · rfl
      · have := cc_take hc
        rw [hn j (by rw [List.length_take] at hj; omega)] at this; cases this)
  · omega
theorem idx_late {u : List UInt8} {p n : Nat} (h : index u CC = p) (hn : n < p + 4) : index (u.take n) CC = -1 := by
  rcases index_spec u CC with ⟨h2, _⟩ | ⟨i, h2, hi, ho, hno⟩
  · omega
  · have : i = p := by omega
    subst this
    exact index_none (fun j hj => by
      cases hc : occAt (u.take n) CC j
      · rfl
      · have h1 := cc_take hc
        rcases occAt_room hc with hr | hr
        · rw [List.length_take] at hr
          have h4 : CC.length = 4 := rfl
          rw [hno j (by omega)] at h1; cases h1
        · cases hr)
theorem idx_room {u : List UInt8} {p : Nat} (h : index u CC = p) : p + 4 ≤ u.length := by
  have := index_room u CC (by omega)
  have h4 : CC.length = 4 := rfl
  omega

def mkB (l : List UInt8) : ByteArray := ⟨l.toArray⟩
theorem mkB_list (s : ByteArray) : mkB s.data.toList = s := by apply ByteArray.ext; simp [mkB]
theorem mkB_extract (s : ByteArray) (a b : Nat) : s.extract a b = mkB ((s.data.toList.drop a).take (b - a)) := by
  apply ByteArray.ext
  apply Array.ext'
  simp [mkB, ByteArray.data_extract, Array.toList_extract, List.extract_eq_take_drop]
/-- The head of a text, at most 2000 bytes: its lines, and how many bytes it has. -/
def cutO (s : ByteArray) : Option (List ByteArray × Nat) := if index s.data.toList CC = -1 ∨ 2000 < index s.data.toList CC + 4 then none else some ((split (s.data.toList.take (index s.data.toList CC).toNat) C).map mkB, (index s.data.toList CC).toNat + 4)
/-- What is told of a text without one. -/
def cdS (s : ByteArray) : Int := if 2000 < (s.size : Int) then 5 else 1
theorem cut_none {s : ByteArray} (h : index s.data.toList CC = -1) : cutO s = none := by unfold cutO; rw [if_pos (.inl h)]
theorem cut_late {s : ByteArray} {p : Nat} (h : index s.data.toList CC = p) (h2 : 2000 < p + 4) : cutO s = none := by unfold cutO; rw [if_pos (.inr (by omega))]
theorem cut_some {s : ByteArray} {p : Nat} (h : index s.data.toList CC = p) (h2 : p + 4 ≤ 2000) : cutO s = some ((split (s.data.toList.take p) C).map mkB, p + 4) := by
  unfold cutO
  rw [if_neg (by omega), h, Int.toNat_natCast]
theorem split_texts (s : ByteArray) : splitB ⟨#[13, 10]⟩ 0 (countB s ⟨#[13, 10]⟩) s = (split s.data.toList C).map mkB := by
  have h := splitB_data ⟨#[13, 10]⟩ 0 (countB s ⟨#[13, 10]⟩) s
  have e : split s.data.toList C = (splitB ⟨#[13, 10]⟩ 0 (countB s ⟨#[13, 10]⟩) s).map (·.data.toList) := h.symm
  rw [e, List.map_map]
  have : (mkB ∘ fun x => x.data.toList) = id := by funext x; exact mkB_list x
  rw [this, List.map_id]

end Go.Proofs.YtaplkbkpgdpbaaaGreatDoor.Hdl
