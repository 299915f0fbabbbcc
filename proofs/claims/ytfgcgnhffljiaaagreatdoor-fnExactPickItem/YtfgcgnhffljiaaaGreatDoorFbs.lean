/-
  Plain facts and small shapes for the texts on fields.
-/
import Derived.Test.YtfgcgnhffljiaaaGreatDoorOwn
import Derived.WalkKit
import Derived.WalkLawsBesides
import Derived.WalkSpells
namespace Go.Proofs.YtfgcgnhffljiaaaGreatDoor.Fbs
open Go.RowKit

theorem len_list (s : ByteArray) : s.data.toList.length = s.size := by simp
theorem at_list (s : ByteArray) (k : Nat) (h : k < s.size) : s.data.toList[k]?.getD 0 = s[k] := by
  have h' : k < s.data.toList.length := by simpa using h
  rw [List.getElem?_eq_getElem h']; rfl
theorem byte_bd (c : UInt8) : 0 ≤ (c.toNat : Int) ∧ (c.toNat : Int) ≤ 255 := by have := c.toNat_lt; omega
theorem app_list (a b : List UInt8) : (⟨a.toArray⟩ : ByteArray) ++ ⟨b.toArray⟩ = ⟨(a ++ b).toArray⟩ := by
  apply ByteArray.ext; simp
theorem ext_one (s : ByteArray) (k : Nat) (h : k < s.size) : s.extract k (k + 1) = ⟨[s[k]].toArray⟩ := by
  apply ByteArray.ext
  apply Array.ext'
  rw [ByteArray.data_extract, Array.toList_extract, List.extract_eq_take_drop]
  rw [show k + 1 - k = 1 from by omega]
  have h' : k < s.data.toList.length := by simpa using h
  rw [List.drop_eq_getElem_cons h']
  rfl
theorem ret_bool {a b : Bool} (h : a = b) : Ending.returned (.bool a) = .returned (.bool b) := by rw [h]
theorem ret_str {a b : ByteArray} (h : a = b) : Ending.returned (.string a) = .returned (.string b) := by rw [h]
theorem all_no {p : UInt8 → Bool} {l : List UInt8} {k : Nat} (h : k < l.length) (hp : p (l[k]?.getD 0) = false) : l.all p = false := by
  rw [List.all_eq_false]
  refine ⟨l[k], List.getElem_mem h, ?_⟩
  rw [List.getElem?_eq_getElem h] at hp
  simpa using hp
theorem all_yes {p : UInt8 → Bool} {l : List UInt8} (h : ∀ j, j < l.length → p (l[j]?.getD 0) = true) : l.all p = true := by
  rw [List.all_eq_true]
  intro c hc
  obtain ⟨j, hj, rfl⟩ := List.mem_iff_getElem.1 hc
  have := h j hj
  rw [List.getElem?_eq_getElem hj] at this
  simpa using this
theorem empty_of {s : ByteArray} (h : s.size = 0) : s = ⟨#[]⟩ := by
  apply ByteArray.ext; exact Array.eq_empty_of_size_eq_zero h

/-- A byte that can be seen, or a blank. -/
def seenB (b : Int) : Bool := decide (32 ≤ b) && decide (b ≤ 126)
def plainB (l : List UInt8) : Bool := l.all (fun c => seenB (c.toNat : Int))

theorem isPlain_any (s : ByteArray) (w : World) (hs : s.size ≤ 2000000) :
    Calls Tryz.prog 109 #[.string s] w fun e w' => e = .returned (.bool (plainB s.data.toList)) ∧ w' = w := by
  go_enter Tryz.func109, Tryz.ntmps109
  go_wp2
  go_loop [3] (fun i => ∃ k : Nat, k ≤ s.size ∧ i = .int .i64 k ∧ Hid (∀ j, j < k → seenB ((s.data.toList[j]?.getD 0).toNat : Int) = true)) (fun i => s.size - (intOf i).toNat)
  case atStart => exact ⟨0, by omega, rfl, fun j hj => absurd hj (by omega)⟩
  case round =>
    obtain ⟨k, hk, rfl, HA⟩ := hrel
    by_cases hlt : k < s.size
    · have e0 := at_list s k hlt
      by_cases hf : 32 ≤ (s[k].toNat : Int) ∧ (s[k].toNat : Int) ≤ 126
      · have HA' : Hid (∀ j, j < k + 1 → seenB ((s.data.toList[j]?.getD 0).toNat : Int) = true) := by
          intro j hj
          by_cases hjk : j = k
          · subst hjk; rw [e0]; unfold seenB; rw [decide_eq_true hf.1, decide_eq_true hf.2]; rfl
          · exact HA.out j (by omega)
        clear HA e0
        obtain ⟨f1, f2⟩ := hf
        go_wp2
        go_round
        case rel => exact ⟨k + 1, by omega, by go_num, HA'⟩
        case measure => simp [intOf]; omega
      · have HF : Hid (plainB s.data.toList = false) := by
          show _ = _
          refine all_no (k := k) (by rw [len_list]; exact hlt) ?_
          rw [e0]; unfold seenB
          rcases (show ¬ 32 ≤ (s[k].toNat : Int) ∨ ¬ (s[k].toNat : Int) ≤ 126 from by omega) with h | h
          · rw [decide_eq_false h]; rfl
          · rw [decide_eq_false h]; simp
        clear HA e0
        rcases (show (s[k].toNat : Int) < 32 ∨ 126 < (s[k].toNat : Int) from by omega) with h | h
        all_goals
          clear hf
          go_wp2
          go_ret
          exact ⟨ret_bool HF.out.symm, rfl⟩
    · have HF : Hid (plainB s.data.toList = true) := by
        show _ = _
        exact all_yes (fun j hj => HA.out j (by rw [len_list] at hj; omega))
      clear HA
      go_wp2
      go_ret
      exact ⟨ret_bool HF.out.symm, rfl⟩

theorem l3Printed_any (s : ByteArray) (w : World) (hs : s.size ≤ 2000000) :
    Calls Tryz.prog 102 #[.string s] w fun e w' => e = .returned (.bool (plainB s.data.toList)) ∧ w' = w := by
  go_enter Tryz.func102, Tryz.ntmps102
  go_wp2
  go_loop [3] (fun i => ∃ k : Nat, k ≤ s.size ∧ i = .int .i64 k ∧ Hid (∀ j, j < k → seenB ((s.data.toList[j]?.getD 0).toNat : Int) = true)) (fun i => s.size - (intOf i).toNat)
  case atStart => exact ⟨0, by omega, rfl, fun j hj => absurd hj (by omega)⟩
  case round =>
    obtain ⟨k, hk, rfl, HA⟩ := hrel
    by_cases hlt : k < s.size
    · have e0 := at_list s k hlt
      by_cases hf : 32 ≤ (s[k].toNat : Int) ∧ (s[k].toNat : Int) ≤ 126
      · have HA' : Hid (∀ j, j < k + 1 → seenB ((s.data.toList[j]?.getD 0).toNat : Int) = true) := by
          intro j hj
          by_cases hjk : j = k
          · subst hjk; rw [e0]; unfold seenB; rw [decide_eq_true hf.1, decide_eq_true hf.2]; rfl
          · exact HA.out j (by omega)
        clear HA e0
        obtain ⟨f1, f2⟩ := hf
        go_wp2
        go_round
        case rel => exact ⟨k + 1, by omega, by go_num, HA'⟩
        case measure => simp [intOf]; omega
      · have HF : Hid (plainB s.data.toList = false) := by
          show _ = _
          refine all_no (k := k) (by rw [len_list]; exact hlt) ?_
          rw [e0]; unfold seenB
          rcases (show ¬ 32 ≤ (s[k].toNat : Int) ∨ ¬ (s[k].toNat : Int) ≤ 126 from by omega) with h | h
          · rw [decide_eq_false h]; rfl
          · rw [decide_eq_false h]; simp
        clear HA e0
        rcases (show (s[k].toNat : Int) < 32 ∨ 126 < (s[k].toNat : Int) from by omega) with h | h
        all_goals
          clear hf
          go_wp2
          go_ret
          exact ⟨ret_bool HF.out.symm, rfl⟩
    · have HF : Hid (plainB s.data.toList = true) := by
        show _ = _
        exact all_yes (fun j hj => HA.out j (by rw [len_list] at hj; omega))
      clear HA
      go_wp2
      go_ret
      exact ⟨ret_bool HF.out.symm, rfl⟩

/-- At most a hundred bytes that can be quoted. -/
def quotable (s : ByteArray) : Bool := decide (s.size ≤ 100) && plainB s.data.toList

end Go.Proofs.YtfgcgnhffljiaaaGreatDoor.Fbs
