/-
  Walk: spec.l3Trim: a text without blanks at its ends.
-/
import Derived.Test.YtfgcgnhffljiaaaGreatDoorFbs
import Derived.Test.YtfgcgnhffljiaaaGreatDoorOws
import Derived.Lib.TrimByte
namespace Go.Proofs.YtfgcgnhffljiaaaGreatDoor.Tri
open Go.RowKit
open Go.Proofs.YtfgcgnhffljiaaaGreatDoor.Fbs

/-- A text without blanks at its ends. -/
def trimS (s : ByteArray) : ByteArray := ⟨(Lib.trimB s.data.toList 32).toArray⟩

theorem dropW_app (p : UInt8 → Bool) (a b : List UInt8) : (a ++ b).dropWhile p = if (a.dropWhile p).isEmpty then b.dropWhile p else a.dropWhile p ++ b := by
  induction a with
  | nil => simp
  | cons c r ih =>
    rw [List.cons_append, List.dropWhile_cons, List.dropWhile_cons]
    cases h : p c
    · simp
    · simpa using ih
theorem dropW_form (p : UInt8 → Bool) (l : List UInt8) : l.dropWhile p = [] ∨ ∃ c r, l.dropWhile p = c :: r ∧ p c = false := by
  induction l with
  | nil => left; rfl
  | cons c r ih =>
    rw [List.dropWhile_cons]
    cases h : p c
    · right; exact ⟨c, r, by simp, h⟩
    · simpa using ih
theorem dropW_nil_iff (p : UInt8 → Bool) (l : List UInt8) : l.dropWhile p = [] ↔ ∀ c ∈ l, p c = true := by
  induction l with
  | nil => simp
  | cons c r ih =>
    rw [List.dropWhile_cons]
    cases h : p c
    · simp [h]
    · simp [h, ih]
theorem trim_comm (l : List UInt8) (b : UInt8) : Lib.trimRightB (Lib.trimLeftB l b) b = Lib.trimB l b := by
  unfold Lib.trimB
  rcases dropW_form (· == b) l with h | ⟨c, r, h, hc⟩
  · have h1 : Lib.trimLeftB l b = [] := h
    have h2 : Lib.trimRightB l b = [] := by
      unfold Lib.trimRightB
      rw [(dropW_nil_iff _ _).2 (fun c hc => (dropW_nil_iff _ _).1 h c (by simpa using hc))]
      rfl
    rw [h1, h2]; rfl
  · have h1 : Lib.trimLeftB l b = c :: r := h
    obtain ⟨pre, hpre⟩ : ∃ pre, l = pre ++ (c :: r) := by
      obtain ⟨pre, hp⟩ := List.dropWhile_suffix (l := l) (· == b)
      exact ⟨pre, by rw [← hp, h]⟩
    have h2 : Lib.trimRightB l b = pre ++ Lib.trimRightB (c :: r) b := by
      unfold Lib.trimRightB
      rw [hpre, List.reverse_append, dropW_app]
      have : ((c :: r).reverse.dropWhile (· == b)).isEmpty = false := by
        cases hx : (c :: r).reverse.dropWhile (· == b) with
        | nil =>
          have := (dropW_nil_iff _ _).1 hx c (by simp)
          rw [hc] at this; cases this
        | cons => rfl
      rw [this]
      simp
    have h3 : ∃ r', Lib.trimRightB (c :: r) b = c :: r' := by
      unfold Lib.trimRightB
      rw [List.reverse_cons, dropW_app]
      split
      · refine ⟨[], ?_⟩
        rw [List.dropWhile_cons, hc]
        rfl
      · exact ⟨_, by rw [List.reverse_append]; rfl⟩
    rw [h1]
    obtain ⟨r', hr'⟩ := h3
    rw [h2, hr']
    unfold Lib.trimLeftB
    rw [dropW_app]
    have hpn : pre.dropWhile (· == b) = [] := by
      by_cases he : pre.dropWhile (· == b) = []
      · exact he
      · exfalso
        have e := h
        rw [hpre, dropW_app] at e
        have : (pre.dropWhile (· == b)).isEmpty = false := by
          cases hx : pre.dropWhile (· == b) with
          | nil => exact absurd hx he
          | cons => rfl
        rw [this] at e
        simp only [Bool.false_eq_true, if_false] at e
        have hl := congrArg List.length e
        rw [List.length_append] at hl
        have : 0 < (pre.dropWhile (· == b)).length := List.length_pos_iff.2 he
        simp only [List.length_cons] at hl
        omega
    rw [hpn]
    simp only [List.isEmpty_nil, if_true]
    rw [List.dropWhile_cons, hc]
    rfl

theorem first_cons {s : ByteArray} (h : 0 < s.size) : s.data.toList = s[0] :: (s.extract 1 s.size).data.toList := by
  have hl := len_list s
  have e : (s.extract 1 s.size).data.toList = s.data.toList.drop 1 := by
    rw [ByteArray.data_extract, Array.toList_extract, List.extract_eq_take_drop]
    rw [List.take_of_length_le (by rw [List.length_drop]; omega)]
  rw [e]
  have h0 := at_list s 0 h
  cases hs : s.data.toList with
  | nil => rw [hs] at hl; simp at hl; omega
  | cons c r =>
    rw [hs] at h0
    simp at h0
    rw [h0]; rfl
theorem last_snoc {s : ByteArray} (h : 0 < s.size) : s.data.toList = (s.extract 0 (s.size - 1)).data.toList ++ [s[s.size - 1]] := by
  have hl := len_list s
  have e : (s.extract 0 (s.size - 1)).data.toList = s.data.toList.take (s.size - 1) := by
    rw [ByteArray.data_extract, Array.toList_extract, List.extract_eq_take_drop]
    simp
  rw [e]
  have h0 := at_list s (s.size - 1) (by omega)
  have hk : s.size - 1 < s.data.toList.length := by omega
  rw [List.getElem?_eq_getElem hk] at h0
  have := List.take_succ_eq_append_getElem hk
  rw [show s.size - 1 + 1 = s.data.toList.length from by omega, List.take_length] at this
  rw [Option.getD_some] at h0
  rw [h0] at this
  exact this
theorem left_step {s : ByteArray} (h : 0 < s.size) (hc : s[0].toNat = 32) : Lib.trimLeftB (s.extract 1 s.size).data.toList 32 = Lib.trimLeftB s.data.toList 32 := by
  rw [first_cons h]
  unfold Lib.trimLeftB
  rw [List.dropWhile_cons]
  have : (s[0] == (32 : UInt8)) = true := by rw [beq_iff_eq]; exact UInt8.toNat_inj.1 hc
  rw [this]; rfl
theorem left_end {s : ByteArray} (h : s.size = 0 ∨ ∃ h : 0 < s.size, s[0].toNat ≠ 32) : Lib.trimLeftB s.data.toList 32 = s.data.toList := by
  rcases h with h | ⟨h, hc⟩
  · rw [empty_of h]; rfl
  · rw [first_cons h]
    unfold Lib.trimLeftB
    rw [List.dropWhile_cons]
    have : (s[0] == (32 : UInt8)) = false := by rw [beq_eq_false_iff_ne]; intro e; exact hc (by rw [e]; rfl)
    rw [this]; rfl
theorem right_step {s : ByteArray} (h : 0 < s.size) (hc : s[s.size - 1].toNat = 32) : Lib.trimRightB (s.extract 0 (s.size - 1)).data.toList 32 = Lib.trimRightB s.data.toList 32 := by
  rw [last_snoc h]
  unfold Lib.trimRightB
  rw [List.reverse_append, List.reverse_singleton, List.singleton_append, List.dropWhile_cons]
  have : (s[s.size - 1] == (32 : UInt8)) = true := by rw [beq_iff_eq]; exact UInt8.toNat_inj.1 hc
  rw [this]; rfl
theorem right_end {s : ByteArray} (h : s.size = 0 ∨ ∃ h : 0 < s.size, s[s.size - 1].toNat ≠ 32) : Lib.trimRightB s.data.toList 32 = s.data.toList := by
  rcases h with h | ⟨h, hc⟩
  · rw [empty_of h]; rfl
  · refine (congrArg (fun l => Lib.trimRightB l 32) (last_snoc h)).trans ?_
    show Lib.trimRightB _ 32 = _
    unfold Lib.trimRightB
    rw [List.reverse_append, List.reverse_singleton, List.singleton_append, List.dropWhile_cons]
    have : (s[s.size - 1] == (32 : UInt8)) = false := by rw [beq_eq_false_iff_ne]; intro e; exact hc (by rw [e]; rfl)
    rw [this]
    simp only [Bool.false_eq_true, if_false, List.reverse_cons, List.reverse_reverse]
    exact (last_snoc h).symm
theorem trimS_of {s a b : ByteArray} (h1 : Lib.trimLeftB a.data.toList 32 = Lib.trimLeftB s.data.toList 32) (h2 : Lib.trimLeftB a.data.toList 32 = a.data.toList) (h3 : Lib.trimRightB b.data.toList 32 = Lib.trimRightB a.data.toList 32) (h4 : Lib.trimRightB b.data.toList 32 = b.data.toList) : b = trimS s := by
  unfold trimS
  rw [← trim_comm, ← h1, h2, ← h3, h4]
theorem trimS_size (s : ByteArray) : (trimS s).size ≤ s.size := by
  have h : ∀ (p : UInt8 → Bool) (l : List UInt8), (l.dropWhile p).length ≤ l.length := fun p l => (List.dropWhile_suffix p).length_le
  show (Lib.trimB s.data.toList 32).toArray.size ≤ _
  rw [List.size_toArray]
  unfold Lib.trimB Lib.trimLeftB Lib.trimRightB
  have h1 := h (· == 32) ((s.data.toList.reverse.dropWhile (· == 32)).reverse)
  have h2 := h (· == 32) s.data.toList.reverse
  rw [List.length_reverse] at h1 h2
  have := len_list s
  omega

set_option maxHeartbeats 800000 in
theorem l3Trim_any (s : ByteArray) (w : World) (hs : s.size ≤ 2000000) :
    Calls Tryz.prog 107 #[.string s] w fun e w' => e = .returned (.string (trimS s)) ∧ w' = w := by
  go_enter Tryz.func107, Tryz.ntmps107
  go_wp2
  go_loop [0] (fun v => ∃ a : ByteArray, v = .string a ∧ a.size ≤ s.size ∧ Hid (Lib.trimLeftB a.data.toList 32 = Lib.trimLeftB s.data.toList 32)) (fun v => match v with | .string a => a.size | _ => 0)
  case atStart => exact ⟨s, rfl, Nat.le_refl _, rfl⟩
  case round =>
    obtain ⟨a, rfl, ha, HA⟩ := hrel
    by_cases h0 : 0 < a.size
    · by_cases hc : (a[0].toNat : Int) = 32
      · have hc' : ((a[0].toNat : Int) == 32) = true := by simpa using hc
        have HA' : Hid (Lib.trimLeftB (a.extract 1 a.size).data.toList 32 = Lib.trimLeftB s.data.toList 32) := by
          show _ = _; rw [left_step h0 (by omega), HA.out]
        have hz : (a.extract 1 a.size).size = a.size - 1 := by rw [ByteArray.size_extract]; omega
        clear HA hc
        go_wp2
        go_round
        case rel => exact ⟨_, rfl, by omega, HA'⟩
        case measure => simp only [hz]; omega
      · have hc' : ((a[0].toNat : Int) == 32) = false := by simpa using hc
        have HE : Hid (Lib.trimLeftB a.data.toList 32 = a.data.toList) := left_end (Or.inr ⟨h0, by omega⟩)
        clear hc
        go_wp2
        go_loop [0] (fun v => ∃ b : ByteArray, v = .string b ∧ b.size ≤ a.size ∧ Hid (Lib.trimRightB b.data.toList 32 = Lib.trimRightB a.data.toList 32)) (fun v => match v with | .string b => b.size | _ => 0)
        case atStart => exact ⟨a, rfl, Nat.le_refl _, rfl⟩
        case round =>
          obtain ⟨b, rfl, hb, HB⟩ := hrel
          by_cases g0 : 0 < b.size
          · by_cases gc : (b[b.size - 1].toNat : Int) = 32
            · have gc' : ((b[b.size - 1].toNat : Int) == 32) = true := by simpa using gc
              have HB' : Hid (Lib.trimRightB (b.extract 0 (b.size - 1)).data.toList 32 = Lib.trimRightB a.data.toList 32) := by
                show _ = _; rw [right_step g0 (by omega), HB.out]
              have hz : (b.extract 0 (b.size - 1)).size = b.size - 1 := by rw [ByteArray.size_extract]; omega
              clear HB gc
              go_wp2
              go_round
              case rel => exact ⟨_, rfl, by omega, HB'⟩
              case measure => simp only [hz]; omega
            · have gc' : ((b[b.size - 1].toNat : Int) == 32) = false := by simpa using gc
              have HR : Hid (b = trimS s) := trimS_of HA.out HE.out HB.out (right_end (Or.inr ⟨g0, by omega⟩))
              clear HA HE HB gc
              go_wp2
              go_ret
              exact ⟨ret_str HR.out, rfl⟩
          · have HR : Hid (b = trimS s) := trimS_of HA.out HE.out HB.out (right_end (Or.inl (by omega)))
            clear HA HE HB
            go_wp2
            go_ret
            exact ⟨ret_str HR.out, rfl⟩
    · have HR : Hid (a = trimS s) := trimS_of HA.out (left_end (Or.inl (by omega))) rfl (right_end (Or.inl (by omega)))
      have ha0 : a.size = 0 := by omega
      clear HA
      go_wp2
      go_loop [0] (fun v => v = .string a) (fun v => 0)
      case atStart => rfl
      case round =>
        obtain rfl := hrel
        go_wp2
        go_ret
        exact ⟨ret_str HR.out, rfl⟩

end Go.Proofs.YtfgcgnhffljiaaaGreatDoor.Tri
