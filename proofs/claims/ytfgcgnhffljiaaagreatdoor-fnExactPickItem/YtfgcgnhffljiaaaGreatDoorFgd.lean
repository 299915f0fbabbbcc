/-
  Walks: impl.GoodField and spec.GoodField tell the same.
-/
import Derived.Test.YtfgcgnhffljiaaaGreatDoorFch
import Derived.Lib.TrimByte
import Derived.Deep.QuietTactic
import Derived.BigQuiet
namespace Go.Proofs.YtfgcgnhffljiaaaGreatDoor.Fgd
open Go.RowKit
open Go.Proofs.YtfgcgnhffljiaaaGreatDoor.Byt
open Go.Proofs.YtfgcgnhffljiaaaGreatDoor.Fbs
open Go.Proofs.YtfgcgnhffljiaaaGreatDoor.Fch

/-- No blank at either end. -/
def edgeB (l : List UInt8) : Bool := decide (l.length = 0) || (decide ((l[0]?.getD 0).toNat ≠ 32) && decide ((l[l.length - 1]?.getD 0).toNat ≠ 32))
/-- Whether a field is good. -/
def goodF (N V : ByteArray) : Bool := tokenB N.data.toList && decide (V.size ≤ 300) && plainB V.data.toList && edgeB V.data.toList

theorem dropW_le (p : UInt8 → Bool) : ∀ l : List UInt8, (l.dropWhile p).length ≤ l.length
  | [] => Nat.le_refl _
  | c :: r => by
    rw [List.dropWhile_cons]
    split
    · have := dropW_le p r; simp; omega
    · exact Nat.le_refl _
theorem dropW_self (p : UInt8 → Bool) (c : UInt8) (r : List UInt8) : ((c :: r).dropWhile p = c :: r) ↔ p c = false := by
  rw [List.dropWhile_cons]
  cases h : p c
  · simp
  · simp only [if_true]
    constructor
    · intro e
      have := dropW_le p r
      rw [e] at this
      simp at this; omega
    · intro e; cases e
theorem trimR_le (l : List UInt8) (c : UInt8) : (Lib.trimRightB l c).length ≤ l.length := by
  unfold Lib.trimRightB
  have := dropW_le (· == c) l.reverse
  simpa using this
theorem trim_parts (l : List UInt8) (c : UInt8) : Lib.trimB l c = l ↔ Lib.trimRightB l c = l ∧ Lib.trimLeftB l c = l := by
  constructor
  · intro h
    have h1 : (Lib.trimB l c).length ≤ (Lib.trimRightB l c).length := dropW_le _ _
    have h2 := trimR_le l c
    rw [h] at h1
    have h3 : Lib.trimRightB l c = l := by
      have hs : l.reverse.dropWhile (· == c) <:+ l.reverse := List.dropWhile_suffix _
      have := hs.eq_of_length (by
        have e : (Lib.trimRightB l c).length = (l.reverse.dropWhile (· == c)).length := by unfold Lib.trimRightB; simp
        simp only [List.length_reverse]; omega)
      unfold Lib.trimRightB
      rw [this, List.reverse_reverse]
    refine ⟨h3, ?_⟩
    unfold Lib.trimB at h
    rw [h3] at h
    exact h
  · rintro ⟨h1, h2⟩
    unfold Lib.trimB
    rw [h1, h2]
theorem left_self (l : List UInt8) (c : UInt8) : Lib.trimLeftB l c = l ↔ (l = [] ∨ l[0]?.getD 0 ≠ c ∨ (l = [])) := by
  cases l with
  | nil => simp [Lib.trimLeftB]
  | cons b r =>
    unfold Lib.trimLeftB
    rw [dropW_self]
    simp
theorem right_self (l : List UInt8) (c : UInt8) : Lib.trimRightB l c = l ↔ (l = [] ∨ l[l.length - 1]?.getD 0 ≠ c) := by
  unfold Lib.trimRightB
  have e : (l.reverse.dropWhile (· == c)).reverse = l ↔ l.reverse.dropWhile (· == c) = l.reverse := by
    constructor
    · intro h; rw [← List.reverse_reverse (l.reverse.dropWhile (· == c)), h]
    · intro h; rw [h, List.reverse_reverse]
  rw [e]
  cases hr : l.reverse with
  | nil =>
    have : l = [] := by simpa using hr
    subst this; simp
  | cons b r =>
    rw [dropW_self]
    have hl : l = r.reverse ++ [b] := by rw [← List.reverse_reverse l, hr]; simp
    subst hl
    simp
theorem trim_edge (l : List UInt8) : Lib.trimB l 32 = l ↔ edgeB l = true := by
  rw [trim_parts, left_self, right_self]
  unfold edgeB
  cases l with
  | nil => simp
  | cons b r =>
    have h1 : ∀ c : UInt8, (c ≠ 32) ↔ (c.toNat ≠ 32) := by
      intro c
      constructor
      · intro h e; exact h (UInt8.toNat_inj.1 e)
      · intro h e; subst e; exact h rfl
    simp only [List.length_cons, Bool.or_eq_true, Bool.and_eq_true, decide_eq_true_eq, h1]
    constructor
    · rintro ⟨h, h'⟩
      right
      refine ⟨?_, ?_⟩
      · rcases h' with h' | h' | h'
        · cases h'
        · exact h'
        · cases h'
      · rcases h with h | h
        · cases h
        · exact h
    · rintro (h | ⟨h, h'⟩)
      · omega
      · exact ⟨Or.inr h', Or.inr (Or.inl h)⟩
theorem list_of (s : ByteArray) : s.toList = s.data.toList := by simp [ByteArray.toList_eq]
theorem trim_cmp (V : ByteArray) : (V.toList == (⟨(Lib.trimB V.data.toList 32).toArray⟩ : ByteArray).toList) = edgeB V.data.toList := by
  rw [list_of, list_of, Bool.eq_iff_iff, ← trim_edge]
  simp only [beq_iff_eq]
  exact eq_comm

theorem below_drewN (w : World) (n : Nat) : Below w.heap.size w (w.drewN n) := ⟨rfl, rfl, rfl, Nat.le_refl _, fun _ _ => rfl⟩

theorem trim_any (V : ByteArray) (w : World) (n : Nat) (hV : V.size ≤ 2000000) :
    Calls Tryz.prog 118 #[.string V, .string ⟨#[32]⟩] (w.drewN n) fun e w' => e = .returned (.string ⟨(Lib.trimB V.data.toList 32).toArray⟩) ∧ ∃ m, w' = (w.drewN n).drewN m := by
  refine (Tryz.strings_Trim_one V 32 (by decide) (w.drewN n) (by omega)).mono ?_
  rintro e w' ⟨rfl, rfl | rfl⟩
  · exact ⟨rfl, 0, rfl⟩
  · exact ⟨rfl, 1, rfl⟩

set_option maxHeartbeats 800000 in
theorem implGoodF_any (N V : ByteArray) (w : World) (hT : Tab w) (hV : V.size ≤ 2000000) :
    Calls Tryz.prog 131 #[.agg #[.string N, .string V]] w fun e w' => e = .returned (.bool (goodF N V)) ∧ Below w.heap.size w w' := by
  have hT1 := hT.alloc (.cells #[.string N, .string V] 108)
  have C : Hid (∀ n, Calls Tryz.prog 44 #[.string N] ((w.alloc (.cells #[.string N, .string V] 108)).drewN n) fun e w' => e = .returned (.bool (tokenB N.data.toList)) ∧ w' = (w.alloc (.cells #[.string N, .string V] 108)).drewN n) :=
    fun n => isToken_any N ((w.alloc (.cells #[.string N, .string V] 108)).drewN n) (fun i hi => hT1 i hi)
  have P : Hid (∀ n, Calls Tryz.prog 109 #[.string V] ((w.alloc (.cells #[.string N, .string V] 108)).drewN n) fun e w' => e = .returned (.bool (plainB V.data.toList)) ∧ w' = (w.alloc (.cells #[.string N, .string V] 108)).drewN n) :=
    fun n => isPlain_any V ((w.alloc (.cells #[.string N, .string V] 108)).drewN n) hV
  have hfin : Below w.heap.size w (w.alloc (.cells #[.string N, .string V] 108)) := (Below.refl _ _).alloc (Nat.le_refl _) _
  have hcmp := trim_cmp V
  have X : Hid (∀ n, Calls Tryz.prog 118 #[.string V, .string ⟨#[32]⟩] ((w.alloc (.cells #[.string N, .string V] 108)).drewN n) fun e w' => e = .returned (.string ⟨(Lib.trimB V.data.toList 32).toArray⟩) ∧ ∃ m, w' = ((w.alloc (.cells #[.string N, .string V] 108)).drewN n).drewN m) :=
    fun n => trim_any V (w.alloc (.cells #[.string N, .string V] 108)) n hV
  generalize (⟨(Lib.trimB V.data.toList 32).toArray⟩ : ByteArray) = T at hcmp X
  clear hT1
  unfold goodF
  cases ht : tokenB N.data.toList
  · rw [ht] at C
    go_enter Tryz.func131, Tryz.ntmps131
    go_wp2_with fail
    go_quiet ((first
      | (go_at_call 44; exact Calls.quiet_of_same (C.out _))
      | (go_at_call 109; exact Calls.quiet_of_same (P.out _))
      | (go_at_call 118; exact Calls.quiet_of (X.out _))))
    go_wp2
    go_ret
    exact ⟨rfl, hfin.trans ((below_drewN _ _).mono hfin.size)⟩
  · rw [ht] at C
    by_cases hz : V.size ≤ 300
    · rw [decide_eq_true hz]
      have hz' : decide ((V.size : Int) ≤ 300) = true := decide_eq_true (by omega)
      cases hp : plainB V.data.toList
      · rw [hp] at P
        go_enter Tryz.func131, Tryz.ntmps131
        go_wp2_with fail
        go_quiet ((first
          | (go_at_call 44; exact Calls.quiet_of_same (C.out _))
          | (go_at_call 109; exact Calls.quiet_of_same (P.out _))
          | (go_at_call 118; exact Calls.quiet_of (X.out _))))
        go_wp2
        go_ret
        exact ⟨rfl, hfin.trans ((below_drewN _ _).mono hfin.size)⟩
      · rw [hp] at P
        go_enter Tryz.func131, Tryz.ntmps131
        go_wp2_with fail
        go_quiet ((first
          | (go_at_call 44; exact Calls.quiet_of_same (C.out _))
          | (go_at_call 109; exact Calls.quiet_of_same (P.out _))
          | (go_at_call 118; exact Calls.quiet_of (X.out _))))
        go_wp2
        go_ret
        exact ⟨ret_bool (by first | rfl | exact hcmp | (rw [hcmp]; rfl)), hfin.trans ((below_drewN _ _).mono hfin.size)⟩
    · rw [decide_eq_false hz]
      have hz' : decide ((V.size : Int) ≤ 300) = false := decide_eq_false (by omega)
      go_enter Tryz.func131, Tryz.ntmps131
      go_wp2_with fail
      go_quiet ((first
        | (go_at_call 44; exact Calls.quiet_of_same (C.out _))
        | (go_at_call 109; exact Calls.quiet_of_same (P.out _))
        | (go_at_call 118; exact Calls.quiet_of (X.out _))))
      go_wp2
      go_ret
      exact ⟨rfl, hfin.trans ((below_drewN _ _).mono hfin.size)⟩

set_option maxHeartbeats 800000 in
theorem specGoodF_any (N V : ByteArray) (w : World) (hN : N.size ≤ 2000000) (hV : V.size ≤ 2000000) :
    Calls Tryz.prog 103 #[.agg #[.string N, .string V]] w fun e w' => e = .returned (.bool (goodF N V)) ∧ Below w.heap.size w w' := by
  have C := l3Token_any N (w.alloc (.cells #[.string N, .string V] 108)) hN
  have P := l3Printed_any V (w.alloc (.cells #[.string N, .string V] 108)) hV
  have hfin : Below w.heap.size w (w.alloc (.cells #[.string N, .string V] 108)) := (Below.refl _ _).alloc (Nat.le_refl _) _
  cases ht : tokenB N.data.toList
  · rw [ht] at C
    have HR : goodF N V = false := by unfold goodF; rw [ht]; rfl
    rw [HR]
    go_enter Tryz.func103, Tryz.ntmps103
    go_wp2_with (go_at_call 78; refine C.mono ?_; rintro e w' ⟨rfl, hw⟩; obtain rfl := hw.symm)
    go_ret
    exact ⟨rfl, hfin⟩
  · rw [ht] at C
    cases hp : plainB V.data.toList
    · rw [hp] at P
      have HR : goodF N V = false := by unfold goodF; rw [ht, hp, Bool.and_false, Bool.false_and]
      rw [HR]
      go_enter Tryz.func103, Tryz.ntmps103
      go_wp2_with (first
        | (go_at_call 78; refine C.mono ?_; rintro e w' ⟨rfl, hw⟩; obtain rfl := hw.symm)
        | (go_at_call 102; refine P.mono ?_; rintro e w' ⟨rfl, hw⟩; obtain rfl := hw.symm))
      go_ret
      exact ⟨rfl, hfin⟩
    · rw [hp] at P
      have HG : goodF N V = (decide (V.size ≤ 300) && edgeB V.data.toList) := by unfold goodF; rw [ht, hp]; simp
      by_cases hz : V.size ≤ 300
      · have hz' : decide (V.size ≤ 300) = true := decide_eq_true hz
        rw [HG, hz', Bool.true_and]
        by_cases h0 : V.size = 0
        · have HR : edgeB V.data.toList = true := by unfold edgeB; rw [len_list, decide_eq_true h0]; rfl
          rw [HR]
          have h0' : ((V.size : Int) == 0) = true := by simpa using h0
          clear hp ht HR HG
          go_enter Tryz.func103, Tryz.ntmps103
          go_wp2_with (first
            | (go_at_call 78; refine C.mono ?_; rintro e w' ⟨rfl, hw⟩; obtain rfl := hw.symm)
            | (go_at_call 102; refine P.mono ?_; rintro e w' ⟨rfl, hw⟩; obtain rfl := hw.symm))
          go_ret
          exact ⟨rfl, hfin⟩
        · have h0' : ((V.size : Int) == 0) = false := by simpa using h0
          have e0 := at_list V 0 (by omega)
          have e1 := at_list V (V.size - 1) (by omega)
          by_cases ha : (V[0].toNat : Int) = 32
          · have HR : edgeB V.data.toList = false := by unfold edgeB; rw [len_list, decide_eq_false h0, e0, decide_eq_false (show ¬ V[0].toNat ≠ 32 from by omega)]; rfl
            rw [HR]
            have ha' : ((V[0].toNat : Int) != 32) = false := by simpa using ha
            clear hp ht HR HG e0 e1 ha
            go_enter Tryz.func103, Tryz.ntmps103
            go_wp2_with (first
              | (go_at_call 78; refine C.mono ?_; rintro e w' ⟨rfl, hw⟩; obtain rfl := hw.symm)
              | (go_at_call 102; refine P.mono ?_; rintro e w' ⟨rfl, hw⟩; obtain rfl := hw.symm))
            go_ret
            exact ⟨rfl, hfin⟩
          · have HR : edgeB V.data.toList = ((V[V.size - 1].toNat : Int) != 32) := by
              unfold edgeB
              rw [len_list, decide_eq_false h0, e0, e1, decide_eq_true (show V[0].toNat ≠ 32 from by omega), Bool.false_or, Bool.true_and, Bool.eq_iff_iff]
              simp only [decide_eq_true_eq, bne_iff_ne]
              omega
            rw [HR]
            have ha' : ((V[0].toNat : Int) != 32) = true := by simpa using ha
            clear hp ht HR HG e0 e1
            go_enter Tryz.func103, Tryz.ntmps103
            go_wp2_with (first
              | (go_at_call 78; refine C.mono ?_; rintro e w' ⟨rfl, hw⟩; obtain rfl := hw.symm)
              | (go_at_call 102; refine P.mono ?_; rintro e w' ⟨rfl, hw⟩; obtain rfl := hw.symm))
            go_ret
            exact ⟨rfl, hfin⟩
      · rw [HG, decide_eq_false hz, Bool.false_and]
        clear hp ht HG
        go_enter Tryz.func103, Tryz.ntmps103
        go_wp2_with (first
          | (go_at_call 78; refine C.mono ?_; rintro e w' ⟨rfl, hw⟩; obtain rfl := hw.symm)
          | (go_at_call 102; refine P.mono ?_; rintro e w' ⟨rfl, hw⟩; obtain rfl := hw.symm))
        go_ret
        exact ⟨rfl, hfin⟩

end Go.Proofs.YtfgcgnhffljiaaaGreatDoor.Fgd
