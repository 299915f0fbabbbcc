/-
  Walks: impl.GoodField and spec.GoodField tell the same.
  Walks: the laws' own helpers for a field: laws.szField, laws.toField; a field among a law's arguments, opened.
  Walks: a text in small letters, for the texts on fields: impl.smallLetters and spec.l1Lower tell the same.
  Lists of fields that the call itself makes: what an append of a field leaves; how they are read.
-/
import Derived.Test.YtgidmoncocbfiaaGreatDoorMg4
import Derived.Lib.TrimByte
import Derived.Deep.QuietTactic
import Derived.BigQuiet
import Derived.Test.YtgidmoncocbfiaaGreatDoorMg1
import Derived.ProofKit
import Derived.Lib.SmallJoins
import Derived.Test.YtgidmoncocbfiaaGreatDoorMg3
import Derived.Below
import Derived.Deep.RegionLaw
namespace Go.Proofs.YtgidmoncocbfiaaGreatDoor.Fgd
open Go.RowKit
open Go.Proofs.YtgidmoncocbfiaaGreatDoor.Byt
open Go.Proofs.YtgidmoncocbfiaaGreatDoor.Fbs
open Go.Proofs.YtgidmoncocbfiaaGreatDoor.Fch

/-- No blank at either end. -/
def edgeB (l : List UInt8) : Bool := decide (l.length = 0) || (decide ((l[0]?.getD 0).toNat ≠ 32) && decide ((l[l.length - 1]?.getD 0).toNat ≠ 32))
/-- Whether a field is good. -/
def goodF (N V : ByteArray) : Bool := tokenB N.data.toList && decide (V.size ≤ 300) && plainB V.data.toList && edgeB V.data.toList

theorem dropW_le (p : UInt8 → Bool) : ∀ l : List UInt8, (l.dropWhile p).length ≤ l.length
  | [] => Nat.le_refl _
  | c :: r => by
    rw [List.dropWhile_cons]
    split
    · have := dropW_le p r; simp; omega
    · exact Nat.le_refl _
theorem dropW_self (p : UInt8 → Bool) (c : UInt8) (r : List UInt8) : ((c :: r).dropWhile p = c :: r) ↔ p c = false := by
  rw [List.dropWhile_cons]
  cases h : p c
  · simp
  · simp only [if_true]
    constructor
    · intro e
      have := dropW_le p r
      rw [e] at this
      simp at this; omega
    · intro e; cases e
theorem trimR_le (l : List UInt8) (c : UInt8) : (Lib.trimRightB l c).length ≤ l.length := by
  unfold Lib.trimRightB
  have := dropW_le (· == c) l.reverse
  simpa using this
theorem trim_parts (l : List UInt8) (c : UInt8) : Lib.trimB l c = l ↔ Lib.trimRightB l c = l ∧ Lib.trimLeftB l c = l := by
  constructor
  · intro h
    have h1 : (Lib.trimB l c).length ≤ (Lib.trimRightB l c).length := dropW_le _ _
    have h2 := trimR_le l c
    rw [h] at h1
    have h3 : Lib.trimRightB l c = l := by
      have hs : l.reverse.dropWhile (· == c) <:+ l.reverse := List.dropWhile_suffix _
      have := hs.eq_of_length (by
        have e : (Lib.trimRightB l c).length = (l.reverse.dropWhile (· == c)).length := by unfold Lib.trimRightB; simp
        simp only [List.length_reverse]; omega)
      unfold Lib.trimRightB
      rw [this, List.reverse_reverse]
    refine ⟨h3, ?_⟩
    unfold Lib.trimB at h
    rw [h3] at h
    exact h
  · rintro ⟨h1, h2⟩
    unfold Lib.trimB
    rw [h1, h2]
theorem left_self (l : List UInt8) (c : UInt8) : Lib.trimLeftB l c = l ↔ (l = [] ∨ l[0]?.getD 0 ≠ c ∨ (l = [])) := by
  cases l with
  | nil => simp [Lib.trimLeftB]
  | cons b r =>
    unfold Lib.trimLeftB
    rw [dropW_self]
    simp
theorem right_self (l : List UInt8) (c : UInt8) : Lib.trimRightB l c = l ↔ (l = [] ∨ l[l.length - 1]?.getD 0 ≠ c) := by
  unfold Lib.trimRightB
  have e : (l.reverse.dropWhile (· == c)).reverse = l ↔ l.reverse.dropWhile (· == c) = l.reverse := by
    constructor
    · intro h; rw [← List.reverse_reverse (l.reverse.dropWhile (· == c)), h]
    · intro h; rw [h, List.reverse_reverse]
  rw [e]
  cases hr : l.reverse with
  | nil =>
    have : l = [] := by simpa using hr
    subst this; simp
  | cons b r =>
    rw [dropW_self]
    have hl : l = r.reverse ++ [b] := by rw [← List.reverse_reverse l, hr]; simp
    subst hl
    simp
theorem trim_edge (l : List UInt8) : Lib.trimB l 32 = l ↔ edgeB l = true := by
  rw [trim_parts, left_self, right_self]
  unfold edgeB
  cases l with
  | nil => simp
  | cons b r =>
    have h1 : ∀ c : UInt8, (c ≠ 32) ↔ (c.toNat ≠ 32) := by
      intro c
      constructor
      · intro h e; exact h (UInt8.toNat_inj.1 e)
      · intro h e; subst e; exact h rfl
    simp only [List.length_cons, Bool.or_eq_true, Bool.and_eq_true, decide_eq_true_eq, h1]
    constructor
    · rintro ⟨h, h'⟩
      right
      refine ⟨?_, ?_⟩
      · rcases h' with h' | h' | h'
        · cases h'
        · exact h'
        · cases h'
      · rcases h with h | h
        · cases h
        · exact h
    · rintro (h | ⟨h, h'⟩)
      · omega
      · exact ⟨Or.inr h', Or.inr (Or.inl h)⟩
theorem list_of (s : ByteArray) : s.toList = s.data.toList := by simp [ByteArray.toList_eq]
theorem trim_cmp (V : ByteArray) : (V.toList == (⟨(Lib.trimB V.data.toList 32).toArray⟩ : ByteArray).toList) = edgeB V.data.toList := by
  rw [list_of, list_of, Bool.eq_iff_iff, ← trim_edge]
  simp only [beq_iff_eq]
  exact eq_comm

theorem below_drewN (w : World) (n : Nat) : Below w.heap.size w (w.drewN n) := ⟨rfl, rfl, rfl, Nat.le_refl _, fun _ _ => rfl⟩

theorem trim_any (V : ByteArray) (w : World) (n : Nat) (hV : V.size ≤ 2000000) :
    Calls Tryz.prog 105 #[.string V, .string ⟨#[32]⟩] (w.drewN n) fun e w' => e = .returned (.string ⟨(Lib.trimB V.data.toList 32).toArray⟩) ∧ ∃ m, w' = (w.drewN n).drewN m := by
  refine (Tryz.strings_Trim_one V 32 (by decide) (w.drewN n) (by omega)).mono ?_
  rintro e w' ⟨rfl, rfl | rfl⟩
  · exact ⟨rfl, 0, rfl⟩
  · exact ⟨rfl, 1, rfl⟩

set_option maxHeartbeats 800000 in
theorem implGoodF_any (N V : ByteArray) (w : World) (hT : Tab w) (hV : V.size ≤ 2000000) :
    Calls Tryz.prog 79 #[.agg #[.string N, .string V]] w fun e w' => e = .returned (.bool (goodF N V)) ∧ Below w.heap.size w w' := by
  have hT1 := hT.alloc (.cells #[.string N, .string V] 35)
  have C : Hid (∀ n, Calls Tryz.prog 22 #[.string N] ((w.alloc (.cells #[.string N, .string V] 35)).drewN n) fun e w' => e = .returned (.bool (tokenB N.data.toList)) ∧ w' = (w.alloc (.cells #[.string N, .string V] 35)).drewN n) :=
    fun n => isToken_any N ((w.alloc (.cells #[.string N, .string V] 35)).drewN n) (fun i hi => hT1 i hi)
  have P : Hid (∀ n, Calls Tryz.prog 62 #[.string V] ((w.alloc (.cells #[.string N, .string V] 35)).drewN n) fun e w' => e = .returned (.bool (plainB V.data.toList)) ∧ w' = (w.alloc (.cells #[.string N, .string V] 35)).drewN n) :=
    fun n => isPlain_any V ((w.alloc (.cells #[.string N, .string V] 35)).drewN n) hV
  have hfin : Below w.heap.size w (w.alloc (.cells #[.string N, .string V] 35)) := (Below.refl _ _).alloc (Nat.le_refl _) _
  have hcmp := trim_cmp V
  have X : Hid (∀ n, Calls Tryz.prog 105 #[.string V, .string ⟨#[32]⟩] ((w.alloc (.cells #[.string N, .string V] 35)).drewN n) fun e w' => e = .returned (.string ⟨(Lib.trimB V.data.toList 32).toArray⟩) ∧ ∃ m, w' = ((w.alloc (.cells #[.string N, .string V] 35)).drewN n).drewN m) :=
    fun n => trim_any V (w.alloc (.cells #[.string N, .string V] 35)) n hV
  generalize (⟨(Lib.trimB V.data.toList 32).toArray⟩ : ByteArray) = T at hcmp X
  clear hT1
  unfold goodF
  cases ht : tokenB N.data.toList
  · rw [ht] at C
    go_enter Tryz.func79, Tryz.ntmps79
    go_wp2_with fail
    go_quiet ((first
      | (go_at_call 22; exact Calls.quiet_of_same (C.out _))
      | (go_at_call 62; exact Calls.quiet_of_same (P.out _))
      | (go_at_call 105; exact Calls.quiet_of (X.out _))))
    go_wp2
    go_ret
    exact ⟨rfl, hfin.trans ((below_drewN _ _).mono hfin.size)⟩
  · rw [ht] at C
    by_cases hz : V.size ≤ 300
    · rw [decide_eq_true hz]
      have hz' : decide ((V.size : Int) ≤ 300) = true := decide_eq_true (by omega)
      cases hp : plainB V.data.toList
      · rw [hp] at P
        go_enter Tryz.func79, Tryz.ntmps79
        go_wp2_with fail
        go_quiet ((first
          | (go_at_call 22; exact Calls.quiet_of_same (C.out _))
          | (go_at_call 62; exact Calls.quiet_of_same (P.out _))
          | (go_at_call 105; exact Calls.quiet_of (X.out _))))
        go_wp2
        go_ret
        exact ⟨rfl, hfin.trans ((below_drewN _ _).mono hfin.size)⟩
      · rw [hp] at P
        go_enter Tryz.func79, Tryz.ntmps79
        go_wp2_with fail
        go_quiet ((first
          | (go_at_call 22; exact Calls.quiet_of_same (C.out _))
          | (go_at_call 62; exact Calls.quiet_of_same (P.out _))
          | (go_at_call 105; exact Calls.quiet_of (X.out _))))
        go_wp2
        go_ret
        exact ⟨ret_bool (by first | rfl | exact hcmp | (rw [hcmp]; rfl)), hfin.trans ((below_drewN _ _).mono hfin.size)⟩
    · rw [decide_eq_false hz]
      have hz' : decide ((V.size : Int) ≤ 300) = false := decide_eq_false (by omega)
      go_enter Tryz.func79, Tryz.ntmps79
      go_wp2_with fail
      go_quiet ((first
        | (go_at_call 22; exact Calls.quiet_of_same (C.out _))
        | (go_at_call 62; exact Calls.quiet_of_same (P.out _))
        | (go_at_call 105; exact Calls.quiet_of (X.out _))))
      go_wp2
      go_ret
      exact ⟨rfl, hfin.trans ((below_drewN _ _).mono hfin.size)⟩

set_option maxHeartbeats 800000 in
theorem specGoodF_any (N V : ByteArray) (w : World) (hN : N.size ≤ 2000000) (hV : V.size ≤ 2000000) :
    Calls Tryz.prog 58 #[.agg #[.string N, .string V]] w fun e w' => e = .returned (.bool (goodF N V)) ∧ Below w.heap.size w w' := by
  have C := l3Token_any N (w.alloc (.cells #[.string N, .string V] 35)) hN
  have P := l3Printed_any V (w.alloc (.cells #[.string N, .string V] 35)) hV
  have hfin : Below w.heap.size w (w.alloc (.cells #[.string N, .string V] 35)) := (Below.refl _ _).alloc (Nat.le_refl _) _
  cases ht : tokenB N.data.toList
  · rw [ht] at C
    have HR : goodF N V = false := by unfold goodF; rw [ht]; rfl
    rw [HR]
    go_enter Tryz.func58, Tryz.ntmps58
    go_wp2_with (go_at_call 26; refine C.mono ?_; rintro e w' ⟨rfl, hw⟩; obtain rfl := hw.symm)
    go_ret
    exact ⟨rfl, hfin⟩
  · rw [ht] at C
    cases hp : plainB V.data.toList
    · rw [hp] at P
      have HR : goodF N V = false := by unfold goodF; rw [ht, hp, Bool.and_false, Bool.false_and]
      rw [HR]
      go_enter Tryz.func58, Tryz.ntmps58
      go_wp2_with (first
        | (go_at_call 26; refine C.mono ?_; rintro e w' ⟨rfl, hw⟩; obtain rfl := hw.symm)
        | (go_at_call 85; refine P.mono ?_; rintro e w' ⟨rfl, hw⟩; obtain rfl := hw.symm))
      go_ret
      exact ⟨rfl, hfin⟩
    · rw [hp] at P
      have HG : goodF N V = (decide (V.size ≤ 300) && edgeB V.data.toList) := by unfold goodF; rw [ht, hp]; simp
      by_cases hz : V.size ≤ 300
      · have hz' : decide (V.size ≤ 300) = true := decide_eq_true hz
        rw [HG, hz', Bool.true_and]
        by_cases h0 : V.size = 0
        · have HR : edgeB V.data.toList = true := by unfold edgeB; rw [len_list, decide_eq_true h0]; rfl
          rw [HR]
          have h0' : ((V.size : Int) == 0) = true := by simpa using h0
          clear hp ht HR HG
          go_enter Tryz.func58, Tryz.ntmps58
          go_wp2_with (first
            | (go_at_call 26; refine C.mono ?_; rintro e w' ⟨rfl, hw⟩; obtain rfl := hw.symm)
            | (go_at_call 85; refine P.mono ?_; rintro e w' ⟨rfl, hw⟩; obtain rfl := hw.symm))
          go_ret
          exact ⟨rfl, hfin⟩
        · have h0' : ((V.size : Int) == 0) = false := by simpa using h0
          have e0 := at_list V 0 (by omega)
          have e1 := at_list V (V.size - 1) (by omega)
          by_cases ha : (V[0].toNat : Int) = 32
          · have HR : edgeB V.data.toList = false := by unfold edgeB; rw [len_list, decide_eq_false h0, e0, decide_eq_false (show ¬ V[0].toNat ≠ 32 from by omega)]; rfl
            rw [HR]
            have ha' : ((V[0].toNat : Int) != 32) = false := by simpa using ha
            clear hp ht HR HG e0 e1 ha
            go_enter Tryz.func58, Tryz.ntmps58
            go_wp2_with (first
              | (go_at_call 26; refine C.mono ?_; rintro e w' ⟨rfl, hw⟩; obtain rfl := hw.symm)
              | (go_at_call 85; refine P.mono ?_; rintro e w' ⟨rfl, hw⟩; obtain rfl := hw.symm))
            go_ret
            exact ⟨rfl, hfin⟩
          · have HR : edgeB V.data.toList = ((V[V.size - 1].toNat : Int) != 32) := by
              unfold edgeB
              rw [len_list, decide_eq_false h0, e0, e1, decide_eq_true (show V[0].toNat ≠ 32 from by omega), Bool.false_or, Bool.true_and, Bool.eq_iff_iff]
              simp only [decide_eq_true_eq, bne_iff_ne]
              omega
            rw [HR]
            have ha' : ((V[0].toNat : Int) != 32) = true := by simpa using ha
            clear hp ht HR HG e0 e1
            go_enter Tryz.func58, Tryz.ntmps58
            go_wp2_with (first
              | (go_at_call 26; refine C.mono ?_; rintro e w' ⟨rfl, hw⟩; obtain rfl := hw.symm)
              | (go_at_call 85; refine P.mono ?_; rintro e w' ⟨rfl, hw⟩; obtain rfl := hw.symm))
            go_ret
            exact ⟨rfl, hfin⟩
      · rw [HG, decide_eq_false hz, Bool.false_and]
        clear hp ht HG
        go_enter Tryz.func58, Tryz.ntmps58
        go_wp2_with (first
          | (go_at_call 26; refine C.mono ?_; rintro e w' ⟨rfl, hw⟩; obtain rfl := hw.symm)
          | (go_at_call 85; refine P.mono ?_; rintro e w' ⟨rfl, hw⟩; obtain rfl := hw.symm))
        go_ret
        exact ⟨rfl, hfin⟩

end Go.Proofs.YtgidmoncocbfiaaGreatDoor.Fgd

namespace Go.Proofs.YtgidmoncocbfiaaGreatDoor.Lwf
open Go.ChangeShapes Go.WideShapes Go.ChangeAt Go.RowKit

theorem sz_yes (S V : ByteArray) (L : Nat) (w : World) (h : S.size + V.size ≤ L) (hL : L ≤ 2000000) :
    Calls Tryz.prog 38 #[.agg #[.string S, .string V], .int .i64 L] w fun e w' => e = .returned (.int .i64 ((L : Int) - S.size - V.size)) ∧ Below w.heap.size w w' := by
  go_enter Tryz.func38, Tryz.ntmps38
  go_wp2
  go_ret
  exact ⟨rfl, (Below.refl _ _).alloc (Nat.le_refl _) _⟩

theorem sz_no (S V : ByteArray) (L : Nat) (w : World) (hS : S.size ≤ maxLen) (hV : V.size ≤ maxLen) (h : ¬ S.size + V.size ≤ L) (hL : L ≤ 2000000) :
    Calls Tryz.prog 38 #[.agg #[.string S, .string V], .int .i64 L] w fun e w' => e = .returned (.int .i64 (-1)) ∧ Below w.heap.size w w' := by
  unfold maxLen at hS hV
  rcases (show L < S.size ∨ (S.size ≤ L ∧ L < S.size + V.size) from by omega) with h1 | ⟨h0, h1⟩
  all_goals
    go_enter Tryz.func38, Tryz.ntmps38
    go_wp2
    go_ret
    exact ⟨rfl, (Below.refl _ _).alloc (Nat.le_refl _) _⟩

theorem toField_any (S V : ByteArray) (w : World) :
    Calls Tryz.prog 40 #[.agg #[.string S, .string V]] w fun e w' => e = .returned (.agg #[.string S, .string V]) ∧ Below w.heap.size w w' := by
  go_enter Tryz.func40, Tryz.ntmps40
  go_wp2
  exact bodyPost_ret (v := .agg #[.string S, .string V]) (by simp [results, Tryz.results40, go_sem]) rfl ⟨rfl, by repeat (first | exact Below.refl _ _ | refine Below.alloc ?_ (by simp <;> omega) _ | refine Below.setCell ?_ (by simp <;> omega) _)⟩

theorem array2 {α : Type} {cs : Array α} (h : cs.size = 2) : ∃ c0 c1, cs = #[c0, c1] := by
  obtain ⟨l⟩ := cs
  match l, h with
  | [c0, c1], _ => exact ⟨c0, c1, rfl⟩
theorem list2 {α : Type} {l : List α} (h : l.length = 2) : ∃ c0 c1, l = [c0, c1] := by
  match l, h with
  | [c0, c1], _ => exact ⟨c0, c1, rfl⟩

theorem cellsF : Tryz.prog.cellsOf 83 = 2 := by kernel_rfl
theorem cellsS : Tryz.prog.cellsOf 9 = 1 := by kernel_rfl

set_option maxRecDepth 100000 in
theorem open_field {H : Type} {enc : TypeId × Value → H} {W : World} {r : Reach} {b0 base : Nat} {sp : Nat → Bool} {held : Bool} {v : Value} {d : DataW H} {p : List MemPlace}
    (hv : Value.okWide Tryz.prog W r b0 83 v) (h : DataW.Trod enc Tryz.prog W base sp held 83 v d p) :
    ∃ (S V : ByteArray), v = .agg #[.string S, .string V] ∧ S.size ≤ maxLen ∧ V.size ≤ maxLen := by
  obtain ⟨cs, rfl, hsz⟩ := okWide_struct Tryz.underlying83 hv
  obtain ⟨c0, c1, rfl⟩ := array2 (hsz.trans cellsF)
  obtain ⟨fuel, hf⟩ := h
  obtain ⟨xs, n, _, _, hl, hlen, hg⟩ := DataW.trod_struct Tryz.underlying83 hf
  obtain ⟨y0, y1, rfl⟩ := list2 (show xs.length = 2 from hlen)
  have g0 := hg 0 _ rfl
  have g1 := hg 1 _ rfl
  obtain ⟨S, e0, _, k0⟩ := DataW.trod_string Tryz.underlying9 g0
  obtain ⟨V, e1, _, k1⟩ := DataW.trod_string Tryz.underlying9 g1
  simp [cellsS, Value.cells] at e0 e1
  subst e0 e1
  exact ⟨S, V, rfl, k0, k1⟩

end Go.Proofs.YtgidmoncocbfiaaGreatDoor.Lwf

namespace Go.Proofs.YtgidmoncocbfiaaGreatDoor.Lof
open Go.RowKit
open Go.Proofs.YtgidmoncocbfiaaGreatDoor.Byt
open Go.Proofs.YtgidmoncocbfiaaGreatDoor.Fbs
open Go.Proofs.YtgidmoncocbfiaaGreatDoor.Own

/-- A great letter as a small one. -/
def lowB (c : UInt8) : UInt8 := if 65 ≤ c.toNat ∧ c.toNat ≤ 90 then UInt8.ofNat (c.toNat + 32) else c
def lowS (s : ByteArray) : ByteArray := ⟨(s.data.toList.map lowB).toArray⟩
theorem lowB_yes {c : UInt8} (h1 : 65 ≤ c.toNat) (h2 : c.toNat ≤ 90) : ((lowB c).toNat : Int) = (c.toNat : Int) + 32 := by
  unfold lowB; rw [if_pos ⟨h1, h2⟩, UInt8.toNat_ofNat']; omega
theorem lowB_no {c : UInt8} (h : ¬ (65 ≤ c.toNat ∧ c.toNat ≤ 90)) : lowB c = c := by unfold lowB; rw [if_neg h]
theorem lowS_size (s : ByteArray) : (lowS s).size = s.size := by
  show (s.data.toList.map lowB).toArray.size = s.size
  simp

/-- A byte of the text behind k rounds. -/
def lowAt (s : ByteArray) (k j : Nat) : UInt8 := if j < k then lowB (s.data.toList.getD j 0) else s.data.toList.getD j 0
theorem getD_at (s : ByteArray) (k : Nat) (h : k < s.size) : s.data.toList.getD k 0 = s[k] := by
  have := at_list s k h
  simpa [List.getD] using this

theorem bytes_of (s : ByteArray) (w : World) : ∃ g w1, (convert 9 22 (.string s)).run Tryz.prog w = .ok (.slice (some ⟨w.heap.size, 0, none⟩) s.size g) w1 ∧ s.size ≤ g ∧ Below w.heap.size w w1 ∧ w.heap.size < w1.heap.size ∧
    (∀ j, j < s.size → w1.cell? ⟨w.heap.size, j, none⟩ = some (.int .u8 ((lowAt s 0 j).toNat : Int))) ∧ (∀ j, j < s.size → w1.frozen? ⟨w.heap.size, j, none⟩ = false) := by
  refine ⟨_, _, run_bytes_of_string w 9 22 5 s Tryz.underlying9 Tryz.underlying22 Tryz.underlying5, grownCap_ge _ _ _ _, ((Below.refl _ _).drew).alloc (Nat.le_refl _) _, by simp, fun j hj => ?_, fun j hj => ?_⟩
  · have := World.cell?_alloc_mark w.drew (bytesRow s (grownCap w s.size 0 5)) 5 ((bytesRow s (grownCap w s.size 0 5)).size, (bytesRow s (grownCap w s.size 0 5)).size + 1) j
    refine Eq.trans this ?_
    rw [bytesRow_at s _ j hj]
    unfold lowAt
    rw [if_neg (by omega), getD_at s j hj]
    rfl
  · have := World.frozen?_alloc_mark w.drew (bytesRow s (grownCap w s.size 0 5)) 5 (bytesRow s (grownCap w s.size 0 5)).size ((bytesRow s (grownCap w s.size 0 5)).size + 1) j
    refine Eq.trans this ?_
    have hsz : j < (bytesRow s (grownCap w s.size 0 5)).size := by
      have := bytesRow_at s (grownCap w s.size 0 5) j hj
      exact (Array.getElem?_eq_some_iff.1 this).1
    rw [decide_eq_false (by omega)]; rfl

theorem text_of (s : ByteArray) (w1 : World) (b g : Nat) (h : ∀ j, j < s.size → w1.cell? ⟨b, j, none⟩ = some (.int .u8 ((lowAt s s.size j).toNat : Int))) :
    (convert 22 9 (.slice (some ⟨b, 0, none⟩) s.size g)).run Tryz.prog w1 = .ok (.string (lowS s)) w1 := by
  have hl : (s.data.toList.map lowB).length = s.size := by simp
  have := run_convert_bytes_back w1 22 9 5 ⟨b, 0, none⟩ g (s.data.toList.map lowB) Tryz.underlying22 Tryz.underlying5 Tryz.underlying9 (fun j hj => by
    rw [Addr.add_lit, Nat.zero_add]
    have hj' : j < s.size := by rw [← hl]; exact hj
    rw [h j hj']
    unfold lowAt
    rw [if_pos hj', getD_at s j hj']
    congr 3
    simp
    rfl)
  rw [hl] at this
  exact this

theorem lowAt_ne {s : ByteArray} {k j : Nat} (h : j ≠ k) : lowAt s (k + 1) j = lowAt s k j := by
  unfold lowAt
  by_cases h1 : j < k
  · rw [if_pos h1, if_pos (by omega)]
  · rw [if_neg h1, if_neg (by omega)]
theorem lowAt_self {s : ByteArray} {k : Nat} (h : k < s.size) : lowAt s k k = s[k] ∧ lowAt s (k + 1) k = lowB s[k] := by
  unfold lowAt
  rw [if_neg (by omega), if_pos (by omega), getD_at s k h]
  exact ⟨rfl, rfl⟩

/-- The cells behind a round that leaves them. -/
theorem low_stay {s : ByteArray} {k B : Nat} {wr : World} (h : k < s.size) (hn : ¬ (65 ≤ s[k].toNat ∧ s[k].toNat ≤ 90)) (hc : ∀ j, j < s.size → wr.cell? ⟨B, j, none⟩ = some (.int .u8 ((lowAt s k j).toNat : Int))) :
    ∀ j, j < s.size → wr.cell? ⟨B, j, none⟩ = some (.int .u8 ((lowAt s (k + 1) j).toNat : Int)) := by
  intro j hj
  rw [hc j hj]
  by_cases e : j = k
  · subst e; rw [(lowAt_self h).1, (lowAt_self h).2, lowB_no hn]
  · rw [lowAt_ne e]
/-- The cells behind a round that turns one. -/
theorem low_set {s : ByteArray} {k B : Nat} {wr : World} {x : Int} (h : k < s.size) (hx : x = ((lowB s[k]).toNat : Int)) (hc : ∀ j, j < s.size → wr.cell? ⟨B, j, none⟩ = some (.int .u8 ((lowAt s k j).toNat : Int))) :
    ∀ j, j < s.size → (wr.setCell ⟨B, k, none⟩ (.int .u8 x)).cell? ⟨B, j, none⟩ = some (.int .u8 ((lowAt s (k + 1) j).toNat : Int)) := by
  intro j hj
  by_cases e : j = k
  · subst e
    rw [(lowAt_self h).2, ← hx]
    simp [go_sem, hc j hj]
  · rw [lowAt_ne e, ← hc j hj]
    simp [go_sem]

set_option maxRecDepth 20000 in
set_option maxHeartbeats 800000 in
theorem implLow_any (s : ByteArray) (w : World) (hs : s.size ≤ 2000000) :
    Calls Tryz.prog 65 #[.string s] w fun e w' => e = .returned (.string (lowS s)) ∧ Below w.heap.size w w' := by
  obtain ⟨g, w1, hcv, hg, hb1, hs1, hc1, hf1⟩ := bytes_of s w
  have HC : Hid _ := hc1
  have HF : Hid _ := hf1
  have HB : Hid _ := hb1
  clear hc1 hf1 hb1
  go_enter Tryz.func65, Tryz.ntmps65
  go_wp2
  go_loopw [10] (fun i wr => ∃ k : Nat, k ≤ s.size ∧ i = .int .i64 k ∧ w.heap.size < wr.heap.size ∧ Hid (Below w.heap.size w wr) ∧ Hid (∀ j, j < s.size → wr.cell? ⟨w.heap.size, j, none⟩ = some (.int .u8 ((lowAt s k j).toNat : Int))) ∧ Hid (∀ j, j < s.size → wr.frozen? ⟨w.heap.size, j, none⟩ = false))
    (fun i _ => s.size - (intOf i).toNat)
  case atStart => exact ⟨0, by omega, rfl, hs1, HB, HC, HF⟩
  case round =>
    obtain ⟨k, hk, rfl, hs2, HB2, HC2, HF2⟩ := hrel
    clear HC HF HB hcv
    by_cases hlt : k < s.size
    · have hck := HC2.out k hlt
      rw [(lowAt_self hlt).1] at hck
      have hfk := HF2.out k hlt
      have hbd := byte_bd s[k]
      obtain ⟨b, hb⟩ : ∃ b, b = s[k] := ⟨_, rfl⟩
      rw [← hb] at hck hbd
      have HBQ : Hid (b = s[k]) := hb
      clear hb
      rcases (show (b.toNat < 65) ∨ (65 ≤ b.toNat ∧ 90 < b.toNat) ∨ (65 ≤ b.toNat ∧ b.toNat ≤ 90) from by omega) with h1 | ⟨h1, h2⟩ | ⟨h1, h2⟩
      · go_wp2
        go_roundw
        case rel => exact ⟨k + 1, by omega, by go_num, hs2, HB2, low_stay hlt (by rw [← HBQ.out]; omega) HC2.out, HF2⟩
        case measure => simp [intOf]; omega
      · have hd : decide ((b.toNat : Int) ≤ 90) = false := decide_eq_false (by omega)
        go_wp2
        go_roundw
        case rel => exact ⟨k + 1, by omega, by go_num, hs2, HB2, low_stay hlt (by rw [← HBQ.out]; omega) HC2.out, HF2⟩
        case measure => simp [intOf]; omega
      · have hd : decide ((b.toNat : Int) ≤ 90) = true := decide_eq_true (by omega)
        go_wp2
        go_roundw
        case rel => exact ⟨k + 1, by omega, by go_num, by simpa [World.setCell] using hs2, Below.setCell HB2.out (Nat.le_refl _) _, low_set hlt (by rw [← HBQ.out, lowB_yes h1 h2]; try omega) HC2.out, fun j hj => by simp [go_sem, HF2.out j hj]⟩
        case measure => simp [intOf]; omega
    · obtain rfl : k = s.size := by omega
      have hcv := text_of s wr w.heap.size g HC2.out
      go_wp2
      go_ret
      exact ⟨rfl, HB2.out⟩

set_option maxRecDepth 20000 in
set_option maxHeartbeats 800000 in
theorem specLow_any (s : ByteArray) (w : World) (hs : s.size ≤ 2000000) :
    Calls Tryz.prog 94 #[.string s] w fun e w' => e = .returned (.string (lowS s)) ∧ Below w.heap.size w w' := by
  obtain ⟨g, w1, hcv, hg, hb1, hs1, hc1, hf1⟩ := bytes_of s w
  have HC : Hid _ := hc1
  have HF : Hid _ := hf1
  have HB : Hid _ := hb1
  clear hc1 hf1 hb1
  go_enter Tryz.func94, Tryz.ntmps94
  go_wp2
  go_loopw [9] (fun i wr => ∃ k : Nat, k ≤ s.size ∧ i = .int .i64 k ∧ w.heap.size < wr.heap.size ∧ Hid (Below w.heap.size w wr) ∧ Hid (∀ j, j < s.size → wr.cell? ⟨w.heap.size, j, none⟩ = some (.int .u8 ((lowAt s k j).toNat : Int))) ∧ Hid (∀ j, j < s.size → wr.frozen? ⟨w.heap.size, j, none⟩ = false))
    (fun i _ => s.size - (intOf i).toNat)
  case atStart => exact ⟨0, by omega, rfl, hs1, HB, HC, HF⟩
  case round =>
    obtain ⟨k, hk, rfl, hs2, HB2, HC2, HF2⟩ := hrel
    clear HC HF HB hcv
    by_cases hlt : k < s.size
    · have hck := HC2.out k hlt
      rw [(lowAt_self hlt).1] at hck
      have hfk := HF2.out k hlt
      have hbd := byte_bd s[k]
      obtain ⟨b, hb⟩ : ∃ b, b = s[k] := ⟨_, rfl⟩
      rw [← hb] at hck hbd
      have HBQ : Hid (b = s[k]) := hb
      clear hb
      rcases (show (b.toNat < 65) ∨ (65 ≤ b.toNat ∧ 90 < b.toNat) ∨ (65 ≤ b.toNat ∧ b.toNat ≤ 90) from by omega) with h1 | ⟨h1, h2⟩ | ⟨h1, h2⟩
      · go_wp2
        go_roundw
        case rel => exact ⟨k + 1, by omega, by go_num, hs2, HB2, low_stay hlt (by rw [← HBQ.out]; omega) HC2.out, HF2⟩
        case measure => simp [intOf]; omega
      · have hd : decide ((b.toNat : Int) ≤ 90) = false := decide_eq_false (by omega)
        go_wp2
        go_roundw
        case rel => exact ⟨k + 1, by omega, by go_num, hs2, HB2, low_stay hlt (by rw [← HBQ.out]; omega) HC2.out, HF2⟩
        case measure => simp [intOf]; omega
      · have hd : decide ((b.toNat : Int) ≤ 90) = true := decide_eq_true (by omega)
        go_wp2
        go_roundw
        case rel => exact ⟨k + 1, by omega, by go_num, by simpa [World.setCell] using hs2, Below.setCell HB2.out (Nat.le_refl _) _, low_set hlt (by rw [← HBQ.out, lowB_yes h1 h2]; try omega) HC2.out, fun j hj => by simp [go_sem, HF2.out j hj]⟩
        case measure => simp [intOf]; omega
    · obtain rfl : k = s.size := by omega
      have hcv := text_of s wr w.heap.size g HC2.out
      go_wp2
      go_ret
      exact ⟨rfl, HB2.out⟩

end Go.Proofs.YtgidmoncocbfiaaGreatDoor.Lof

namespace Go.Proofs.YtgidmoncocbfiaaGreatDoor.Fdb
open Go.RowKit
open Go.Proofs.YtgidmoncocbfiaaGreatDoor.Fbs
open Go.Proofs.YtgidmoncocbfiaaGreatDoor.Mrk (same_text below_drewN below_grown)

theorem infoF : (Tryz.prog.info? 35).map (fun i => (i.zero, i.size, i.bytes)) = some (some (.agg #[.string ⟨#[]⟩, .string ⟨#[]⟩]), 2, 32) := by kernel_rfl

/-- The cells of a list of fields. -/
def flatF (l : List (ByteArray × ByteArray)) : List Value := l.flatMap fun c => [.string c.1, .string c.2]
theorem flat_len (l : List (ByteArray × ByteArray)) : (flatF l).length = l.length * 2 := by
  induction l with
  | nil => rfl
  | cons c r ih => simp only [flatF, List.flatMap_cons, List.length_append, List.length_cons, List.length_nil] at ih ⊢; omega
theorem flat_snoc (l : List (ByteArray × ByteArray)) (c : ByteArray × ByteArray) : flatF (l ++ [c]) = flatF l ++ [.string c.1, .string c.2] := by simp [flatF]

/-- The value v holds the fields l, in memory of the call's own from block B on. -/
def fieldsIn (w : World) (B : Nat) (v : Value) (l : List (ByteArray × ByteArray)) : Prop := w.ownsRow B 35 2 v l.length (flatF l)

theorem fieldsIn.below {w w' : World} {B : Nat} {v : Value} {l : List (ByteArray × ByteArray)} (h : fieldsIn w B v l) (hb : Below w.heap.size w w') : fieldsIn w' B v l := by
  refine ⟨h.1, ?_⟩
  rcases h.2 with hn | ⟨g, cap, cur, rfl, hbg, hg, rest⟩
  · exact .inl hn
  · exact .inr ⟨g, cap, cur, rfl, hbg, (hb.block g (Array.getElem?_eq_some_iff.1 hg).1).trans hg, rest⟩
theorem fieldsIn.nil (w : World) (B : Nat) : fieldsIn w B (.slice none 0 0) [] := ⟨rfl, .inl ⟨rfl, rfl⟩⟩

/-- 'append(v, c)' of one field, for the walk. -/
theorem wpList_append_field (wr : World) {ops : Array Oper} {rest : List Oper} {o : Oper} {a : Act} {Q : Exit → Act → World → Prop} (hgd : o.guard = none) (s x : Operand)
    (ho : o.op = .call { callee := .builtin .append, args := #[s, x], argTypes := #[23, 23] })
    (B : Nat) (v : Value) (l : List (ByteArray × ByteArray)) (hs : a.eval s = v) (hown : fieldsIn wr B v l)
    (X z : ByteArray) (cap : Nat) (hx : a.eval x = .slice (some ⟨wr.heap.size, 0, none⟩) 1 cap)
    (hb : l.length + 1 ≤ 1000000) (hbase : B ≤ wr.heap.size) (B0 : Nat) (hB0 : B0 ≤ B) (W : World) (hbel : Below B0 W wr)
    (h : ∀ v' w', fieldsIn w' B v' (l ++ [(X, z)]) → Below B0 W w' → wpList Tryz.prog ops Q rest (a.put o.dst v') w') : wpList Tryz.prog ops Q (o :: rest) a (wr.alloc (.cells #[.string X, .string z] 35)) := by
  obtain ⟨i0, hi, hz0, hz1, hz2⟩ := info_parts infoF
  refine wpList_append_own _ hgd s x 23 ho B 35 i0 (.agg #[.string ⟨#[]⟩, .string ⟨#[]⟩]) 2 32 Tryz.underlying23 hi hz0 hz1 hz2 rfl (by decide) v l.length _ hs (World.ownsRow.alloc hown _) ⟨wr.heap.size, 0, none⟩ 1 cap [.string X, .string z] hx rfl ?_ ?_
    (by unfold maxLen; omega) (by omega) (by simp; omega) ?_
  · intro j u hj
    match j, hj with
    | 0, hj => simp at hj; subst hj; simp [Addr.add]
    | 1, hj => simp at hj; subst hj; simp [Addr.add]
  · intro u hu; simp at hu; rcases hu with rfl | rfl <;> rfl
  · intro v' w' hown' hg _
    refine h v' w' ?_ ((hbel.alloc (by omega) _).grown hg (by simp; omega) (fun k hk => Nat.le_trans hB0 (World.ownsRow.lt hown k hk).1))
    unfold fieldsIn
    rw [List.length_append, flat_snoc]
    exact hown'

theorem fieldsIn.made (w : World) (B : Nat) (h : B ≤ w.heap.size) : fieldsIn (w.alloc (.cells #[] 35)) B (.slice (some ⟨w.heap.size, 0, none⟩) 0 0) [] :=
  ⟨rfl, .inr ⟨w.heap.size, 0, #[], rfl, h, by show (w.heap.push _)[w.heap.size]? = _; simp, Nat.le_refl _, by decide, rfl, rfl⟩⟩
theorem fieldsIn.alloc {w : World} {B : Nat} {v : Value} {l : List (ByteArray × ByteArray)} (h : fieldsIn w B v l) (o : Obj) : fieldsIn (w.alloc o) B v l := World.ownsRow.alloc h o
theorem fieldsIn.base {w : World} {B B' : Nat} {v : Value} {l : List (ByteArray × ByteArray)} (h : fieldsIn w B v l) (hB : B' ≤ B) : fieldsIn w B' v l := by
  refine ⟨h.1, ?_⟩
  rcases h.2 with hn | ⟨g, cap, cur, rfl, hbg, rest⟩
  · exact .inl hn
  · exact .inr ⟨g, cap, cur, rfl, Nat.le_trans hB hbg, rest⟩

theorem flat_at : ∀ (l : List (ByteArray × ByteArray)) (i : Nat) (c : ByteArray × ByteArray), l[i]? = some c → (flatF l)[i * 2]? = some (.string c.1) ∧ (flatF l)[i * 2 + 1]? = some (.string c.2)
  | [], i, c, h => by simp at h
  | d :: r, 0, c, h => by
    have : d = c := by simpa using h
    subst this
    exact ⟨rfl, rfl⟩
  | d :: r, i + 1, c, h => by
    have := flat_at r i c (by simpa using h)
    have e : flatF (d :: r) = .string d.1 :: .string d.2 :: flatF r := rfl
    rw [e, show (i + 1) * 2 = i * 2 + 1 + 1 from by omega, show i * 2 + 1 + 1 + 1 = (i * 2 + 1) + 1 + 1 from rfl]
    simpa using this

/-- A row of fields in a block. -/
def RowF (w : World) (g : Nat) (l : List (ByteArray × ByteArray)) : Prop := g < w.heap.size ∧ (∀ i, w.frozen? ⟨g, i, none⟩ = false) ∧ ∀ i c, l[i]? = some c → w.cell? ⟨g, i * 2, none⟩ = some (.string c.1) ∧ w.cell? ⟨g, i * 2 + 1, none⟩ = some (.string c.2)
/-- A list of fields: empty, or in a block from lo on and below hi. -/
def FV (w : World) (a : Option Addr) (l : List (ByteArray × ByteArray)) (lo hi : Nat) : Prop := l = [] ∨ ∃ g, a = some ⟨g, 0, none⟩ ∧ lo ≤ g ∧ g < hi ∧ RowF w g l

theorem RowF.below {w w' : World} {g : Nat} {l : List (ByteArray × ByteArray)} (h : RowF w g l) (hb : Below w.heap.size w w') : RowF w' g l :=
  ⟨Nat.lt_of_lt_of_le h.1 hb.size, fun i => (hb.frozen (p := ⟨g, i, none⟩) h.1).trans (h.2.1 i), fun i c hc => ⟨(hb.cell (p := ⟨g, i * 2, none⟩) h.1).trans (h.2.2 i c hc).1, (hb.cell (p := ⟨g, i * 2 + 1, none⟩) h.1).trans (h.2.2 i c hc).2⟩⟩
theorem FV.below {w w' : World} {a : Option Addr} {l : List (ByteArray × ByteArray)} {lo hi : Nat} (h : FV w a l lo hi) (hb : Below w.heap.size w w') : FV w' a l lo hi := by
  rcases h with h | ⟨g, h1, h2, h3, h4⟩
  · exact .inl h
  · exact .inr ⟨g, h1, h2, h3, h4.below hb⟩
theorem fv_of {w : World} {B : Nat} {v : Value} {l : List (ByteArray × ByteArray)} (h : fieldsIn w B v l) : ∃ a cap, v = .slice a l.length cap ∧ FV w a l B w.heap.size := by
  have hh := h
  rcases h.2 with ⟨rfl, h0⟩ | ⟨g, cap, cur, rfl, hbg, hg, hnc, hcm, hcs, htake⟩
  · have hl : l = [] := by simpa using h0
    subst hl
    exact ⟨none, 0, rfl, .inl rfl⟩
  · refine ⟨_, _, rfl, .inr ⟨g, rfl, hbg, (Array.getElem?_eq_some_iff.1 hg).1, (Array.getElem?_eq_some_iff.1 hg).1, fun i => by simp [World.frozen?, hg], fun i c hc => ?_⟩⟩
    obtain ⟨f1, f2⟩ := flat_at l i c hc
    have e1 := World.ownsRow.cells hh (g := g) rfl (i * 2) _ f1
    have e2 := World.ownsRow.cells hh (g := g) rfl (i * 2 + 1) _ f2
    rw [Addr.add_lit, Nat.zero_add] at e1 e2
    exact ⟨e1, e2⟩


theorem FV.kept {w w' : World} {a : Option Addr} {l : List (ByteArray × ByteArray)} {lo hi : Nat} (h : FV w a l lo hi) {row : Option Nat} (hg : w.grownBy w' row) (hr : ∀ g, row = some g → hi ≤ g) : FV w' a l lo hi := by
  rcases h with h | ⟨g, h1, h2, h3, h4, h5, h6⟩
  · exact .inl h
  · have hb : w'.heap[g]? = w.heap[g]? := hg.block g h4 (fun e => by have := hr g e.symm; omega)
    have hc : ∀ i, w'.cell? ⟨g, i, none⟩ = w.cell? ⟨g, i, none⟩ := fun i => by unfold World.cell?; rw [hb]
    refine .inr ⟨g, h1, h2, h3, Nat.lt_of_lt_of_le h4 hg.size, fun i => ?_, fun i c hi => ⟨(hc _).trans (h6 i c hi).1, (hc _).trans (h6 i c hi).2⟩⟩
    have := h5 i
    unfold World.frozen? at this ⊢
    rwa [hb]
theorem FV.wide {w : World} {a : Option Addr} {l : List (ByteArray × ByteArray)} {lo hi lo' hi' : Nat} (h : FV w a l lo hi) (h1 : lo' ≤ lo) (h2 : hi ≤ hi') : FV w a l lo' hi' := by
  rcases h with h | ⟨g, e, g1, g2, hr⟩
  · exact .inl h
  · exact .inr ⟨g, e, by omega, by omega, hr⟩

theorem eqF_one (X z : ByteArray) (w : World) :
    Calls Tryz.prog 42 #[.agg #[.string X, .string z], .agg #[.string X, .string z]] w fun e w' => e = .returned (.bool true) ∧ Below w.heap.size w w' := by
  have hs := same_text X
  have hs2 := same_text z
  go_enter Tryz.func42, Tryz.ntmps42
  go_wp2
  go_ret
  exact ⟨rfl, ((Below.refl _ _).alloc (Nat.le_refl _) _).alloc (by simp) _⟩

set_option maxHeartbeats 800000 in
theorem eqFS_any (a b : Option Addr) (ca cb : Nat) (l : List (ByteArray × ByteArray)) (w : World) (lo hi lo' hi' : Nat) (hl : l.length ≤ 2000000) (ha : FV w a l lo hi) (hb : FV w b l lo' hi') :
    Calls Tryz.prog 17 #[.slice a l.length ca, .slice b l.length cb] w fun e w' => e = .returned (.bool true) ∧ Below w.heap.size w w' := by
  by_cases h0 : l = []
  · subst h0
    go_enter Tryz.func17, Tryz.ntmps17
    go_wp2_with fail
    go_loop [5] (fun i => i = .int .i64 0) (fun _ => 0)
    case atStart => rfl
    case round =>
      obtain rfl := hrel
      go_wp2_with fail
      go_ret
      exact ⟨rfl, Below.refl _ _⟩
  · rcases ha with ha | ⟨g, rfl, _, _, ga⟩
    · exact absurd ha h0
    rcases hb with hb | ⟨g', rfl, _, _, gb⟩
    · exact absurd hb h0
    have GA : Hid (RowF w g l) := ga
    have GB : Hid (RowF w g' l) := gb
    go_enter Tryz.func17, Tryz.ntmps17
    go_wp2_with fail
    go_loopw [5] (fun i wr => ∃ k : Nat, k ≤ l.length ∧ i = .int .i64 k ∧ Below w.heap.size w wr) (fun i _ => l.length - (intOf i).toNat)
    case atStart => exact ⟨0, by omega, rfl, Below.refl _ _⟩
    case round =>
      obtain ⟨k, hk, rfl, hbel⟩ := hrel
      by_cases hlt : k < l.length
      · obtain ⟨ca1, ca2⟩ := (GA.out.below hbel).2.2 k l[k] (List.getElem?_eq_getElem hlt)
        obtain ⟨cb1, cb2⟩ := (GB.out.below hbel).2.2 k l[k] (List.getElem?_eq_getElem hlt)
        have HE : Hid _ := eqF_one l[k].1 l[k].2
        go_wp2_with fail
        go_region_with (go_at_call 42; refine (HE.out _).mono ?_; rintro e w2 ⟨rfl, hb2⟩)
        all_goals
          go_wp2_with fail
          go_roundw
          case rel => exact ⟨k + 1, by omega, by go_num, hbel.drew.trans (hb2.mono hbel.size)⟩
          case measure => simp [intOf]; omega
      · go_wp2_with fail
        go_ret
        exact ⟨rfl, hbel⟩


end Go.Proofs.YtgidmoncocbfiaaGreatDoor.Fdb

