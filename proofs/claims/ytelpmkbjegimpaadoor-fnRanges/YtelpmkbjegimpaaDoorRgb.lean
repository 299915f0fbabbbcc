/-
  Pure: ranges read.
-/
import Derived.Test.YtelpmkbjegimpaaDoorRga
import Derived.Test.YtelpmkbjegimpaaDoorSrt
import Derived.Test.YtelpmkbjegimpaaDoorFbs
namespace Go.Proofs.YtelpmkbjegimpaaDoor.Rgb
open Go.RowKit
open Go.Proofs.YtelpmkbjegimpaaDoor.Rga
open Go.Proofs.YtelpmkbjegimpaaDoor.Ctf (cutA cutZ cutB cutI cut_some cut_none firstAt first_hit first_miss first_spec)
open Go.Proofs.YtelpmkbjegimpaaDoor.Lsp (listL)
open Go.Proofs.YtelpmkbjegimpaaDoor.Lpu
open Go.Proofs.YtelpmkbjegimpaaDoor.Num (num)
open Go.Proofs.YtelpmkbjegimpaaDoor.Srt
open Go.Proofs.YtelpmkbjegimpaaDoor.Spp (goodL goodL_parts)

def betw (f t : Int) : Option (Int × Int) := if t ≤ f then none else some (f, t)
/-- One range of a value: not right; right, with none there; a span. -/
def oneG (nm : ByteArray → Int) (size : Int) (x : ByteArray) : Option (Option (Int × Int)) :=
  if cutB x 45 = false then none
  else if (cutA x 45).size = 0 then (if nm (cutZ x 45) < 0 then none else some (betw (max (size - nm (cutZ x 45)) 0) size))
  else if nm (cutA x 45) < 0 then none
  else if (cutZ x 45).size = 0 then some (betw (nm (cutA x 45)) size)
  else if nm (cutZ x 45) < nm (cutA x 45) then none
  else some (betw (nm (cutA x 45)) (min (nm (cutZ x 45) + 1) size))
def okG (nm : ByteArray → Int) (size : Int) (l : List ByteArray) : Bool := l.all (fun x => (oneG nm size x).isSome)
def outG (nm : ByteArray → Int) (size : Int) (l : List ByteArray) : List (Int × Int) := l.filterMap (fun x => (oneG nm size x).getD none)
def readL (nm : ByteArray → Int) (size : Int) (l : List ByteArray) : List (Int × Int) × Int :=
  if 1 ≤ l.length ∧ l.length ≤ 12 ∧ okG nm size l = true then (if outG nm size l = [] then ([], 1) else (outG nm size l, 0)) else ([], 2)
def PB : List UInt8 := [98, 121, 116, 101, 115, 61]
def toldB (s : ByteArray) : ByteArray := ⟨(s.data.toList.drop 6).toArray⟩
def startB (s : ByteArray) (size : Int) : Bool := Lib.hasPrefix s.data.toList PB && (decide (0 ≤ size) && decide (size ≤ 1000000))
def readF (nm : ByteArray → Int) (s : ByteArray) (size : Int) : List (Int × Int) × Int :=
  if startB s size = true then (match listL (toldB s) with | none => ([], 2) | some l => readL nm size l) else ([], 2)

theorem betw_bd {f t : Int} {p : Int × Int} (h : betw f t = some p) : p.1 = f ∧ p.2 = t ∧ f < t := by
  unfold betw at h
  split at h
  · cases h
  · cases h; exact ⟨rfl, rfl, by omega⟩
theorem one_within {nm : ByteArray → Int} {size : Int} {x : ByteArray} {p : Int × Int} (h : oneG nm size x = some (some p)) : 0 ≤ p.1 ∧ p.1 < p.2 ∧ p.2 ≤ size := by
  unfold oneG at h
  split at h
  · cases h
  split at h
  · split at h
    · cases h
    · have := betw_bd (Option.some.inj h); omega
  split at h
  · cases h
  split at h
  · have := betw_bd (Option.some.inj h); omega
  split at h
  · cases h
  · have := betw_bd (Option.some.inj h); omega
theorem out_within {nm : ByteArray → Int} {size : Int} {l : List ByteArray} : ∀ p ∈ outG nm size l, 0 ≤ p.1 ∧ p.1 < p.2 ∧ p.2 ≤ size := by
  intro p hp
  unfold outG at hp
  rw [List.mem_filterMap] at hp
  obtain ⟨x, _, hx⟩ := hp
  cases h : oneG nm size x with
  | none => rw [h] at hx; cases hx
  | some o => rw [h] at hx; exact one_within (h.trans (congrArg some hx))
theorem out_len (nm : ByteArray → Int) (size : Int) (l : List ByteArray) : (outG nm size l).length ≤ l.length := List.length_filterMap_le _ _
/-- What is read lies within, and the code tells whether there is any. -/
theorem read_told (nm : ByteArray → Int) (s : ByteArray) (size : Int) : (readF nm s size).1.length ≤ 12 ∧ (∀ p ∈ (readF nm s size).1, 0 ≤ p.1 ∧ p.1 < p.2 ∧ p.2 ≤ size ∧ size ≤ 1000000) ∧
    ((readF nm s size).2 = 0 ∧ (readF nm s size).1 ≠ [] ∨ ((readF nm s size).2 = 1 ∨ (readF nm s size).2 = 2) ∧ (readF nm s size).1 = []) := by
  have none2 : (([], 2) : List (Int × Int) × Int).1.length ≤ 12 ∧ (∀ p ∈ (([], 2) : List (Int × Int) × Int).1, 0 ≤ p.1 ∧ p.1 < p.2 ∧ p.2 ≤ size ∧ size ≤ 1000000) ∧
    ((([], 2) : List (Int × Int) × Int).2 = 0 ∧ (([], 2) : List (Int × Int) × Int).1 ≠ [] ∨ ((([], 2) : List (Int × Int) × Int).2 = 1 ∨ (([], 2) : List (Int × Int) × Int).2 = 2) ∧ (([], 2) : List (Int × Int) × Int).1 = []) :=
    ⟨by decide, fun p hp => (by cases hp), .inr ⟨.inr rfl, rfl⟩⟩
  unfold readF
  split
  · rename_i hst
    have hsz : size ≤ 1000000 := by
      unfold startB at hst
      simp only [Bool.and_eq_true, decide_eq_true_eq] at hst
      exact hst.2.2
    split
    · exact none2
    · rename_i l _
      unfold readL
      split
      · rename_i h
        split
        · exact ⟨by decide, fun p hp => (by cases hp), .inr ⟨.inl rfl, rfl⟩⟩
        · rename_i hne
          exact ⟨Nat.le_trans (out_len nm size l) h.2.1, fun p hp => by have := out_within p hp; exact ⟨this.1, this.2.1, this.2.2, hsz⟩, .inl ⟨rfl, hne⟩⟩
      · exact none2
  · exact none2
theorem ok_take {nm : ByteArray → Int} {size : Int} {l : List ByteArray} {i : Nat} (hi : i < l.length) (h : oneG nm size l[i] = none) : okG nm size l = false := by
  unfold okG
  rw [List.all_eq_false]
  exact ⟨l[i], List.getElem_mem hi, by rw [h]; decide⟩
theorem out_none {nm : ByteArray → Int} {size : Int} {l : List ByteArray} {i : Nat} (hi : i < l.length) (h : oneG nm size l[i] = some none) : outG nm size (l.take (i + 1)) = outG nm size (l.take i) := by
  unfold outG
  rw [List.take_succ_eq_append_getElem hi, List.filterMap_append]
  simp [h]
theorem out_some {nm : ByteArray → Int} {size : Int} {l : List ByteArray} {i : Nat} {p : Int × Int} (hi : i < l.length) (h : oneG nm size l[i] = some (some p)) : outG nm size (l.take (i + 1)) = outG nm size (l.take i) ++ [p] := by
  unfold outG
  rw [List.take_succ_eq_append_getElem hi, List.filterMap_append]
  simp [h]

theorem first_is {a b : List UInt8} {c : UInt8} (ha : ∀ x ∈ a, x ≠ c) : ∀ (n k f : Nat), a.length = k + n → n < f → firstAt (a ++ c :: b) c f k = some a.length
  | 0, k, f, hk, hf => by
    obtain ⟨f, rfl⟩ : ∃ g, f = g + 1 := ⟨f - 1, by omega⟩
    have hk' : k = a.length := by omega
    subst hk'
    exact first_hit (by simp) (by simp)
  | n + 1, k, f, hk, hf => by
    obtain ⟨f, rfl⟩ : ∃ g, f = g + 1 := ⟨f - 1, by omega⟩
    have hlt : k < a.length := by omega
    rw [first_miss (by simp; omega) (by rw [List.getElem?_append_left hlt, List.getElem?_eq_getElem hlt]; exact ha _ (List.getElem_mem hlt))]
    exact first_is ha n (k + 1) f (by omega) (by omega)
theorem cut_at_first {s : ByteArray} {a b : List UInt8} {c : UInt8} (hs : s.data.toList = a ++ c :: b) (ha : ∀ x ∈ a, x ≠ c) : cutA s c = ⟨a.toArray⟩ ∧ cutZ s c = ⟨b.toArray⟩ ∧ cutB s c = true := by
  have hi : cutI s c = some a.length := by
    unfold cutI
    rw [hs]
    exact first_is ha a.length 0 _ (by omega) (by simp)
  obtain ⟨e1, e2, e3⟩ := cut_some hi
  have hz : s.size = a.length + 1 + b.length := by have := congrArg List.length hs; simp at this; have h2 : s.data.size = s.size := rfl; omega
  have hd : s.data = (a ++ c :: b).toArray := by rw [← hs]
  refine ⟨?_, ?_, e3⟩
  · rw [e1]
    apply ByteArray.ext
    apply Array.ext'
    rw [ByteArray.data_extract, Array.toList_extract, hs]
    simp
  · rw [e2]
    apply ByteArray.ext
    apply Array.ext'
    rw [ByteArray.data_extract, Array.toList_extract, hs, hz]
    simp

end Go.Proofs.YtelpmkbjegimpaaDoor.Rgb
