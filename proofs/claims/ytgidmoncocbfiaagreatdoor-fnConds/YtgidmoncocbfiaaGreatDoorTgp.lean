/-
  Pure: how impl tells and reads a tag, byte by byte of lists; the same as the specification's.
-/
import Derived.Test.YtgidmoncocbfiaaGreatDoorTga
import Derived.Lib.IndexAny
import Derived.Lib.Strings
namespace Go.Proofs.YtgidmoncocbfiaaGreatDoor.Tgp
open Go.RowKit
open Go.Proofs.YtgidmoncocbfiaaGreatDoor.Fbs
open Go.Proofs.YtgidmoncocbfiaaGreatDoor.Tga
open Go.Proofs.YtgidmoncocbfiaaGreatDoor.Unq (heldB)

theorem any_of (chars : List UInt8) : ∀ l : List UInt8, Lib.containsAny l chars = l.any (fun b => chars.contains b)
  | [] => rfl
  | b :: l => by
    have ih := any_of chars l
    have hg := Lib.indexAny_ge chars l
    unfold Lib.containsAny at ih ⊢
    rw [Lib.indexAny, List.any_cons, ← ih]
    cases hc : chars.contains b
    · rw [if_neg (by decide), Bool.false_or]
      by_cases he : Lib.indexAny l chars = -1
      · rw [he]; rfl
      · rw [if_neg (by simpa using he), decide_eq_true (by omega), decide_eq_true (by omega)]
    · rw [if_pos rfl]; rfl

theorem byte_tag (c : UInt8) : (seenB (c.toNat : Int) && !([32, 34, 92] : List UInt8).contains c) = okT c := by
  have h : ∀ n : Fin 256, (seenB ((UInt8.ofNat n.val).toNat : Int) && !([32, 34, 92] : List UInt8).contains (UInt8.ofNat n.val)) = okT (UInt8.ofNat n.val) := by decide +kernel
  have := h ⟨c.toNat, c.toNat_lt⟩
  simpa using this

theorem all_tag : ∀ l : List UInt8, (plainB l && !Lib.containsAny l [32, 34, 92]) = l.all okT
  | [] => rfl
  | c :: l => by
    have ih := all_tag l
    rw [any_of] at ih ⊢
    unfold plainB at ih ⊢
    rw [List.all_cons, List.any_cons, List.all_cons, ← ih, ← byte_tag c]
    cases seenB (c.toNat : Int) <;> cases ([32, 34, 92] : List UInt8).contains c <;> simp

theorem tag_told (t : ByteArray) : tagB t = (decide (t.size ≤ 60) && (plainB t.data.toList && !Lib.containsAny t.data.toList [32, 34, 92])) := by
  unfold tagB
  rw [all_tag, Bool.and_comm]
theorem plain_ascii {l : List UInt8} (h : plainB l = true) : ∀ (j : Nat) b, l[j]? = some b → b.toNat < 128 := by
  intro j b hb
  have := List.all_eq_true.1 h b (List.mem_of_getElem? hb)
  unfold seenB at this
  simp only [Bool.and_eq_true, decide_eq_true_eq] at this
  omega

/-- A text within quotes, by prefix and suffix. -/
def midL (l : List UInt8) : Option (List UInt8) :=
  if Lib.hasPrefix l [34] = true ∧ Lib.hasSuffix (Lib.trimPrefix l [34]) [34] = true then some (Lib.trimSuffix (Lib.trimPrefix l [34]) [34]) else none

theorem suffix_last : ∀ (r : List UInt8), Lib.hasSuffix r [34] = true ↔ r ≠ [] ∧ r[r.length - 1]? = some 34 := by
  intro r
  unfold Lib.hasSuffix
  rw [List.isSuffixOf_iff_suffix]
  constructor
  · rintro ⟨m, rfl⟩
    simp
  · rintro ⟨h1, h2⟩
    rcases List.eq_nil_or_concat r with rfl | ⟨m, x, rfl⟩
    · exact absurd rfl h1
    · simp at h2
      subst h2
      exact ⟨m, by simp⟩

theorem mid_held (l : List UInt8) : midL l = if heldB l = true then some ((l.drop 1).take (l.length - 2)) else none := by
  unfold midL
  cases l with
  | nil => rfl
  | cons c r =>
    by_cases hc : c = 34
    · subst hc
      have hp : Lib.hasPrefix (34 :: r) [34] = true := by simp [Lib.hasPrefix]
      have ht : Lib.trimPrefix (34 :: r) [34] = r := by unfold Lib.trimPrefix; rw [if_pos hp]; rfl
      rw [hp, ht]
      have hh : heldB (34 :: r) = Lib.hasSuffix r [34] := by
        rw [Bool.eq_iff_iff, suffix_last]
        unfold heldB
        cases r with
        | nil => simp
        | cons d q =>
          simp only [Bool.and_eq_true, decide_eq_true_eq]
          have e : (34 :: d :: q)[(34 :: d :: q).length - 1]? = (d :: q)[(d :: q).length - 1]? := by simp
          rw [e]
          have hl : (d :: q).length - 1 < (d :: q).length := by simp
          rw [List.getElem?_eq_getElem hl]
          generalize (d :: q)[(d :: q).length - 1] = z
          constructor
          · rintro ⟨_, h⟩
            refine ⟨by simp, ?_⟩
            have : z = 34 := UInt8.toNat.inj (by simpa using h)
            rw [this]
          · rintro ⟨_, h⟩
            have : z = 34 := by simpa using h
            subst this
            simp
      rw [hh]
      cases hs : Lib.hasSuffix r [34]
      · simp
      · simp only [and_self, if_true]
        unfold Lib.trimSuffix
        rw [if_pos hs]
        rfl
    · have hp : Lib.hasPrefix (c :: r) [34] = false := by
        show (([34] : List UInt8).isPrefixOf (c :: r)) = false
        simp [List.isPrefixOf]
        exact fun h => hc h.symm
      have hh : heldB (c :: r) = false := by
        unfold heldB
        have : decide (((c :: r)[0]?.getD 0).toNat = 34) = false := by
          apply decide_eq_false
          intro h
          exact hc (UInt8.toNat.inj (by simpa using h))
        rw [this]; simp
      rw [hp, hh]
      simp

theorem mid_size (s : ByteArray) : s.extract 1 (s.size - 1) = ⟨((s.data.toList.drop 1).take (s.data.toList.length - 2)).toArray⟩ := by
  apply ByteArray.ext
  apply Array.ext'
  rw [ByteArray.data_extract, Array.toList_extract, List.extract_eq_take_drop, len_list]
  show List.take (s.size - 1 - 1) _ = _
  rw [show s.size - 1 - 1 = s.size - 2 from by omega]

theorem inQ_mid (s : ByteArray) : inQ s = match midL s.data.toList with
    | some m => if tagB ⟨m.toArray⟩ = true then some ⟨m.toArray⟩ else none
    | none => none := by
  unfold inQ
  rw [mid_held, mid_size]
  cases heldB s.data.toList
  · simp
  · simp

/-- A tag read, as impl does. -/
def readI (l : List UInt8) : Option (Bool × ByteArray) :=
  match midL (Lib.trimPrefix l [87, 47]) with
  | some m => if tagB ⟨m.toArray⟩ = true then some (Lib.hasPrefix l [87, 47], ⟨m.toArray⟩) else none
  | none => none

theorem readI_same (s : ByteArray) : readI s.data.toList = readT s := by
  unfold readI readT
  have key : ∀ (X : ByteArray) (k : Bool), ((inQ X).map fun t => (k, t)) = match midL X.data.toList with
      | some m => if tagB ⟨m.toArray⟩ = true then some (k, ⟨m.toArray⟩) else none
      | none => none := by
    intro X k
    rw [inQ_mid]
    cases midL X.data.toList with
    | none => rfl
    | some m =>
      dsimp only
      cases tagB ⟨m.toArray⟩ <;> rfl
  have hp : Lib.hasPrefix s.data.toList [87, 47] = ((s.extract 0 2).toList == [87, 47]) := by
    have e : (s.extract 0 2).toList = s.data.toList.take 2 := by
      rw [ByteArray.toList_eq, ByteArray.data_extract, Array.toList_extract, List.extract_eq_take_drop]
      simp
    rw [e]
    unfold Lib.hasPrefix
    generalize s.data.toList = l
    rw [Bool.eq_iff_iff, List.isPrefixOf_iff_prefix, beq_iff_eq]
    constructor
    · rintro ⟨r, rfl⟩; rfl
    · intro h; rw [← h]; exact List.take_prefix _ _
  cases hw : weakB s
  · rw [if_neg (by decide), key]
    cases hq : Lib.hasPrefix s.data.toList [87, 47]
    · have : Lib.trimPrefix s.data.toList [87, 47] = s.data.toList := by unfold Lib.trimPrefix; rw [if_neg (by rw [hq]; decide)]
      rw [this]
    · -- just W/
      have hsz : s.size = 2 := by
        have h1 : s.data.toList.length = s.size := by simp
        unfold weakB at hw
        rw [← hp, hq, Bool.and_true] at hw
        have h2 : ¬ 2 < s.size := of_decide_eq_false hw
        unfold Lib.hasPrefix at hq
        rw [List.isPrefixOf_iff_prefix] at hq
        have := hq.length_le
        simp at this
        omega
      have hl : s.data.toList = [87, 47] := by
        unfold Lib.hasPrefix at hq
        rw [List.isPrefixOf_iff_prefix] at hq
        exact (hq.eq_of_length (by simp [hsz])).symm
      rw [hl]
      rfl
  · rw [if_pos rfl, key]
    unfold weakB at hw
    rw [← hp, Bool.and_eq_true] at hw
    rw [hw.2]
    have : Lib.trimPrefix s.data.toList [87, 47] = (s.extract 2 s.size).data.toList := by
      unfold Lib.trimPrefix
      rw [if_pos hw.2, ByteArray.data_extract, Array.toList_extract, List.extract_eq_take_drop]
      show List.drop 2 _ = _
      rw [List.take_of_length_le (by simp)]
    rw [this]

end Go.Proofs.YtgidmoncocbfiaaGreatDoor.Tgp
