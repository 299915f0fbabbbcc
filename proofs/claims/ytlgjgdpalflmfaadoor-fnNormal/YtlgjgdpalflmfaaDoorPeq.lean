/-
  Walks: spec.PercentEncode and impl.PercentEncode tell the same: each unreserved byte as it is, each other one as its percent.
-/
import Derived.Test.YtlgjgdpalflmfaaDoorEnc
import Derived.WalkKit
import Derived.WalkLawsBesides
import Derived.WalkSpells
namespace Go.Proofs.YtlgjgdpalflmfaaDoor.Peq
open Go.RowKit
open Go.Proofs.YtlgjgdpalflmfaaDoor.Byt
open Go.Proofs.YtlgjgdpalflmfaaDoor.Hex
open Go.Proofs.YtlgjgdpalflmfaaDoor.Own
open Go.Proofs.YtlgjgdpalflmfaaDoor.Enc

theorem app_list (a b : List UInt8) : (⟨a.toArray⟩ : ByteArray) ++ ⟨b.toArray⟩ = ⟨(a ++ b).toArray⟩ := by
  apply ByteArray.ext; simp

theorem ext_one (s : ByteArray) (k : Nat) (h : k < s.size) : s.extract k (k + 1) = ⟨[s[k]].toArray⟩ := by
  apply ByteArray.ext
  apply Array.ext'
  rw [ByteArray.data_extract, Array.toList_extract, List.extract_eq_take_drop]
  rw [show k + 1 - k = 1 from by omega]
  have h' : k < s.data.toList.length := by simpa using h
  rw [List.drop_eq_getElem_cons h']
  rfl

/-- What PercentEncode tells of a text. -/
def encS (l : List UInt8) : ByteArray := if 60 < l.length then ⟨#[]⟩ else ⟨(encL l).toArray⟩
def encOk (l : List UInt8) : Bool := !decide (60 < l.length)

theorem len_list (s : ByteArray) : s.data.toList.length = s.size := by simp

theorem ret_long {l : List UInt8} (h : 60 < l.length) : Ending.returned (.tuple #[.string ⟨#[]⟩, .bool false]) = .returned (.tuple #[.string (encS l), .bool (encOk l)]) := by
  unfold encS encOk; rw [if_pos h, decide_eq_true h]; rfl
theorem ret_told {l : List UInt8} {A : ByteArray} (h : ¬ 60 < l.length) (hA : A = ⟨(encL l).toArray⟩) : Ending.returned (.tuple #[.string A, .bool true]) = .returned (.tuple #[.string (encS l), .bool (encOk l)]) := by
  unfold encS encOk; rw [if_neg h, decide_eq_false h, hA]; rfl

theorem enc_step (s : ByteArray) (k : Nat) (h : k < s.size) : encL (s.data.toList.take (k + 1)) = encL (s.data.toList.take k) ++ encB s[k] := by
  have h' : k < s.data.toList.length := by simpa using h
  rw [encL_snoc _ _ h']; rfl

theorem enc_size (s : ByteArray) (k : Nat) : (encL (s.data.toList.take k)).length ≤ 3 * k := by
  have h1 := encL_len (s.data.toList.take k)
  have h2 := List.length_take_le k s.data.toList
  omega

set_option maxHeartbeats 800000 in
theorem specEnc_any (s : ByteArray) (w : World) (hs : s.size ≤ 2000000) :
    Calls Tryd.prog 21 #[.string s] w fun e w' => e = .returned (.tuple #[.string (encS s.data.toList), .bool (encOk s.data.toList)]) ∧ Below w.heap.size w w' := by
  have hlen := len_list s
  by_cases h2 : 60 < s.size
  · have HR : Hid (Ending.returned (.tuple #[.string ⟨#[]⟩, .bool false]) = .returned (.tuple #[.string (encS s.data.toList), .bool (encOk s.data.toList)])) := ret_long (by omega)
    clear hlen
    go_enter Tryd.func21, Tryd.ntmps21
    go_wp2
    go_ret2
    exact ⟨HR.out, Below.refl _ _⟩
  · have h60 : ¬ 60 < s.data.toList.length := by omega
    have H60 : Hid (¬ 60 < s.data.toList.length) := h60
    clear h60 hlen
    go_enter Tryd.func21, Tryd.ntmps21
    go_wp2
    go_loopw [4, 5] (fun v i wr => ∃ (k : Nat) (A : ByteArray), k ≤ s.size ∧ i = .int .i64 k ∧ v = .string A ∧ A.size ≤ 3 * k ∧ Below w.heap.size w wr ∧ Hid (A = ⟨(encL (s.data.toList.take k)).toArray⟩))
      (fun _ i _ => s.size - (intOf i).toNat)
    case atStart => exact ⟨0, ⟨#[]⟩, by omega, rfl, rfl, by decide, Below.refl _ _, rfl⟩
    case round =>
      obtain ⟨k, A, hk, rfl, rfl, hA, hbel, HA⟩ := hrel
      have hB := hbel.size
      by_cases hlt : k < s.size
      · have HS : Hid (encL (s.data.toList.take (k + 1)) = encL (s.data.toList.take k) ++ encB s[k]) := enc_step s k hlt
        by_cases hf : freeB (s[k].toNat : Int) = true
        · have HA' : Hid (A ++ s.extract k (k + 1) = ⟨(encL (s.data.toList.take (k + 1))).toArray⟩) := by
            show _ = _
            rw [HA.out, HS.out, ext_one s k hlt, app_list]; unfold encB; rw [if_pos hf]
          have hz : (s.extract k (k + 1)).size = 1 := by rw [ext_one s k hlt]; rfl
          have hsum : A.size + (s.extract k (k + 1)).size ≤ 9223372036854775807 := by omega
          have HZ : Hid ((A ++ s.extract k (k + 1)).size ≤ 3 * (k + 1)) := by
            show _ ≤ _
            rw [ByteArray.size_append, hz]; omega
          clear HS HA hz
          go_wp2_with (go_at_call 51; refine (l1Free_any _ _ (byte_bd _).1 (byte_bd _).2).mono ?_; rintro e w' ⟨rfl, rfl⟩)
          go_roundw
          case rel => exact ⟨k + 1, _, by omega, by go_num, rfl, HZ.out, hbel, HA'⟩
          case measure => simp [intOf]; omega
        · have hp3 : (⟨(pc s[k]).toArray⟩ : ByteArray).size = 3 := rfl
          have HA' : Hid (A ++ ⟨(pc s[k]).toArray⟩ = ⟨(encL (s.data.toList.take (k + 1))).toArray⟩) := by
            show _ = _
            rw [HA.out, HS.out, app_list]; unfold encB; rw [if_neg hf]
          have hsum : A.size + (⟨(pc s[k]).toArray⟩ : ByteArray).size ≤ 9223372036854775807 := by omega
          have HZ : Hid ((A ++ ⟨(pc s[k]).toArray⟩).size ≤ 3 * (k + 1)) := by
            show _ ≤ _
            rw [ByteArray.size_append, hp3]; omega
          have hf' : freeB (s[k].toNat : Int) = false := by simpa using hf
          clear HS HA hp3 hf
          obtain ⟨T, hT⟩ : ∃ T : ByteArray, T = ⟨(pc s[k]).toArray⟩ := ⟨_, rfl⟩
          rw [← hT] at HA' hsum HZ
          have HT : Hid (T = ⟨(pc s[k]).toArray⟩) := hT
          clear hT
          go_wp2_with (first
            | (go_at_call 51; refine (l1Free_any _ _ (byte_bd _).1 (byte_bd _).2).mono ?_; rintro e w' ⟨rfl, rfl⟩)
            | (go_at_call 52; refine (l1Percent_any _ _).mono ?_; rintro e w2 ⟨rfl, hb2⟩; rw [← HT.out]))
          go_roundw
          case rel => exact ⟨k + 1, _, by omega, by go_num, rfl, HZ.out, hbel.trans (hb2.mono hB), HA'⟩
          case measure => simp [intOf]; omega
      · have HR : Hid (Ending.returned (.tuple #[.string A, .bool true]) = .returned (.tuple #[.string (encS s.data.toList), .bool (encOk s.data.toList)])) :=
          ret_told H60.out (by rw [HA.out, List.take_of_length_le (by rw [len_list]; omega)])
        clear HA H60
        go_wp2
        go_ret2
        exact ⟨HR.out, hbel⟩

set_option maxHeartbeats 800000 in
theorem implEnc_any (s : ByteArray) (w : World) (hT : Tab w) (hs : s.size ≤ 2000000) :
    Calls Tryd.prog 20 #[.string s] w fun e w' => e = .returned (.tuple #[.string (encS s.data.toList), .bool (encOk s.data.toList)]) ∧ Below w.heap.size w w' := by
  have hlen := len_list s
  have hpos : 0 < w.heap.size := World.block_lt_of_cell? w _ (hT 0 (by omega))
  by_cases h2 : 60 < s.size
  · have HR : Hid (Ending.returned (.tuple #[.string ⟨#[]⟩, .bool false]) = .returned (.tuple #[.string (encS s.data.toList), .bool (encOk s.data.toList)])) := ret_long (by omega)
    clear hlen
    go_enter Tryd.func20, Tryd.ntmps20
    go_wp2
    go_ret2
    exact ⟨HR.out, Below.refl _ _⟩
  · have h60 : ¬ 60 < s.data.toList.length := by omega
    have H60 : Hid (¬ 60 < s.data.toList.length) := h60
    clear h60 hlen
    go_enter Tryd.func20, Tryd.ntmps20
    go_wp2
    go_loopw [4, 5] (fun v i wr => ∃ k : Nat, k ≤ s.size ∧ i = .int .i64 k ∧ bytesIn wr w.heap.size v (encL (s.data.toList.take k)) ∧ Below w.heap.size w wr)
      (fun _ i _ => s.size - (intOf i).toNat)
    case atStart => exact ⟨0, by omega, rfl, World.ownsRow_made w #[] 0 (Nat.le_refl _) (by decide) rfl, (Below.refl _ _).alloc (Nat.le_refl _) _⟩
    case round =>
      obtain ⟨k, hk, rfl, hown, hbel⟩ := hrel
      have hTr : Tab wr := hT.below hbel hpos
      have hB := hbel.size
      have hsz := enc_size s k
      by_cases hlt : k < s.size
      · have HS : Hid (encL (s.data.toList.take (k + 1)) = encL (s.data.toList.take k) ++ encB s[k]) := enc_step s k hlt
        by_cases hf : freeB (s[k].toNat : Int) = true
        · have HS' : Hid (encL (s.data.toList.take (k + 1)) = encL (s.data.toList.take k) ++ [s[k]]) := by
            show _ = _; rw [HS.out]; unfold encB; rw [if_pos hf]
          clear HS
          go_wp2_with (first
            | (go_at_call 49; refine (isFree_any _ _ hTr (byte_bd _).1 (byte_bd _).2).mono ?_; rintro e w' ⟨rfl, rfl⟩)
            | (at_builtin; refine wpList_append_one _ rfl _ _ rfl w.heap.size _ _ (by rfl) hown _ s[k] rfl _ rfl ?q1 ?q2 w hbel ?_))
          case q1 => omega
          case q2 => exact hB
          intro v' w1 hown' hbel'
          clear hown hbel hB
          go_wp2
          go_roundw
          case rel => exact ⟨k + 1, by omega, by go_num, by rw [HS'.out]; exact hown', hbel'⟩
          case measure => simp [intOf]; omega
        · have HS' : Hid (encL (s.data.toList.take (k + 1)) = encL (s.data.toList.take k) ++ pc s[k]) := by
            show _ = _; rw [HS.out]; unfold encB; rw [if_neg hf]
          have hf' : freeB (s[k].toNat : Int) = false := by simpa using hf
          clear HS hf
          go_wp2_with (first
            | (go_at_call 49; refine (isFree_any _ _ hTr (byte_bd _).1 (byte_bd _).2).mono ?_; rintro e w' ⟨rfl, rfl⟩)
            | (go_at_call 50; refine (appendPercent_any w.heap.size _ _ _ _ hown hB (by omega)).mono ?_; rintro e w2 ⟨v2, rfl, hown2, hb2⟩))
          go_roundw
          case rel => exact ⟨k + 1, by omega, by go_num, by rw [HS'.out]; exact hown2, hbel.trans hb2⟩
          case measure => simp [intOf]; omega
      · have hcv := run_text _ _ _ _ hown
        have HR : Hid (Ending.returned (.tuple #[.string ⟨(encL (s.data.toList.take k)).toArray⟩, .bool true]) = .returned (.tuple #[.string (encS s.data.toList), .bool (encOk s.data.toList)])) :=
          ret_told H60.out (by rw [List.take_of_length_le (by rw [len_list]; omega)])
        clear hown H60
        go_wp2
        go_ret2
        exact ⟨HR.out, hbel⟩

end Go.Proofs.YtlgjgdpalflmfaaDoor.Peq
