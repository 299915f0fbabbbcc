/-
  Walks: JoinedOf of both programs.
-/
import Derived.Test.YtfgcgnhffljiaaaGreatDoorVof
import Derived.Test.YtfgcgnhffljiaaaGreatDoorVsp
import Derived.Test.YtfgcgnhffljiaaaGreatDoorShelf
namespace Go.Proofs.YtfgcgnhffljiaaaGreatDoor.Jnd
open Go.RowKit
open Go.Proofs.YtfgcgnhffljiaaaGreatDoor.Fbs
open Go.Proofs.YtfgcgnhffljiaaaGreatDoor.Fch
open Go.Proofs.YtfgcgnhffljiaaaGreatDoor.Ows
open Go.Proofs.YtfgcgnhffljiaaaGreatDoor.Fdb
open Go.Proofs.YtfgcgnhffljiaaaGreatDoor.Fvs
open Go.Proofs.YtfgcgnhffljiaaaGreatDoor.Fpl
open Go.Proofs.YtfgcgnhffljiaaaGreatDoor.Mrk (TV RowT lst told_tv tv_of)

def joinS (l : List ByteArray) : ByteArray := ⟨(Lib.join (l.map (·.data.toList)) [44, 32]).toArray⟩
theorem join_step (xs : List (List UInt8)) (sep : List UInt8) (k : Nat) (y : List UInt8) (h : xs[k]? = some y) : Lib.join (xs.take (k + 1)) sep = if k = 0 then y else Lib.join (xs.take k) sep ++ sep ++ y := by
  cases xs with
  | nil => simp at h
  | cons x r =>
    cases k with
    | zero =>
      have : x = y := by simpa using h
      subst this
      rw [if_pos rfl]
      exact Lib.join_one _ _
    | succ k =>
      rw [if_neg (by omega), List.take_succ_cons, List.take_succ_cons, Lib.join_cons, Lib.join_cons, Lib.joinTail_take_succ sep r k y (by simpa using h)]
      simp [List.append_assoc]
theorem joinS_nil : joinS [] = ⟨#[]⟩ := rfl
theorem joinS_first {l : List ByteArray} (h : 0 < l.length) : joinS (l.take 1) = l[0] := by
  unfold joinS
  rw [List.map_take, join_step _ _ 0 l[0].data.toList (by rw [List.getElem?_map, List.getElem?_eq_getElem h]; rfl), if_pos rfl]
theorem joinS_more {l : List ByteArray} {k : Nat} (h : k < l.length) (h0 : 0 < k) : joinS (l.take (k + 1)) = joinS (l.take k) ++ ⟨#[44, 32]⟩ ++ l[k] := by
  unfold joinS
  rw [List.map_take, join_step _ _ k l[k].data.toList (by rw [List.getElem?_map, List.getElem?_eq_getElem h]; rfl), if_neg (by omega), List.map_take]
  apply ByteArray.ext
  simp
/-- What JoinedOf answers. -/
def jnO (l : List (ByteArray × ByteArray)) (n : ByteArray) : ByteArray × Bool :=
  match valO l n with
  | none => (⟨#[]⟩, false)
  | some vs => (joinS vs, decide (0 < vs.length))
theorem vals_size {n : ByteArray} {l : List (ByteArray × ByteArray)} (hz : SzF l) : ∀ x ∈ valsOf n l, x.size ≤ 2000000 := by
  intro x hx
  unfold valsOf at hx
  obtain ⟨c, hc, rfl⟩ := List.mem_map.1 hx
  exact (hz c (List.mem_filter.1 hc).1).2
theorem ret_join {A B : ByteArray} {p q : Bool} (h : A = B) (h2 : p = q) : Ending.returned (.tuple #[.string A, .bool p]) = .returned (.tuple #[.string B, .bool q]) := by rw [h, h2]

set_option maxHeartbeats 800000 in
theorem l3Joined_any (a : Option Addr) (ca : Nat) (l : List (ByteArray × ByteArray)) (n : ByteArray) (w : World) (lo hi : Nat) (hl : l.length ≤ 2000000) (hn : n.size ≤ 2000000) (hz : SzF l) (ha : FV w a l lo hi) :
    Calls Tryz.prog 76 #[.slice a l.length ca, .string n] w fun e w' => e = .returned (.tuple #[.string (joinS (valsOf n l)), .bool (decide (0 < (valsOf n l).length))]) ∧ Below w.heap.size w w' := by
  have HV := l3Values_any a ca l n w lo hi hl hn hz ha
  have hlen : (valsOf n l).length ≤ 2000000 := Nat.le_trans (valsOf_len n l) hl
  have hsz := vals_size (n := n) hz
  generalize valsOf n l = vs at HV hlen hsz ⊢
  have HV1 : Hid _ := HV
  clear HV
  go_enter Tryz.func76, Tryz.ntmps76
  go_wp2_with fail
  refine (Calls.mono HV1.out ?_)
  rintro e w1 ⟨⟨v, rfl, hown⟩, hb1⟩
  obtain ⟨a1, c1, rfl, T1⟩ := tv_of hown
  clear hown
  by_cases h0 : vs = []
  · subst h0
    go_wp2_with fail
    go_loop [6, 15] (fun o i => o = .string ⟨#[]⟩ ∧ i = .int .i64 0) (fun _ _ => 0)
    case atStart => exact ⟨rfl, rfl⟩
    case round =>
      obtain ⟨rfl, rfl⟩ := hrel
      go_wp2_with fail
      go_ret2
      exact ⟨rfl, hb1⟩
  rcases T1 with T1 | ⟨g, rfl, _, _, ga⟩
  · exact absurd T1 h0
  have GA : Hid (RowT w1 g vs) := ga
  clear ga
  go_wp2_with fail
  go_loopw [6, 15] (fun o i wr => ∃ (k : Nat) (B : ByteArray), k ≤ vs.length ∧ i = .int .i64 k ∧ o = .string B ∧ B.size ≤ k * 2000002 ∧ Below w1.heap.size w1 wr ∧ Hid (B = joinS (vs.take k))) (fun _ i _ => vs.length - (intOf i).toNat)
  case atStart => exact ⟨0, ⟨#[]⟩, by omega, rfl, rfl, Nat.le_refl _, Below.refl _ _, rfl⟩
  case round =>
    obtain ⟨k, B, hk, rfl, rfl, hB, hbel, HB⟩ := hrel
    by_cases hlt : k < vs.length
    · have hc := (GA.out.below hbel).2.2 k vs[k] (List.getElem?_eq_getElem hlt)
      have hs := hsz vs[k] (List.getElem_mem hlt)
      by_cases hk0 : k = 0
      · subst hk0
        have HB0 : B = ⟨#[]⟩ := HB.out
        subst HB0
        have HB' : Hid ((⟨#[]⟩ : ByteArray) ++ vs[0] = joinS (vs.take 1)) := by
          show _ = _
          rw [joinS_first hlt]; apply ByteArray.ext; simp
        have hs1 : ¬ 9223372036854775807 < (⟨#[]⟩ : ByteArray).size + vs[0].size := by show ¬ _ < 0 + _; omega
        have hs2 : ((⟨#[]⟩ : ByteArray) ++ vs[0]).size ≤ 1 * 2000002 := by rw [ByteArray.size_append]; show 0 + _ ≤ _; omega
        go_wp2_with fail
        go_roundw
        case rel => exact ⟨1, _, by omega, by go_num, rfl, hs2, hbel, HB'⟩
        case measure => simp [intOf]; omega
      · have hd : decide (0 < (k : Int)) = true := decide_eq_true (by omega)
        have HB' : Hid (B ++ ⟨#[44, 32]⟩ ++ vs[k] = joinS (vs.take (k + 1))) := by
          show _ = _
          rw [joinS_more hlt (by omega), ← HB.out]
        have e2 : (⟨#[44, 32]⟩ : ByteArray).size = 2 := rfl
        have hs0 : ¬ 9223372036854775807 < B.size + (⟨#[44, 32]⟩ : ByteArray).size := by rw [e2]; omega
        have hs1 : ¬ 9223372036854775807 < (B ++ ⟨#[44, 32]⟩ : ByteArray).size + vs[k].size := by rw [ByteArray.size_append, e2]; omega
        have hs2 : (B ++ ⟨#[44, 32]⟩ ++ vs[k] : ByteArray).size ≤ (k + 1) * 2000002 := by rw [ByteArray.size_append, ByteArray.size_append, e2]; omega
        clear HB
        go_wp2_with fail
        go_roundw
        case rel => exact ⟨k + 1, _, by omega, by go_num, rfl, hs2, hbel, HB'⟩
        case measure => simp [intOf]; omega
    · obtain rfl : k = vs.length := by omega
      have HB' : Hid (B = joinS vs) := by
        show _ = _
        rw [HB.out, List.take_length]
      clear HB
      have hp : 0 < vs.length := List.length_pos_iff.2 h0
      have hb2 := hb1.trans (hbel.mono hb1.size)
      go_wp2_with fail
      go_ret2
      exact ⟨ret_join HB'.out (by simp [hp]), hb2⟩

theorem lens_le : ∀ (vs : List ByteArray), (∀ x ∈ vs, x.size ≤ 2000000) → Lib.lens (vs.map (·.data.toList)) ≤ vs.length * 2000000
  | [], _ => by simp [Lib.lens]
  | x :: r, h => by
    have h1 := lens_le r (fun y hy => h y (by simp [hy]))
    have h2 := h x (by simp)
    have h3 := len_list x
    simp only [Lib.lens, List.map_cons, List.sum_cons, List.length_cons] at h1 ⊢
    omega
theorem join_len (vs : List ByteArray) (h : vs.length ≤ 1000) (hs : ∀ x ∈ vs, x.size ≤ 2000000) : (Lib.join (vs.map (·.data.toList)) (⟨#[44, 32]⟩ : ByteArray).data.toList).length ≤ 140737488355328 := by
  cases vs with
  | nil => simp [Lib.join_nil]
  | cons x r =>
    rw [List.map_cons, Lib.join_cons, List.length_append, Lib.joinTail_length]
    have h1 := lens_le r (fun y hy => hs y (by simp [hy]))
    have h2 := hs x (by simp)
    have h3 := len_list x
    rw [List.length_cons] at h
    rw [List.length_map]
    show _ + (2 * _ + _) ≤ _
    omega

set_option maxHeartbeats 800000 in
theorem implJoined_any (a : Option Addr) (ca : Nat) (l : List (ByteArray × ByteArray)) (n : ByteArray) (w : World) (lo hi : Nat) (hT : Tab w) (hn : n.size ≤ 2000000) (hz : SzF l) (hca : l.length ≤ ca) (ha : FV w a l lo hi) :
    Calls Tryz.prog 42 #[.slice a l.length ca, .string n] w fun e w' => e = .returned (.tuple #[.string (jnO l n).1, .bool (jnO l n).2]) ∧ Below w.heap.size w w' := by
  have HI := Vof.implVals_any a ca l n w lo hi hT hn hz hca ha
  have hlen : ∀ vs, valO l n = some vs → vs.length ≤ 40 ∧ ∀ x ∈ vs, x.size ≤ 2000000 := by
    intro vs h
    unfold valO at h
    split at h
    · rename_i hh
      cases h
      exact ⟨Nat.le_trans (valsOf_len n l) (goodL_all hh.1).1, vals_size hz⟩
    · cases h
  unfold jnO
  generalize valO l n = o at HI hlen ⊢
  have HN := fun (a : Option Addr) (c : Nat) => Tryz.strings_Join_none a c ⟨#[44, 32]⟩
  cases o with
  | none =>
    have HI1 : Hid _ := HI
    have HN1 : Hid _ := HN
    clear HI HN
    go_enter Tryz.func42, Tryz.ntmps42
    go_wp2_with fail
    refine (Calls.mono HI1.out ?_)
    rintro e w1 ⟨rfl, hb1⟩
    go_wp2_with fail
    refine (HN1.out _ _ _).mono ?_
    rintro e w2 ⟨rfl, hw⟩
    obtain rfl := hw.symm
    go_wp2_with fail
    go_ret2
    exact ⟨rfl, hb1⟩
  | some vs =>
    obtain ⟨h40, hsz⟩ := hlen vs rfl
    have HI1 : Hid _ := HI
    have HN1 : Hid _ := HN
    clear HI HN hlen
    by_cases h0 : vs = []
    · subst h0
      go_enter Tryz.func42, Tryz.ntmps42
      go_wp2_with fail
      refine (Calls.mono HI1.out ?_)
      rintro e w1 ⟨⟨v, rfl, hown⟩, hb1⟩
      obtain ⟨a1, c1, rfl, _⟩ := tv_of hown
      go_wp2_with fail
      refine (HN1.out _ _ _).mono ?_
      rintro e w2 ⟨rfl, hw⟩
      obtain rfl := hw.symm
      go_wp2_with fail
      go_ret2
      exact ⟨rfl, hb1⟩
    · go_enter Tryz.func42, Tryz.ntmps42
      go_wp2_with fail
      refine (Calls.mono HI1.out ?_)
      rintro e w1 ⟨⟨v, rfl, hown⟩, hb1⟩
      obtain ⟨a1, c1, rfl, hlc, _, hne⟩ := textsIn.form hown
      obtain ⟨g, rfl, _, hg⟩ := hne h0
      have hat := fun j x h => textsIn.at hown j x h
      have HJ : Hid _ := Tryz.strings_Join g 0 c1 vs ⟨#[44, 32]⟩ w1 (fun j x h => by rw [Nat.zero_add]; exact hat j x h) hg (by omega) hlc (join_len vs (by omega) hsz)
      go_wp2_with fail
      refine (Calls.mono HJ.out ?_)
      rintro e w2 ⟨rfl, hb2⟩
      have hb12 := hb1.trans (hb2.mono hb1.size)
      have hp : 0 < vs.length := List.length_pos_iff.2 h0
      go_wp2_with fail
      go_ret2
      exact ⟨ret_join rfl (by simp [hp]), hb12⟩

end Go.Proofs.YtfgcgnhffljiaaaGreatDoor.Jnd
