/-
  Walk: impl.dropDots (strings.Split, strings.Join by their contracts).
-/
import Derived.Test.YtlgjgdpalflmfaaDoorDot
import Derived.Test.YtlgjgdpalflmfaaDoorOws
import Derived.Test.YtlgjgdpalflmfaaDoorShelf2
import Derived.Test.YtlgjgdpalflmfaaDoorEnc
import Derived.WalkKit
import Derived.WalkLawsBesides
import Derived.WalkSpells
namespace Go.Proofs.YtlgjgdpalflmfaaDoor.Idd
open Go.RowKit
open Go.Lib
open Go.Proofs.YtlgjgdpalflmfaaDoor.Dot
open Go.Proofs.YtlgjgdpalflmfaaDoor.Ows
open Go.Proofs.YtlgjgdpalflmfaaDoor.Enc

def parts (t : ByteArray) : List ByteArray := splitB slash 0 (countB t slash) t

theorem parts_len (t : ByteArray) : (parts t).length = countB t slash + 1 := splitB_all slash (by decide) 0 _ t rfl

theorem split_any (t : ByteArray) (m : Int) (w : World) (hs : t.size ≤ 2000000) (hm : w.cell? ⟨1, 0, none⟩ = some (.int .i64 m)) :
    Calls Tryd.prog 82 #[.string t, .string ⟨#[47]⟩] w fun e w' => e = .returned (.slice (some ⟨w.heap.size, 0, none⟩) (parts t).length (parts t).length) ∧ Below w.heap.size w w' ∧ w'.heap.size = w.heap.size + 1 ∧ ∀ k x, (parts t)[k]? = some x → w'.cell? ⟨w.heap.size, k, none⟩ = some (.string x) := by
  have := Tryd.strings_Split t slash m w (by omega) hm (by decide)
  rw [parts_len]
  refine this.mono ?_
  rintro e w' ⟨rfl, rfl⟩
  refine ⟨rfl, (Below.refl _ _).alloc (Nat.le_refl _) _, by simp, fun k x hx => ?_⟩
  rw [World.cell?_alloc_mark]
  have : (parts t)[k]? = some x := hx
  unfold parts at this
  simp [this]

/-- What is kept behind k rounds. -/
def R (L : List ByteArray) (k : Nat) : List ByteArray := if k = L.length ∧ lastDots L = true then keptTo L k ++ [none0] else keptTo L k

theorem R_lt {L : List ByteArray} {k : Nat} (h : k < L.length) : R L k = keptTo L k := by unfold R; rw [if_neg (by omega)]
theorem R_last {L : List ByteArray} {k : Nat} (h : k + 1 = L.length) (hd : (dot1 (L[k]?.getD none0) || dot2 (L[k]?.getD none0)) = true) : R L (k + 1) = keptTo L (k + 1) ++ [none0] := by
  unfold R lastDots
  rw [if_pos ⟨h, by rw [show L.length - 1 = k from by omega]; exact hd⟩]
theorem R_not {L : List ByteArray} {k : Nat} (h : k + 1 ≠ L.length) : R L (k + 1) = keptTo L (k + 1) := by unfold R; rw [if_neg (fun e => h e.1)]
theorem R_part {L : List ByteArray} {k : Nat} (h1 : dot1 (L[k]?.getD none0) = false) (h2 : dot2 (L[k]?.getD none0) = false) : R L (k + 1) = keptTo L (k + 1) := by
  unfold R lastDots
  by_cases h : k + 1 = L.length
  · rw [show L.length - 1 = k from by omega, h1, h2, if_neg (by simp)]
  · rw [if_neg (fun e => h e.1)]
theorem R_end {L : List ByteArray} (h : L ≠ []) : ∃ x r, R L L.length = x :: r ∧ told (x :: r) = dots L := by
  have hn : R L L.length ≠ [] := by
    obtain ⟨k, hk⟩ : ∃ k, L.length = k + 1 := ⟨L.length - 1, by have := List.length_pos_iff.2 h; omega⟩
    by_cases hd : lastDots L = true
    · unfold R; rw [if_pos ⟨rfl, hd⟩]; simp
    · have hd' : lastDots L = false := by simpa using hd
      unfold lastDots at hd'
      rw [show L.length - 1 = k from by omega] at hd'
      simp only [Bool.or_eq_false_iff] at hd'
      unfold R
      rw [if_neg (fun e => hd e.2), hk, kept_part hd'.1 hd'.2]; simp
  cases hr : R L L.length with
  | nil => exact absurd hr hn
  | cons x r =>
    refine ⟨x, r, rfl, ?_⟩
    rw [← hr]
    unfold R dots
    by_cases hd : lastDots L = true
    · rw [if_pos ⟨rfl, hd⟩, if_pos hd]
    · rw [if_neg (fun e => hd e.2), if_neg hd]
theorem R_of (L : List ByteArray) (M : Nat) (hM : ∀ p ∈ L, p.size ≤ M) (k : Nat) : ∀ p ∈ R L k, p.size ≤ M := by
  intro p hp
  unfold R at hp
  split at hp
  · rcases List.mem_append.1 hp with hp | hp
    · exact kept_of L M hM k p hp
    · have : p = none0 := by simpa using hp
      subst this; exact Nat.zero_le _
  · exact kept_of L M hM k p hp
theorem R_len (L : List ByteArray) (k : Nat) : (R L k).length ≤ k + 1 := by
  have := kept_len L k
  unfold R; split
  · rw [List.length_append]; simp; omega
  · omega

theorem tail_len (M : Nat) : ∀ (l : List ByteArray), (∀ p ∈ l, p.size ≤ M) → (joinTail [47] (l.map (·.data.toList))).length ≤ l.length * (M + 1)
  | [], _ => by simp [joinTail]
  | p :: r, h => by
    have ih := tail_len M r (fun q hq => h q (List.mem_cons_of_mem _ hq))
    have hp := h p List.mem_cons_self
    simp only [joinTail, List.map_cons, List.flatten_cons, List.length_append, List.length_cons, List.length_nil] at ih ⊢
    have : p.data.toList.length = p.size := by simp
    rw [Nat.add_mul]; omega

theorem join_len (M : Nat) (x : ByteArray) (r : List ByteArray) (h : ∀ p ∈ x :: r, p.size ≤ M) : (join ((x :: r).map (·.data.toList)) [47]).length ≤ (x :: r).length * (M + 1) := by
  have := tail_len M (x :: r) h
  rw [List.map_cons, join_cons]
  simp only [joinTail, List.map_cons, List.flatten_cons, List.length_append, List.length_cons, List.length_nil] at this ⊢
  omega

set_option maxHeartbeats 1600000 in
theorem core (s : ByteArray) (L : List ByteArray) (w : World) (h1 : 1 ≤ s.size) (hs : s.size ≤ 2000000) (hL0 : 1 ≤ L.length) (hLn : L.length ≤ 2000001) (hLs : ∀ p ∈ L, p.size ≤ 2000000)
    (HS : Calls Tryd.prog 82 #[.string (s.extract 1 s.size), .string ⟨#[47]⟩] w fun e w' => e = .returned (.slice (some ⟨w.heap.size, 0, none⟩) L.length L.length) ∧ Below w.heap.size w w' ∧ w'.heap.size = w.heap.size + 1 ∧ ∀ k x, L[k]? = some x → w'.cell? ⟨w.heap.size, k, none⟩ = some (.string x)) :
    Calls Tryd.prog 57 #[.string s] w fun e w' => e = .returned (.string (dots L)) ∧ Below w.heap.size w w' := by
  have HLs : Hid (∀ p ∈ L, p.size ≤ 2000000) := hLs
  clear hLs
  go_enter Tryd.func57, Tryd.ntmps57
  go_wp2_with fail
  refine HS.mono ?_
  rintro e w1 ⟨rfl, hb1, hz1, hc1⟩
  have HZ : Hid (w1.heap.size = w.heap.size + 1) := hz1
  have HC : Hid (∀ k x, L[k]? = some x → w1.cell? ⟨w.heap.size, k, none⟩ = some (.string x)) := hc1
  clear HS hz1 hc1
  go_wp2
  go_loopw [4, 13] (fun v i wr => ∃ k : Nat, k ≤ L.length ∧ i = .int .i64 k ∧ textsIn wr w1.heap.size v (R L k) ∧ Below w1.heap.size w1 wr)
    (fun _ i _ => L.length - (RowKit.intOf i).toNat)
  case atStart => exact ⟨0, by omega, rfl, by rw [R_lt (by omega)]; exact World.ownsRow_made w1 #[] 0 (Nat.le_refl _) (by decide) rfl, (Below.refl _ _).alloc (Nat.le_refl _) _⟩
  case round =>
    obtain ⟨k, hk, rfl, hown, hbel⟩ := hrel
    have hB := hbel.size
    have hRl := R_len L k
    by_cases hlt : k < L.length
    · obtain ⟨x, hx⟩ : ∃ x, L[k]? = some x := ⟨L[k], List.getElem?_eq_getElem hlt⟩
      have hxd : L[k]?.getD none0 = x := by rw [hx]; rfl
      have hcell : wr.cell? ⟨w.heap.size, k, none⟩ = some (.string x) := (hbel.cell (p := ⟨w.heap.size, k, none⟩) (by have := HZ.out; simp; omega)).trans (HC.out k x hx)
      rw [R_lt hlt] at hown hRl
      have hkl := kept_len L k
      by_cases hd1 : dot1 x = true
      · have HD : Hid (dot1 x = true) := hd1
        have f1 : (x.toList == [46]) = true := hd1
        have f2 : (x.toList == [46, 46]) = false := by rw [beq_iff_eq.1 f1]; rfl
        clear hd1
        by_cases hlast : k + 1 = L.length
        · have HR : Hid (R L (k + 1) = keptTo L k ++ [none0]) := by
            show _ = _
            rw [R_last hlast (by rw [hxd, HD.out]; simp), kept_dot1 (by rw [hxd]; exact HD.out)]
          have ft : ((k : Int) == (L.length : Int) - 1) = true := beq_iff_eq.2 (by omega)
          clear hx hxd

          go_wp2_with (at_builtin; refine wpList_append_text _ rfl _ _ rfl w1.heap.size _ _ (by rfl) hown none0 _ rfl ?aa ?ab w1.heap.size (Nat.le_refl _) w1 hbel ?_)
          case aa => have := kept_len L k; first | omega | (rw [List.length_dropLast]; omega)
          case ab => exact hB
          intro v' w2 hown' hbel'
          clear hbel hB
          go_wp2
          go_roundw
          case rel => exact ⟨k + 1, by omega, by go_num, by rw [HR.out]; exact hown', hbel'⟩
          case measure => simp [RowKit.intOf]; omega
        · have HR : Hid (R L (k + 1) = keptTo L k) := by
            show _ = _
            rw [R_not hlast, kept_dot1 (by rw [hxd]; exact HD.out)]
          have ft : ((k : Int) == (L.length : Int) - 1) = false := beq_eq_false_iff_ne.2 (by omega)
          clear hx hxd

          go_wp2
          go_roundw
          case rel => exact ⟨k + 1, by omega, by go_num, by rw [HR.out]; exact hown, hbel⟩
          case measure => simp [RowKit.intOf]; omega
      · by_cases hd2 : dot2 x = true
        · have HD : Hid (dot2 x = true) := hd2
          have e1 : Hid (dot1 x = false) := by show _ = _; simpa using hd1
          have f1 : (x.toList == [46]) = false := e1.out
          have f2 : (x.toList == [46, 46]) = true := hd2
          clear hd1 hd2
          obtain ⟨a, cap, rfl, hcap, hcm, hgs⟩ := hown.form
          by_cases hk0 : keptTo L k = []
          · have hkl0 : ((keptTo L k).length : Int) = 0 := by rw [hk0]; rfl
            have HK : Hid (keptTo L k = []) := hk0
            clear hk0 hgs
            by_cases hlast : k + 1 = L.length
            · have HR : Hid (R L (k + 1) = keptTo L k ++ [none0]) := by
                show _ = _
                rw [R_last hlast (by rw [hxd, HD.out]; simp), kept_dot2 (by rw [hxd]; exact e1.out) (by rw [hxd]; exact HD.out), HK.out, List.dropLast_nil]
              have ft : ((k : Int) == (L.length : Int) - 1) = true := beq_iff_eq.2 (by omega)
              clear hx hxd

              go_wp2_with (at_builtin; refine wpList_append_text _ rfl _ _ rfl w1.heap.size _ _ (by rfl) hown none0 _ rfl ?ba ?bb w1.heap.size (Nat.le_refl _) w1 hbel ?_)
              case ba => have := kept_len L k; first | omega | (rw [List.length_dropLast]; omega)
              case bb => exact hB
              intro v' w2 hown' hbel'
              clear hbel hB
              go_wp2
              go_roundw
              case rel => exact ⟨k + 1, by omega, by go_num, by rw [HR.out]; exact hown', hbel'⟩
              case measure => simp [RowKit.intOf]; omega
            · have HR : Hid (R L (k + 1) = keptTo L k) := by
                show _ = _
                rw [R_not hlast, kept_dot2 (by rw [hxd]; exact e1.out) (by rw [hxd]; exact HD.out), HK.out, List.dropLast_nil]
              have ft : ((k : Int) == (L.length : Int) - 1) = false := beq_eq_false_iff_ne.2 (by omega)
              clear hx hxd

              go_wp2
              go_roundw
              case rel => exact ⟨k + 1, by omega, by go_num, by rw [HR.out]; exact hown, hbel⟩
              case measure => simp [RowKit.intOf]; omega
          · obtain ⟨g, rfl, hg1, hg2⟩ := hgs hk0
            have hpos := List.length_pos_iff.2 hk0
            have hpop := hown.pop hk0
            by_cases hlast : k + 1 = L.length
            · have HR : Hid (R L (k + 1) = (keptTo L k).dropLast ++ [none0]) := by
                show _ = _
                rw [R_last hlast (by rw [hxd, HD.out]; simp), kept_dot2 (by rw [hxd]; exact e1.out) (by rw [hxd]; exact HD.out)]
              have ft : ((k : Int) == (L.length : Int) - 1) = true := beq_iff_eq.2 (by omega)
              clear hx hxd
              have hcap2 : (keptTo L k).length - 1 ≤ cap := by omega
              unfold maxLen at hcm
              go_wp2_with (at_builtin; refine wpList_append_text _ rfl _ _ rfl w1.heap.size _ _ (by rfl) hpop none0 _ rfl ?ca ?cb w1.heap.size (Nat.le_refl _) w1 hbel ?_)
              case ca => have := kept_len L k; first | omega | (rw [List.length_dropLast]; omega)
              case cb => exact hB
              intro v' w2 hown' hbel'
              clear hbel hB
              go_wp2
              go_roundw
              case rel => exact ⟨k + 1, by omega, by go_num, by rw [HR.out]; exact hown', hbel'⟩
              case measure => simp [RowKit.intOf]; omega
            · have HR : Hid (R L (k + 1) = (keptTo L k).dropLast) := by
                show _ = _
                rw [R_not hlast, kept_dot2 (by rw [hxd]; exact e1.out) (by rw [hxd]; exact HD.out)]
              have ft : ((k : Int) == (L.length : Int) - 1) = false := beq_eq_false_iff_ne.2 (by omega)
              clear hx hxd
              have hcap2 : (keptTo L k).length - 1 ≤ cap := by omega
              unfold maxLen at hcm
              go_wp2
              go_roundw
              case rel => exact ⟨k + 1, by omega, by go_num, by rw [HR.out]; exact hpop, hbel⟩
              case measure => simp [RowKit.intOf]; omega
        · have e1 : dot1 x = false := by simpa using hd1
          have e2 : dot2 x = false := by simpa using hd2
          have HR : Hid (R L (k + 1) = keptTo L k ++ [x]) := by
            show _ = _
            rw [R_part (by rw [hxd]; exact e1) (by rw [hxd]; exact e2), kept_part (by rw [hxd]; exact e1) (by rw [hxd]; exact e2), hxd]
          have f1 : (x.toList == [46]) = false := e1
          have f2 : (x.toList == [46, 46]) = false := e2
          clear hd1 hd2 e1 e2 hx hxd
          go_wp2_with (at_builtin; refine wpList_append_text _ rfl _ _ rfl w1.heap.size _ _ (by rfl) hown x _ rfl ?q1a ?q1b w1.heap.size (Nat.le_refl _) w1 hbel ?_)
          case q1a => omega
          case q1b => exact hB
          intro v' w2 hown' hbel'
          clear hown hbel hB
          go_wp2
          go_roundw
          case rel => exact ⟨k + 1, by omega, by go_num, by rw [HR.out]; exact hown', hbel'⟩
          case measure => simp [RowKit.intOf]; omega
    · obtain rfl : k = L.length := by omega
      have HE := R_end (L := L) (by intro e; rw [e] at hL0; simp at hL0)
      obtain ⟨x, r, hxr, htold⟩ := HE
      rw [hxr] at hown
      obtain ⟨a, cap, rfl, hcap, hcm, hgs⟩ := hown.form
      obtain ⟨g, rfl, hg1, hg2⟩ := hgs (by simp)
      have hall := R_of L 2000000 HLs.out L.length
      rw [hxr] at hall hRl
      have hjl := join_len 2000000 x r hall
      have HJ : Hid (Calls Tryd.prog 83 #[.slice (some ⟨g, 0, none⟩) (x :: r).length cap, .string ⟨#[47]⟩] wr fun e w' => e = .returned (.string ⟨(join ((x :: r).map (·.data.toList)) [47]).toArray⟩) ∧ Below wr.heap.size wr w') :=
        Tryd.strings_Join g 0 cap (x :: r) ⟨#[47]⟩ wr (fun j y hy => by simpa using hown.at j y hy) hg2 (by omega) hcap (by
          have : (x :: r).length * (2000000 + 1) ≤ 2000002 * 2000001 := Nat.mul_le_mul (by omega) (Nat.le_refl _)
          exact Nat.le_trans hjl (by omega))
      have HT : Hid ((⟨#[47]⟩ : ByteArray) ++ ⟨(join ((x :: r).map (·.data.toList)) [47]).toArray⟩ = dots L) := by
        show _ = _
        rw [← htold, ← told_join]
        apply ByteArray.ext; simp
      obtain ⟨J, hJ⟩ : ∃ J : ByteArray, J = ⟨(join ((x :: r).map (·.data.toList)) [47]).toArray⟩ := ⟨_, rfl⟩
      rw [← hJ] at HJ HT
      have hJs : J.size ≤ 5000000000000 := by
        rw [hJ]
        show (join ((x :: r).map (·.data.toList)) [47]).length ≤ _
        have : (x :: r).length * (2000000 + 1) ≤ 2000002 * 2000001 := Nat.mul_le_mul (by omega) (Nat.le_refl _)
        exact Nat.le_trans hjl (by omega)
      clear hown hall hjl hJ htold hxr
      go_wp2_with fail
      refine HJ.out.mono ?_
      rintro e w2 ⟨rfl, hb2⟩
      go_wp2
      go_ret
      exact ⟨ret_str HT.out, (hb1.trans (hbel.mono hb1.size)).trans (hb2.mono (Nat.le_trans hb1.size hB))⟩

end Go.Proofs.YtlgjgdpalflmfaaDoor.Idd
