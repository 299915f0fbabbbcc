/-
  Walks: impl.joinHead, impl.requestHead, impl.checkHead.
-/
import Derived.Test.YtfgcgnhffljiaaaGreatDoorRqi
import Derived.Test.YtfgcgnhffljiaaaGreatDoorShelf
namespace Go.Proofs.YtfgcgnhffljiaaaGreatDoor.Rqb
open Go.RowKit
open Go.Proofs.YtfgcgnhffljiaaaGreatDoor.Fbs
open Go.Proofs.YtfgcgnhffljiaaaGreatDoor.Fch
open Go.Proofs.YtfgcgnhffljiaaaGreatDoor.Ows
open Go.Proofs.YtfgcgnhffljiaaaGreatDoor.Fdb
open Go.Proofs.YtfgcgnhffljiaaaGreatDoor.Fvs
open Go.Proofs.YtfgcgnhffljiaaaGreatDoor.Lnp
open Go.Proofs.YtfgcgnhffljiaaaGreatDoor.Mrk (TV RowT tv_of)

/-- Three words with blanks between them. -/
def spc3 (X Y Z : ByteArray) : ByteArray := X ++ ⟨#[32]⟩ ++ Y ++ ⟨#[32]⟩ ++ Z
theorem spc3_size (X Y Z : ByteArray) : (spc3 X Y Z).size = X.size + Y.size + Z.size + 2 := by
  have e : (⟨#[32]⟩ : ByteArray).size = 1 := rfl
  unfold spc3
  rw [ByteArray.size_append, ByteArray.size_append, ByteArray.size_append, ByteArray.size_append, e]; omega
theorem spc3_join (X Y Z : ByteArray) : (⟨(Lib.join ([X, Y, Z].map (·.data.toList)) [32]).toArray⟩ : ByteArray) = spc3 X Y Z := by
  apply ByteArray.ext
  apply Array.ext'
  unfold spc3
  simp [Lib.join_cons, Lib.joinTail, List.append_assoc]
theorem lens_le : ∀ (vs : List ByteArray), (∀ x ∈ vs, x.size ≤ 8000002) → Lib.lens (vs.map (·.data.toList)) ≤ vs.length * 8000002
  | [], _ => by simp [Lib.lens]
  | x :: r, h => by
    have h1 := lens_le r (fun y hy => h y (by simp [hy]))
    have h2 := h x (by simp)
    have h3 := len_list x
    simp only [Lib.lens, List.map_cons, List.sum_cons, List.length_cons] at h1 ⊢
    omega
theorem join_len (vs : List ByteArray) (sep : ByteArray) (hp : sep.size ≤ 4) (h : vs.length ≤ 1000) (hs : ∀ x ∈ vs, x.size ≤ 8000002) : (Lib.join (vs.map (·.data.toList)) sep.data.toList).length ≤ 140737488355328 := by
  cases vs with
  | nil => simp [Lib.join_nil]
  | cons x r =>
    rw [List.map_cons, Lib.join_cons, List.length_append, Lib.joinTail_length]
    have h1 := lens_le r (fun y hy => hs y (by simp [hy]))
    have h2 := hs x (by simp)
    have h3 := len_list x
    have h4 := len_list sep
    rw [List.length_cons] at h
    rw [List.length_map, h4]
    have h5 : sep.size * r.length ≤ 4 * 1000 := Nat.mul_le_mul hp (by omega)
    have h6 : r.length * sep.size ≤ 1000 * 4 := Nat.mul_le_mul (by omega) hp
    omega
theorem line_size {c : ByteArray × ByteArray} (h : c.1.size ≤ 2000000 ∧ c.2.size ≤ 2000000) : (lineS c).size ≤ 4000002 := by
  unfold lineS
  rw [ByteArray.size_append, ByteArray.size_append, show colon.size = 2 from rfl]; omega
theorem texts_one (w : World) (B : Nat) (X : ByteArray) (h : B ≤ w.heap.size) : textsIn (w.alloc (.cells #[.string X] 9)) B (.slice (some ⟨w.heap.size, 0, none⟩) 1 1) [X] :=
  ⟨rfl, .inr ⟨w.heap.size, 1, #[.string X], rfl, h, by show (w.heap.push _)[w.heap.size]? = _; simp, Nat.le_refl _, by decide, rfl, rfl⟩⟩

set_option maxRecDepth 20000 in
set_option maxHeartbeats 3200000 in
theorem joinHead_any (a : Option Addr) (ca : Nat) (l : List (ByteArray × ByteArray)) (g0 : Nat) (X Y Z : ByteArray) (w : World) (lo hi : Nat)
    (hX : w.cell? ⟨g0, 0, none⟩ = some (.string X)) (hY : w.cell? ⟨g0, 1, none⟩ = some (.string Y)) (hZ : w.cell? ⟨g0, 2, none⟩ = some (.string Z)) (hs : X.size + Y.size + Z.size ≤ 8000000)
    (hl : l.length ≤ 40) (hz : SzF l) (ha : FV w a l lo hi) :
    Calls Tryz.prog 142 #[.slice a l.length ca, .slice (some ⟨g0, 0, none⟩) 3 3] w fun e w' => e = .returned (.string (headS (spc3 X Y Z) l)) ∧ Below w.heap.size w w' := by
  have hg0 := World.block_lt_of_cell? _ _ hX
  have HJ1 := Tryz.strings_Join g0 0 3 [X, Y, Z] ⟨#[32]⟩ w (fun j x h => by
    match j, h with
    | 0, h => cases h; exact hX
    | 1, h => cases h; exact hY
    | 2, h => cases h; exact hZ) hg0 (by simp) (by simp) (join_len [X, Y, Z] _ (by decide) (by simp) (fun x hx => by simp at hx; rcases hx with rfl | rfl | rfl <;> omega))
  rw [show (⟨#[32]⟩ : ByteArray).data.toList = [32] from rfl, spc3_join] at HJ1
  have HJ : Hid (Calls Tryz.prog 83 #[.slice (some ⟨g0, 0, none⟩) 3 3, .string ⟨#[32]⟩] w fun e w' => e = .returned (.string (spc3 X Y Z)) ∧ Below w.heap.size w w') := HJ1
  have hF : (spc3 X Y Z).size ≤ 8000002 := by rw [spc3_size]; omega
  generalize spc3 X Y Z = F at HJ hF ⊢
  clear HJ1 hX hY hZ hs
  have HFin : Hid (∀ (v : Value) (wr : World), textsIn wr wr.heap.size v [] → True) := fun _ _ _ => trivial
  have c2 : (⟨#[13, 10]⟩ : ByteArray).size = 2 := rfl
  have c3 : (⟨#[58, 32]⟩ : ByteArray).size = 2 := rfl
  -- what is joined at the end
  have HE : Hid (∀ (wr : World) (g c : Nat), (∀ j x, (F :: l.map lineS)[j]? = some x → wr.cell? ⟨g, j, none⟩ = some (.string x)) → g < wr.heap.size → l.length + 1 ≤ c →
      Calls Tryz.prog 83 #[.slice (some ⟨g, 0, none⟩) (l.length + 1 : Nat) c, .string ⟨#[13, 10]⟩] wr fun e w' => (∃ J : ByteArray, e = .returned (.string J) ∧ J ++ ⟨#[13, 10]⟩ ++ ⟨#[13, 10]⟩ = headS F l ∧ J.size ≤ 140737488355328) ∧ Below wr.heap.size wr w') := by
    intro wr g c hc hg hcl
    have hsz : ∀ x ∈ F :: l.map lineS, x.size ≤ 8000002 := by
      intro x hx
      rcases List.mem_cons.1 hx with rfl | hx
      · exact hF
      · obtain ⟨c, hc, rfl⟩ := List.mem_map.1 hx
        have := line_size (hz c hc); omega
    have hn : (F :: l.map lineS).length = l.length + 1 := by simp
    have hj := join_len (F :: l.map lineS) ⟨#[13, 10]⟩ (by decide) (by omega) hsz
    have h := Tryz.strings_Join g 0 c (F :: l.map lineS) ⟨#[13, 10]⟩ wr (fun j x h => by rw [Nat.zero_add]; exact hc j x h) hg (by omega) (by omega) hj
    rw [hn] at h
    refine h.mono ?_
    rintro e w' ⟨rfl, hb⟩
    refine ⟨⟨_, rfl, head_join F l, ?_⟩, hb⟩
    show (Lib.join _ _).toArray.size ≤ _
    simpa using hj
  by_cases h0 : l = []
  · subst h0
    go_enter Tryz.func142, Tryz.ntmps142
    go_wp2_with fail
    refine (Calls.mono HJ.out ?_)
    rintro e w1 ⟨rfl, hb1⟩
    go_wp2_with fail
    go_loopw [5, 13] (fun v i wr => i = .int .i64 0 ∧ textsIn wr w1.heap.size v [F] ∧ Below w1.heap.size w1 wr) (fun _ _ _ => 0)
    case atStart => exact ⟨rfl, texts_one w1 _ F (Nat.le_refl _), (Below.refl _ _).alloc (Nat.le_refl _) _⟩
    case round =>
      obtain ⟨rfl, hown, hbel⟩ := hrel
      obtain ⟨a1, c1, rfl, hlc, _, hne⟩ := textsIn.form hown
      obtain ⟨g, rfl, _, hg⟩ := hne (by simp)
      have hb2 := hb1.trans (hbel.mono hb1.size)
      have HE1 := HE.out wr g c1 (fun j x h => textsIn.at hown j x (by simpa using h)) hg (by simpa using hlc)
      go_wp2_with fail
      refine (Calls.mono HE1 ?_)
      rintro e w3 ⟨⟨J, rfl, hJ, hJs⟩, hb3⟩
      have hb4 := hb2.trans (hb3.mono hb2.size)
      have q1 : ¬ 9223372036854775807 < J.size + (⟨#[13, 10]⟩ : ByteArray).size := by rw [c2]; omega
      have q2 : ¬ 9223372036854775807 < (J ++ (⟨#[13, 10]⟩ : ByteArray)).size + (⟨#[13, 10]⟩ : ByteArray).size := by rw [ByteArray.size_append, c2]; omega
      go_wp2_with fail
      go_ret
      exact ⟨by first | rfl | exact ret_str hJ, hb4⟩
  rcases ha with ha | ⟨g, rfl, _, _, ga⟩
  · exact absurd ha h0
  have GA : Hid (RowF w g l) := ga
  clear ga
  go_enter Tryz.func142, Tryz.ntmps142
  go_wp2_with fail
  refine (Calls.mono HJ.out ?_)
  rintro e w1 ⟨rfl, hb1⟩
  have GA1 : Hid (RowF w1 g l) := GA.out.below hb1
  go_wp2_with fail
  go_loopw [5, 13] (fun v i wr => ∃ k : Nat, k ≤ l.length ∧ i = .int .i64 k ∧ textsIn wr w1.heap.size v (F :: (l.take k).map lineS) ∧ Below w1.heap.size w1 wr) (fun _ i _ => l.length - (intOf i).toNat)
  case atStart => exact ⟨0, Nat.zero_le _, rfl, texts_one w1 _ F (Nat.le_refl _), (Below.refl _ _).alloc (Nat.le_refl _) _⟩
  case round =>
    obtain ⟨k, hk, rfl, hown, hbel⟩ := hrel
    by_cases hlt : k < l.length
    · obtain ⟨k1, k2⟩ := (GA1.out.below hbel).2.2 k l[k] (List.getElem?_eq_getElem hlt)
      obtain ⟨z1, z2⟩ := hz l[k] (List.getElem_mem hlt)
      have htk : F :: (l.take (k + 1)).map lineS = (F :: (l.take k).map lineS) ++ [lineS l[k]] := by rw [List.take_succ_eq_append_getElem hlt, List.map_append]; rfl
      have HTK : Hid _ := htk
      have hlen : (F :: (l.take k).map lineS).length ≤ 41 := by simp; omega
      clear htk
      unfold lineS colon at HTK
      generalize F :: (l.take k).map (fun c => c.1 ++ (⟨#[58, 32]⟩ : ByteArray) ++ c.2) = acc0 at HTK
      have HTK' : Hid (F :: (l.take (k + 1)).map lineS = (F :: (l.take k).map lineS) ++ [l[k].1 ++ ⟨#[58, 32]⟩ ++ l[k].2]) := by
        show _ = _; rw [List.take_succ_eq_append_getElem hlt, List.map_append]; rfl
      clear HTK
      generalize l[k] = c at *
      obtain ⟨X, Y⟩ := c
      dsimp only at k1 k2 z1 z2 HTK'
      have q1 : ¬ 9223372036854775807 < X.size + (⟨#[58, 32]⟩ : ByteArray).size := by rw [c3]; omega
      have e1 : (X ++ (⟨#[58, 32]⟩ : ByteArray)).size = X.size + 2 := by rw [ByteArray.size_append, c3]
      have q2 : ¬ 9223372036854775807 < (X ++ (⟨#[58, 32]⟩ : ByteArray)).size + Y.size := by rw [e1]; omega
      have hB := hbel.size
      have hown1 := hown.alloc (.cells #[.string X, .string Y] 108)
      have hbel1 := hbel.alloc hbel.size (.cells #[.string X, .string Y] 108)
      have hB1 := hbel1.size
      generalize (F :: (l.take k).map lineS) = acc at *
      clear hown hbel e1
      go_wp2_with (at_builtin; go_loud (refine wpList_append_text (wr.alloc (.cells #[.string X, .string Y] 108)) rfl _ _ rfl w1.heap.size _ acc (by rfl) hown1 _ 1 (by rw [World.size_alloc]; rfl) ?q3 hB1 w1.heap.size (Nat.le_refl _) w1 hbel1 ?_))
      case q3 => omega
      intro v' w6 hown6 hbel6
      go_wp2_with fail
      go_roundw
      case rel => exact ⟨k + 1, by omega, by go_num, by rw [HTK'.out]; exact hown6, hbel6⟩
      case measure => simp [intOf]; omega
    · obtain rfl : k = l.length := by omega
      rw [List.take_length] at hown
      obtain ⟨a1, c1, rfl, hlc, _, hne⟩ := textsIn.form hown
      obtain ⟨g1, rfl, _, hg⟩ := hne (by simp)
      have hn : (F :: l.map lineS).length = l.length + 1 := by simp
      have hb2 := hb1.trans (hbel.mono hb1.size)
      have HE1 : Hid _ := HE.out wr g1 c1 (fun j x h => textsIn.at hown j x h) hg (by omega)
      rw [hn]
      go_wp2_with fail
      refine (Calls.mono HE1.out ?_)
      rintro e w3 ⟨⟨J, rfl, hJ, hJs⟩, hb3⟩
      have hb4 := hb2.trans (hb3.mono hb2.size)
      have q1 : ¬ 9223372036854775807 < J.size + (⟨#[13, 10]⟩ : ByteArray).size := by rw [c2]; omega
      have q2 : ¬ 9223372036854775807 < (J ++ (⟨#[13, 10]⟩ : ByteArray)).size + (⟨#[13, 10]⟩ : ByteArray).size := by rw [ByteArray.size_append, c2]; omega
      go_wp2_with fail
      go_ret
      exact ⟨by first | rfl | exact ret_str hJ, hb4⟩

end Go.Proofs.YtfgcgnhffljiaaaGreatDoor.Rqb
