/-
  Walks: laws' sameSpans, sameTexts; what FnSpans counts.
-/
import Derived.Test.YtelpmkbjegimpaaSqz
import Derived.Test.YtelpmkbjegimpaaDsp
import Derived.Test.YtelpmkbjegimpaaMrk
import Derived.Laws.StructEq
import Derived.Laws.RangeString
namespace Go.Proofs.Ytelpmkbjegimpaa.Fsp
open Go.RowKit
open Go.Proofs.Ytelpmkbjegimpaa.Spb
open Go.Proofs.Ytelpmkbjegimpaa.Spp
open Go.Proofs.Ytelpmkbjegimpaa.Mrk (TV RowT)

set_option maxHeartbeats 1600000 in
theorem sameSpans_any (a b : Option Addr) (ca cb : Nat) (l : List (Int × Int)) (w : World) (lo hi lo' hi' : Nat) (hl : l.length ≤ 2000000) (ha : PV w a l lo hi) (hb : PV w b l lo' hi') :
    Calls Try.prog 11 #[.slice a l.length ca, .slice b l.length cb] w fun e w' => e = .returned (.bool true) ∧ Below w.heap.size w w' := by
  have HA : Hid (PV w a l lo hi) := ha
  have HB : Hid (PV w b l lo' hi') := hb
  clear ha hb
  go_enter Try.func11, Try.ntmps11
  go_wp2_with fail
  go_loopw [13] (fun i wr => ∃ k : Nat, k ≤ l.length ∧ i = .int .i64 k ∧ Hid (Below w.heap.size w wr)) (fun i _ => l.length - (intOf i).toNat)
  case atStart => exact ⟨0, by omega, rfl, Below.refl _ _⟩
  case round =>
    obtain ⟨k, hk, rfl, HW⟩ := hrel
    by_cases hlt : k < l.length
    · obtain ⟨g, rfl, _, c0, c1⟩ := row_at (HA.out.below HW.out) hlt
      obtain ⟨g', rfl, _, d0, d1⟩ := row_at (HB.out.below HW.out) hlt
      obtain ⟨F, T, hFT⟩ : ∃ F T, l[k] = (F, T) := ⟨_, _, rfl⟩
      rw [hFT] at c0 c1 d0 d1
      dsimp only at c0 c1 d0 d1
      clear hFT
      go_wp2_with fail
      go_quiet (fail)
      go_wp2_with fail
      refine ⟨⟨k + 1, by omega, by go_num, bdrewN HW.out _⟩, ?_⟩
      simp [intOf]; omega
    · go_wp2_with fail
      go_ret
      exact ⟨rfl, HW.out⟩

set_option maxHeartbeats 1600000 in
theorem sameTexts_any (a b : Option Addr) (ca cb : Nat) (l : List ByteArray) (w : World) (lo hi lo' hi' : Nat) (hl : l.length ≤ 2000000) (ha : TV w a l lo hi) (hb : TV w b l lo' hi') :
    Calls Try.prog 16 #[.slice a l.length ca, .slice b l.length cb] w fun e w' => e = .returned (.bool true) ∧ Below w.heap.size w w' := by
  have HA : Hid (TV w a l lo hi) := ha
  have HB : Hid (TV w b l lo' hi') := hb
  clear ha hb
  go_enter Try.func16, Try.ntmps16
  go_wp2_with fail
  go_loopw [13] (fun i wr => ∃ k : Nat, k ≤ l.length ∧ i = .int .i64 k ∧ Hid (Below w.heap.size w wr)) (fun i _ => l.length - (intOf i).toNat)
  case atStart => exact ⟨0, by omega, rfl, Below.refl _ _⟩
  case round =>
    obtain ⟨k, hk, rfl, HW⟩ := hrel
    by_cases hlt : k < l.length
    · obtain ⟨g, rfl, hgl, c0⟩ : ∃ g, a = some ⟨g, 0, none⟩ ∧ g < w.heap.size ∧ w.cell? ⟨g, k, none⟩ = some (.string l[k]) := by
        rcases HA.out with h | ⟨g, h1, _, _, h4⟩
        · rw [h] at hlt; simp at hlt
        · exact ⟨g, h1, h4.1, h4.2.2 k _ (List.getElem?_eq_getElem hlt)⟩
      obtain ⟨g', rfl, hgl', d0⟩ : ∃ g, b = some ⟨g, 0, none⟩ ∧ g < w.heap.size ∧ w.cell? ⟨g, k, none⟩ = some (.string l[k]) := by
        rcases HB.out with h | ⟨g, h1, _, _, h4⟩
        · rw [h] at hlt; simp at hlt
        · exact ⟨g, h1, h4.1, h4.2.2 k _ (List.getElem?_eq_getElem hlt)⟩
      have c1 := (HW.out.cell (p := ⟨g, k, none⟩) hgl).trans c0
      have d1 := (HW.out.cell (p := ⟨g', k, none⟩) hgl').trans d0
      clear c0 d0
      generalize l[k] = T at c1 d1
      go_wp2_with fail
      go_quiet (fail)
      go_wp2_with fail
      refine ⟨⟨k + 1, by omega, by go_num, bdrewN HW.out _⟩, ?_⟩
      simp [intOf]; omega
    · go_wp2_with fail
      go_ret
      exact ⟨rfl, HW.out⟩

/-- The place of the iterator in a block. -/
def iterAt (w : World) (g : Nat) : Nat := match w.heap[g]? with
  | some (.stringIter _ pos) => pos
  | _ => 0
theorem iterAt_iter (w : World) (B : ByteArray) (k g : Nat) (h : w.heap.size = g) : iterAt (w.iter B k) g = k := by
  unfold iterAt
  rw [← h, World.iter_heap]
theorem alpha_small (m : Nat) (hm : m ≤ 26) : (Cur.alpha.extract 0 m).size ≤ 26 ∧ ∀ k, (h : k < (Cur.alpha.extract 0 m).size) → (Cur.alpha.extract 0 m)[k].toNat < 128 := by
  have ha : ∀ i, (h : i < Cur.alpha.size) → Cur.alpha[i].toNat < 128 := by decide
  have hz : Cur.alpha.size = 26 := by decide
  refine ⟨by rw [ByteArray.size_extract]; omega, fun k h => ?_⟩
  rw [ByteArray.getElem_extract]
  exact ha _ _
/-- How many places of two texts are alike. -/
def alike (B C : ByteArray) (k : Nat) : Nat := (List.range k).countP (fun x => decide (B.data.getD x 0 = C.data.getD x 0))
theorem alike_more (B C : ByteArray) (k : Nat) : alike B C (k + 1) = alike B C k + (if B.data.getD k 0 = C.data.getD k 0 then 1 else 0) := by
  unfold alike
  rw [List.range_succ, List.countP_append, List.countP_singleton]
  by_cases h : B.data.getD k 0 = C.data.getD k 0
  · rw [if_pos h, if_pos (decide_eq_true h)]
  · rw [if_neg h, if_neg (by rw [decide_eq_false h]; decide)]
theorem alike_le (B C : ByteArray) (k : Nat) : alike B C k ≤ k := by
  unfold alike
  exact Nat.le_trans List.countP_le_length (by simp)
theorem alike_covers {B C : ByteArray} {l : List (Int × Int)} {n : Nat} (h : withinL l (n : Int) = true) (hc : ∀ x, x < n → covB l x = true → B.data.getD x 0 = C.data.getD x 0) : coverN l ≤ ((alike B C n : Nat) : Int) := by
  refine Int.le_trans (cover_count h) ?_
  unfold alike
  refine Int.ofNat_le.2 (List.countP_mono_left fun x hx hp => ?_)
  rw [List.mem_range] at hx
  exact decide_eq_true (hc x hx hp)
theorem cutL_bd (body : ByteArray) (l : List (Int × Int)) (hb : body.size ≤ 26) : (cutL body l).length ≤ l.length ∧ ∀ p ∈ cutL body l, p.size ≤ 26 := by
  unfold cutL
  split
  · refine ⟨by simp, fun p hp => ?_⟩
    rw [List.mem_map] at hp
    obtain ⟨c, _, rfl⟩ := hp
    rw [ByteArray.size_extract]; omega
  · exact ⟨by simp, fun p hp => by cases hp⟩
theorem cut_parts {body : ByteArray} {l : List (Int × Int)} (h : cutB body l = true) : withinL l (body.size : Int) = true ∧ goodL l = true := by
  unfold cutB at h
  rw [Bool.and_eq_true] at h
  exact ⟨h.2, (withinL_parts h.2).1⟩

end Go.Proofs.Ytelpmkbjegimpaa.Fsp
