/-
  Walks: laws' toStringS: an argument []string copied.
-/
import Derived.Test.YtelpmkbjegimpaaSts
import Derived.Deep.OwnRows
namespace Go.Proofs.Ytelpmkbjegimpaa.Sts
open Go.RowKit
open Go.Proofs.Ytelpmkbjegimpaa.Fbs
open Go.Proofs.Ytelpmkbjegimpaa.Ows
open Go.Proofs.Ytelpmkbjegimpaa.Mrk (TV RowT)

/-- A row of texts of the call's own, j of n laid. -/
def PartT (w : World) (g j : Nat) (l : List ByteArray) : Prop := g < w.heap.size ∧ (∀ i, w.frozen? ⟨g, i, none⟩ = false) ∧ (∀ i, (hi : i < l.length) → i < j → w.cell? ⟨g, i, none⟩ = some (.string l[i])) ∧ ∀ i, j ≤ i → i < l.length → ∃ x, w.cell? ⟨g, i, none⟩ = some (.string x)
theorem PartT.made (w : World) (l : List ByteArray) : PartT (w.alloc (.cells (madeCells #[.string ⟨#[]⟩] l.length) 9)) w.heap.size 0 l := by
  refine ⟨by simp, fun i => World.frozen?_alloc_at _ 9 _ i rfl, fun i _ h => absurd h (by omega), fun i _ hi => ⟨⟨#[]⟩, ?_⟩⟩
  rw [World.cell?_alloc_mark]
  simp [madeCells, hi, Nat.mod_one]
theorem PartT.step {w : World} {g j : Nat} {l : List ByteArray} (h : PartT w g j l) (hj : j < l.length) : PartT (w.setCell ⟨g, j, none⟩ (.string l[j])) g (j + 1) l := by
  obtain ⟨h1, h2, h3, h4⟩ := h
  obtain ⟨x0, hx0⟩ := h4 j (Nat.le_refl _) hj
  refine ⟨by simpa [World.setCell] using h1, fun i => by simp [go_sem, h2], fun i hi hij => ?_, fun i hi hn => ?_⟩
  · by_cases he : i = j
    · subst he; simp [go_sem, hx0]
    · have := h3 i hi (by omega)
      rw [← this]
      simp [go_sem]
  · obtain ⟨x, hx⟩ := h4 i (by omega) hn
    refine ⟨x, ?_⟩
    rw [← hx]
    simp [go_sem]
theorem PartT.row {w : World} {g : Nat} {l : List ByteArray} (h : PartT w g l.length l) : RowT w g l := by
  refine ⟨h.1, h.2.1, fun i x hx => ?_⟩
  obtain ⟨hi, rfl⟩ := List.getElem?_eq_some_iff.1 hx
  exact h.2.2.1 i hi hi

set_option maxRecDepth 20000 in
set_option maxHeartbeats 800000 in
theorem toStringS_any (a : Option Addr) (ca : Nat) (l : List ByteArray) (w : World) (hl : l.length ≤ 1048576) (ha : AV w a l) :
    Calls Try.prog 28 #[.slice a l.length ca] w fun e w' => e = .returned (.slice (some ⟨w.heap.size, 0, none⟩) l.length l.length) ∧ TV w' (some ⟨w.heap.size, 0, none⟩) l w.heap.size w'.heap.size ∧ Below w.heap.size w w' := by
  have hmk : (Instr.makeSlice 35 (.int .i64 (l.length : Int)) (.int .i64 (l.length : Int))).run Try.prog w = .ok (.slice (some ⟨w.heap.size, 0, none⟩) l.length l.length) (w.alloc (.cells (madeCells #[.string ⟨#[]⟩] l.length) 9)) := run_make_row' (P := Try.prog) 35 9 (.string ⟨#[]⟩) 16 Try.underlying35 info9 rfl .i64 .i64 l.length (by omega) (by omega) w
  have HP0 : Hid _ := PartT.made w l
  have hB0 : Below w.heap.size w (w.alloc (.cells (madeCells #[.string ⟨#[]⟩] l.length) 9)) := (Below.refl _ _).alloc (Nat.le_refl _) _
  generalize w.alloc (.cells (madeCells #[.string ⟨#[]⟩] l.length) 9) = wm at hmk HP0 hB0
  by_cases h0 : l = []
  · subst h0
    have hmk : (Instr.makeSlice 35 (.int .i64 0) (.int .i64 0)).run Try.prog w = .ok (.slice (some ⟨w.heap.size, 0, none⟩) 0 0) wm := hmk
    go_enter Try.func28, Try.ntmps28
    go_wp2_with fail
    go_loop [4] (fun i => i = .int .i64 0) (fun _ => 0)
    case atStart => rfl
    case round =>
      obtain rfl := hrel
      go_wp2_with fail
      go_ret
      exact ⟨rfl, .inl rfl, hB0⟩
  rcases ha with ha | ⟨ad, rfl, hadb, ga⟩
  · exact absurd ha h0
  have GA : Hid (AV w (some ad) l) := .inr ⟨ad, rfl, hadb, ga⟩
  clear ga
  go_enter Try.func28, Try.ntmps28
  go_wp2_with fail
  go_loopw [4] (fun i wr => ∃ k : Nat, i = .int .i64 k ∧ k ≤ l.length ∧ Hid (PartT wr w.heap.size k l) ∧ Below w.heap.size w wr) (fun i _ => l.length - (intOf i).toNat)
  case atStart => exact ⟨0, rfl, Nat.zero_le _, HP0, hB0⟩
  case round =>
    obtain ⟨k, rfl, hk, HP, hbel⟩ := hrel
    by_cases hlt : k < l.length
    · have hc : wr.cell? (ad.add k) = some (.string l[k]) := by
        rcases GA.out.below hbel with h | ⟨ad', h1, _, h3⟩
        · exact absurd h h0
        · cases h1; exact h3 k l[k] (List.getElem?_eq_getElem hlt)
      have HP' : Hid (PartT (wr.setCell ⟨w.heap.size, k, none⟩ (.string l[k])) w.heap.size (k + 1) l) := HP.out.step hlt
      have hbel' := hbel.setCell (p := ⟨w.heap.size, k, none⟩) (Nat.le_refl _) (.string l[k])
      obtain ⟨p1, p2, _, p4⟩ := HP.out
      obtain ⟨x0, hx0⟩ := p4 k (Nat.le_refl _) hlt
      clear p4 HP hmk
      go_wp2_with fail
      go_roundw
      case rel => exact ⟨k + 1, by go_num, by omega, HP', hbel'⟩
      case measure => simp [intOf]; omega
    · obtain rfl : k = l.length := by omega
      have hR := HP.out.row
      go_wp2_with fail
      go_ret
      exact ⟨rfl, .inr ⟨w.heap.size, rfl, Nat.le_refl _, hR.1, hR⟩, hbel⟩

end Go.Proofs.Ytelpmkbjegimpaa.Sts
