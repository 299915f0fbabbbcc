/-
  Walks: internal/strconv.formatBits, FormatInt, strconv.FormatInt at base 16.
-/
import Derived.Test.YtimfcbjgoilnpaaDoorHxt
namespace Go.Proofs.YtimfcbjgoilnpaaDoor.Hxf
open Go.RowKit
open Go.Proofs.YtimfcbjgoilnpaaDoor.Hxt

/-- The array that the digits are written into, from behind. -/
def Arr (w : World) (B k : Nat) (rest : List UInt8) : Prop :=
  k + rest.length = 65 ∧ B < w.heap.size ∧ (∀ i, w.frozen? ⟨B, i, none⟩ = false) ∧ (∀ j, j < 65 → ∃ z : Int, w.cell? ⟨B, j, none⟩ = some (.int .u8 z)) ∧ ∀ j x, rest[j]? = some x → w.cell? ⟨B, k + j, none⟩ = some (.int .u8 (x.toNat : Int))
theorem Arr.step {w : World} {B k : Nat} {rest : List UInt8} (h : Arr w B (k + 1) rest) (c : UInt8) : Arr (w.setCell ⟨B, k, none⟩ (.int .u8 (c.toNat : Int))) B k (c :: rest) := by
  obtain ⟨h1, h2, h3, h4, h5⟩ := h
  refine ⟨by simp; omega, by simpa [World.setCell] using h2, fun i => by simp [go_sem, h3], fun j hj => ?_, fun j x hj => ?_⟩
  · by_cases e : j = k
    · subst e
      obtain ⟨z, hz⟩ := h4 j hj
      exact ⟨_, World.cell?_setCell_same _ _ _ hz⟩
    · obtain ⟨z, hz⟩ := h4 j hj
      exact ⟨z, by rw [World.cell?_setCell_other _ _ _ _ (by simp)]; exact hz⟩
  · cases j with
    | zero =>
      have : c = x := by simpa using hj
      subst this
      obtain ⟨z, hz⟩ := h4 k (by omega)
      exact World.cell?_setCell_same _ _ _ hz
    | succ j =>
      rw [World.cell?_setCell_other _ _ _ _ (by simp), show k + (j + 1) = k + 1 + j by omega]
      exact h5 j x (by simpa using hj)
theorem Arr.made (w : World) : Arr (w.alloc (.cells Tryd.zeroCells93 93)) w.heap.size 65 [] := by
  refine ⟨rfl, by simp, fun i => World.frozen?_alloc_at _ _ _ i rfl, fun j hj => ⟨0, ?_⟩, fun j x hj => by simp at hj⟩
  rw [World.cell?_alloc_mark]
  rw [show Tryd.zeroCells93 = Array.replicate 65 (.int .u8 0) by kernel_rfl, Array.getElem?_replicate, if_pos hj]
theorem Arr.text {w : World} {B k : Nat} {rest : List UInt8} (h : Arr w B k rest) (c : Nat) : (convert 48 9 (.slice (some ⟨B, k, none⟩) rest.length c)).run Tryd.prog w = .ok (.string ⟨rest.toArray⟩) w := by
  refine run_convert_bytes_back _ 48 9 5 ⟨B, k, none⟩ c rest Tryd.underlying48 Tryd.underlying5 Tryd.underlying9 (fun j hj => ?_)
  rw [Addr.add_lit]
  exact h.2.2.2.2 j _ (List.getElem?_eq_getElem hj)

set_option maxRecDepth 20000 in
set_option maxHeartbeats 1600000 in
theorem formatBits_any (n : Nat) (hn : n < 65536) (w : World) (hT : w.cell? ⟨3, 15, none⟩ = some (.int .u8 4)) :
    Calls Tryd.prog 73 #[.slice none 0 0, .int .u64 n, .int .i64 16, .bool false, .bool false] w fun e w' => e = .returned (.tuple #[.slice none 0 0, .string ⟨(hexT n).toArray⟩]) ∧ Below w.heap.size w w' := by
  have hlt0 := World.block_lt_of_cell? w _ hT
  have hT1 : (w.alloc (.cells Tryd.zeroCells93 93)).cell? ⟨3, 15, none⟩ = some (.int .u8 4) := by rw [World.cell?_alloc_past _ _ _ hlt0]; exact hT
  have HA0 : Hid _ := Arr.made w
  have HB0 : Hid (Below w.heap.size w (w.alloc (.cells Tryd.zeroCells93 93))) := (Below.refl _ _).alloc (Nat.le_refl _) _
  go_enter Tryd.func73, Tryd.ntmps73
  go_wp2_with (first
    | (go_at_call 77; refine (isPow_any _).mono ?_; rintro e w1 ⟨rfl, hw⟩; obtain rfl := hw.symm)
    | (go_at_call 78; refine (tz_any _ hT1).mono ?_; rintro e w1 ⟨rfl, hw⟩; obtain rfl := hw.symm))
  go_loopw [1, 13] (fun u i wr => ∃ (m k : Nat) (rest : List UInt8), u = .int .u64 m ∧ i = .int .i64 k ∧ rest.length ≤ 3 ∧ m < 16 ^ (4 - rest.length) ∧ Hid (Arr wr w.heap.size k rest) ∧ Below w.heap.size w wr ∧ Hid (hexT n = hexT m ++ rest))
    (fun u _ _ => (intOf u).toNat)
  case atStart => exact ⟨n, 65, [], rfl, rfl, by simp, by simpa using hn, HA0, HB0.out, by show _ = _; simp⟩
  case round =>
    obtain ⟨m, k, rest, rfl, rfl, hl, hm, HA, hbel, HX⟩ := hrel
    have hk := HA.out.1
    obtain ⟨k, rfl⟩ : ∃ k', k = k' + 1 := ⟨k - 1, by omega⟩
    have hm6 : m < 65536 := Nat.lt_of_lt_of_le hm (Nat.le_trans (Nat.pow_le_pow_right (by omega) (show 4 - rest.length ≤ 4 by omega)) (by decide))
    obtain ⟨z, hz⟩ := HA.out.2.2.2.1 k (by omega)
    have hf := HA.out.2.2.1 k
    by_cases h16 : 16 ≤ m
    · have ha := and15 m hm6
      have he := dig_get (m % 16) (by omega) (show m % 16 < 36 by omega)
      have hl3 : rest.length ≤ 2 := by
        rcases Nat.lt_or_ge rest.length 3 with h | h
        · omega
        · have : rest.length = 3 := by omega
          rw [this] at hm; simp at hm; omega
      have HX' : Hid (hexT n = hexT (m / 16) ++ (hd (m % 16) :: rest)) := by
        show _ = _
        rw [HX.out, hexT_more (by omega), List.append_assoc]; rfl
      have hm' : m / 16 < 16 ^ (4 - (rest.length + 1)) := by
        rw [show 4 - rest.length = (4 - (rest.length + 1)) + 1 by omega, Nat.pow_succ] at hm
        omega
      go_wp2_with fail
      refine ⟨⟨m / 16, k, hd (m % 16) :: rest, by go_num, rfl, by simp; omega, hm', HA.out.step _, hbel.setCell (Nat.le_refl _) _, HX'⟩, ?_⟩
      simp [intOf]; omega
    · have he := dig_get m (by omega) (show m < 36 by omega)
      have HS := HA.out.step (hd m)
      have hsl : ∀ W, (Instr.sliceAt 93 (.pointer (some ⟨w.heap.size, 0, none⟩)) (some (.int .i64 k)) none none).run Tryd.prog W = .ok (.slice (some ⟨w.heap.size, k, none⟩) (rest.length + 1) (rest.length + 1)) W := fun W => by
        have hal : Tryd.prog.arrayLen 93 = 65 := by kernel_rfl
        rw [run_sliceAt_array_l W 93 ⟨w.heap.size, 0, none⟩ (by kernel_rfl) .i64 (k : Int) (by omega) (by rw [hal]; omega)]
        go_simp
        omega
      have hcv := HS.text (rest.length + 1)
      rw [List.length_cons] at hcv
      have HR : Hid (hexT n = hd m :: rest) := by
        show _ = _
        rw [HX.out, hexT_one (by omega)]; rfl
      have hb := hbel.setCell (p := ⟨w.heap.size, k, none⟩) (Nat.le_refl _) (.int .u8 ((hd m).toNat : Int))
      clear HS
      go_wp2_with fail
      go_ret2
      exact ⟨by rw [HR.out]; rfl, hb⟩

theorem intFormat_any (n : Nat) (hn : n < 65536) (w : World) (hT : w.cell? ⟨3, 15, none⟩ = some (.int .u8 4)) :
    Calls Tryd.prog 62 #[.int .i64 n, .int .i64 16] w fun e w' => e = .returned (.string ⟨(hexT n).toArray⟩) ∧ Below w.heap.size w w' := by
  have HF0 := fun wx hx => formatBits_any n hn wx hx
  have HF : Hid _ := HF0
  clear HF0
  have hd : decide ((n : Int) < 0) = false := decide_eq_false (by omega)
  generalize hexT n = l at HF
  go_enter Tryd.func62, Tryd.ntmps62
  go_wp2_with (go_at_call 73; refine (HF.out _ hT).mono ?_; rintro e w1 ⟨rfl, hb1⟩)
  go_ret
  exact ⟨rfl, hb1⟩

theorem format_any (n : Nat) (hn : n < 65536) (w : World) (hT : w.cell? ⟨3, 15, none⟩ = some (.int .u8 4)) :
    Calls Tryd.prog 49 #[.int .i64 n, .int .i64 16] w fun e w' => e = .returned (.string ⟨(hexT n).toArray⟩) ∧ Below w.heap.size w w' := by
  have HF0 := fun wx hx => intFormat_any n hn wx hx
  have HF : Hid _ := HF0
  clear HF0
  generalize hexT n = l at HF
  go_enter Tryd.func49, Tryd.ntmps49
  go_wp2_with (go_at_call 62; refine (HF.out _ hT).mono ?_; rintro e w1 ⟨rfl, hb1⟩)
  go_ret
  exact ⟨rfl, hb1⟩

end Go.Proofs.YtimfcbjgoilnpaaDoor.Hxf
