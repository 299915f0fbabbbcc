/-
  Walks: addresses that are drawn: spec's (*l1Cur).path, url.
-/
import Derived.Test.YtlgjgdpalflmfaaDoorDrc
import Derived.Test.YtlgjgdpalflmfaaDoorLow
import Derived.Test.YtlgjgdpalflmfaaDoorRsp
namespace Go.Proofs.YtlgjgdpalflmfaaDoor.Cur
open Go.RowKit
open Go.Proofs.YtlgjgdpalflmfaaDoor.Rsp (empty_cmp some_cmp)

/-- A row of bytes of the call's own. -/
def RowB (w : World) (B k : Nat) : Prop := B < w.heap.size ∧ (∀ j, j < k → ∃ c : UInt8, w.cell? ⟨B, j, none⟩ = some (.int .u8 (c.toNat : Int))) ∧ ∀ j, j < k → w.frozen? ⟨B, j, none⟩ = false
theorem RowB.set {w : World} {B k : Nat} (h : RowB w B k) (j : Nat) (c : UInt8) : RowB (w.setCell ⟨B, j, none⟩ (.int .u8 (c.toNat : Int))) B k := by
  obtain ⟨h1, h2, h3⟩ := h
  refine ⟨by simpa [World.setCell] using h1, fun i hi => ?_, fun i hi => by simp [go_sem, h3 i hi]⟩
  obtain ⟨d, hd⟩ := h2 i hi
  by_cases he : i = j
  · subst he; exact ⟨c, by simp [go_sem, hd]⟩
  · refine ⟨d, ?_⟩
    rw [← hd]
    simp [go_sem]
theorem But.later {cb : Nat} {w wr : World} (h : But cb w wr) {B : Nat} (hB : w.heap.size ≤ B) (j : Nat) (u : Value) : But cb w (wr.setCell ⟨B, j, none⟩ u) :=
  ⟨h.1, h.2.1, h.2.2.1, by have := h.2.2.2.1; simpa [World.setCell] using this, fun k hk hc => (Below.heap_setCell _ _ _ _ (by show k ≠ B; omega)).trans (h.2.2.2.2 k hk hc)⟩
theorem row_list {w : World} {B : Nat} : ∀ k, (∀ j, j < k → ∃ c : UInt8, w.cell? ⟨B, j, none⟩ = some (.int .u8 (c.toNat : Int))) → ∃ l : List UInt8, l.length = k ∧ ∀ j (hj : j < l.length), w.cell? ⟨B, j, none⟩ = some (.int .u8 (l[j].toNat : Int))
  | 0, _ => ⟨[], rfl, fun j hj => absurd hj (by simp)⟩
  | k + 1, h => by
    obtain ⟨l, hl, hc⟩ := row_list k (fun j hj => h j (by omega))
    obtain ⟨c, hk⟩ := h k (by omega)
    refine ⟨l ++ [c], by simp [hl], fun j hj => ?_⟩
    by_cases e : j < l.length
    · rw [List.getElem_append_left e]; exact hc j e
    · have : j = k := by simp at hj; omega
      subst this
      rw [List.getElem_append_right (by omega)]
      simpa using hk
theorem row_text {w : World} {B k g : Nat} (h : RowB w B k) : ∃ T : ByteArray, T.size = k ∧ (convert 22 9 (.slice (some ⟨B, 0, none⟩) k g)).run Tryd.prog w = .ok (.string T) w := by
  obtain ⟨l, hl, hc⟩ := row_list k h.2.1
  refine ⟨⟨l.toArray⟩, by show l.toArray.size = k; simp [hl], ?_⟩
  have := run_convert_bytes_back w 22 9 5 ⟨B, 0, none⟩ g l Tryd.underlying22 Tryd.underlying5 Tryd.underlying9 (fun j hj => by
    rw [Addr.add_lit, Nat.zero_add]; exact hc j hj)
  rwa [hl] at this
theorem row_made (s : ByteArray) (w : World) : ∃ g w1, (convert 9 22 (.string s)).run Tryd.prog w = .ok (.slice (some ⟨w.heap.size, 0, none⟩) s.size g) w1 ∧ s.size ≤ g ∧ Below w.heap.size w w1 ∧ RowB w1 w.heap.size s.size := by
  obtain ⟨g, w1, h1, h2, h3, h4, h5, h6⟩ := Low.bytes_of s w
  exact ⟨g, w1, h1, h2, h3, h4, fun j hj => ⟨_, h5 j hj⟩, h6⟩

set_option maxRecDepth 20000 in
set_option maxHeartbeats 6400000 in
theorem path_any (cb : Nat) (v : Value) (n N : Nat) (w : World) (hC : Cursor w cb v n N) (hN : N ≤ 800000000) :
    Calls Tryd.prog 61 #[.pointer (some ⟨cb, 0, none⟩)] w fun e w' => ∃ P : ByteArray, e = .returned (.string P) ∧ P.size ≤ 100 ∧ Cursor w' cb v n (N + 40) ∧ But cb w w' := by
  have hcb : cb < w.heap.size := hC.2.2.1
  have HC0 : Hid _ := hC
  clear hC
  go_enter Tryd.func61, Tryd.ntmps61
  go_wp2_with fail
  refine (pick_at 5 _ rfl cb v n _ _ HC0.out (by omega) (by omega) (by omega)).mono ?_
  rintro e w1 ⟨x1, rfl, hx1, hC1, hb1⟩
  have HC1 : Hid _ := hC1
  have Hb1 : Hid _ := hb1
  clear hC1 hb1
  go_wp2_with fail
  go_loopw [3, 4] (fun sv nv wr => ∃ (A : ByteArray) (m : Nat), sv = .string A ∧ nv = .int .i64 m ∧ m ≤ x1 ∧ A.size + 6 * m ≤ 6 * x1 ∧ Hid (Cursor wr cb v n (N + 2 + 2 * (x1 - m))) ∧ Hid (But cb w wr)) (fun _ nv _ => (intOf nv).toNat)
  case atStart => exact ⟨⟨#[]⟩, x1, rfl, rfl, Nat.le_refl _, by show 0 + _ ≤ _; omega, Cursor.mono HC1.out (by omega), Hb1.out⟩
  case round =>
    obtain ⟨A, m, rfl, rfl, hm, hA, HC, HB⟩ := hrel
    clear HC0 HC1 Hb1
    by_cases h0 : 0 < m
    · have hcr : cb < wr.heap.size := HC.out.2.2.1
      have HCa : Hid _ := Cursor.below HC.out ((Below.refl wr.heap.size wr).alloc (Nat.le_refl _) (.cells (([⟨#[97]⟩, ⟨#[98]⟩, ⟨#[46]⟩, ⟨#[46, 46]⟩, ⟨#[]⟩, ⟨#[37, 52, 49]⟩, ⟨#[37, 50, 102]⟩, ⟨#[120, 46, 121]⟩, ⟨#[99, 32, 100]⟩, ⟨#[37, 55, 69]⟩] : List ByteArray).map Value.string).toArray 9))
      have HBa : Hid _ := But.trans HB.out (But.of_below (cb := cb) ((Below.refl wr.heap.size wr).alloc (Nat.le_refl _) (.cells (([⟨#[97]⟩, ⟨#[98]⟩, ⟨#[46]⟩, ⟨#[46, 46]⟩, ⟨#[]⟩, ⟨#[37, 52, 49]⟩, ⟨#[37, 50, 102]⟩, ⟨#[120, 46, 121]⟩, ⟨#[99, 32, 100]⟩, ⟨#[37, 55, 69]⟩] : List ByteArray).map Value.string).toArray 9)))
      go_wp2_with fail
      refine (of_any cb _ 10 3 v n _ _ HCa.out (by omega) (by omega) (by omega) (by simp) (by omega) (texts_made wr [⟨#[97]⟩, ⟨#[98]⟩, ⟨#[46]⟩, ⟨#[46, 46]⟩, ⟨#[]⟩, ⟨#[37, 52, 49]⟩, ⟨#[37, 50, 102]⟩, ⟨#[120, 46, 121]⟩, ⟨#[99, 32, 100]⟩, ⟨#[37, 55, 69]⟩] 3 (by decide) 9 _ rfl)).mono ?_
      rintro e w2 ⟨x, rfl, hx, hC2, hb2⟩
      have HC2 : Hid _ := hC2
      have HB2 : Hid _ := But.trans HBa.out hb2
      clear hC2 hb2 HCa HBa HC HB
      have hs1 : ¬ 9223372036854775807 < (⟨#[47]⟩ : ByteArray).size + x.size := by show ¬ 9223372036854775807 < 1 + x.size; omega
      have hsz : (⟨#[47]⟩ ++ x : ByteArray).size = 1 + x.size := by rw [ByteArray.size_append]; rfl
      have hs2 : ¬ 9223372036854775807 < A.size + (⟨#[47]⟩ ++ x : ByteArray).size := by omega
      have HZ : Hid ((A ++ (⟨#[47]⟩ ++ x) : ByteArray).size + 6 * (m - 1) ≤ 6 * x1) := by show _ ≤ _; rw [ByteArray.size_append]; omega
      clear hsz
      go_wp2_with fail
      go_roundw
      case rel => exact ⟨_, m - 1, rfl, by go_num, by omega, HZ.out, Cursor.mono HC2.out (by omega), HB2⟩
      case measure => simp [intOf]; omega
    · obtain rfl : m = 0 := by omega
      have hA24 : A.size ≤ 24 := by omega
      clear hA hm
      go_wp2_with fail
      refine (one_at 20 _ rfl cb v n _ _ HC.out (by omega) (by omega) (by omega)).mono ?_
      rintro e w3 ⟨b3, rfl, hC3, hb3⟩
      have HC3 : Hid _ := hC3
      have HB3 : Hid _ := But.trans HB.out hb3
      clear hC3 hb3 HC HB
      cases b3
      · obtain ⟨g, w4, hcv, hg, hb4, hr4⟩ := row_made A w3
        have HR4 : Hid _ := hr4
        have hc3 : cb < w3.heap.size := HC3.out.2.2.1
        have hle : A.size ≤ maxLen := by unfold maxLen; omega
        have HC4 : Hid _ := Cursor.below HC3.out hb4
        have HB4 : Hid _ := But.trans HB3.out (But.of_below (cb := cb) hb4)
        obtain ⟨B, hBe⟩ : ∃ B, B = w3.heap.size := ⟨_, rfl⟩
        have hBw : w.heap.size ≤ B := by rw [hBe]; exact HB3.out.2.2.2.1
        rw [← hBe] at HR4 hcv hc3
        clear hr4 hb4 hBe HC3 HB3
        go_wp2_with fail
        go_loopw [26] (fun iv wr => ∃ j : Nat, iv = .int .i64 j ∧ j ≤ A.size ∧ Hid (RowB wr B A.size) ∧ Hid (Cursor wr cb v n (N + 2 + 2 * (x1 - 0) + 2)) ∧ Hid (But cb w wr)) (fun iv _ => A.size - (intOf iv).toNat)
        case atStart => exact ⟨0, rfl, by omega, HR4, HC4, HB4⟩
        case round =>
          obtain ⟨j, rfl, hj, HR, HC, HB⟩ := hrel
          clear HC4 HB4 HR4
          by_cases hlt : j < A.size
          · obtain ⟨c, hc⟩ := HR.out.2.1 j hlt
            have hf := HR.out.2.2 j hlt
            by_cases h32 : (c.toNat : Int) = 32
            · have hc' : wr.cell? ⟨B, j, none⟩ = some (.int .u8 32) := by rw [← h32]; exact hc
              have HR' : Hid (RowB (wr.setCell ⟨B, j, none⟩ (.int .u8 43)) B A.size) := RowB.set HR.out j 43
              have HC' : Hid _ := Cursor.set HC.out (j := j) hc3 (.int .u8 43)
              have HB' : Hid (But cb w (wr.setCell ⟨B, j, none⟩ (.int .u8 43))) := But.later HB.out hBw j (.int .u8 43)
              clear hc HR HC HB h32
              go_wp2_with fail
              go_roundw
              case rel => exact ⟨j + 1, by go_num, by omega, HR', HC', HB'⟩
              case measure => simp [intOf]; omega
            · have h32' : ((c.toNat : Int) == 32) = false := by simpa using h32
              go_wp2_with fail
              go_roundw
              case rel => exact ⟨j + 1, by go_num, by omega, HR, HC, HB⟩
              case measure => simp [intOf]; omega
          · obtain ⟨T, hT, hcv2⟩ := row_text (g := g) HR.out
            have hT24 : T.size ≤ 24 := by omega
            clear HR hT
            by_cases hz : T.size = 0
            · have hc0 := empty_cmp hz
              have hs1 : ¬ 9223372036854775807 < T.size + (⟨#[47]⟩ : ByteArray).size := by show ¬ 9223372036854775807 < T.size + 1; omega
              have HZ : Hid ((T ++ ⟨#[47]⟩ : ByteArray).size ≤ 100) := by show _ ≤ _; rw [ByteArray.size_append]; show T.size + 1 ≤ 100; omega
              go_wp2_with fail
              go_ret
              exact ⟨_, rfl, HZ.out, Cursor.mono HC.out (by omega), HB.out⟩
            · have hc0 := some_cmp hz
              go_wp2_with fail
              refine (one_at 3 _ rfl cb v n _ _ HC.out (by omega) (by omega) (by omega)).mono ?_
              rintro e w9 ⟨b9, rfl, hC9, hb9⟩
              have HC9 : Hid _ := hC9
              have HB9 : Hid _ := But.trans HB.out hb9
              clear hC9 hb9
              cases b9
              · go_wp2_with fail
                go_ret
                exact ⟨_, rfl, by omega, Cursor.mono HC9.out (by omega), HB9.out⟩
              · have hs1 : ¬ 9223372036854775807 < T.size + (⟨#[47]⟩ : ByteArray).size := by show ¬ 9223372036854775807 < T.size + 1; omega
                have HZ : Hid ((T ++ ⟨#[47]⟩ : ByteArray).size ≤ 100) := by show _ ≤ _; rw [ByteArray.size_append]; show T.size + 1 ≤ 100; omega
                go_wp2_with fail
                go_ret
                exact ⟨_, rfl, HZ.out, Cursor.mono HC9.out (by omega), HB9.out⟩
      · by_cases hz : A.size = 0
        · have hc0 := empty_cmp hz
          have hs1 : ¬ 9223372036854775807 < A.size + (⟨#[47]⟩ : ByteArray).size := by show ¬ 9223372036854775807 < A.size + 1; omega
          have HZ : Hid ((A ++ ⟨#[47]⟩ : ByteArray).size ≤ 100) := by show _ ≤ _; rw [ByteArray.size_append]; show A.size + 1 ≤ 100; omega
          go_wp2_with fail
          go_ret
          exact ⟨_, rfl, HZ.out, Cursor.mono HC3.out (by omega), HB3.out⟩
        · have hc0 := some_cmp hz
          go_wp2_with fail
          refine (one_at 3 _ rfl cb v n _ _ HC3.out (by omega) (by omega) (by omega)).mono ?_
          rintro e w9 ⟨b9, rfl, hC9, hb9⟩
          have HC9 : Hid _ := hC9
          have HB9 : Hid _ := But.trans HB3.out hb9
          clear hC9 hb9
          cases b9
          · go_wp2_with fail
            go_ret
            exact ⟨_, rfl, by omega, Cursor.mono HC9.out (by omega), HB9.out⟩
          · have hs1 : ¬ 9223372036854775807 < A.size + (⟨#[47]⟩ : ByteArray).size := by show ¬ 9223372036854775807 < A.size + 1; omega
            have HZ : Hid ((A ++ ⟨#[47]⟩ : ByteArray).size ≤ 100) := by show _ ≤ _; rw [ByteArray.size_append]; show A.size + 1 ≤ 100; omega
            go_wp2_with fail
            go_ret
            exact ⟨_, rfl, HZ.out, Cursor.mono HC9.out (by omega), HB9.out⟩
end Go.Proofs.YtlgjgdpalflmfaaDoor.Cur
