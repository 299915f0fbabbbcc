/-
  Walks: HitsOf of impl and of spec.
-/
import Derived.Test.YteniompfkfhemaaIio
namespace Go.Proofs.Yteniompfkfhemaa.Iia
open Go.RowKit

def hsL (l : List Int) : List Int := if refsB l = true then htL (dsL l) else []
theorem hs_no {l : List Int} (h : refsB l = false) : hsL l = [] := by unfold hsL; rw [h]; rfl
theorem hs_yes {l : List Int} (h : refsB l = true) : hsL l = htL (dsL l) := by unfold hsL; rw [h]; rfl
/-- The row of counts: forty-one numbers. -/
def Cnt (w : World) (g : Nat) (f : Nat → Int) : Prop := w.heap[g]? = some (.cells ((List.range 41).map fun (n : Nat) => Value.int .i64 (f n)).toArray 3 (0, 0))
theorem Cnt.below {w w' : World} {g : Nat} {f : Nat → Int} (h : Cnt w g f) (hb : Below w.heap.size w w') : Cnt w' g f := (hb.block g (Array.getElem?_eq_some_iff.1 h).1).trans h
theorem Cnt.cell {w : World} {g : Nat} {f : Nat → Int} (h : Cnt w g f) {n : Nat} (hn : n < 41) : w.cell? ⟨g, n, none⟩ = some (.int .i64 (f n)) ∧ w.frozen? ⟨g, n, none⟩ = false := by
  refine ⟨?_, by rw [World.frozen?, h]; simp⟩
  rw [World.cell?, h]
  simp [hn]
theorem Cnt.set {w : World} {g : Nat} {f f' : Nat → Int} (h : Cnt w g f) {n : Nat} {v : Int} (hv : f' n = v) (ho : ∀ m, m ≠ n → f' m = f m) : Cnt (w.setCell ⟨g, n, none⟩ (.int .i64 v)) g f' := by
  unfold Cnt at h ⊢
  have hlt := (Array.getElem?_eq_some_iff.1 h).1
  simp only [World.setCell, Array.getElem?_modify, h, if_true, Option.map_some, Option.isSome_none, Bool.false_eq_true, if_false]
  congr 2
  apply Array.ext_getElem?
  intro i
  simp only [Array.getElem?_setIfInBounds, List.getElem?_toArray, List.getElem?_map, List.size_toArray, List.length_map, List.length_range]
  by_cases hi : n = i
  · subst hi
    by_cases hn : n < 41
    · simp [hn, hv]
    · simp [hn]
  · rw [if_neg hi]
    by_cases hn : i < 41
    · simp [hn, ho i (fun e => hi e.symm)]
    · simp [hn]
theorem Cnt.in {w : World} {g B : Nat} {f : Nat → Int} (h : Cnt w g f) (hB : B ≤ g) : intsIn w B (.slice (some ⟨g, 0, none⟩) 41 41) ((List.range 41).map f) := by
  refine ⟨by simp [flI], .inr ⟨g, 41, _, by simp, hB, h, by simp, by decide, by simp, ?_⟩⟩
  have e : (List.map (fun (n : Nat) => Value.int .i64 (f n)) (List.range 41)).length ≤ ((List.range 41).map f).length * 1 := by simp
  rw [List.take_of_length_le e]
  simp [flI, Function.comp_def]
theorem cnt_made (w : World) : Cnt (w.alloc (.cells (madeCells #[.int .i64 0] (41 * 1)) 3)) w.heap.size (fun _ => 0) := by
  have e : madeCells #[.int .i64 0] (41 * 1) = ((List.range 41).map fun (_ : Nat) => Value.int .i64 0).toArray := by kernel_rfl
  unfold Cnt
  rw [e]
  show (w.heap.push _)[w.heap.size]? = _
  simp
theorem Cnt.congr {w : World} {g : Nat} {f f' : Nat → Int} (h : Cnt w g f) (e : ∀ n, n < 41 → f n = f' n) : Cnt w g f' := by
  unfold Cnt at h ⊢
  rw [h]
  congr 2
  congr 1
  apply List.map_congr_left
  intro n hn
  rw [e n (List.mem_range.1 hn)]
theorem mk41 (w : World) : (Instr.makeSlice 23 (.int .i64 41) (.int .i64 41)).run Try.prog w = .ok (.slice (some ⟨w.heap.size, 0, none⟩) 41 41) (w.alloc (.cells (madeCells #[.int .i64 0] (41 * 1)) 3)) := by
  obtain ⟨i0, hi0, hz0, hz1, hz2⟩ := info_parts infoI
  have hmk := run_make (P := Try.prog) w 23 3 i0 _ Try.underlying23 hi0 hz0 .i64 .i64 (41 : Int) (41 : Int) (by omega) (by omega) (by rw [hz2]; omega) (by omega)
  rw [hz1] at hmk
  exact hmk
theorem ht_le (d : List Int) (n : Nat) : htN d n ≤ d.length := List.countP_le_length ..
theorem ht_zero (d : List Int) (n k : Nat) (h : k < d.length) (h0 : d[k] = 0) : htN (d.take (k + 1)) n = htN (d.take k) n := by
  rw [ht_take d n k h, h0]; simp
theorem ht_pos (d : List Int) (n k p : Nat) (h : k < d.length) (h0 : d[k] = (p : Int)) (hp : 0 < p) : htN (d.take (k + 1)) n = htN (d.take k) n + (if p ≤ n then 1 else 0) := by
  rw [ht_take d n k h, h0, decide_eq_true (show (0 : Int) < (p : Int) by omega), Bool.true_and]
  by_cases hpn : p ≤ n
  · rw [if_pos hpn, if_pos (decide_eq_true (by omega))]
  · rw [if_neg hpn, if_neg (by rw [decide_eq_true_eq]; omega)]
theorem dsL_at (l : List Int) (k : Nat) (h : k < (dsL l).length) : (dsL l)[k] = (dsN l k : Int) := by simp [dsL]

set_option maxRecDepth 20000 in
set_option maxHeartbeats 1600000 in
theorem implHits_any (a : Option Addr) (ca : Nat) (l : List Int) (w : World) (lo hi : Nat) (hl : l.length ≤ 1048576) (ha : IL w a l lo hi) :
    Calls Try.prog 20 #[.slice a l.length ca] w fun e w' => (∃ r, e = .returned (.tuple #[r, .bool (refsB l)]) ∧ intsIn w' w.heap.size r (hsL l)) ∧ Below w.heap.size w w' := by
  have HC : Hid _ := implDist_any a ca l w lo hi hl ha
  clear ha
  cases hg : refsB l
  · rw [hs_no hg]
    rw [hg, dt_no hg] at HC
    clear hg
    go_enter Try.func20, Try.ntmps20
    go_wp2_with (go_at_call 22; refine Calls.mono HC.out ?_; rintro e w2 ⟨⟨r, rfl, hr⟩, hb2⟩)
    go_ret2
    exact ⟨⟨_, rfl, intsIn.nil _ _⟩, hb2⟩
  rw [hs_yes hg]
  rw [hg, dt_yes hg] at HC
  have hdl := dsL_len l
  have HDb : Hid (∀ k, (h : k < (dsL l).length) → ∃ p : Nat, (dsL l)[k] = (p : Int) ∧ p ≤ 100) := fun k h => ⟨dsN l k, dsL_at l k h, dsN_le (refs_parts hg).2 k⟩
  generalize dsL l = L at *
  have hLl : L.length ≤ 1048576 := by omega
  have hmk := mk41
  clear hg hdl
  go_enter Try.func20, Try.ntmps20
  go_wp2_with (go_at_call 22; refine Calls.mono HC.out ?_; rintro e w2 ⟨⟨r, rfl, hr⟩, hb2⟩; obtain ⟨da, dc, rfl, hIW⟩ := iw_of hr)
  clear hmk
  have HC0 : Hid (Cnt (w2.alloc (.cells (madeCells #[.int .i64 0] (41 * 1)) 3)) w2.heap.size (fun n => (htN (L.take 0) n : Int))) := (cnt_made w2).congr (fun n _ => by simp [htN])
  have HB0 : Hid (Below w2.heap.size w2 (w2.alloc (.cells (madeCells #[.int .i64 0] (41 * 1)) 3))) := (Below.refl _ _).alloc (Nat.le_refl _) _
  have HD : Hid (IL w2 da L w.heap.size w2.heap.size) := hIW.il
  have HB2 : Hid (Below w.heap.size w w2) := hb2
  obtain ⟨g, hge⟩ : ∃ g, g = w2.heap.size := ⟨_, rfl⟩
  obtain ⟨W0, hW0⟩ : ∃ W, W = w2.alloc (.cells (madeCells #[.int .i64 0] (41 * 1)) 3) := ⟨_, rfl⟩
  have hW0' : W0 = w2.alloc (.cells (madeCells #[.int .i64 0] 41) 3) := hW0
  have hwg : w.heap.size ≤ g := by rw [hge]; exact hb2.size
  have HG : Hid (g = w2.heap.size) := hge
  rw [← hW0, ← hge] at HC0
  rw [← hW0] at HB0
  first | rw [← hW0, ← hge] | rw [← hW0', ← hge]
  clear hW0 hW0' hge hr hb2 hIW HC
  go_loopw [20] (fun i wr => ∃ k : Nat, k ≤ L.length ∧ i = .int .i64 k ∧ Hid (Cnt wr g (fun n => (htN (L.take k) n : Int))) ∧ Hid (Below w2.heap.size w2 wr)) (fun i _ => L.length - (intOf i).toNat)
  case atStart => exact ⟨0, Nat.zero_le _, rfl, HC0, HB0⟩
  case round =>
    obtain ⟨k, hk, rfl, HCt, HB⟩ := hrel
    by_cases hlt : k < L.length
    · obtain ⟨ad, rfl, hc⟩ := (HD.out.below HB.out).cell hlt
      obtain ⟨p, hpe, hp100⟩ := HDb.out k hlt
      by_cases hp0 : p = 0
      · have HCt2 : Hid (Cnt wr g (fun n => (htN (L.take (k + 1)) n : Int))) := HCt.out.congr (fun n _ => by rw [ht_zero L n k hlt (by rw [hpe, hp0]; rfl)])
        have hx0 : L[k] = 0 := by rw [hpe, hp0]; rfl
        rw [hx0] at hc
        clear HCt hpe hx0
        go_wp2_with fail
        go_roundw
        case rel => exact ⟨k + 1, by omega, by go_num, HCt2, HB⟩
        case measure => simp [intOf]; omega
      · have HSt : Hid (∀ n, htN (L.take (k + 1)) n = htN (L.take k) n + (if p ≤ n then 1 else 0)) := fun n => ht_pos L n k p hlt hpe (by omega)
        have HLe : Hid (∀ n, htN (L.take k) n ≤ 1048576) := fun n => by have := ht_le (L.take k) n; rw [List.length_take] at this; omega
        have hpi : ¬ ((p : Int) = 0) := by omega
        rw [hpe] at hc
        clear hpe HDb
        go_wp2_with fail
        go_loopw [9] (fun j wx => ∃ m : Nat, p ≤ m ∧ m ≤ 101 ∧ j = .int .i64 m ∧ Hid (Cnt wx g (fun n => (htN (L.take k) n : Int) + (if p ≤ n ∧ n < m then 1 else 0))) ∧ Hid (Below w2.heap.size w2 wx)) (fun j _ => 102 - (intOf j).toNat)
        case atStart => exact ⟨p, Nat.le_refl _, by omega, rfl, HCt.out.congr (fun n _ => by rw [if_neg (by omega)]; omega), HB⟩
        case round =>
          obtain ⟨m, hm1, hm2, rfl, HCm, HBm⟩ := hrel
          by_cases hm : m ≤ 40
          · obtain ⟨c0, c1⟩ := HCm.out.cell (n := m) (by omega)
            rw [if_neg (by omega), Int.add_zero] at c0
            have hle := HLe.out m
            have HC3 : Hid (Cnt (wr.setCell ⟨g, m, none⟩ (.int .i64 ((htN (L.take k) m : Int) + 1))) g (fun n => (htN (L.take k) n : Int) + (if p ≤ n ∧ n < m + 1 then 1 else 0))) := by
              refine HCm.out.set (by rw [if_pos (by omega)]) (fun q hq => ?_)
              by_cases h : p ≤ q ∧ q < m
              · rw [if_pos h, if_pos (by omega)]
              · rw [if_neg h, if_neg (by omega)]
            have HB3 : Hid (Below w2.heap.size w2 (wr.setCell ⟨g, m, none⟩ (.int .i64 ((htN (L.take k) m : Int) + 1)))) := HBm.out.setCell (p := ⟨g, m, none⟩) (by show _ ≤ g; rw [HG.out]; exact Nat.le_refl _) _
            generalize htN (L.take k) m = u at *
            have hmi : (m : Int) ≤ 40 := by omega
            clear HCm HBm
            go_wp2_with fail
            go_roundw
            case rel => exact ⟨m + 1, by omega, by omega, by go_num, HC3, HB3⟩
            case measure => simp [intOf]; omega
          · have HC3 : Hid (Cnt wr g (fun n => (htN (L.take (k + 1)) n : Int))) := HCm.out.congr (fun n hn => by
              rw [HSt.out n]
              by_cases h : p ≤ n
              · rw [if_pos ⟨h, by omega⟩, if_pos h]; omega
              · rw [if_neg (by omega), if_neg h]; omega)
            have hmi : ¬ ((m : Int) ≤ 40) := by omega
            clear HCm HSt HLe
            go_wp2_with fail
            go_roundw
            case rel => exact ⟨k + 1, by omega, by go_num, HC3, HBm⟩
            case measure => simp [intOf]; omega
    · obtain rfl : k = L.length := by omega
      have HE : Hid (intsIn wr w.heap.size (.slice (some ⟨g, 0, none⟩) 41 41) (htL L)) := by
        have h2 := HCt.out.in hwg
        rw [List.take_length] at h2
        exact h2
      have HBe : Hid (Below w.heap.size w wr) := HB2.out.trans (HB.out.mono HB2.out.size)
      clear HCt HDb HB
      go_wp2_with fail
      go_ret2
      exact ⟨⟨_, rfl, HE.out⟩, HBe.out⟩

set_option maxRecDepth 20000 in
set_option maxHeartbeats 1600000 in
theorem specHits_any (a : Option Addr) (ca : Nat) (l : List Int) (w : World) (lo hi : Nat) (hl : l.length ≤ 1048576) (hca : l.length ≤ ca) (ha : IL w a l lo hi) :
    Calls Try.prog 21 #[.slice a l.length ca] w fun e w' => (∃ r, e = .returned (.tuple #[r, .bool (refsB l)]) ∧ intsIn w' w.heap.size r (hsL l)) ∧ Below w.heap.size w w' := by
  have HC : Hid _ := specDist_any a ca l w lo hi hl hca ha
  clear ha
  cases hg : refsB l
  · rw [hs_no hg]
    rw [hg, dt_no hg] at HC
    clear hg
    go_enter Try.func21, Try.ntmps21
    go_wp2_with (go_at_call 23; refine Calls.mono HC.out ?_; rintro e w2 ⟨⟨r, rfl, hr⟩, hb2⟩)
    go_ret2
    exact ⟨⟨_, rfl, intsIn.nil _ _⟩, hb2⟩
  rw [hs_yes hg]
  rw [hg, dt_yes hg] at HC
  have hdl := dsL_len l
  generalize dsL l = L at *
  have hLl : L.length ≤ 1048576 := by omega
  have hmk := mk41
  clear hg hdl
  go_enter Try.func21, Try.ntmps21
  go_wp2_with (go_at_call 23; refine Calls.mono HC.out ?_; rintro e w2 ⟨⟨r, rfl, hr⟩, hb2⟩; obtain ⟨da, dc, rfl, hIW⟩ := iw_of hr)
  clear hmk
  have HC0 : Hid (Cnt (w2.alloc (.cells (madeCells #[.int .i64 0] (41 * 1)) 3)) w2.heap.size (fun n => if n < 0 then (htN L n : Int) else 0)) := (cnt_made w2).congr (fun n _ => by rw [if_neg (by omega)])
  have HB0 : Hid (Below w2.heap.size w2 (w2.alloc (.cells (madeCells #[.int .i64 0] (41 * 1)) 3))) := (Below.refl _ _).alloc (Nat.le_refl _) _
  have HD : Hid (IL w2 da L w.heap.size w2.heap.size) := hIW.il
  have HB2 : Hid (Below w.heap.size w w2) := hb2
  obtain ⟨g, hge⟩ : ∃ g, g = w2.heap.size := ⟨_, rfl⟩
  obtain ⟨W0, hW0⟩ : ∃ W, W = w2.alloc (.cells (madeCells #[.int .i64 0] (41 * 1)) 3) := ⟨_, rfl⟩
  have hW0' : W0 = w2.alloc (.cells (madeCells #[.int .i64 0] 41) 3) := hW0
  have hwg : w.heap.size ≤ g := by rw [hge]; exact hb2.size
  have HG : Hid (g = w2.heap.size) := hge
  rw [← hW0, ← hge] at HC0
  rw [← hW0] at HB0
  first | rw [← hW0, ← hge] | rw [← hW0', ← hge]
  clear hW0 hW0' hge hr hb2 hIW HC
  go_loopw [20] (fun i wr => ∃ s : Nat, s ≤ 41 ∧ i = .int .i64 s ∧ Hid (Cnt wr g (fun n => if n < s then (htN L n : Int) else 0)) ∧ Hid (Below w2.heap.size w2 wr)) (fun i _ => 41 - (intOf i).toNat)
  case atStart => exact ⟨0, Nat.zero_le _, rfl, HC0, HB0⟩
  case round =>
    obtain ⟨s, hs, rfl, HCt, HB⟩ := hrel
    by_cases hlt : s < 41
    · have hsi : (s : Int) < 41 := by omega
      go_wp2_with fail
      go_loopw [25] (fun j wx => ∃ k : Nat, k ≤ L.length ∧ j = .int .i64 k ∧ Hid (Cnt wx g (fun n => if n < s then (htN L n : Int) else if n = s then (htN (L.take k) s : Int) else 0)) ∧ Hid (Below w2.heap.size w2 wx)) (fun j _ => L.length - (intOf j).toNat)
      case atStart => exact ⟨0, Nat.zero_le _, rfl, HCt.out.congr (fun n _ => by
        by_cases h : n < s
        · rw [if_pos h, if_pos h]
        · rw [if_neg h, if_neg h]; by_cases h2 : n = s
          · rw [if_pos h2]; simp [htN]
          · rw [if_neg h2]), HB⟩
      case round =>
        obtain ⟨k, hk, rfl, HCk, HBk⟩ := hrel
        by_cases hlk : k < L.length
        · obtain ⟨ad, rfl, hc⟩ := (HD.out.below HBk.out).cell hlk
          have HTk : Hid (htN (L.take (k + 1)) s = htN (L.take k) s + (if (decide (0 < L[k]) && decide (L[k] ≤ (s : Int))) = true then 1 else 0)) := ht_take L s k hlk
          obtain ⟨c0, c1⟩ := HCk.out.cell (n := s) hlt
          rw [if_neg (by omega), if_pos rfl] at c0
          have hle := ht_le (L.take k) s
          rw [List.length_take] at hle
          generalize L[k] = x at *
          by_cases hx : 0 < x ∧ x ≤ (s : Int)
          · obtain ⟨hx1, hx2⟩ := hx
            have HTn : Hid (htN (L.take (k + 1)) s = htN (L.take k) s + 1) := by show _ = _; rw [HTk.out, decide_eq_true hx1, decide_eq_true hx2]; rfl
            have HC3 : Hid (Cnt (wr.setCell ⟨g, s, none⟩ (.int .i64 ((htN (L.take k) s : Int) + 1))) g (fun n => if n < s then (htN L n : Int) else if n = s then (htN (L.take (k + 1)) s : Int) else 0)) := by
              refine HCk.out.set (by rw [if_neg (by omega), if_pos rfl, HTn.out]; omega) (fun q hq => ?_)
              by_cases h : q < s
              · rw [if_pos h, if_pos h]
              · rw [if_neg h, if_neg h, if_neg hq, if_neg hq]
            have HB3 : Hid (Below w2.heap.size w2 (wr.setCell ⟨g, s, none⟩ (.int .i64 ((htN (L.take k) s : Int) + 1)))) := HBk.out.setCell (p := ⟨g, s, none⟩) (by show _ ≤ g; rw [HG.out]; exact Nat.le_refl _) _
            clear HTk HTn HCk HBk
            generalize htN (L.take k) s = u at *
            go_wp2_with fail
            go_roundw
            case rel => exact ⟨k + 1, by omega, by go_num, HC3, HB3⟩
            case measure => simp [intOf]; omega
          · have HTn : Hid (htN (L.take (k + 1)) s = htN (L.take k) s) := by
              show _ = _
              rw [HTk.out, if_neg]
              · omega
              · rw [Bool.and_eq_true, decide_eq_true_eq, decide_eq_true_eq]; exact hx
            have HC3 : Hid (Cnt wr g (fun n => if n < s then (htN L n : Int) else if n = s then (htN (L.take (k + 1)) s : Int) else 0)) := by
              show Cnt _ _ _
              rw [HTn.out]; exact HCk.out
            clear HTk HTn HCk
            by_cases hx1 : 0 < x
            · have hx2 : ¬ (x ≤ (s : Int)) := fun h => hx ⟨hx1, h⟩
              have hd2 : decide (x ≤ (s : Int)) = false := decide_eq_false hx2
              have hd1 : decide (0 < x) = true := decide_eq_true hx1
              clear hx
              go_wp2_with fail
              go_roundw
              case rel => exact ⟨k + 1, by omega, by go_num, HC3, HBk⟩
              case measure => simp [intOf]; omega
            · have hd1 : decide (0 < x) = false := decide_eq_false hx1
              clear hx
              go_wp2_with fail
              go_roundw
              case rel => exact ⟨k + 1, by omega, by go_num, HC3, HBk⟩
              case measure => simp [intOf]; omega
        · obtain rfl : k = L.length := by omega
          have HC3 : Hid (Cnt wr g (fun n => if n < s + 1 then (htN L n : Int) else 0)) := HCk.out.congr (fun n _ => by
            rw [List.take_length]
            by_cases h : n < s
            · rw [if_pos h, if_pos (by omega)]
            · by_cases h2 : n = s
              · rw [if_neg h, if_pos h2, if_pos (by omega), h2]
              · rw [if_neg h, if_neg h2, if_neg (by omega)])
          clear HCk
          go_wp2_with fail
          go_roundw
          case rel => exact ⟨s + 1, by omega, by go_num, HC3, HBk⟩
          case measure => simp [intOf]; omega
    · obtain rfl : s = 41 := by omega
      have HE : Hid (intsIn wr w.heap.size (.slice (some ⟨g, 0, none⟩) 41 41) (htL L)) := by
        have h2 := (HCt.out.congr (f' := fun n => (htN L n : Int)) (fun n hn => by rw [if_pos hn])).in hwg
        exact h2
      have HBe : Hid (Below w.heap.size w wr) := HB2.out.trans (HB.out.mono HB2.out.size)
      clear HCt HB
      go_wp2_with fail
      go_ret2
      exact ⟨⟨_, rfl, HE.out⟩, HBe.out⟩

end Go.Proofs.Yteniompfkfhemaa.Iia
