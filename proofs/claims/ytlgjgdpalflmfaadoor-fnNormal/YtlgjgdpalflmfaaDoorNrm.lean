/-
  Walks: an address made normal: impl.NormalUrl and spec.NormalUrl tell the same.
-/
import Derived.Test.YtlgjgdpalflmfaaDoorGus
import Derived.Test.YtlgjgdpalflmfaaDoorLow
import Derived.Test.YtlgjgdpalflmfaaDoorDdl
namespace Go.Proofs.YtlgjgdpalflmfaaDoor.Nrm
open Go.RowKit
open Go.Proofs.YtlgjgdpalflmfaaDoor.Byt
open Go.Proofs.YtlgjgdpalflmfaaDoor.Hex
open Go.Proofs.YtlgjgdpalflmfaaDoor.Enc
open Go.Proofs.YtlgjgdpalflmfaaDoor.Own
open Go.Proofs.YtlgjgdpalflmfaaDoor.Txt
open Go.Proofs.YtlgjgdpalflmfaaDoor.Gud
open Go.Proofs.YtlgjgdpalflmfaaDoor.Pln
open Go.Proofs.YtlgjgdpalflmfaaDoor.Low

/-- A block that was made just ahead of a callee that makes memory alone. -/
theorem zcells {w w1 : World} {cs : Array Value} {t : TypeId} (hb : Below (w.alloc (.cells cs t)).heap.size (w.alloc (.cells cs t)) w1) :
    (∀ i, w1.cell? ⟨w.heap.size, i, none⟩ = cs[i]?) ∧ (∀ i, w1.frozen? ⟨w.heap.size, i, none⟩ = false) ∧ w.heap.size < w1.heap.size := by
  have hs : w.heap.size < (w.alloc (.cells cs t)).heap.size := by simp
  refine ⟨fun i => ?_, fun i => ?_, Nat.lt_of_lt_of_le hs hb.size⟩
  · rw [(bcell hb).1 _ i hs]; exact World.cell?_alloc_mark w cs t _ i
  · rw [(bcell hb).2 _ i hs]; exact World.frozen?_alloc_at cs t _ i rfl

/-- A block of the call's own and its cells. -/
def Blk (w : World) (b : Nat) (cs : Array Value) : Prop := b < w.heap.size ∧ (∀ i, w.frozen? ⟨b, i, none⟩ = false) ∧ ∀ i, w.cell? ⟨b, i, none⟩ = cs[i]?
theorem Blk.made (w : World) (cs : Array Value) (t : TypeId) : Blk (w.alloc (.cells cs t)) w.heap.size cs :=
  ⟨by simp, fun i => World.frozen?_alloc_at cs t _ i rfl, fun i => World.cell?_alloc_mark w cs t _ i⟩
theorem Blk.below {w w' : World} {b : Nat} {cs : Array Value} (h : Blk w b cs) (hb : Below w.heap.size w w') : Blk w' b cs :=
  ⟨Nat.lt_of_lt_of_le h.1 hb.size, fun i => ((bcell hb).2 b i h.1).trans (h.2.1 i), fun i => ((bcell hb).1 b i h.1).trans (h.2.2 i)⟩
theorem Blk.alloc {w : World} {b : Nat} {cs : Array Value} (h : Blk w b cs) (o : Obj) : Blk (w.alloc o) b cs := h.below ((Below.refl _ _).alloc (Nat.le_refl _) o)
theorem Blk.set {w : World} {b : Nat} {cs : Array Value} (h : Blk w b cs) (j : Nat) (v : Value) (hj : j < cs.size) : Blk (w.setCell ⟨b, j, none⟩ v) b (cs.setIfInBounds j v) := by
  refine ⟨by simpa [World.setCell] using h.1, fun i => by simp [go_sem, h.2.1 i], fun i => ?_⟩
  have hj' : w.cell? ⟨b, j, none⟩ = some cs[j] := by rw [h.2.2 j]; simp [hj]
  by_cases e : i = j
  · subst e
    simp [go_sem, hj', hj]
  · have : (cs.setIfInBounds j v)[i]? = cs[i]? := by rw [Array.getElem?_setIfInBounds_ne (Ne.symm e)]
    rw [this, ← h.2.2 i]
    simp [go_sem]
theorem Blk.other {w : World} {b b' : Nat} {cs : Array Value} (h : Blk w b cs) (hb : b ≠ b') (j : Nat) (v : Value) : Blk (w.setCell ⟨b', j, none⟩ v) b cs := by
  refine ⟨by simpa [World.setCell] using h.1, fun i => by simp [go_sem, h.2.1 i], fun i => ?_⟩
  rw [← h.2.2 i]
  simp [go_sem]

theorem Blk.drewN {w : World} {b : Nat} {cs : Array Value} (h : Blk w b cs) (n : Nat) : Blk (w.drewN n) b cs := h
theorem bel_drewN {B : Nat} {w w1 : World} (h : Below B w w1) (n : Nat) : Below B w (w1.drewN n) :=
  h.trans ⟨rfl, rfl, rfl, Nat.le_refl _, fun _ _ => rfl⟩

theorem plnF_ge (l : List UInt8) : ∀ (f k : Nat) (acc : List UInt8), acc.length ≤ (plnF l f k acc).length
  | 0, _, _ => Nat.le_refl _
  | f + 1, k, acc => by
    by_cases h : k < l.length
    · by_cases hp : pct l k < 0
      · rw [plnF_one h hp]; exact Nat.le_trans (by simp) (plnF_ge l f (k + 1) _)
      · rw [plnF_pct h (by omega)]; exact Nat.le_trans (by simp) (plnF_ge l f (k + 3) _)
    · rw [plnF_end (by omega)]; exact Nat.le_refl _
theorem pln_pos (s : ByteArray) (h : 1 ≤ s.size) : 1 ≤ (plnB s).size := by
  show 1 ≤ (pln s.data.toList).toArray.size
  rw [List.size_toArray]
  unfold pln
  have hl : s.data.toList.length = s.size := by simp
  obtain ⟨f, hf⟩ : ∃ f, s.data.toList.length = f + 1 := ⟨s.data.toList.length - 1, by omega⟩
  rw [hf]
  by_cases hp : pct s.data.toList 0 < 0
  · rw [plnF_one (by omega) hp]; exact Nat.le_trans (by simp) (plnF_ge _ _ _ _)
  · rw [plnF_pct (by omega) (by omega)]
    refine Nat.le_trans ?_ (plnF_ge _ _ _ _)
    unfold encB; split <;> simp [pc]

/-- The dots dropped of a path. -/
def dotB (P : ByteArray) : ByteArray := Dot.dots (Idd.parts (P.extract 1 P.size))

/-- The port as it should be. -/
def portI (S : ByteArray) (n : Int) : Int := if n = (if S.toList == [104, 116, 116, 112, 115] then 443 else 80) then 0 else n

theorem good_pos {S H P Q : ByteArray} {n : Int} {a : Bool} (h : goodB S H n P Q a = true) : 1 ≤ P.size ∧ schB S = true ∧ 0 ≤ n ∧ n ≤ 65535 := by
  unfold goodB at h
  simp only [Bool.and_eq_true, decide_eq_true_eq] at h
  obtain ⟨⟨⟨⟨⟨⟨⟨h1, h2⟩, h3⟩, h4⟩, h5⟩, h6⟩, h7⟩, h8⟩ := h
  refine ⟨?_, h1, h3.1, h3.2⟩
  rcases prefix_cases P with ⟨_, hp, _⟩ | ⟨hp, _⟩
  · omega
  · rw [hp] at h4; cases h4

set_option maxHeartbeats 1600000 in
theorem implUsual_any (S : ByteArray) (w : World) : Calls Tryd.prog 56 #[.string S] w fun e w' => e = .returned (.int .i64 (if S.toList == [104, 116, 116, 112, 115] then 443 else 80)) ∧ w' = w := by
  cases h : S.toList == [104, 116, 116, 112, 115]
  · go_enter Tryd.func56, Tryd.ntmps56
    go_wp2
    go_ret
    exact ⟨rfl, rfl⟩
  · go_enter Tryd.func56, Tryd.ntmps56
    go_wp2
    go_ret
    exact ⟨rfl, rfl⟩

set_option maxRecDepth 20000 in
set_option maxHeartbeats 3200000 in
theorem implNorm_yes (S H P Q : ByteArray) (n : Int) (asks : Bool) (m : Int) (w : World) (hT : Tab w) (htab : Lib.TabIs Tryd.prog w "internal/strconv.uint64pow10" .u64 Lib.pow10Tab) (hm : w.cell? ⟨1, 0, none⟩ = some (.int .i64 m))
    (hS : S.size ≤ 2000000) (hH : H.size ≤ 2000000) (hP : P.size ≤ 2000000) (hQ : Q.size ≤ 2000000) (hg : goodB S H n P Q asks = true) :
    Calls Tryd.prog 24 #[.agg #[.string S, .string H, .int .i64 n, .string P, .string Q, .bool asks]] w fun e w' => e = .returned (.tuple #[.agg #[.string S, .string (lowS H), .int .i64 (portI S n), .string (dotB (plnB P)), .string (plnB Q), .bool asks], .bool true]) ∧ Below w.heap.size w w' := by
  have G := fun w a b => implGood_any S H P Q n asks w a b hS hH hP hQ
  rw [hg] at G
  obtain ⟨hp1, hsch, hn0, hn1⟩ := good_pos hg
  have hps := plnB_size P
  have hpp := pln_pos P hp1
  have htl := hT.lt
  have hpl := tab_lt htab
  have hml := World.block_lt_of_cell? w _ hm
  have HL : Hid (∀ w, Calls Tryd.prog 55 #[.string H] w fun e w' => e = .returned (.string (lowS H)) ∧ Below w.heap.size w w') := fun w => implLow_any H w hH
  have HPp : Hid (∀ w, Tab w → Calls Tryd.prog 58 #[.string P] w fun e w' => e = .returned (.string (plnB P)) ∧ Below w.heap.size w w') := fun w a => implPln_any P w a hP
  have HPq : Hid (∀ w, Tab w → Calls Tryd.prog 58 #[.string Q] w fun e w' => e = .returned (.string (plnB Q)) ∧ Below w.heap.size w w') := fun w a => implPln_any Q w a hQ
  have HDd : Hid (∀ w, w.cell? ⟨1, 0, none⟩ = some (.int .i64 m) → Calls Tryd.prog 57 #[.string (plnB P)] w fun e w' => e = .returned (.string (dotB (plnB P))) ∧ Below w.heap.size w w') := fun w a => Idd.implDots_any (plnB P) m w hpp (by omega) a
  have HPO : Hid (portI S n = if n = (if S.toList == [104, 116, 116, 112, 115] then 443 else 80) then 0 else n) := rfl
  have US := fun w => implUsual_any S w
  obtain ⟨up, hup⟩ : ∃ up : Int, up = (if S.toList == [104, 116, 116, 112, 115] then 443 else 80) := ⟨_, rfl⟩
  rw [← hup] at US HPO
  clear hup hsch hps hpp hp1
  obtain ⟨L, hL⟩ : ∃ L, L = lowS H := ⟨_, rfl⟩
  obtain ⟨N, hN⟩ : ∃ N, N = portI S n := ⟨_, rfl⟩
  obtain ⟨E, hE⟩ : ∃ E, E = plnB P := ⟨_, rfl⟩
  obtain ⟨F, hF⟩ : ∃ F, F = plnB Q := ⟨_, rfl⟩
  obtain ⟨D, hD⟩ : ∃ D, D = dotB (plnB P) := ⟨_, rfl⟩
  rw [← hL] at HL ⊢
  rw [← hN] at HPO ⊢
  rw [← hD] at HDd ⊢
  rw [← hE] at HPp HDd
  rw [← hF] at HPq ⊢
  clear hL hN hE hF hD
  have hB0 : Below w.heap.size w ((w.alloc (.cells #[.string S, .string H, .int .i64 n, .string P, .string Q, .bool asks] 24)).alloc (.cells #[.string ⟨#[]⟩, .string ⟨#[]⟩, .int .i64 0, .string ⟨#[]⟩, .string ⟨#[]⟩, .bool false] 24)) := ((Below.refl _ _).alloc (Nat.le_refl _) _).alloc (by simp) _
  have hs0 : (w.alloc (.cells #[.string S, .string H, .int .i64 n, .string P, .string Q, .bool asks] 24)).heap.size = w.heap.size + 1 := by simp
  have U0 : Blk ((w.alloc (.cells #[.string S, .string H, .int .i64 n, .string P, .string Q, .bool asks] 24)).alloc (.cells #[.string ⟨#[]⟩, .string ⟨#[]⟩, .int .i64 0, .string ⟨#[]⟩, .string ⟨#[]⟩, .bool false] 24)) w.heap.size #[.string S, .string H, .int .i64 n, .string P, .string Q, .bool asks] := (Blk.made w _ _).alloc _
  have R0 : Blk ((w.alloc (.cells #[.string S, .string H, .int .i64 n, .string P, .string Q, .bool asks] 24)).alloc (.cells #[.string ⟨#[]⟩, .string ⟨#[]⟩, .int .i64 0, .string ⟨#[]⟩, .string ⟨#[]⟩, .bool false] 24)) (w.heap.size + 1) #[.string ⟨#[]⟩, .string ⟨#[]⟩, .int .i64 0, .string ⟨#[]⟩, .string ⟨#[]⟩, .bool false] := by rw [← hs0]; exact Blk.made _ _ _
  have HU0 : Hid _ := U0
  have HR0 : Hid _ := R0
  clear U0 R0
  go_enter Tryd.func24, Tryd.ntmps24
  go_wp2_with fail
  refine (G _ ((hT.alloc _).alloc _) (tab_alloc (tab_alloc htab _) _)).mono ?_
  rintro e w1 ⟨rfl, hb1⟩
  have hU1 := Blk.below HU0.out hb1
  have hR1 := Blk.below HR0.out hb1
  have hB1 : Below w.heap.size w w1 := hB0.trans (hb1.mono hB0.size)
  obtain ⟨u1, u2, u3⟩ := hU1
  clear hb1 hB0 hs0 G
  go_wp2_with fail
  refine (HL.out _).mono ?_
  rintro e w2 ⟨rfl, hb2⟩
  have hU2 := Blk.below (⟨u1, u2, u3⟩ : Blk w1 w.heap.size #[.string S, .string H, .int .i64 n, .string P, .string Q, .bool asks]) hb2
  have hR2 := Blk.below hR1 hb2
  have hB2 : Below w.heap.size w w2 := hB1.trans (hb2.mono hB1.size)
  have HU2 : Hid _ := hU2
  have HR2 : Hid _ := hR2
  clear hb2 u1 u2 u3 hR1 hB1 HU0 HR0 HL
  obtain ⟨u1, u2, u3⟩ := hU2
  clear hR2
  go_wp2_with fail
  go_quiet ((go_at_call 56; exact Calls.quiet_of_same (US _)))
  by_cases hnu : n = up
  · have hNv : N = 0 := by rw [HPO.out]; rw [if_pos hnu]
    have HU3 : Hid (Blk (((w2.setCell ⟨w.heap.size, 1, none⟩ (.string L)).setCell ⟨w.heap.size, 2, none⟩ (.int .i64 0)).drewN nq) w.heap.size #[.string S, .string L, .int .i64 0, .string P, .string Q, .bool asks]) := (Blk.drewN (Blk.set (Blk.set HU2.out 1 (.string L) (by simp)) 2 (.int .i64 0) (by simp)) nq)
    have HR3 : Hid (Blk (((w2.setCell ⟨w.heap.size, 1, none⟩ (.string L)).setCell ⟨w.heap.size, 2, none⟩ (.int .i64 0)).drewN nq) (w.heap.size + 1) #[.string ⟨#[]⟩, .string ⟨#[]⟩, .int .i64 0, .string ⟨#[]⟩, .string ⟨#[]⟩, .bool false]) := (Blk.drewN (Blk.other (Blk.other HR2.out (Nat.succ_ne_self _) 1 (.string L)) (Nat.succ_ne_self _) 2 (.int .i64 0)) nq)
    have hB3 : Below w.heap.size w (((w2.setCell ⟨w.heap.size, 1, none⟩ (.string L)).setCell ⟨w.heap.size, 2, none⟩ (.int .i64 0)).drewN nq) := (bel_drewN (Below.setCell (Below.setCell hB2 (p := ⟨w.heap.size, 1, none⟩) (Nat.le_refl _) (.string L)) (p := ⟨w.heap.size, 2, none⟩) (Nat.le_refl _) (.int .i64 0)) nq)
    have hd : (n == up) = true := beq_iff_eq.2 hnu
    go_wp2_with fail
    refine (HPp.out _ (hT.below hB3 htl)).mono ?_
    rintro e w4 ⟨rfl, hb4⟩
    have HU4 : Hid _ := Blk.below HU3.out hb4
    have HR4 : Hid _ := Blk.below HR3.out hb4
    have hB4 : Below w.heap.size w w4 := hB3.trans (hb4.mono hB3.size)
    clear hb4 u1 u2 u3 hB3 HU3 HR3 HU2 HR2 hB2
    go_wp2_with fail
    refine (HDd.out _ ((hB4.cell (p := ⟨1, 0, none⟩) hml).trans hm)).mono ?_
    rintro e w5 ⟨rfl, hb5⟩
    have hU5 := Blk.below HU4.out hb5
    have HR5 : Hid _ := Blk.below HR4.out hb5
    have hB5 : Below w.heap.size w w5 := hB4.trans (hb5.mono hB4.size)
    have HU5 : Hid (Blk (w5.setCell ⟨w.heap.size, 3, none⟩ (.string D)) w.heap.size #[.string S, .string L, .int .i64 0, .string D, .string Q, .bool asks]) := Blk.set hU5 3 (.string D) (by simp)
    have HR5s : Hid (Blk (w5.setCell ⟨w.heap.size, 3, none⟩ (.string D)) (w.heap.size + 1) #[.string ⟨#[]⟩, .string ⟨#[]⟩, .int .i64 0, .string ⟨#[]⟩, .string ⟨#[]⟩, .bool false]) := Blk.other HR5.out (Nat.succ_ne_self _) 3 (.string D)
    have hB5s : Below w.heap.size w (w5.setCell ⟨w.heap.size, 3, none⟩ (.string D)) := Below.setCell hB5 (p := ⟨w.heap.size, 3, none⟩) (Nat.le_refl _) (.string D)
    obtain ⟨v1, v2, v3⟩ := hU5
    clear hb5 hB4 hB5 HU4 HR4
    go_wp2_with fail
    refine (HPq.out _ (hT.below hB5s htl)).mono ?_
    rintro e w6 ⟨rfl, hb6⟩
    have hU6 := Blk.below HU5.out hb6
    have hR6 := Blk.below HR5s.out hb6
    have hB6 : Below w.heap.size w w6 := hB5s.trans (hb6.mono hB5s.size)
    obtain ⟨x1, x2, x3⟩ := hU6
    obtain ⟨y1, y2, y3⟩ := hR6
    clear hb6 hB5s v1 v2 v3 HU5 HR5 HR5s
    have hne : (w.heap.size + 1 = w.heap.size) = False := by simp
    have hne' : (w.heap.size = w.heap.size + 1) = False := by simp
    go_wp2_with fail
    exact bodyPost_ret (v := .tuple #[.agg #[.string S, .string L, .int .i64 0, .string D, .string F, .bool asks], .bool true]) (by simp [results, Tryd.results24, go_sem, y3]) rfl ⟨by rw [hNv], (((((((hB6.setCell (Nat.le_refl _) _).setCell (Nat.le_succ _) _).setCell (Nat.le_succ _) _).setCell (Nat.le_succ _) _).setCell (Nat.le_succ _) _).setCell (Nat.le_succ _) _).setCell (Nat.le_succ _) _)⟩
  · have hNv : N = n := by rw [HPO.out]; rw [if_neg hnu]
    have HU3 : Hid (Blk ((w2.setCell ⟨w.heap.size, 1, none⟩ (.string L)).drewN nq) w.heap.size #[.string S, .string L, .int .i64 n, .string P, .string Q, .bool asks]) := (Blk.drewN (Blk.set HU2.out 1 (.string L) (by simp)) nq)
    have HR3 : Hid (Blk ((w2.setCell ⟨w.heap.size, 1, none⟩ (.string L)).drewN nq) (w.heap.size + 1) #[.string ⟨#[]⟩, .string ⟨#[]⟩, .int .i64 0, .string ⟨#[]⟩, .string ⟨#[]⟩, .bool false]) := (Blk.drewN (Blk.other HR2.out (Nat.succ_ne_self _) 1 (.string L)) nq)
    have hB3 : Below w.heap.size w ((w2.setCell ⟨w.heap.size, 1, none⟩ (.string L)).drewN nq) := (bel_drewN (Below.setCell hB2 (p := ⟨w.heap.size, 1, none⟩) (Nat.le_refl _) (.string L)) nq)
    have hd : (n == up) = false := beq_eq_false_iff_ne.2 hnu
    go_wp2_with fail
    refine (HPp.out _ (hT.below hB3 htl)).mono ?_
    rintro e w4 ⟨rfl, hb4⟩
    have HU4 : Hid _ := Blk.below HU3.out hb4
    have HR4 : Hid _ := Blk.below HR3.out hb4
    have hB4 : Below w.heap.size w w4 := hB3.trans (hb4.mono hB3.size)
    clear hb4 u1 u2 u3 hB3 HU3 HR3 HU2 HR2 hB2
    go_wp2_with fail
    refine (HDd.out _ ((hB4.cell (p := ⟨1, 0, none⟩) hml).trans hm)).mono ?_
    rintro e w5 ⟨rfl, hb5⟩
    have hU5 := Blk.below HU4.out hb5
    have HR5 : Hid _ := Blk.below HR4.out hb5
    have hB5 : Below w.heap.size w w5 := hB4.trans (hb5.mono hB4.size)
    have HU5 : Hid (Blk (w5.setCell ⟨w.heap.size, 3, none⟩ (.string D)) w.heap.size #[.string S, .string L, .int .i64 n, .string D, .string Q, .bool asks]) := Blk.set hU5 3 (.string D) (by simp)
    have HR5s : Hid (Blk (w5.setCell ⟨w.heap.size, 3, none⟩ (.string D)) (w.heap.size + 1) #[.string ⟨#[]⟩, .string ⟨#[]⟩, .int .i64 0, .string ⟨#[]⟩, .string ⟨#[]⟩, .bool false]) := Blk.other HR5.out (Nat.succ_ne_self _) 3 (.string D)
    have hB5s : Below w.heap.size w (w5.setCell ⟨w.heap.size, 3, none⟩ (.string D)) := Below.setCell hB5 (p := ⟨w.heap.size, 3, none⟩) (Nat.le_refl _) (.string D)
    obtain ⟨v1, v2, v3⟩ := hU5
    clear hb5 hB4 hB5 HU4 HR4
    go_wp2_with fail
    refine (HPq.out _ (hT.below hB5s htl)).mono ?_
    rintro e w6 ⟨rfl, hb6⟩
    have hU6 := Blk.below HU5.out hb6
    have hR6 := Blk.below HR5s.out hb6
    have hB6 : Below w.heap.size w w6 := hB5s.trans (hb6.mono hB5s.size)
    obtain ⟨x1, x2, x3⟩ := hU6
    obtain ⟨y1, y2, y3⟩ := hR6
    clear hb6 hB5s v1 v2 v3 HU5 HR5 HR5s
    have hne : (w.heap.size + 1 = w.heap.size) = False := by simp
    have hne' : (w.heap.size = w.heap.size + 1) = False := by simp
    go_wp2_with fail
    exact bodyPost_ret (v := .tuple #[.agg #[.string S, .string L, .int .i64 n, .string D, .string F, .bool asks], .bool true]) (by simp [results, Tryd.results24, go_sem, y3]) rfl ⟨by rw [hNv], (((((((hB6.setCell (Nat.le_refl _) _).setCell (Nat.le_succ _) _).setCell (Nat.le_succ _) _).setCell (Nat.le_succ _) _).setCell (Nat.le_succ _) _).setCell (Nat.le_succ _) _).setCell (Nat.le_succ _) _)⟩

end Go.Proofs.YtlgjgdpalflmfaaDoor.Nrm
