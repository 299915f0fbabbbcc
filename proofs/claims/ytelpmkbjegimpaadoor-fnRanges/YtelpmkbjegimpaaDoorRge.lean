/-
  Walk: impl.readRange.
-/
import Derived.Test.YtelpmkbjegimpaaDoorRgd
namespace Go.Proofs.YtelpmkbjegimpaaDoor.Rgb
open Go.RowKit
open Go.Proofs.YtelpmkbjegimpaaDoor.Fch (Tab)
open Go.Proofs.YtelpmkbjegimpaaDoor.Rga
open Go.Proofs.YtelpmkbjegimpaaDoor.Ctf (cutA cutZ cutB cutI cut_some cut_none)
open Go.Proofs.YtelpmkbjegimpaaDoor.Wgt (rdL cut_call)

theorem rd_bd : ∀ (l : List UInt8) (n : Int), 0 ≤ n → -1 ≤ rdL l n ∧ rdL l n < (n + 1) * 10 ^ l.length
  | [], n, h => by
    show -1 ≤ n ∧ n < (n + 1) * 1
    omega
  | c :: r, n, h => by
    rw [rd_cons]
    have hp : (0 : Int) < 10 ^ r.length := Int.pow_pos (by decide)
    have hpow : (10 : Int) ^ (c :: r).length = 10 ^ r.length * 10 := by rw [List.length_cons, Int.pow_succ]
    by_cases hc : isD c = true
    · rw [if_pos hc]
      have hb := isD_iff.1 hc
      obtain ⟨h1, h2⟩ := rd_bd r (n * 10 + ((c.toNat : Int) - 48)) (by omega)
      refine ⟨h1, Int.lt_of_lt_of_le h2 ?_⟩
      rw [hpow, ← Int.mul_assoc, Int.mul_right_comm]
      exact Int.mul_le_mul_of_nonneg_right (by omega) (by omega)
    · rw [if_neg hc]
      refine ⟨by omega, ?_⟩
      have : (0 : Int) ≤ (n + 1) * 10 ^ (c :: r).length := Int.mul_nonneg (by omega) (by rw [hpow]; omega)
      omega
theorem pl_bd (s : ByteArray) : -1 ≤ plV s ∧ plV s < 1000000000 := by
  unfold plV
  split
  · omega
  · rename_i h
    have hl : (Lib.trimLeftB s.data.toList 48).length ≤ 9 := by omega
    obtain ⟨h1, h2⟩ := rd_bd (Lib.trimLeftB s.data.toList 48) 0 (by omega)
    rw [rd_zeros] at h1 h2
    refine ⟨h1, Int.lt_of_lt_of_le h2 ?_⟩
    have : (10 : Int) ^ (Lib.trimLeftB s.data.toList 48).length ≤ 10 ^ 9 := by
      have := Nat.pow_le_pow_right (n := 10) (by decide) hl
      have h3 : ((10 ^ (Lib.trimLeftB s.data.toList 48).length : Nat) : Int) ≤ ((10 ^ 9 : Nat) : Int) := Int.ofNat_le.2 this
      simpa using h3
    omega

/-- What impl.readRange answers. -/
def ansR (size : Int) (x : ByteArray) (e : Ending) : Prop := ∃ (F T : Int) (b : Bool), e = .returned (.tuple #[.agg #[.int .i64 F, .int .i64 T], .bool b]) ∧ b = (oneG numP size x).isSome ∧ ∀ o, oneG numP size x = some o → F = (spV o).1 ∧ T = (spV o).2

set_option maxRecDepth 20000 in
set_option maxHeartbeats 3200000 in
theorem readRange_any (x : ByteArray) (size m : Int) (w : World) (hT : Tab w) (hx : x.size ≤ 2000000) (hm : w.cell? ⟨0, 0, none⟩ = some (.int .i64 m)) (h0 : 0 ≤ size) (h1 : size ≤ 1000000) :
    Calls Tryd.prog 28 #[.string x, .int .i64 size] w fun e w' => ansR size x e ∧ Below w.heap.size w w' := by
  have hlt := hT.lt
  have hml := World.block_lt_of_cell? _ _ hm
  have HT : Hid (Tab w) := hT
  have HM : Hid (w.cell? ⟨0, 0, none⟩ = some (.int .i64 m)) := hm
  have HC : Hid _ := fun wx hx2 => cut_call x 45 m wx hx hx2
  have HPA : Hid _ := fun wx hx => readPlace_any (cutA x 45) wx hx
  have HPZ : Hid _ := fun wx hx => readPlace_any (cutZ x 45) wx hx
  have HSB : Hid _ := fun F T wx => between_any F T wx
  have bA := pl_bd (cutA x 45)
  have bZ := pl_bd (cutZ x 45)
  obtain ⟨og, hog⟩ : ∃ og, og = oneG numP size x := ⟨_, rfl⟩
  have hone := hog
  unfold oneG at hone
  have iA := @pl_is (cutA x 45)
  have iZ := @pl_is (cutZ x 45)
  have hb0 : Below w.heap.size w (w.alloc (.cells #[.int .i64 0, .int .i64 0] 33)) := (Below.refl _ _).alloc (Nat.le_refl _) _
  have HB0 : Hid _ := hb0
  have HT0 : Hid (Tab (w.alloc (.cells #[.int .i64 0, .int .i64 0] 33))) := hT.below hb0 hlt
  have HM0 : Hid ((w.alloc (.cells #[.int .i64 0, .int .i64 0] 33)).cell? ⟨0, 0, none⟩ = some (.int .i64 m)) := (hb0.cell (p := ⟨0, 0, none⟩) hml).trans hm
  unfold ansR
  rw [← hog]
  clear hog
  generalize cutA x 45 = A at *
  generalize cutZ x 45 = Z at *
  generalize plV A = pa at *
  generalize plV Z = pz at *
  generalize numP A = na at *
  generalize numP Z = nz at *
  cases hcb : cutB x 45
  · rw [hcb, if_pos rfl] at hone
    rw [hcb] at HC
    clear hcb iA iZ HPA HPZ HSB bA bZ HT HM hb0 hm hT hlt
    have HOne : Hid _ := hone
    clear hone
    go_enter Tryd.func28, Tryd.ntmps28
    go_wp2_with (first
      | (go_at_call 49; refine (HC.out _ HM0.out).mono ?_; rintro e w2 ⟨rfl, hb2⟩; have HB2 : Hid (Below w.heap.size w w2) := HB0.out.trans (hb2.mono HB0.out.size); have HT2 : Hid (Tab w2) := HT0.out.below hb2 HT0.out.lt; have HS2 : Hid (w.heap.size < w2.heap.size ∧ Below (w.heap.size + 1) (w.alloc (.cells #[.int .i64 0, .int .i64 0] 33)) w2) := ⟨by have := hb2.size; rw [World.size_alloc] at this; omega, by have := hb2; rw [World.size_alloc] at this; exact this⟩; have hcl := fun o => (HS2.out.2.cell (p := ⟨w.heap.size, o, none⟩) (by show w.heap.size < _; omega)); have hfr := fun o => (HS2.out.2.frozen (p := ⟨w.heap.size, o, none⟩) (by show w.heap.size < _; omega)); clear hb2)
      | (go_at_call 50; with_reducible refine (HPA.out _ HT2.out).mono ?_; rintro e w' ⟨rfl, hw⟩; obtain rfl := hw.symm)
      | (go_at_call 50; with_reducible refine (HPZ.out _ HT2.out).mono ?_; rintro e w' ⟨rfl, hw⟩; obtain rfl := hw.symm)
      | (go_at_call 51; refine (HSB.out _ _ _).mono ?_; rintro e w3 ⟨rfl, hb3⟩; have hcl3 := fun o => (hb3.cell (p := ⟨w.heap.size, o, none⟩) HS2.out.1).trans (hcl o); have hfr3 := fun o => (hb3.frozen (p := ⟨w.heap.size, o, none⟩) HS2.out.1).trans (hfr o); have HB3 : Hid (Below w.heap.size w w3) := HB2.out.trans (hb3.mono HB2.out.size); clear hb3))
    exact bodyPost_ret (v := .tuple #[.agg #[.int .i64 0, .int .i64 0], .bool false]) (by simp [results, Tryd.results28, go_sem, hcl]) rfl ⟨⟨_, _, _, rfl, by rw [HOne.out]; rfl, fun o h => by rw [HOne.out] at h; cases h⟩, (HB2.out.setCell (p := ⟨w.heap.size, 0, none⟩) (Nat.le_refl _) _).setCell (p := ⟨w.heap.size, 1, none⟩) (Nat.le_refl _) _⟩
  rw [hcb, if_neg (by decide)] at hone
  rw [hcb] at HC
  clear hcb
  by_cases hA : A.size = 0
  · have hem := Lsp.empty_cmp hA
    rw [if_pos hA] at hone
    clear hA iA bA HPA HT HM hb0 hm hT hlt
    by_cases hz : nz < 0
    · rw [if_pos hz] at hone
      have hdz : decide (0 ≤ nz) = false := decide_eq_false (by omega)
      clear iZ hz
      have HOne : Hid _ := hone
      clear hone
      go_enter Tryd.func28, Tryd.ntmps28
      go_wp2_with (first
        | (go_at_call 49; refine (HC.out _ HM0.out).mono ?_; rintro e w2 ⟨rfl, hb2⟩; have HB2 : Hid (Below w.heap.size w w2) := HB0.out.trans (hb2.mono HB0.out.size); have HT2 : Hid (Tab w2) := HT0.out.below hb2 HT0.out.lt; have HS2 : Hid (w.heap.size < w2.heap.size ∧ Below (w.heap.size + 1) (w.alloc (.cells #[.int .i64 0, .int .i64 0] 33)) w2) := ⟨by have := hb2.size; rw [World.size_alloc] at this; omega, by have := hb2; rw [World.size_alloc] at this; exact this⟩; have hcl := fun o => (HS2.out.2.cell (p := ⟨w.heap.size, o, none⟩) (by show w.heap.size < _; omega)); have hfr := fun o => (HS2.out.2.frozen (p := ⟨w.heap.size, o, none⟩) (by show w.heap.size < _; omega)); clear hb2)
        | (go_at_call 50; with_reducible refine (HPA.out _ HT2.out).mono ?_; rintro e w' ⟨rfl, hw⟩; obtain rfl := hw.symm)
        | (go_at_call 50; with_reducible refine (HPZ.out _ HT2.out).mono ?_; rintro e w' ⟨rfl, hw⟩; obtain rfl := hw.symm)
        | (go_at_call 51; refine (HSB.out _ _ _).mono ?_; rintro e w3 ⟨rfl, hb3⟩; have hcl3 := fun o => (hb3.cell (p := ⟨w.heap.size, o, none⟩) HS2.out.1).trans (hcl o); have hfr3 := fun o => (hb3.frozen (p := ⟨w.heap.size, o, none⟩) HS2.out.1).trans (hfr o); have HB3 : Hid (Below w.heap.size w w3) := HB2.out.trans (hb3.mono HB2.out.size); clear hb3))
      exact bodyPost_ret (v := .tuple #[.agg #[.int .i64 (spV (betw (max (size - pz) 0) size)).1, .int .i64 (spV (betw (max (size - pz) 0) size)).2], .bool false]) (by simp [results, Tryd.results28, go_sem, hcl3]) rfl ⟨⟨_, _, _, rfl, by rw [HOne.out]; rfl, fun o h => by rw [HOne.out] at h; cases h⟩, (HB3.out.setCell (p := ⟨w.heap.size, 0, none⟩) (Nat.le_refl _) _).setCell (p := ⟨w.heap.size, 1, none⟩) (Nat.le_refl _) _⟩
    · rw [if_neg hz] at hone
      have hdz : decide (0 ≤ nz) = true := decide_eq_true (by omega)
      obtain rfl := iZ (by omega)
      clear iZ hz
      have HOne : Hid _ := hone
      clear hone
      go_enter Tryd.func28, Tryd.ntmps28
      go_wp2_with (first
        | (go_at_call 49; refine (HC.out _ HM0.out).mono ?_; rintro e w2 ⟨rfl, hb2⟩; have HB2 : Hid (Below w.heap.size w w2) := HB0.out.trans (hb2.mono HB0.out.size); have HT2 : Hid (Tab w2) := HT0.out.below hb2 HT0.out.lt; have HS2 : Hid (w.heap.size < w2.heap.size ∧ Below (w.heap.size + 1) (w.alloc (.cells #[.int .i64 0, .int .i64 0] 33)) w2) := ⟨by have := hb2.size; rw [World.size_alloc] at this; omega, by have := hb2; rw [World.size_alloc] at this; exact this⟩; have hcl := fun o => (HS2.out.2.cell (p := ⟨w.heap.size, o, none⟩) (by show w.heap.size < _; omega)); have hfr := fun o => (HS2.out.2.frozen (p := ⟨w.heap.size, o, none⟩) (by show w.heap.size < _; omega)); clear hb2)
        | (go_at_call 50; with_reducible refine (HPA.out _ HT2.out).mono ?_; rintro e w' ⟨rfl, hw⟩; obtain rfl := hw.symm)
        | (go_at_call 50; with_reducible refine (HPZ.out _ HT2.out).mono ?_; rintro e w' ⟨rfl, hw⟩; obtain rfl := hw.symm)
        | (go_at_call 51; refine (HSB.out _ _ _).mono ?_; rintro e w3 ⟨rfl, hb3⟩; have hcl3 := fun o => (hb3.cell (p := ⟨w.heap.size, o, none⟩) HS2.out.1).trans (hcl o); have hfr3 := fun o => (hb3.frozen (p := ⟨w.heap.size, o, none⟩) HS2.out.1).trans (hfr o); have HB3 : Hid (Below w.heap.size w w3) := HB2.out.trans (hb3.mono HB2.out.size); clear hb3))
      exact bodyPost_ret (v := .tuple #[.agg #[.int .i64 (spV (betw (max (size - pz) 0) size)).1, .int .i64 (spV (betw (max (size - pz) 0) size)).2], .bool true]) (by simp [results, Tryd.results28, go_sem, hcl3]) rfl ⟨⟨_, _, _, rfl, by rw [HOne.out]; rfl, fun o h => by rw [HOne.out] at h; cases h; exact ⟨rfl, rfl⟩⟩, (HB3.out.setCell (p := ⟨w.heap.size, 0, none⟩) (Nat.le_refl _) _).setCell (p := ⟨w.heap.size, 1, none⟩) (Nat.le_refl _) _⟩
  have hem := Lsp.some_cmp hA
  rw [if_neg hA] at hone
  clear hA
  by_cases ha : na < 0
  · rw [if_pos ha] at hone
    have hda : decide (0 ≤ na) = false := decide_eq_false (by omega)
    clear ha iA iZ bZ HPZ HT HM hb0 hm hT hlt
    have HOne : Hid _ := hone
    clear hone
    go_enter Tryd.func28, Tryd.ntmps28
    go_wp2_with (first
      | (go_at_call 49; refine (HC.out _ HM0.out).mono ?_; rintro e w2 ⟨rfl, hb2⟩; have HB2 : Hid (Below w.heap.size w w2) := HB0.out.trans (hb2.mono HB0.out.size); have HT2 : Hid (Tab w2) := HT0.out.below hb2 HT0.out.lt; have HS2 : Hid (w.heap.size < w2.heap.size ∧ Below (w.heap.size + 1) (w.alloc (.cells #[.int .i64 0, .int .i64 0] 33)) w2) := ⟨by have := hb2.size; rw [World.size_alloc] at this; omega, by have := hb2; rw [World.size_alloc] at this; exact this⟩; have hcl := fun o => (HS2.out.2.cell (p := ⟨w.heap.size, o, none⟩) (by show w.heap.size < _; omega)); have hfr := fun o => (HS2.out.2.frozen (p := ⟨w.heap.size, o, none⟩) (by show w.heap.size < _; omega)); clear hb2)
      | (go_at_call 50; with_reducible refine (HPA.out _ HT2.out).mono ?_; rintro e w' ⟨rfl, hw⟩; obtain rfl := hw.symm)
      | (go_at_call 50; with_reducible refine (HPZ.out _ HT2.out).mono ?_; rintro e w' ⟨rfl, hw⟩; obtain rfl := hw.symm)
      | (go_at_call 51; refine (HSB.out _ _ _).mono ?_; rintro e w3 ⟨rfl, hb3⟩; have hcl3 := fun o => (hb3.cell (p := ⟨w.heap.size, o, none⟩) HS2.out.1).trans (hcl o); have hfr3 := fun o => (hb3.frozen (p := ⟨w.heap.size, o, none⟩) HS2.out.1).trans (hfr o); have HB3 : Hid (Below w.heap.size w w3) := HB2.out.trans (hb3.mono HB2.out.size); clear hb3))
    exact bodyPost_ret (v := .tuple #[.agg #[.int .i64 (spV (betw pa size)).1, .int .i64 (spV (betw pa size)).2], .bool false]) (by simp [results, Tryd.results28, go_sem, hcl3]) rfl ⟨⟨_, _, _, rfl, by rw [HOne.out]; rfl, fun o h => by rw [HOne.out] at h; cases h⟩, (HB3.out.setCell (p := ⟨w.heap.size, 0, none⟩) (Nat.le_refl _) _).setCell (p := ⟨w.heap.size, 1, none⟩) (Nat.le_refl _) _⟩
  rw [if_neg ha] at hone
  have hda : decide (0 ≤ na) = true := decide_eq_true (by omega)
  obtain rfl := iA (by omega)
  clear iA
  by_cases hZ : Z.size = 0
  · have hez := Lsp.empty_cmp hZ
    rw [if_pos hZ] at hone
    clear ha hZ iZ bZ HPZ HT HM hb0 hm hT hlt
    have HOne : Hid _ := hone
    clear hone
    go_enter Tryd.func28, Tryd.ntmps28
    go_wp2_with (first
      | (go_at_call 49; refine (HC.out _ HM0.out).mono ?_; rintro e w2 ⟨rfl, hb2⟩; have HB2 : Hid (Below w.heap.size w w2) := HB0.out.trans (hb2.mono HB0.out.size); have HT2 : Hid (Tab w2) := HT0.out.below hb2 HT0.out.lt; have HS2 : Hid (w.heap.size < w2.heap.size ∧ Below (w.heap.size + 1) (w.alloc (.cells #[.int .i64 0, .int .i64 0] 33)) w2) := ⟨by have := hb2.size; rw [World.size_alloc] at this; omega, by have := hb2; rw [World.size_alloc] at this; exact this⟩; have hcl := fun o => (HS2.out.2.cell (p := ⟨w.heap.size, o, none⟩) (by show w.heap.size < _; omega)); have hfr := fun o => (HS2.out.2.frozen (p := ⟨w.heap.size, o, none⟩) (by show w.heap.size < _; omega)); clear hb2)
      | (go_at_call 50; with_reducible refine (HPA.out _ HT2.out).mono ?_; rintro e w' ⟨rfl, hw⟩; obtain rfl := hw.symm)
      | (go_at_call 50; with_reducible refine (HPZ.out _ HT2.out).mono ?_; rintro e w' ⟨rfl, hw⟩; obtain rfl := hw.symm)
      | (go_at_call 51; refine (HSB.out _ _ _).mono ?_; rintro e w3 ⟨rfl, hb3⟩; have hcl3 := fun o => (hb3.cell (p := ⟨w.heap.size, o, none⟩) HS2.out.1).trans (hcl o); have hfr3 := fun o => (hb3.frozen (p := ⟨w.heap.size, o, none⟩) HS2.out.1).trans (hfr o); have HB3 : Hid (Below w.heap.size w w3) := HB2.out.trans (hb3.mono HB2.out.size); clear hb3))
    exact bodyPost_ret (v := .tuple #[.agg #[.int .i64 (spV (betw pa size)).1, .int .i64 (spV (betw pa size)).2], .bool true]) (by simp [results, Tryd.results28, go_sem, hcl3]) rfl ⟨⟨_, _, _, rfl, by rw [HOne.out]; rfl, fun o h => by rw [HOne.out] at h; cases h; exact ⟨rfl, rfl⟩⟩, (HB3.out.setCell (p := ⟨w.heap.size, 0, none⟩) (Nat.le_refl _) _).setCell (p := ⟨w.heap.size, 1, none⟩) (Nat.le_refl _) _⟩
  have hez := Lsp.some_cmp hZ
  rw [if_neg hZ] at hone
  clear hZ
  by_cases hz : nz < 0
  · rw [if_pos (by omega)] at hone
    have hdz : decide (0 ≤ nz) = false := decide_eq_false (by omega)
    clear iZ ha hz HT HM hb0 hm hT hlt
    have HOne : Hid _ := hone
    clear hone
    go_enter Tryd.func28, Tryd.ntmps28
    go_wp2_with (first
      | (go_at_call 49; refine (HC.out _ HM0.out).mono ?_; rintro e w2 ⟨rfl, hb2⟩; have HB2 : Hid (Below w.heap.size w w2) := HB0.out.trans (hb2.mono HB0.out.size); have HT2 : Hid (Tab w2) := HT0.out.below hb2 HT0.out.lt; have HS2 : Hid (w.heap.size < w2.heap.size ∧ Below (w.heap.size + 1) (w.alloc (.cells #[.int .i64 0, .int .i64 0] 33)) w2) := ⟨by have := hb2.size; rw [World.size_alloc] at this; omega, by have := hb2; rw [World.size_alloc] at this; exact this⟩; have hcl := fun o => (HS2.out.2.cell (p := ⟨w.heap.size, o, none⟩) (by show w.heap.size < _; omega)); have hfr := fun o => (HS2.out.2.frozen (p := ⟨w.heap.size, o, none⟩) (by show w.heap.size < _; omega)); clear hb2)
      | (go_at_call 50; with_reducible refine (HPA.out _ HT2.out).mono ?_; rintro e w' ⟨rfl, hw⟩; obtain rfl := hw.symm)
      | (go_at_call 50; with_reducible refine (HPZ.out _ HT2.out).mono ?_; rintro e w' ⟨rfl, hw⟩; obtain rfl := hw.symm)
      | (go_at_call 51; refine (HSB.out _ _ _).mono ?_; rintro e w3 ⟨rfl, hb3⟩; have hcl3 := fun o => (hb3.cell (p := ⟨w.heap.size, o, none⟩) HS2.out.1).trans (hcl o); have hfr3 := fun o => (hb3.frozen (p := ⟨w.heap.size, o, none⟩) HS2.out.1).trans (hfr o); have HB3 : Hid (Below w.heap.size w w3) := HB2.out.trans (hb3.mono HB2.out.size); clear hb3))
    exact bodyPost_ret (v := .tuple #[.agg #[.int .i64 (spV (betw pa (min (pz + 1) size))).1, .int .i64 (spV (betw pa (min (pz + 1) size))).2], .bool false]) (by simp [results, Tryd.results28, go_sem, hcl3]) rfl ⟨⟨_, _, _, rfl, by rw [HOne.out]; rfl, fun o h => by rw [HOne.out] at h; cases h⟩, (HB3.out.setCell (p := ⟨w.heap.size, 0, none⟩) (Nat.le_refl _) _).setCell (p := ⟨w.heap.size, 1, none⟩) (Nat.le_refl _) _⟩
  have hdz : decide (0 ≤ nz) = true := decide_eq_true (by omega)
  obtain rfl := iZ (by omega)
  clear iZ
  by_cases hle : pz < pa
  · rw [if_pos hle] at hone
    have hdl : decide (pa ≤ pz) = false := decide_eq_false (by omega)
    clear ha hz HT HM hb0 hm hT hlt hle
    have HOne : Hid _ := hone
    clear hone
    go_enter Tryd.func28, Tryd.ntmps28
    go_wp2_with (first
      | (go_at_call 49; refine (HC.out _ HM0.out).mono ?_; rintro e w2 ⟨rfl, hb2⟩; have HB2 : Hid (Below w.heap.size w w2) := HB0.out.trans (hb2.mono HB0.out.size); have HT2 : Hid (Tab w2) := HT0.out.below hb2 HT0.out.lt; have HS2 : Hid (w.heap.size < w2.heap.size ∧ Below (w.heap.size + 1) (w.alloc (.cells #[.int .i64 0, .int .i64 0] 33)) w2) := ⟨by have := hb2.size; rw [World.size_alloc] at this; omega, by have := hb2; rw [World.size_alloc] at this; exact this⟩; have hcl := fun o => (HS2.out.2.cell (p := ⟨w.heap.size, o, none⟩) (by show w.heap.size < _; omega)); have hfr := fun o => (HS2.out.2.frozen (p := ⟨w.heap.size, o, none⟩) (by show w.heap.size < _; omega)); clear hb2)
      | (go_at_call 50; with_reducible refine (HPA.out _ HT2.out).mono ?_; rintro e w' ⟨rfl, hw⟩; obtain rfl := hw.symm)
      | (go_at_call 50; with_reducible refine (HPZ.out _ HT2.out).mono ?_; rintro e w' ⟨rfl, hw⟩; obtain rfl := hw.symm)
      | (go_at_call 51; refine (HSB.out _ _ _).mono ?_; rintro e w3 ⟨rfl, hb3⟩; have hcl3 := fun o => (hb3.cell (p := ⟨w.heap.size, o, none⟩) HS2.out.1).trans (hcl o); have hfr3 := fun o => (hb3.frozen (p := ⟨w.heap.size, o, none⟩) HS2.out.1).trans (hfr o); have HB3 : Hid (Below w.heap.size w w3) := HB2.out.trans (hb3.mono HB2.out.size); clear hb3))
    exact bodyPost_ret (v := .tuple #[.agg #[.int .i64 (spV (betw pa (min (pz + 1) size))).1, .int .i64 (spV (betw pa (min (pz + 1) size))).2], .bool false]) (by simp [results, Tryd.results28, go_sem, hcl3]) rfl ⟨⟨_, _, _, rfl, by rw [HOne.out]; rfl, fun o h => by rw [HOne.out] at h; cases h⟩, (HB3.out.setCell (p := ⟨w.heap.size, 0, none⟩) (Nat.le_refl _) _).setCell (p := ⟨w.heap.size, 1, none⟩) (Nat.le_refl _) _⟩
  · rw [if_neg hle] at hone
    have hdl : decide (pa ≤ pz) = true := decide_eq_true (by omega)
    clear ha hz HT HM hb0 hm hT hlt hle
    have HOne : Hid _ := hone
    clear hone
    go_enter Tryd.func28, Tryd.ntmps28
    go_wp2_with (first
      | (go_at_call 49; refine (HC.out _ HM0.out).mono ?_; rintro e w2 ⟨rfl, hb2⟩; have HB2 : Hid (Below w.heap.size w w2) := HB0.out.trans (hb2.mono HB0.out.size); have HT2 : Hid (Tab w2) := HT0.out.below hb2 HT0.out.lt; have HS2 : Hid (w.heap.size < w2.heap.size ∧ Below (w.heap.size + 1) (w.alloc (.cells #[.int .i64 0, .int .i64 0] 33)) w2) := ⟨by have := hb2.size; rw [World.size_alloc] at this; omega, by have := hb2; rw [World.size_alloc] at this; exact this⟩; have hcl := fun o => (HS2.out.2.cell (p := ⟨w.heap.size, o, none⟩) (by show w.heap.size < _; omega)); have hfr := fun o => (HS2.out.2.frozen (p := ⟨w.heap.size, o, none⟩) (by show w.heap.size < _; omega)); clear hb2)
      | (go_at_call 50; with_reducible refine (HPA.out _ HT2.out).mono ?_; rintro e w' ⟨rfl, hw⟩; obtain rfl := hw.symm)
      | (go_at_call 50; with_reducible refine (HPZ.out _ HT2.out).mono ?_; rintro e w' ⟨rfl, hw⟩; obtain rfl := hw.symm)
      | (go_at_call 51; refine (HSB.out _ _ _).mono ?_; rintro e w3 ⟨rfl, hb3⟩; have hcl3 := fun o => (hb3.cell (p := ⟨w.heap.size, o, none⟩) HS2.out.1).trans (hcl o); have hfr3 := fun o => (hb3.frozen (p := ⟨w.heap.size, o, none⟩) HS2.out.1).trans (hfr o); have HB3 : Hid (Below w.heap.size w w3) := HB2.out.trans (hb3.mono HB2.out.size); clear hb3))
    exact bodyPost_ret (v := .tuple #[.agg #[.int .i64 (spV (betw pa (min (pz + 1) size))).1, .int .i64 (spV (betw pa (min (pz + 1) size))).2], .bool true]) (by simp [results, Tryd.results28, go_sem, hcl3]) rfl ⟨⟨_, _, _, rfl, by rw [HOne.out]; rfl, fun o h => by rw [HOne.out] at h; cases h; exact ⟨rfl, rfl⟩⟩, (HB3.out.setCell (p := ⟨w.heap.size, 0, none⟩) (Nat.le_refl _) _).setCell (p := ⟨w.heap.size, 1, none⟩) (Nat.le_refl _) _⟩

end Go.Proofs.YtelpmkbjegimpaaDoor.Rgb
