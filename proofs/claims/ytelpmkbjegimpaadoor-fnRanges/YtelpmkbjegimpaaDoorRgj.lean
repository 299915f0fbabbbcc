/-
  Walk: spec.l6One.
-/
import Derived.Test.YtelpmkbjegimpaaDoorRgi
import Derived.Test.YtelpmkbjegimpaaDoorRge
namespace Go.Proofs.YtelpmkbjegimpaaDoor.Rgb
open Go.RowKit
open Go.Proofs.YtelpmkbjegimpaaDoor.Rga
open Go.Proofs.YtelpmkbjegimpaaDoor.Ctf (cutA cutZ cutB l1Cut_any)
open Go.Proofs.YtelpmkbjegimpaaDoor.Rgi (l6Number_any)

/-- What spec.l6One answers. -/
def isQ (F T c : Int) : Option (Option (Int × Int)) → Prop
  | none => c = 2
  | some none => c = 1
  | some (some p) => c = 0 ∧ F = p.1 ∧ T = p.2
def ansQ (size : Int) (x : ByteArray) (e : Ending) : Prop := ∃ F T c : Int, e = .returned (.tuple #[.agg #[.int .i64 F, .int .i64 T], .int .i64 c]) ∧ isQ F T c (oneG numQ size x)
theorem q_bd (s : ByteArray) : -1 ≤ numQ s ∧ numQ s < 1000000000 := by
  unfold numQ
  split
  · omega
  · rename_i h
    obtain ⟨h1, h2⟩ := rd_bd s.data.toList 0 (by omega)
    have hl : s.data.toList.length = s.size := by simp
    refine ⟨h1, Int.lt_of_lt_of_le h2 ?_⟩
    have : (10 : Int) ^ s.data.toList.length ≤ 10 ^ 9 := by
      have := Nat.pow_le_pow_right (n := 10) (by decide) (show s.data.toList.length ≤ 9 by omega)
      have h3 : ((10 ^ s.data.toList.length : Nat) : Int) ≤ ((10 ^ 9 : Nat) : Int) := Int.ofNat_le.2 this
      simpa using h3
    omega

set_option maxRecDepth 20000 in
set_option maxHeartbeats 6400000 in
theorem l6One_any (x : ByteArray) (size : Int) (w : World) (hx : x.size ≤ 2000000) (h0 : 0 ≤ size) (h1 : size ≤ 1000000) :
    Calls Tryd.prog 38 #[.string x, .int .i64 size] w fun e w' => ansQ size x e ∧ Below w.heap.size w w' := by
  have HC : Hid _ := fun wx => l1Cut_any x 45 wx hx
  have HA : Hid _ := fun wx => l6Number_any (cutA x 45) wx
  have HZ : Hid _ := fun wx => l6Number_any (cutZ x 45) wx
  have bA := q_bd (cutA x 45)
  have bZ := q_bd (cutZ x 45)
  obtain ⟨og, hog⟩ : ∃ og, og = oneG numQ size x := ⟨_, rfl⟩
  have hone := hog
  unfold oneG at hone
  have HB0 : Hid (Below w.heap.size w (w.alloc (.cells #[.int .i64 0, .int .i64 0] 33))) := (Below.refl _ _).alloc (Nat.le_refl _) _
  unfold ansQ
  rw [← hog]
  clear hog
  generalize cutA x 45 = A at *
  generalize cutZ x 45 = Z at *
  generalize numQ A = na at *
  generalize numQ Z = nz at *
  have hbetw : ∀ f t : Int, betw f t = if t ≤ f then none else some (f, t) := fun _ _ => rfl
  cases hcb : cutB x 45
  · rw [hcb, if_pos rfl] at hone
    rw [hcb] at HC
    clear hcb HA HZ bA bZ hbetw
    have HOne : Hid _ := hone
    clear hone
    go_enter Tryd.func38, Tryd.ntmps38
    go_wp2_with (first
      | (go_at_call 54; refine (HC.out _).mono ?_; rintro e w2 ⟨rfl, hb2⟩; have HB2 : Hid (Below w.heap.size w w2) := HB0.out.trans (hb2.mono HB0.out.size); have HS2 : Hid (w.heap.size < w2.heap.size ∧ Below (w.heap.size + 1) (w.alloc (.cells #[.int .i64 0, .int .i64 0] 33)) w2) := ⟨by have := hb2.size; rw [World.size_alloc] at this; omega, by have := hb2; rw [World.size_alloc] at this; exact this⟩; have hcl := fun o => (HS2.out.2.cell (p := ⟨w.heap.size, o, none⟩) (by show w.heap.size < _; omega)); have hfr := fun o => (HS2.out.2.frozen (p := ⟨w.heap.size, o, none⟩) (by show w.heap.size < _; omega)); clear hb2)
      | (go_at_call 55; with_reducible refine (HZ.out _).mono ?_; rintro e w' ⟨rfl, hw⟩; obtain rfl := hw.symm)
      | (go_at_call 55; with_reducible refine (HA.out _).mono ?_; rintro e w' ⟨rfl, hw⟩; obtain rfl := hw.symm))
    exact bodyPost_ret (v := .tuple #[.agg #[.int .i64 0, .int .i64 0], .int .i64 2]) (by simp [results, Tryd.results38, go_sem, hcl]) rfl ⟨⟨_, _, _, rfl, by rw [HOne.out]; exact rfl⟩, (HB2.out.setCell (p := ⟨w.heap.size, 0, none⟩) (Nat.le_refl _) _).setCell (p := ⟨w.heap.size, 1, none⟩) (Nat.le_refl _) _⟩
  rw [hcb, if_neg (by decide)] at hone
  rw [hcb] at HC
  clear hcb
  by_cases hA0 : A.size = 0
  · have hem := Lsp.empty_cmp hA0
    rw [if_pos hA0] at hone
    clear hA0 bA HA
    by_cases hz : nz < 0
    · rw [if_pos hz] at hone
      have hd1 : decide (nz < 0) = true := decide_eq_true hz
      clear hbetw hz
      have HOne : Hid _ := hone
      clear hone
      go_enter Tryd.func38, Tryd.ntmps38
      go_wp2_with (first
        | (go_at_call 54; refine (HC.out _).mono ?_; rintro e w2 ⟨rfl, hb2⟩; have HB2 : Hid (Below w.heap.size w w2) := HB0.out.trans (hb2.mono HB0.out.size); have HS2 : Hid (w.heap.size < w2.heap.size ∧ Below (w.heap.size + 1) (w.alloc (.cells #[.int .i64 0, .int .i64 0] 33)) w2) := ⟨by have := hb2.size; rw [World.size_alloc] at this; omega, by have := hb2; rw [World.size_alloc] at this; exact this⟩; have hcl := fun o => (HS2.out.2.cell (p := ⟨w.heap.size, o, none⟩) (by show w.heap.size < _; omega)); have hfr := fun o => (HS2.out.2.frozen (p := ⟨w.heap.size, o, none⟩) (by show w.heap.size < _; omega)); clear hb2)
        | (go_at_call 55; with_reducible refine (HZ.out _).mono ?_; rintro e w' ⟨rfl, hw⟩; obtain rfl := hw.symm)
        | (go_at_call 55; with_reducible refine (HA.out _).mono ?_; rintro e w' ⟨rfl, hw⟩; obtain rfl := hw.symm))
      exact bodyPost_ret (v := .tuple #[.agg #[.int .i64 0, .int .i64 0], .int .i64 2]) (by simp [results, Tryd.results38, go_sem, hcl]) rfl ⟨⟨_, _, _, rfl, by rw [HOne.out]; exact rfl⟩, (HB2.out.setCell (p := ⟨w.heap.size, 0, none⟩) (Nat.le_refl _) _).setCell (p := ⟨w.heap.size, 1, none⟩) (Nat.le_refl _) _⟩
    rw [if_neg hz, hbetw] at hone
    have hd1 : decide (nz < 0) = false := decide_eq_false hz
    clear hbetw
    by_cases hgt : size < nz
    · have hd2 : decide (size < nz) = true := decide_eq_true hgt
      by_cases hs0 : size = 0
      · rw [if_pos (by omega)] at hone
        have hd3 : (size == 0) = true := by rw [beq_iff_eq]; exact hs0
        clear hz hgt hs0
        have HOne : Hid _ := hone
        clear hone
        go_enter Tryd.func38, Tryd.ntmps38
        go_wp2_with (first
          | (go_at_call 54; refine (HC.out _).mono ?_; rintro e w2 ⟨rfl, hb2⟩; have HB2 : Hid (Below w.heap.size w w2) := HB0.out.trans (hb2.mono HB0.out.size); have HS2 : Hid (w.heap.size < w2.heap.size ∧ Below (w.heap.size + 1) (w.alloc (.cells #[.int .i64 0, .int .i64 0] 33)) w2) := ⟨by have := hb2.size; rw [World.size_alloc] at this; omega, by have := hb2; rw [World.size_alloc] at this; exact this⟩; have hcl := fun o => (HS2.out.2.cell (p := ⟨w.heap.size, o, none⟩) (by show w.heap.size < _; omega)); have hfr := fun o => (HS2.out.2.frozen (p := ⟨w.heap.size, o, none⟩) (by show w.heap.size < _; omega)); clear hb2)
          | (go_at_call 55; with_reducible refine (HZ.out _).mono ?_; rintro e w' ⟨rfl, hw⟩; obtain rfl := hw.symm)
          | (go_at_call 55; with_reducible refine (HA.out _).mono ?_; rintro e w' ⟨rfl, hw⟩; obtain rfl := hw.symm))
        exact bodyPost_ret (v := .tuple #[.agg #[.int .i64 0, .int .i64 0], .int .i64 1]) (by simp [results, Tryd.results38, go_sem, hcl]) rfl ⟨⟨_, _, _, rfl, by rw [HOne.out]; exact rfl⟩, (HB2.out.setCell (p := ⟨w.heap.size, 0, none⟩) (Nat.le_refl _) _).setCell (p := ⟨w.heap.size, 1, none⟩) (Nat.le_refl _) _⟩
      · rw [if_neg (by omega), show max (size - nz) 0 = 0 by omega] at hone
        have hd3 : (size == 0) = false := by rw [beq_eq_false_iff_ne]; exact hs0
        clear hz hgt hs0
        have HOne : Hid _ := hone
        clear hone
        go_enter Tryd.func38, Tryd.ntmps38
        go_wp2_with (first
          | (go_at_call 54; refine (HC.out _).mono ?_; rintro e w2 ⟨rfl, hb2⟩; have HB2 : Hid (Below w.heap.size w w2) := HB0.out.trans (hb2.mono HB0.out.size); have HS2 : Hid (w.heap.size < w2.heap.size ∧ Below (w.heap.size + 1) (w.alloc (.cells #[.int .i64 0, .int .i64 0] 33)) w2) := ⟨by have := hb2.size; rw [World.size_alloc] at this; omega, by have := hb2; rw [World.size_alloc] at this; exact this⟩; have hcl := fun o => (HS2.out.2.cell (p := ⟨w.heap.size, o, none⟩) (by show w.heap.size < _; omega)); have hfr := fun o => (HS2.out.2.frozen (p := ⟨w.heap.size, o, none⟩) (by show w.heap.size < _; omega)); clear hb2)
          | (go_at_call 55; with_reducible refine (HZ.out _).mono ?_; rintro e w' ⟨rfl, hw⟩; obtain rfl := hw.symm)
          | (go_at_call 55; with_reducible refine (HA.out _).mono ?_; rintro e w' ⟨rfl, hw⟩; obtain rfl := hw.symm))
        exact bodyPost_ret (v := .tuple #[.agg #[.int .i64 0, .int .i64 size], .int .i64 0]) (by simp [results, Tryd.results38, go_sem, hcl]) rfl ⟨⟨_, _, _, rfl, by rw [HOne.out]; exact ⟨rfl, rfl, rfl⟩⟩, (HB2.out.setCell (p := ⟨w.heap.size, 0, none⟩) (Nat.le_refl _) _).setCell (p := ⟨w.heap.size, 1, none⟩) (Nat.le_refl _) _⟩
    · have hd2 : decide (size < nz) = false := decide_eq_false hgt
      by_cases hs0 : nz = 0
      · rw [if_pos (by omega)] at hone
        have hd3 : (nz == 0) = true := by rw [beq_iff_eq]; exact hs0
        clear hz hgt hs0
        have HOne : Hid _ := hone
        clear hone
        go_enter Tryd.func38, Tryd.ntmps38
        go_wp2_with (first
          | (go_at_call 54; refine (HC.out _).mono ?_; rintro e w2 ⟨rfl, hb2⟩; have HB2 : Hid (Below w.heap.size w w2) := HB0.out.trans (hb2.mono HB0.out.size); have HS2 : Hid (w.heap.size < w2.heap.size ∧ Below (w.heap.size + 1) (w.alloc (.cells #[.int .i64 0, .int .i64 0] 33)) w2) := ⟨by have := hb2.size; rw [World.size_alloc] at this; omega, by have := hb2; rw [World.size_alloc] at this; exact this⟩; have hcl := fun o => (HS2.out.2.cell (p := ⟨w.heap.size, o, none⟩) (by show w.heap.size < _; omega)); have hfr := fun o => (HS2.out.2.frozen (p := ⟨w.heap.size, o, none⟩) (by show w.heap.size < _; omega)); clear hb2)
          | (go_at_call 55; with_reducible refine (HZ.out _).mono ?_; rintro e w' ⟨rfl, hw⟩; obtain rfl := hw.symm)
          | (go_at_call 55; with_reducible refine (HA.out _).mono ?_; rintro e w' ⟨rfl, hw⟩; obtain rfl := hw.symm))
        exact bodyPost_ret (v := .tuple #[.agg #[.int .i64 0, .int .i64 0], .int .i64 1]) (by simp [results, Tryd.results38, go_sem, hcl]) rfl ⟨⟨_, _, _, rfl, by rw [HOne.out]; exact rfl⟩, (HB2.out.setCell (p := ⟨w.heap.size, 0, none⟩) (Nat.le_refl _) _).setCell (p := ⟨w.heap.size, 1, none⟩) (Nat.le_refl _) _⟩
      · rw [if_neg (by omega), show max (size - nz) 0 = size - nz by omega] at hone
        have hd3 : (nz == 0) = false := by rw [beq_eq_false_iff_ne]; exact hs0
        have hz9 : 0 ≤ nz := by omega
        have hg9 : nz ≤ size := by omega
        clear hz hgt hs0
        have HOne : Hid _ := hone
        clear hone
        go_enter Tryd.func38, Tryd.ntmps38
        go_wp2_with (first
          | (go_at_call 54; refine (HC.out _).mono ?_; rintro e w2 ⟨rfl, hb2⟩; have HB2 : Hid (Below w.heap.size w w2) := HB0.out.trans (hb2.mono HB0.out.size); have HS2 : Hid (w.heap.size < w2.heap.size ∧ Below (w.heap.size + 1) (w.alloc (.cells #[.int .i64 0, .int .i64 0] 33)) w2) := ⟨by have := hb2.size; rw [World.size_alloc] at this; omega, by have := hb2; rw [World.size_alloc] at this; exact this⟩; have hcl := fun o => (HS2.out.2.cell (p := ⟨w.heap.size, o, none⟩) (by show w.heap.size < _; omega)); have hfr := fun o => (HS2.out.2.frozen (p := ⟨w.heap.size, o, none⟩) (by show w.heap.size < _; omega)); clear hb2)
          | (go_at_call 55; with_reducible refine (HZ.out _).mono ?_; rintro e w' ⟨rfl, hw⟩; obtain rfl := hw.symm)
          | (go_at_call 55; with_reducible refine (HA.out _).mono ?_; rintro e w' ⟨rfl, hw⟩; obtain rfl := hw.symm))
        exact bodyPost_ret (v := .tuple #[.agg #[.int .i64 (size - nz), .int .i64 size], .int .i64 0]) (by simp [results, Tryd.results38, go_sem, hcl]) rfl ⟨⟨_, _, _, rfl, by rw [HOne.out]; exact ⟨rfl, rfl, rfl⟩⟩, (HB2.out.setCell (p := ⟨w.heap.size, 0, none⟩) (Nat.le_refl _) _).setCell (p := ⟨w.heap.size, 1, none⟩) (Nat.le_refl _) _⟩
  have hem := Lsp.some_cmp hA0
  rw [if_neg hA0] at hone
  clear hA0
  by_cases ha : na < 0
  · rw [if_pos ha] at hone
    have hd1 : decide (na < 0) = true := decide_eq_true ha
    clear ha hbetw
    have HOne : Hid _ := hone
    clear hone
    go_enter Tryd.func38, Tryd.ntmps38
    go_wp2_with (first
      | (go_at_call 54; refine (HC.out _).mono ?_; rintro e w2 ⟨rfl, hb2⟩; have HB2 : Hid (Below w.heap.size w w2) := HB0.out.trans (hb2.mono HB0.out.size); have HS2 : Hid (w.heap.size < w2.heap.size ∧ Below (w.heap.size + 1) (w.alloc (.cells #[.int .i64 0, .int .i64 0] 33)) w2) := ⟨by have := hb2.size; rw [World.size_alloc] at this; omega, by have := hb2; rw [World.size_alloc] at this; exact this⟩; have hcl := fun o => (HS2.out.2.cell (p := ⟨w.heap.size, o, none⟩) (by show w.heap.size < _; omega)); have hfr := fun o => (HS2.out.2.frozen (p := ⟨w.heap.size, o, none⟩) (by show w.heap.size < _; omega)); clear hb2)
      | (go_at_call 55; with_reducible refine (HZ.out _).mono ?_; rintro e w' ⟨rfl, hw⟩; obtain rfl := hw.symm)
      | (go_at_call 55; with_reducible refine (HA.out _).mono ?_; rintro e w' ⟨rfl, hw⟩; obtain rfl := hw.symm))
    exact bodyPost_ret (v := .tuple #[.agg #[.int .i64 0, .int .i64 0], .int .i64 2]) (by simp [results, Tryd.results38, go_sem, hcl]) rfl ⟨⟨_, _, _, rfl, by rw [HOne.out]; exact rfl⟩, (HB2.out.setCell (p := ⟨w.heap.size, 0, none⟩) (Nat.le_refl _) _).setCell (p := ⟨w.heap.size, 1, none⟩) (Nat.le_refl _) _⟩
  rw [if_neg ha] at hone
  have hd1 : decide (na < 0) = false := decide_eq_false ha
  by_cases hZ0 : Z.size = 0
  · have hez := Lsp.empty_cmp hZ0
    rw [if_pos hZ0, hbetw] at hone
    clear hZ0 hbetw
    by_cases hsf : size ≤ na
    · rw [if_pos hsf] at hone
      have hd2 : decide (size ≤ na) = true := decide_eq_true hsf
      clear ha hsf
      have HOne : Hid _ := hone
      clear hone
      go_enter Tryd.func38, Tryd.ntmps38
      go_wp2_with (first
        | (go_at_call 54; refine (HC.out _).mono ?_; rintro e w2 ⟨rfl, hb2⟩; have HB2 : Hid (Below w.heap.size w w2) := HB0.out.trans (hb2.mono HB0.out.size); have HS2 : Hid (w.heap.size < w2.heap.size ∧ Below (w.heap.size + 1) (w.alloc (.cells #[.int .i64 0, .int .i64 0] 33)) w2) := ⟨by have := hb2.size; rw [World.size_alloc] at this; omega, by have := hb2; rw [World.size_alloc] at this; exact this⟩; have hcl := fun o => (HS2.out.2.cell (p := ⟨w.heap.size, o, none⟩) (by show w.heap.size < _; omega)); have hfr := fun o => (HS2.out.2.frozen (p := ⟨w.heap.size, o, none⟩) (by show w.heap.size < _; omega)); clear hb2)
        | (go_at_call 55; with_reducible refine (HZ.out _).mono ?_; rintro e w' ⟨rfl, hw⟩; obtain rfl := hw.symm)
        | (go_at_call 55; with_reducible refine (HA.out _).mono ?_; rintro e w' ⟨rfl, hw⟩; obtain rfl := hw.symm))
      exact bodyPost_ret (v := .tuple #[.agg #[.int .i64 0, .int .i64 0], .int .i64 1]) (by simp [results, Tryd.results38, go_sem, hcl]) rfl ⟨⟨_, _, _, rfl, by rw [HOne.out]; exact rfl⟩, (HB2.out.setCell (p := ⟨w.heap.size, 0, none⟩) (Nat.le_refl _) _).setCell (p := ⟨w.heap.size, 1, none⟩) (Nat.le_refl _) _⟩
    · rw [if_neg hsf] at hone
      have hd2 : decide (size ≤ na) = false := decide_eq_false hsf
      have hs1 : size - 1 + 1 = size := by omega
      clear ha hsf
      have HOne : Hid _ := hone
      clear hone
      go_enter Tryd.func38, Tryd.ntmps38
      go_wp2_with (first
        | (go_at_call 54; refine (HC.out _).mono ?_; rintro e w2 ⟨rfl, hb2⟩; have HB2 : Hid (Below w.heap.size w w2) := HB0.out.trans (hb2.mono HB0.out.size); have HS2 : Hid (w.heap.size < w2.heap.size ∧ Below (w.heap.size + 1) (w.alloc (.cells #[.int .i64 0, .int .i64 0] 33)) w2) := ⟨by have := hb2.size; rw [World.size_alloc] at this; omega, by have := hb2; rw [World.size_alloc] at this; exact this⟩; have hcl := fun o => (HS2.out.2.cell (p := ⟨w.heap.size, o, none⟩) (by show w.heap.size < _; omega)); have hfr := fun o => (HS2.out.2.frozen (p := ⟨w.heap.size, o, none⟩) (by show w.heap.size < _; omega)); clear hb2)
        | (go_at_call 55; with_reducible refine (HZ.out _).mono ?_; rintro e w' ⟨rfl, hw⟩; obtain rfl := hw.symm)
        | (go_at_call 55; with_reducible refine (HA.out _).mono ?_; rintro e w' ⟨rfl, hw⟩; obtain rfl := hw.symm))
      exact bodyPost_ret (v := .tuple #[.agg #[.int .i64 na, .int .i64 size], .int .i64 0]) (by simp [results, Tryd.results38, go_sem, hcl]) rfl ⟨⟨_, _, _, rfl, by rw [HOne.out]; exact ⟨rfl, rfl, rfl⟩⟩, (HB2.out.setCell (p := ⟨w.heap.size, 0, none⟩) (Nat.le_refl _) _).setCell (p := ⟨w.heap.size, 1, none⟩) (Nat.le_refl _) _⟩
  have hez := Lsp.some_cmp hZ0
  rw [if_neg hZ0] at hone
  clear hZ0
  by_cases hzf : nz < na
  · rw [if_pos hzf] at hone
    have hd2 : decide (nz < na) = true := decide_eq_true hzf
    clear ha hzf hbetw
    have HOne : Hid _ := hone
    clear hone
    go_enter Tryd.func38, Tryd.ntmps38
    go_wp2_with (first
      | (go_at_call 54; refine (HC.out _).mono ?_; rintro e w2 ⟨rfl, hb2⟩; have HB2 : Hid (Below w.heap.size w w2) := HB0.out.trans (hb2.mono HB0.out.size); have HS2 : Hid (w.heap.size < w2.heap.size ∧ Below (w.heap.size + 1) (w.alloc (.cells #[.int .i64 0, .int .i64 0] 33)) w2) := ⟨by have := hb2.size; rw [World.size_alloc] at this; omega, by have := hb2; rw [World.size_alloc] at this; exact this⟩; have hcl := fun o => (HS2.out.2.cell (p := ⟨w.heap.size, o, none⟩) (by show w.heap.size < _; omega)); have hfr := fun o => (HS2.out.2.frozen (p := ⟨w.heap.size, o, none⟩) (by show w.heap.size < _; omega)); clear hb2)
      | (go_at_call 55; with_reducible refine (HZ.out _).mono ?_; rintro e w' ⟨rfl, hw⟩; obtain rfl := hw.symm)
      | (go_at_call 55; with_reducible refine (HA.out _).mono ?_; rintro e w' ⟨rfl, hw⟩; obtain rfl := hw.symm))
    exact bodyPost_ret (v := .tuple #[.agg #[.int .i64 0, .int .i64 0], .int .i64 2]) (by simp [results, Tryd.results38, go_sem, hcl]) rfl ⟨⟨_, _, _, rfl, by rw [HOne.out]; exact rfl⟩, (HB2.out.setCell (p := ⟨w.heap.size, 0, none⟩) (Nat.le_refl _) _).setCell (p := ⟨w.heap.size, 1, none⟩) (Nat.le_refl _) _⟩
  rw [if_neg hzf, hbetw] at hone
  have hd2 : decide (nz < na) = false := decide_eq_false hzf
  clear hbetw
  by_cases hls : size ≤ nz
  · have hd3 : decide (size ≤ nz) = true := decide_eq_true hls
    by_cases hsf : size ≤ na
    · rw [if_pos (by omega)] at hone
      have hd4 : decide (size ≤ na) = true := decide_eq_true hsf
      clear ha hsf hls hzf
      have HOne : Hid _ := hone
      clear hone
      go_enter Tryd.func38, Tryd.ntmps38
      go_wp2_with (first
        | (go_at_call 54; refine (HC.out _).mono ?_; rintro e w2 ⟨rfl, hb2⟩; have HB2 : Hid (Below w.heap.size w w2) := HB0.out.trans (hb2.mono HB0.out.size); have HS2 : Hid (w.heap.size < w2.heap.size ∧ Below (w.heap.size + 1) (w.alloc (.cells #[.int .i64 0, .int .i64 0] 33)) w2) := ⟨by have := hb2.size; rw [World.size_alloc] at this; omega, by have := hb2; rw [World.size_alloc] at this; exact this⟩; have hcl := fun o => (HS2.out.2.cell (p := ⟨w.heap.size, o, none⟩) (by show w.heap.size < _; omega)); have hfr := fun o => (HS2.out.2.frozen (p := ⟨w.heap.size, o, none⟩) (by show w.heap.size < _; omega)); clear hb2)
        | (go_at_call 55; with_reducible refine (HZ.out _).mono ?_; rintro e w' ⟨rfl, hw⟩; obtain rfl := hw.symm)
        | (go_at_call 55; with_reducible refine (HA.out _).mono ?_; rintro e w' ⟨rfl, hw⟩; obtain rfl := hw.symm))
      exact bodyPost_ret (v := .tuple #[.agg #[.int .i64 0, .int .i64 0], .int .i64 1]) (by simp [results, Tryd.results38, go_sem, hcl]) rfl ⟨⟨_, _, _, rfl, by rw [HOne.out]; exact rfl⟩, (HB2.out.setCell (p := ⟨w.heap.size, 0, none⟩) (Nat.le_refl _) _).setCell (p := ⟨w.heap.size, 1, none⟩) (Nat.le_refl _) _⟩
    · rw [if_neg (by omega), show min (nz + 1) size = size by omega] at hone
      have hd4 : decide (size ≤ na) = false := decide_eq_false hsf
      have hs1 : size - 1 + 1 = size := by omega
      clear ha hsf hls hzf
      have HOne : Hid _ := hone
      clear hone
      go_enter Tryd.func38, Tryd.ntmps38
      go_wp2_with (first
        | (go_at_call 54; refine (HC.out _).mono ?_; rintro e w2 ⟨rfl, hb2⟩; have HB2 : Hid (Below w.heap.size w w2) := HB0.out.trans (hb2.mono HB0.out.size); have HS2 : Hid (w.heap.size < w2.heap.size ∧ Below (w.heap.size + 1) (w.alloc (.cells #[.int .i64 0, .int .i64 0] 33)) w2) := ⟨by have := hb2.size; rw [World.size_alloc] at this; omega, by have := hb2; rw [World.size_alloc] at this; exact this⟩; have hcl := fun o => (HS2.out.2.cell (p := ⟨w.heap.size, o, none⟩) (by show w.heap.size < _; omega)); have hfr := fun o => (HS2.out.2.frozen (p := ⟨w.heap.size, o, none⟩) (by show w.heap.size < _; omega)); clear hb2)
        | (go_at_call 55; with_reducible refine (HZ.out _).mono ?_; rintro e w' ⟨rfl, hw⟩; obtain rfl := hw.symm)
        | (go_at_call 55; with_reducible refine (HA.out _).mono ?_; rintro e w' ⟨rfl, hw⟩; obtain rfl := hw.symm))
      exact bodyPost_ret (v := .tuple #[.agg #[.int .i64 na, .int .i64 size], .int .i64 0]) (by simp [results, Tryd.results38, go_sem, hcl]) rfl ⟨⟨_, _, _, rfl, by rw [HOne.out]; exact ⟨rfl, rfl, rfl⟩⟩, (HB2.out.setCell (p := ⟨w.heap.size, 0, none⟩) (Nat.le_refl _) _).setCell (p := ⟨w.heap.size, 1, none⟩) (Nat.le_refl _) _⟩
  · have hd3 : decide (size ≤ nz) = false := decide_eq_false hls
    have hd4 : decide (size ≤ na) = false := decide_eq_false (by omega)
    rw [if_neg (by omega), show min (nz + 1) size = nz + 1 by omega] at hone
    clear ha hls hzf
    have HOne : Hid _ := hone
    clear hone
    go_enter Tryd.func38, Tryd.ntmps38
    go_wp2_with (first
      | (go_at_call 54; refine (HC.out _).mono ?_; rintro e w2 ⟨rfl, hb2⟩; have HB2 : Hid (Below w.heap.size w w2) := HB0.out.trans (hb2.mono HB0.out.size); have HS2 : Hid (w.heap.size < w2.heap.size ∧ Below (w.heap.size + 1) (w.alloc (.cells #[.int .i64 0, .int .i64 0] 33)) w2) := ⟨by have := hb2.size; rw [World.size_alloc] at this; omega, by have := hb2; rw [World.size_alloc] at this; exact this⟩; have hcl := fun o => (HS2.out.2.cell (p := ⟨w.heap.size, o, none⟩) (by show w.heap.size < _; omega)); have hfr := fun o => (HS2.out.2.frozen (p := ⟨w.heap.size, o, none⟩) (by show w.heap.size < _; omega)); clear hb2)
      | (go_at_call 55; with_reducible refine (HZ.out _).mono ?_; rintro e w' ⟨rfl, hw⟩; obtain rfl := hw.symm)
      | (go_at_call 55; with_reducible refine (HA.out _).mono ?_; rintro e w' ⟨rfl, hw⟩; obtain rfl := hw.symm))
    exact bodyPost_ret (v := .tuple #[.agg #[.int .i64 na, .int .i64 (nz + 1)], .int .i64 0]) (by simp [results, Tryd.results38, go_sem, hcl]) rfl ⟨⟨_, _, _, rfl, by rw [HOne.out]; exact ⟨rfl, rfl, rfl⟩⟩, (HB2.out.setCell (p := ⟨w.heap.size, 0, none⟩) (Nat.le_refl _) _).setCell (p := ⟨w.heap.size, 1, none⟩) (Nat.le_refl _) _⟩

end Go.Proofs.YtelpmkbjegimpaaDoor.Rgb
