/-
  Walks: laws' sameSpans; impl.ContentRange of a span that lies within.
-/
import Derived.Test.YtelpmkbjegimpaaDoorRgk
import Derived.Test.YtelpmkbjegimpaaDoorDgh
import Derived.Test.YtelpmkbjegimpaaDoorSru
import Derived.Laws.RangeString
namespace Go.Proofs.YtelpmkbjegimpaaDoor.Rgl
open Go.RowKit
open Go.Proofs.YtelpmkbjegimpaaDoor.Spb
open Go.Proofs.YtelpmkbjegimpaaDoor.Spp
open Go.Proofs.YtelpmkbjegimpaaDoor.Srt
open Go.Proofs.YtelpmkbjegimpaaDoor.Cur
open Go.Proofs.YtelpmkbjegimpaaDoor.Num (num num_any itoa_any num_size_le tab_below tab_lt ret_str)

set_option maxHeartbeats 1600000 in
theorem sameSpans_any (a b : Option Addr) (ca cb : Nat) (l : List (Int × Int)) (w : World) (lo hi lo' hi' : Nat) (hl : l.length ≤ 2000000) (ha : PV w a l lo hi) (hb : PV w b l lo' hi') :
    Calls Tryd.prog 10 #[.slice a l.length ca, .slice b l.length cb] w fun e w' => e = .returned (.bool true) ∧ Below w.heap.size w w' := by
  have HA : Hid (PV w a l lo hi) := ha
  have HB : Hid (PV w b l lo' hi') := hb
  clear ha hb
  go_enter Tryd.func10, Tryd.ntmps10
  go_wp2_with fail
  go_loopw [13] (fun i wr => ∃ k : Nat, k ≤ l.length ∧ i = .int .i64 k ∧ Hid (Below w.heap.size w wr)) (fun i _ => l.length - (intOf i).toNat)
  case atStart => exact ⟨0, by omega, rfl, Below.refl _ _⟩
  case round =>
    obtain ⟨k, hk, rfl, HW⟩ := hrel
    by_cases hlt : k < l.length
    · obtain ⟨g, rfl, _, c0, c1⟩ := row_at (HA.out.below HW.out) hlt
      obtain ⟨g', rfl, _, d0, d1⟩ := row_at (HB.out.below HW.out) hlt
      obtain ⟨F, T, hFT⟩ : ∃ F T, l[k] = (F, T) := ⟨_, _, rfl⟩
      rw [hFT] at c0 c1 d0 d1
      dsimp only at c0 c1 d0 d1
      clear hFT
      go_wp2_with fail
      go_quiet (fail)
      go_wp2_with fail
      refine ⟨⟨k + 1, by omega, by go_num, bdrewN HW.out _⟩, ?_⟩
      simp [intOf]; omega
    · go_wp2_with fail
      go_ret
      exact ⟨rfl, HW.out⟩


set_option maxHeartbeats 1600000 in
theorem contentRange_any (f t z : Nat) (w : World) (hP : PowT w) (hf : f ≤ t) (ht : t < z) (hz : z ≤ 1000000) :
    Calls Tryd.prog 13 #[.agg #[.int .i64 (f : Int), .int .i64 ((t : Int) + 1)], .int .i64 (z : Int)] w fun e w' => (∃ r : ByteArray, e = .returned (.tuple #[.string r, .bool true]) ∧ 0 < r.size) ∧ Below w.heap.size w w' := by
  have hgp := tab_lt hP
  have hns := num_le (n := f) (by omega)
  have hms := num_le (n := t) (by omega)
  have hzs := num_le (n := z) (by omega)
  have hsp : spanIn 1000000 ((f : Int), (t : Int) + 1) = true := by unfold spanIn; simp; omega
  have HI : Hid (∀ w, PowT w → Calls Tryd.prog 40 #[.int .i64 (z : Int)] w fun e w' => e = .returned (.string (num z)) ∧ Below w.heap.size w w') := fun w h => itoa_any z w (by omega) h
  have HX : Hid (∀ w, PowT w → Calls Tryd.prog 21 #[.agg #[.int .i64 (f : Int), .int .i64 ((t : Int) + 1)]] w fun e w' => e = .returned (.string (num f ++ ⟨#[45]⟩ ++ num t)) ∧ Below w.heap.size w w') := fun w h => placesText_any f t w h (by omega) (by omega)
  have HS : Hid (∀ w, Calls Tryd.prog 39 #[.agg #[.int .i64 (f : Int), .int .i64 ((t : Int) + 1)], .int .i64 1000000] w fun e w' => e = .returned (.bool true) ∧ Below w.heap.size w w') := fun w => by
    have h := isSpan_any (f : Int) ((t : Int) + 1) 1000000 w
    rw [hsp] at h
    exact h
  have hX0 : (num f ++ (⟨#[45]⟩ : ByteArray) ++ num t).size ≤ 15 := by
    have c1 : (⟨#[45]⟩ : ByteArray).size = 1 := rfl
    rw [ByteArray.size_append, ByteArray.size_append, c1]; omega
  generalize num f ++ (⟨#[45]⟩ : ByteArray) ++ num t = X at HX hX0
  generalize num z = Z at HI hzs
  have c1 : (⟨#[47]⟩ : ByteArray).size = 1 := rfl
  have c6 : (⟨#[98, 121, 116, 101, 115, 32]⟩ : ByteArray).size = 6 := rfl
  have e1 : ((⟨#[98, 121, 116, 101, 115, 32]⟩ : ByteArray) ++ X).size = 6 + X.size := by rw [ByteArray.size_append, c6]
  have e2 : ((⟨#[98, 121, 116, 101, 115, 32]⟩ : ByteArray) ++ X ++ ⟨#[47]⟩).size = 6 + X.size + 1 := by rw [ByteArray.size_append, e1, c1]
  have HE : Hid (0 < ((⟨#[98, 121, 116, 101, 115, 32]⟩ : ByteArray) ++ X ++ ⟨#[47]⟩ ++ Z).size) := by show 0 < _; rw [ByteArray.size_append, e2]; omega
  have k1 : ¬ 9223372036854775807 < 6 + X.size := by omega
  have k2 : ¬ 9223372036854775807 < 6 + X.size + 1 := by omega
  have k3 : ¬ 9223372036854775807 < 6 + X.size + 1 + Z.size := by omega
  have hlt : decide ((z : Int) < (t : Int) + 1) = false := decide_eq_false (by omega)
  obtain ⟨W, hW⟩ : ∃ W, W = w.alloc (.cells #[.int .i64 (f : Int), .int .i64 ((t : Int) + 1)] 33) := ⟨_, rfl⟩
  have hn : w.heap.size < W.heap.size := by rw [hW]; simp
  have hb1 : Below w.heap.size w W := by rw [hW]; exact (Below.refl _ _).alloc (Nat.le_refl _) _
  have x0 : W.cell? ⟨w.heap.size, 0, none⟩ = some (.int .i64 (f : Int)) := by rw [hW]; simp [go_sem]
  have x1 : W.cell? ⟨w.heap.size, 1, none⟩ = some (.int .i64 ((t : Int) + 1)) := by rw [hW]; simp [go_sem]
  have HP1 : Hid (PowT W) := tab_below hP hb1 hgp
  have hgp1 := tab_lt HP1.out
  clear e1 e2 c1 c6 hP hsp
  go_enter Tryd.func13, Tryd.ntmps13
  go_wp2_with fail
  rw [← hW]
  clear hW
  with_reducible refine (HS.out _).mono ?_
  rintro e w2 ⟨rfl, hb2⟩
  have hb3 : Below w.heap.size w w2 := hb1.trans (hb2.mono hb1.size)
  have y0 := (hb2.cell (p := ⟨w.heap.size, 0, none⟩) hn).trans x0
  have y1 := (hb2.cell (p := ⟨w.heap.size, 1, none⟩) hn).trans x1
  have HP2 : Hid (PowT w2) := tab_below HP1.out hb2 hgp1
  have hn2 : w.heap.size < w2.heap.size := Nat.lt_of_lt_of_le hn hb2.size
  have hgp2 := tab_lt HP2.out
  clear hb1 hb2 x0 x1 HP1 hgp1 hgp HS
  go_wp2_with fail
  with_reducible refine (HX.out _ HP2.out).mono ?_
  rintro e w3 ⟨rfl, hb4⟩
  go_wp2_with fail
  with_reducible refine (HI.out _ (tab_below HP2.out hb4 hgp2)).mono ?_
  rintro e w4 ⟨rfl, hb5⟩
  have hb6 := hb3.trans ((hb4.trans (hb5.mono hb4.size)).mono hb3.size)
  go_wp2_with fail
  go_ret2
  exact ⟨⟨_, rfl, HE.out⟩, hb6⟩

end Go.Proofs.YtelpmkbjegimpaaDoor.Rgl
