/-
  Pure: spans told. Walks: impl.placesText, impl.RangeText; spec.l6Text, spec.RangeText.
-/
import Derived.Test.YtelpmkbjegimpaaDoorSra
import Derived.Test.YtelpmkbjegimpaaDoorNum
import Derived.Test.YtelpmkbjegimpaaDoorOws
import Derived.Lib.Join
import Derived.Deep.RegionHeld3
namespace Go.Proofs.YtelpmkbjegimpaaDoor.Srt
open Go.RowKit
open Go.Proofs.YtelpmkbjegimpaaDoor.Spb
open Go.Proofs.YtelpmkbjegimpaaDoor.Spp
open Go.Proofs.YtelpmkbjegimpaaDoor.Ows
open Go.Proofs.YtelpmkbjegimpaaDoor.Num (num num_any itoa_any num_size_le tab_below tab_lt ret_str)

abbrev PowT (w : World) : Prop := Lib.TabIs Tryd.prog w "internal/strconv.uint64pow10" .u64 Lib.pow10Tab

/-- A span told. -/
def spT (c : Int × Int) : ByteArray := num c.1.toNat ++ ⟨#[45]⟩ ++ num (c.2 - 1).toNat
/-- Texts with commas between. -/
def comT (l : List ByteArray) : ByteArray := ⟨(Lib.join (l.map (·.data.toList)) [44]).toArray⟩
theorem comT_nil : comT [] = ⟨#[]⟩ := rfl
theorem comT_snoc (l : List ByteArray) (x : ByteArray) : comT (l ++ [x]) = if l = [] then x else comT l ++ ⟨#[44]⟩ ++ x := by
  cases l with
  | nil => rw [if_pos rfl]; unfold comT; apply ByteArray.ext; simp [Lib.join_one]
  | cons y r =>
    rw [if_neg (by simp)]
    unfold comT
    apply ByteArray.ext
    apply Array.ext'
    simp [Lib.join_cons, Lib.joinTail, List.append_assoc]
def rangeB (l : List (Int × Int)) : Bool := goodL l && !decide (l.length = 0)
def rangeT (l : List (Int × Int)) : ByteArray := (⟨#[98, 121, 116, 101, 115, 61]⟩ : ByteArray) ++ comT (l.map spT)
def rangeS (l : List (Int × Int)) : ByteArray := if rangeB l then rangeT l else ⟨#[]⟩
theorem range_no {l : List (Int × Int)} (h : rangeB l = false) : rangeS l = ⟨#[]⟩ := by unfold rangeS; rw [h]; rfl
theorem range_yes {l : List (Int × Int)} (h : rangeB l = true) : rangeS l = rangeT l := by unfold rangeS; rw [h]; rfl
theorem num_le {n : Nat} (h : n ≤ 1000000) : (num n).size ≤ 7 := num_size_le 6 n (by omega)
theorem sp_size {c : Int × Int} (h : 0 ≤ c.1 ∧ c.1 < c.2 ∧ c.2 ≤ 1000000) : (spT c).size ≤ 15 := by
  have e : (⟨#[45]⟩ : ByteArray).size = 1 := rfl
  unfold spT
  rw [ByteArray.size_append, ByteArray.size_append, e]
  have := num_le (n := c.1.toNat) (by omega)
  have := num_le (n := (c.2 - 1).toNat) (by omega)
  omega
theorem com_size : ∀ (n : Nat) (l : List ByteArray), l.length = n → (∀ x ∈ l, x.size ≤ 15) → (comT l).size ≤ 16 * l.length
  | 0, l, hn, _ => by
    obtain rfl := List.eq_nil_of_length_eq_zero hn
    exact Nat.le_refl _
  | n + 1, l, hn, h => by
    rcases List.eq_nil_or_concat l with rfl | ⟨l, x, rfl⟩
    · simp at hn
    rw [List.concat_eq_append] at hn h ⊢
    have e : (⟨#[44]⟩ : ByteArray).size = 1 := rfl
    have hx := h x (by simp)
    have hl : l.length = n := by simpa using hn
    have := com_size n l hl (fun y hy => h y (by simp [hy]))
    rw [comT_snoc]
    split
    · rw [List.length_append]; simp; omega
    · rw [ByteArray.size_append, ByteArray.size_append, e, List.length_append]; simp; omega

theorem keep_first (W : World) : Below W.heap.size W W.drew := ⟨rfl, rfl, rfl, Nat.le_refl _, fun _ _ => rfl⟩
theorem and3 {a b c : Prop} (h : a ∧ b ∧ c) : c := h.2.2
theorem keep2 {W w0 w1 : World} {n : Nat} {u0 u1 : Option Value} (hn : n < W.heap.size) (h : w0.cell? ⟨n, 0, none⟩ = u0 ∧ w0.cell? ⟨n, 1, none⟩ = u1 ∧ Below W.heap.size W w0) (hb : Below w0.heap.size w0 w1) :
    w1.cell? ⟨n, 0, none⟩ = u0 ∧ w1.cell? ⟨n, 1, none⟩ = u1 ∧ Below W.heap.size W w1 := by
  obtain ⟨h0, h1, h4⟩ := h
  have e : ∀ i, w1.cell? ⟨n, i, none⟩ = w0.cell? ⟨n, i, none⟩ := fun i => hb.cell (p := ⟨n, i, none⟩) (Nat.lt_of_lt_of_le hn h4.size)
  exact ⟨(e 0).trans h0, (e 1).trans h1, h4.trans (hb.mono h4.size)⟩

set_option maxHeartbeats 1600000 in
theorem placesText_any (f t : Nat) (w : World) (hP : PowT w) (hf : f ≤ 1000000) (ht : t < 1000000) :
    Calls Tryd.prog 21 #[.agg #[.int .i64 (f : Int), .int .i64 ((t : Int) + 1)]] w fun e w' => e = .returned (.string (num f ++ ⟨#[45]⟩ ++ num t)) ∧ Below w.heap.size w w' := by
  have hgp := tab_lt hP
  have hns := num_le hf
  have hms := num_le (n := t) (by omega)
  have HI : Hid (∀ w, PowT w → Calls Tryd.prog 40 #[.int .i64 (f : Int)] w fun e w' => e = .returned (.string (num f)) ∧ Below w.heap.size w w') := fun w h => itoa_any f w (by omega) h
  have HJ : Hid (∀ w, PowT w → Calls Tryd.prog 40 #[.int .i64 (t : Int)] w fun e w' => e = .returned (.string (num t)) ∧ Below w.heap.size w w') := fun w h => itoa_any t w (by omega) h
  generalize num f = N at HI hns ⊢
  generalize num t = M at HJ hms ⊢
  have c1 : (⟨#[45]⟩ : ByteArray).size = 1 := rfl
  have e1 : (N ++ (⟨#[45]⟩ : ByteArray)).size = N.size + 1 := by rw [ByteArray.size_append, c1]
  have k1 : ¬ 9223372036854775807 < N.size + 1 := by omega
  have k2 : ¬ 9223372036854775807 < N.size + 1 + M.size := by omega
  have hw1 : ((t : Int) + 1 - 1) = (t : Int) := by omega
  have hw2 : IntKind.i64.wrap (t : Int) = (t : Int) := by rw [IntKind.wrap_i64]; omega
  obtain ⟨W, hW⟩ : ∃ W, W = w.alloc (.cells #[.int .i64 (f : Int), .int .i64 ((t : Int) + 1)] 33) := ⟨_, rfl⟩
  have hn : w.heap.size < W.heap.size := by rw [hW]; simp
  have hb1 : Below w.heap.size w W := by rw [hW]; exact (Below.refl _ _).alloc (Nat.le_refl _) _
  have x0 : W.cell? ⟨w.heap.size, 0, none⟩ = some (.int .i64 (f : Int)) := by rw [hW]; simp [go_sem]
  have x1 : W.cell? ⟨w.heap.size, 1, none⟩ = some (.int .i64 ((t : Int) + 1)) := by rw [hW]; simp [go_sem]
  have HP1 : Hid (PowT W) := tab_below hP hb1 hgp
  have hgp1 := tab_lt HP1.out
  clear e1 c1 hP
  go_enter Tryd.func21, Tryd.ntmps21
  go_wp2_with fail
  rw [← hW]
  clear hW
  go_region_held3 (fun w' => w'.cell? ⟨w.heap.size, 0, none⟩ = some (.int .i64 (f : Int)) ∧ w'.cell? ⟨w.heap.size, 1, none⟩ = some (.int .i64 ((t : Int) + 1)) ∧ Below W.heap.size W w')
    (first
      | exact ⟨x0, x1, keep_first W⟩
      | assumption
      | exact keep2 hn (by assumption) (by assumption))
    (first
      | (go_at_call 40; with_reducible refine (HI.out _ (tab_below HP1.out (and3 (by assumption)) hgp1)).mono ?_; rintro e w2 ⟨rfl, hb2⟩)
      | (go_at_call 40; with_reducible refine (HJ.out _ (tab_below HP1.out (and3 (by assumption)) hgp1)).mono ?_; rintro e w2 ⟨rfl, hb2⟩))
  all_goals
    go_wp2
    go_ret
    exact ⟨rfl, hb1.trans (Below.mono (and3 (by assumption) : Below W.heap.size W _) hb1.size)⟩

set_option maxHeartbeats 1600000 in
theorem l6Text_any (f t : Nat) (w : World) (hf : f ≤ 1000000) (ht : t < 1000000) :
    Calls Tryd.prog 24 #[.agg #[.int .i64 (f : Int), .int .i64 ((t : Int) + 1)]] w fun e w' => e = .returned (.string (num f ++ ⟨#[45]⟩ ++ num t)) ∧ Below w.heap.size w w' := by
  have hns := num_le hf
  have hms := num_le (n := t) (by omega)
  have HI : Hid (∀ w, Calls Tryd.prog 31 #[.int .i64 (f : Int)] w fun e w' => e = .returned (.string (num f)) ∧ Below w.heap.size w w') := fun w => num_any 6 f w (by omega) (by omega)
  have HJ : Hid (∀ w, Calls Tryd.prog 31 #[.int .i64 (t : Int)] w fun e w' => e = .returned (.string (num t)) ∧ Below w.heap.size w w') := fun w => num_any 6 t w (by omega) (by omega)
  generalize num f = N at HI hns ⊢
  generalize num t = M at HJ hms ⊢
  have c1 : (⟨#[45]⟩ : ByteArray).size = 1 := rfl
  have k1 : ¬ 9223372036854775807 < N.size + 1 := by omega
  have k2 : ¬ 9223372036854775807 < N.size + 1 + M.size := by omega
  have hw1 : ((t : Int) + 1 - 1) = (t : Int) := by omega
  have hw2 : IntKind.i64.wrap (t : Int) = (t : Int) := by rw [IntKind.wrap_i64]; omega
  obtain ⟨W, hW⟩ : ∃ W, W = w.alloc (.cells #[.int .i64 (f : Int), .int .i64 ((t : Int) + 1)] 33) := ⟨_, rfl⟩
  have hn : w.heap.size < W.heap.size := by rw [hW]; simp
  have hb1 : Below w.heap.size w W := by rw [hW]; exact (Below.refl _ _).alloc (Nat.le_refl _) _
  have x0 : W.cell? ⟨w.heap.size, 0, none⟩ = some (.int .i64 (f : Int)) := by rw [hW]; simp [go_sem]
  have x1 : W.cell? ⟨w.heap.size, 1, none⟩ = some (.int .i64 ((t : Int) + 1)) := by rw [hW]; simp [go_sem]
  clear c1
  go_enter Tryd.func24, Tryd.ntmps24
  go_wp2_with fail
  rw [← hW]
  clear hW
  go_region_held3 (fun w' => w'.cell? ⟨w.heap.size, 0, none⟩ = some (.int .i64 (f : Int)) ∧ w'.cell? ⟨w.heap.size, 1, none⟩ = some (.int .i64 ((t : Int) + 1)) ∧ Below W.heap.size W w')
    (first
      | exact ⟨x0, x1, keep_first W⟩
      | assumption
      | exact keep2 hn (by assumption) (by assumption))
    (first
      | (go_at_call 31; with_reducible refine (HI.out _).mono ?_; rintro e w2 ⟨rfl, hb2⟩)
      | (go_at_call 31; with_reducible refine (HJ.out _).mono ?_; rintro e w2 ⟨rfl, hb2⟩))
  all_goals
    go_wp2
    go_ret
    exact ⟨rfl, hb1.trans (Below.mono (and3 (by assumption) : Below W.heap.size W _) hb1.size)⟩

end Go.Proofs.YtelpmkbjegimpaaDoor.Srt
