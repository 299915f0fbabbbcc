/-
  Walks: the laws' own helpers for an unchunk (szUnchunk, toUnchunk, eqUnchunk); two unchunks compared; impl.GoodUnchunk, spec.GoodUnchunk.
  Walks: impl.GoodUnchunk, spec.GoodUnchunk.
-/
import Derived.Test.YtimfcbjgoilnpaaDoorCqr
import Derived.Test.YtimfcbjgoilnpaaDoorFep
namespace Go.Proofs.YtimfcbjgoilnpaaDoor.Unk
open Go.RowKit
open Go.Proofs.YtimfcbjgoilnpaaDoor.Hex
open Go.Proofs.YtimfcbjgoilnpaaDoor.Rkb (rcL len_eq)
open Go.Proofs.YtimfcbjgoilnpaaDoor.Cqs (rcS rcQ rcC implRead_any)

theorem sz_yes (B R : ByteArray) (d g : Bool) (w : World) (h : B.size + R.size ≤ 1048576) :
    Calls Tryd.prog 19 #[.agg #[.string B, .string R, .bool d, .bool g], .int .i64 1048576] w fun e w' => e = .returned (.int .i64 (1048576 - (B.size : Int) - (R.size : Int))) ∧ Below w.heap.size w w' := by
  go_enter Tryd.func19, Tryd.ntmps19
  go_wp2
  go_ret
  exact ⟨rfl, (Below.refl _ _).alloc (Nat.le_refl _) _⟩
theorem sz_no (B R : ByteArray) (d g : Bool) (w : World) (hB : B.size ≤ maxLen) (hR : R.size ≤ maxLen) (h : ¬ B.size + R.size ≤ 1048576) :
    Calls Tryd.prog 19 #[.agg #[.string B, .string R, .bool d, .bool g], .int .i64 1048576] w fun e w' => e = .returned (.int .i64 (-1)) ∧ Below w.heap.size w w' := by
  unfold maxLen at hB hR
  rcases (show 1048576 < B.size ∨ (B.size ≤ 1048576 ∧ 1048576 < B.size + R.size) from by omega) with h1 | ⟨h0, h1⟩
  all_goals
    go_enter Tryd.func19, Tryd.ntmps19
    go_wp2
    go_ret
    exact ⟨rfl, (Below.refl _ _).alloc (Nat.le_refl _) _⟩
theorem to_any (B R : ByteArray) (d g : Bool) (w : World) :
    Calls Tryd.prog 21 #[.agg #[.string B, .string R, .bool d, .bool g]] w fun e w' => e = .returned (.agg #[.string B, .string R, .bool d, .bool g]) ∧ Below w.heap.size w w' := by
  go_enter Tryd.func21, Tryd.ntmps21
  go_wp2
  exact bodyPost_ret (v := .agg #[.string B, .string R, .bool d, .bool g]) (by simp [results, Tryd.results21, go_sem]) rfl ⟨rfl, by repeat (first | exact Below.refl _ _ | refine Below.alloc ?_ (by simp <;> omega) _ | refine Below.setCell ?_ (by simp <;> omega) _)⟩
/-- eqUnchunk of one unchunk twice. -/
theorem eq_same (B R : ByteArray) (d g : Bool) (w : World) :
    Calls Tryd.prog 25 #[.agg #[.string B, .string R, .bool d, .bool g], .agg #[.string B, .string R, .bool d, .bool g]] w fun e w' => e = .returned (.bool true) ∧ Below w.heap.size w w' := by
  have q1 : (B.toList == B.toList) = true := by simp
  have q2 : (R.toList == R.toList) = true := by simp
  go_enter Tryd.func25, Tryd.ntmps25
  cases d <;> cases g
  all_goals
    go_wp2
    go_ret
    exact ⟨rfl, ((Below.refl _ _).alloc (Nat.le_refl _) _).alloc (by simp) _⟩

def eqU (B R B2 R2 : ByteArray) (d d2 g g2 : Bool) : Bool := (B.toList == B2.toList) && ((R.toList == R2.toList) && ((d == d2) && (g == g2)))
set_option maxHeartbeats 1600000 in
theorem unchunk_eq (B R B2 R2 : ByteArray) (d d2 g g2 : Bool) (wx : World) :
    (binOp .eql 36 (.agg #[.string B, .string R, .bool d, .bool g]) (.agg #[.string B2, .string R2, .bool d2, .bool g2])).run Tryd.prog wx = .ok (.bool (eqU B R B2 R2 d d2 g g2)) wx := by
  unfold eqU
  cases h1 : B.toList == B2.toList
  · simp [go_sem, h1]
  · cases h2 : R.toList == R2.toList
    · simp [go_sem, h1, h2]
    · cases h3 : d == d2
      · simp [go_sem, h1, h2, h3]
      · cases h4 : g == g2
        · simp [go_sem, h1, h2, h3, h4]
        · simp [go_sem, h1, h2, h3, h4]

/-- Whether an unchunk is good. -/
def gU (B R : ByteArray) (d g : Bool) : Bool :=
  decide (R.size ≤ 4000) && (if g then eqU B R ⟨#[]⟩ ⟨#[]⟩ d false g true else if d then decide (B.size ≤ 300) else (B.toList == []) && (rcC R == 1))

end Go.Proofs.YtimfcbjgoilnpaaDoor.Unk

namespace Go.Proofs.YtimfcbjgoilnpaaDoor.Unk
open Go.RowKit
open Go.Proofs.YtimfcbjgoilnpaaDoor.Hex
open Go.Proofs.YtimfcbjgoilnpaaDoor.Cqs (rcS rcQ rcC implRead_any l5Chunks_any rc_three)

theorem ret_b {a b : Bool} (h : a = b) : Ending.returned (.bool a) = .returned (.bool b) := by rw [h]
theorem gU_long {B R : ByteArray} {d g : Bool} (h : 4000 < R.size) : gU B R d g = false := by
  unfold gU
  rw [decide_eq_false (by omega), Bool.false_and]
theorem gU_wrong {B R : ByteArray} {d : Bool} (h : R.size ≤ 4000) : gU B R d true = eqU B R ⟨#[]⟩ ⟨#[]⟩ d false true true := by
  unfold gU
  rw [decide_eq_true h, Bool.true_and, if_pos rfl]
theorem gU_done {B R : ByteArray} (h : R.size ≤ 4000) : gU B R true false = decide (B.size ≤ 300) := by
  unfold gU
  rw [decide_eq_true h, Bool.true_and, if_neg (by decide), if_pos rfl]
theorem gU_plain {B R : ByteArray} (h : R.size ≤ 4000) : gU B R false false = ((B.toList == []) && (rcC R == 1)) := by
  unfold gU
  rw [decide_eq_true h, Bool.true_and, if_neg (by decide), if_neg (by decide)]
theorem bel1 (w : World) (o : Obj) : Below w.heap.size w (w.alloc o) := (Below.refl _ _).alloc (Nat.le_refl _) _

set_option maxHeartbeats 1600000 in
theorem implGood_any (B R : ByteArray) (d g : Bool) (w : World) (hT : Tab w) (hR : R.size ≤ 1900000) (hB : B.size ≤ 1900000) :
    Calls Tryd.prog 22 #[.agg #[.string B, .string R, .bool d, .bool g]] w fun e w' => e = .returned (.bool (gU B R d g)) ∧ Below w.heap.size w w' := by
  have hb1 : Hid _ := bel1 w (.cells #[.string B, .string R, .bool d, .bool g] 36)
  by_cases h : 4000 < R.size
  · have HR : Hid _ := gU_long (B := B) (d := d) (g := g) h
    go_enter Tryd.func22, Tryd.ntmps22
    go_wp2_with fail
    go_ret
    exact ⟨ret_b HR.out.symm, hb1.out⟩
  have h' : R.size ≤ 4000 := by omega
  have hd0 : decide (4000 < (R.size : Int)) = false := decide_eq_false (by omega)
  cases g with
  | true =>
    have HR : Hid _ := gU_wrong (B := B) (d := d) h'
    have E := fun wx => unchunk_eq B R ⟨#[]⟩ ⟨#[]⟩ d false true true wx
    generalize eqU B R ⟨#[]⟩ ⟨#[]⟩ d false true true = x at HR E
    go_enter Tryd.func22, Tryd.ntmps22
    go_wp2_with fail
    go_ret
    exact ⟨ret_b HR.out.symm, hb1.out⟩
  | false =>
    cases d with
    | true =>
      have HR : Hid _ := gU_done (B := B) h'
      go_enter Tryd.func22, Tryd.ntmps22
      go_wp2_with fail
      go_ret
      exact ⟨ret_b ((show decide ((B.size : Int) ≤ 300) = decide (B.size ≤ 300) by rw [decide_eq_decide]; omega).trans HR.out.symm), hb1.out⟩
    | false =>
      have HR : Hid _ := gU_plain (B := B) h'
      have HT : Hid (Tab w) := hT
      have hg := hT.lt
      have HI : Hid _ := fun wx hx => implRead_any R wx hx hR
      clear hT
      generalize rcC R = c at HR HI
      generalize rcS R = X at HI
      generalize rcQ R = q at HI
      cases hq : B.toList == []
      · rw [hq, Bool.false_and] at HR
        go_enter Tryd.func22, Tryd.ntmps22
        go_wp2_with (go_at_call 18; refine (HI.out _ (HT.out.below hb1.out hg)).mono ?_; rintro e w2 ⟨rfl, hb2⟩; have c0 := hb2.cell (p := ⟨w.heap.size, 0, none⟩) (by simp))
        go_ret
        exact ⟨ret_b HR.out.symm, hb1.out.trans (hb2.mono (by simp))⟩
      · rw [hq, Bool.true_and] at HR
        go_enter Tryd.func22, Tryd.ntmps22
        go_wp2_with (go_at_call 18; refine (HI.out _ (HT.out.below hb1.out hg)).mono ?_; rintro e w2 ⟨rfl, hb2⟩; have c0 := hb2.cell (p := ⟨w.heap.size, 0, none⟩) (by simp))
        go_ret
        exact ⟨ret_b HR.out.symm, hb1.out.trans (hb2.mono (by simp))⟩

set_option maxHeartbeats 1600000 in
theorem specGood_any (B R : ByteArray) (d g : Bool) (w : World) (hR : R.size ≤ 1900000) (hB : B.size ≤ 1900000) :
    Calls Tryd.prog 20 #[.agg #[.string B, .string R, .bool d, .bool g]] w fun e w' => e = .returned (.bool (gU B R d g)) ∧ Below w.heap.size w w' := by
  have hb1 : Hid _ := bel1 w (.cells #[.string B, .string R, .bool d, .bool g] 36)
  by_cases h : 4000 < R.size
  · have HR : Hid _ := gU_long (B := B) (d := d) (g := g) h
    go_enter Tryd.func20, Tryd.ntmps20
    go_wp2_with fail
    go_ret
    exact ⟨ret_b HR.out.symm, hb1.out⟩
  have h' : R.size ≤ 4000 := by omega
  have hd0 : decide (4000 < (R.size : Int)) = false := decide_eq_false (by omega)
  cases g with
  | true =>
    have HR : Hid (gU B R d true = ((!d && (B.toList == [])) && (R.toList == []))) := by
      show _ = _
      rw [gU_wrong h']
      unfold eqU
      rw [show (⟨#[]⟩ : ByteArray).toList = [] by rw [ByteArray.toList_eq]]
      cases d <;> cases (B.toList == []) <;> cases (R.toList == []) <;> rfl
    cases d <;> cases hq : B.toList == [] <;> cases hq2 : R.toList == []
    all_goals
      rw [hq, hq2] at HR
      go_enter Tryd.func20, Tryd.ntmps20
      go_wp2_with fail
      go_ret
      exact ⟨ret_b HR.out.symm, hb1.out⟩
  | false =>
    cases d with
    | true =>
      have HR : Hid _ := gU_done (B := B) h'
      go_enter Tryd.func20, Tryd.ntmps20
      go_wp2_with fail
      go_ret
      exact ⟨ret_b ((show decide ((B.size : Int) ≤ 300) = decide (B.size ≤ 300) by rw [decide_eq_decide]; omega).trans HR.out.symm), hb1.out⟩
    | false =>
      have HR : Hid _ := gU_plain (B := B) h'
      have HI0 := fun wx => l5Chunks_any R wx hR
      rw [rc_three] at HI0
      have HI : Hid _ := HI0
      clear HI0
      generalize rcC R = c at HR HI
      generalize rcS R = X at HI
      generalize rcQ R = q at HI
      cases hq : B.toList == []
      · rw [hq, Bool.false_and] at HR
        go_enter Tryd.func20, Tryd.ntmps20
        go_wp2_with (go_at_call 38; refine (HI.out _).mono ?_; rintro e w2 ⟨rfl, hb2⟩; have c0 := hb2.cell (p := ⟨w.heap.size, 0, none⟩) (by simp))
        go_ret
        exact ⟨ret_b HR.out.symm, hb1.out.trans (hb2.mono (by simp))⟩
      · rw [hq, Bool.true_and] at HR
        go_enter Tryd.func20, Tryd.ntmps20
        go_wp2_with (go_at_call 38; refine (HI.out _).mono ?_; rintro e w2 ⟨rfl, hb2⟩; have c0 := hb2.cell (p := ⟨w.heap.size, 0, none⟩) (by simp))
        go_ret
        exact ⟨ret_b HR.out.symm, hb1.out.trans (hb2.mono (by simp))⟩

end Go.Proofs.YtimfcbjgoilnpaaDoor.Unk

