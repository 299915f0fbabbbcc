/-
  Walks: spec.l4Status.
-/
import Derived.Test.YtfgcgnhffljiaaaGreatDoorRsk
import Derived.Deep.RegionHeld3
import Derived.Deep.QuietTactic
import Derived.BigQuiet
namespace Go.Proofs.YtfgcgnhffljiaaaGreatDoor.Rsb
open Go.RowKit
open Go.Proofs.YtfgcgnhffljiaaaGreatDoor.Fbs
open Go.Proofs.YtfgcgnhffljiaaaGreatDoor.Fch
open Go.Proofs.YtfgcgnhffljiaaaGreatDoor.Fdb
open Go.Proofs.YtfgcgnhffljiaaaGreatDoor.Fvs
open Go.Proofs.YtfgcgnhffljiaaaGreatDoor.Rqb
open Go.Proofs.YtfgcgnhffljiaaaGreatDoor.Num (num num_any itoa_any num_size_le tab_below tab_lt)

theorem status_is (N R : ByteArray) : (⟨#[72, 84, 84, 80, 47, 49, 46, 49, 32]⟩ : ByteArray) ++ N ++ (⟨#[32]⟩ : ByteArray) ++ R = spc3 vers N R := by
  unfold spc3 vers
  apply ByteArray.ext
  simp [Array.append_assoc]

set_option maxHeartbeats 800000 in
theorem l4Status_any (S : Nat) (R B : ByteArray) (a : Option Addr) (n ca : Nat) (w : World) (hS : S ≤ 599) (hR : R.size ≤ 2000000) :
    Calls Tryz.prog 75 #[.agg #[.int .i64 S, .string R, .slice a n ca, .string B]] w fun e w' => e = .returned (.string (firstP S R)) ∧ Below w.heap.size w w' := by
  have hns := num_le hS
  have HN : Hid _ := fun w => num_any 6 S w (by omega) (by omega)
  have HR : Hid (_ = firstP S R) := status_is (num S) R
  generalize firstP S R = F at HR ⊢
  generalize num S = N at HR HN hns
  have c1 : (⟨#[32]⟩ : ByteArray).size = 1 := rfl
  have c2 : (⟨#[72, 84, 84, 80, 47, 49, 46, 49, 32]⟩ : ByteArray).size = 9 := rfl
  have q1 : ¬ 9223372036854775807 < (⟨#[72, 84, 84, 80, 47, 49, 46, 49, 32]⟩ : ByteArray).size + N.size := by rw [c2]; omega
  have e1 : ((⟨#[72, 84, 84, 80, 47, 49, 46, 49, 32]⟩ : ByteArray) ++ N).size = 9 + N.size := by rw [ByteArray.size_append, c2]
  have q2 : ¬ 9223372036854775807 < ((⟨#[72, 84, 84, 80, 47, 49, 46, 49, 32]⟩ : ByteArray) ++ N).size + (⟨#[32]⟩ : ByteArray).size := by rw [e1, c1]; omega
  have e2 : ((⟨#[72, 84, 84, 80, 47, 49, 46, 49, 32]⟩ : ByteArray) ++ N ++ (⟨#[32]⟩ : ByteArray)).size = 9 + N.size + 1 := by rw [ByteArray.size_append, e1, c1]
  have q3 : ¬ 9223372036854775807 < ((⟨#[72, 84, 84, 80, 47, 49, 46, 49, 32]⟩ : ByteArray) ++ N ++ (⟨#[32]⟩ : ByteArray)).size + R.size := by rw [e2]; omega
  obtain ⟨W, hW⟩ : ∃ W, W = w.alloc (.cells #[.int .i64 S, .string R, .slice a n ca, .string B] 31) := ⟨_, rfl⟩
  have hn : w.heap.size < W.heap.size := by rw [hW]; simp
  have hb1 : Below w.heap.size w W := by rw [hW]; exact (Below.refl _ _).alloc (Nat.le_refl _) _
  have HX : Hid (BoxP W w.heap.size S R a n ca B) := by rw [hW]; exact BoxP.made w S R a n ca B _
  obtain ⟨x0, x1, x2, x3⟩ := HX.out
  have k1 : ¬ 9223372036854775807 < 9 + N.size := by omega
  have k2 : ¬ 9223372036854775807 < 9 + N.size + 1 := by omega
  have k3 : ¬ 9223372036854775807 < 9 + N.size + 1 + R.size := by omega
  clear e1 e2 q1 q2 q3 c1 c2
  go_enter Tryz.func75, Tryz.ntmps75
  go_wp2_with fail
  rw [← hW]
  clear hW
  go_region_held3 (fun w' => w'.cell? ⟨w.heap.size, 0, none⟩ = some (.int .i64 S) ∧ w'.cell? ⟨w.heap.size, 1, none⟩ = some (.string R) ∧ w'.cell? ⟨w.heap.size, 2, none⟩ = some (.slice a n ca) ∧ w'.cell? ⟨w.heap.size, 3, none⟩ = some (.string B) ∧ Below W.heap.size W w')
    (first
      | exact ⟨x0, x1, x2, x3, keep_first W⟩
      | assumption
      | exact keep4 hn (by assumption) (by assumption))
    (first
      | (go_at_call 106; with_reducible refine (HN.out _).mono ?_; rintro e w2 ⟨rfl, hb2⟩))
  all_goals
    go_wp2
    go_ret
    exact ⟨ret_str HR.out, hb1.trans (Below.mono (and5 (by assumption) : Below W.heap.size W _) hb1.size)⟩

end Go.Proofs.YtfgcgnhffljiaaaGreatDoor.Rsb
