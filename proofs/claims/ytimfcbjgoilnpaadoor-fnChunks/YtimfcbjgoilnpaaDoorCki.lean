/-
  Walks: impl.arePieces, ChunkBytes.
-/
import Derived.Test.YtimfcbjgoilnpaaDoorCkm
import Derived.Test.YtimfcbjgoilnpaaDoorAps
namespace Go.Proofs.YtimfcbjgoilnpaaDoor.Ckm
open Go.RowKit
open Go.Proofs.YtimfcbjgoilnpaaDoor.Hxt
open Go.Proofs.YtimfcbjgoilnpaaDoor.Own
open Go.Proofs.YtimfcbjgoilnpaaDoor.Mrk (TV RowT)

theorem ret_b {a b : Bool} (h : a = b) : Ending.returned (.bool a) = .returned (.bool b) := by rw [h]

set_option maxHeartbeats 1600000 in
theorem arePieces_any (a : Option Addr) (ca : Nat) (l : List ByteArray) (w : World) (lo hi : Nat) (hs : ∀ x ∈ l, x.size ≤ 2000000) (ha : TV w a l lo hi) :
    Calls Tryd.prog 37 #[.slice a l.length ca] w fun e w' => e = .returned (.bool (pcs l)) ∧ Below w.heap.size w w' := by
  by_cases h60 : 60 < l.length
  · have HR : Hid (pcs l = false) := pcs_no (fun h => by omega)
    have hd : decide (60 < (l.length : Int)) = true := decide_eq_true (by omega)
    go_enter Tryd.func37, Tryd.ntmps37
    go_wp2_with fail
    go_ret
    exact ⟨ret_b HR.out.symm, Below.refl _ _⟩
  have hd : decide (60 < (l.length : Int)) = false := decide_eq_false (by omega)
  by_cases h0 : l = []
  · subst h0
    go_enter Tryd.func37, Tryd.ntmps37
    go_wp2_with fail
    go_loop [3, 11] (fun n i => n = .int .i64 0 ∧ i = .int .i64 0) (fun _ _ => 0)
    case atStart => exact ⟨rfl, rfl⟩
    case round =>
      obtain ⟨rfl, rfl⟩ := hrel
      go_wp2_with fail
      go_ret
      exact ⟨rfl, Below.refl _ _⟩
  rcases ha with ha | ⟨g, rfl, hlo, hhi, ga⟩
  · exact absurd ha h0
  have GA : Hid (RowT w g l) := ga
  clear ga
  go_enter Tryd.func37, Tryd.ntmps37
  go_wp2_with fail
  go_loopw [3, 11] (fun n i wr => ∃ k : Nat, k ≤ l.length ∧ n = .int .i64 (sumS (l.take k) : Int) ∧ i = .int .i64 k ∧ Below w.heap.size w wr ∧ sumS (l.take k) ≤ 300 ∧ Hid (∀ j, (hj : j < l.length) → j < k → l[j].size ≠ 0)) (fun _ i _ => l.length - (intOf i).toNat)
  case atStart => exact ⟨0, by omega, rfl, rfl, Below.refl _ _, by simp [sumS], fun j _ h => absurd h (by omega)⟩
  case round =>
    obtain ⟨k, hk, rfl, rfl, hbel, hsum, HT⟩ := hrel
    by_cases hlt : k < l.length
    · have hc := (GA.out.below hbel).2.2 k l[k] (List.getElem?_eq_getElem hlt)
      have hsk := hs l[k] (List.getElem_mem hlt)
      have HN := sumS_take l k hlt
      have HM := sumS_le l (k + 1)
      by_cases hz : l[k].size = 0
      · have HR : Hid (pcs l = false) := pcs_no (fun h => h.2.1 k hlt hz)
        have hx := empty_of hz
        clear HT
        go_wp2_with fail
        go_ret
        exact ⟨ret_b HR.out.symm, hbel⟩
      · have hy := ne_of hz
        by_cases hov : 300 < sumS (l.take k) + l[k].size
        · have HR : Hid (pcs l = false) := pcs_no (fun h => by omega)
          have hd3 : decide (300 < (sumS (l.take k) : Int) + (l[k].size : Int)) = true := decide_eq_true (by omega)
          clear HT HN HM
          go_wp2_with fail
          go_ret
          exact ⟨ret_b HR.out.symm, hbel⟩
        · have HT' : Hid (∀ j, (hj : j < l.length) → j < k + 1 → l[j].size ≠ 0) := by
            intro j hj h
            by_cases e : j = k
            · subst e; exact hz
            · exact HT.out j hj (by omega)
          have hd3 : decide (300 < (sumS (l.take k) : Int) + (l[k].size : Int)) = false := decide_eq_false (by omega)
          have HN' : Hid _ := HN
          clear HT HM
          go_wp2_with fail
          refine ⟨⟨k + 1, by omega, by rw [HN'.out]; go_num, by go_num, hbel, by omega, HT'⟩, ?_⟩
          simp [intOf]; omega
    · obtain rfl : k = l.length := by omega
      rw [List.take_length] at *
      have HR : Hid (pcs l = true) := pcs_yes (by omega) (fun j hj => HT.out j hj hj) hsum
      clear HT
      go_wp2_with fail
      go_ret
      exact ⟨ret_b HR.out.symm, hbel⟩

end Go.Proofs.YtimfcbjgoilnpaaDoor.Ckm
