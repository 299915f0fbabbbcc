/-
  Walks: the law FnExactLengthOf.
-/
import Derived.Test.YtaplkbkpgdpbaaaDoorLnl
import Derived.Test.YtaplkbkpgdpbaaaDoorFds
namespace Go.Proofs.YtaplkbkpgdpbaaaDoor.Lnx
open Go.RowKit
open Go.Proofs.YtaplkbkpgdpbaaaDoor.Fbs
open Go.Proofs.YtaplkbkpgdpbaaaDoor.Fch
open Go.Proofs.YtaplkbkpgdpbaaaDoor.Fdb
open Go.Proofs.YtaplkbkpgdpbaaaDoor.Fds (AF ShortF szFieldS_any toFieldS_any)
open Go.Proofs.YtaplkbkpgdpbaaaDoor.Fvs
open Go.Proofs.YtaplkbkpgdpbaaaDoor.Lnp

set_option maxHeartbeats 3200000 in
theorem walk (a : Option Addr) (ca : Nat) (l : List (ByteArray × ByteArray)) (b : Addr) (w : World) (hT : Tab w) (hE : w.cell? ⟨0, 0, none⟩ = some (sent b)) (hl : l.length ≤ maxLen) (hx : ∀ x ∈ l, x.1.size ≤ maxLen ∧ x.2.size ≤ maxLen) (ha : AF w a l) :
    Calls Tryd.prog 8 #[.slice a l.length ca] w fun e w' => e = .returned (.bool true) ∧ Below w.heap.size w w' := by
  have hgt := hT.lt
  have het := World.block_lt_of_cell? _ _ hE
  have HE : Hid (w.cell? ⟨0, 0, none⟩ = some (sent b)) := hE
  have HZ : Hid (Calls Tryd.prog 29 #[.slice a l.length ca, .int .i64 1048576] w fun e w' => ∃ v : Int, e = .returned (.int .i64 v) ∧ v ≤ 1048576 ∧ ShortF l v ∧ Below w.heap.size w w') := szFieldS_any a ca l 1048576 w (Nat.le_refl _) hl hx ha
  go_enter Tryd.func8, Tryd.ntmps8
  go_wp2_with fail
  refine (Calls.mono HZ.out ?_)
  rintro e w1 ⟨v, rfl, _, hv, hb1⟩
  by_cases hneg : v < 0
  · have hd : decide (v < 0) = true := decide_eq_true hneg
    go_wp2_with fail
    go_ret
    exact ⟨rfl, hb1⟩
  have hd : decide (v < 0) = false := decide_eq_false hneg
  obtain ⟨hl1, hx1⟩ := hv (by omega)
  have hzF : SzF l := by
    intro c hc
    obtain ⟨j, hj, rfl⟩ := List.getElem_of_mem hc
    have := hx1 j hj
    omega
  have HT : Hid _ := fun w h => toFieldS_any a ca l w hl1 h
  have HSp : Hid _ := fun a' w lo hi h => specLen_any a' l.length l w lo hi (by omega) hzF h
  have HIm : Hid _ := fun a' w lo hi t c h => implLen_any a' l.length l b w lo hi t c hzF (Nat.le_refl _) h
  have HEF : Hid _ := fun a' b' w x y x' y' p q => eqFS_any a' b' l.length l.length l w x y x' y' (by omega) p q
  generalize lnO l = r at HSp HIm
  obtain ⟨B, ok⟩ := r
  have HA : Hid (AF w a l) := ha
  clear hx hx1 hl hv ha hzF hE
  go_wp2_with fail
  refine (HT.out _ (HA.out.below hb1)).mono ?_
  rintro e w2 ⟨rfl, T2, hb2'⟩
  have hb2 := hb1.trans (hb2'.mono hb1.size)
  clear hb2'
  go_wp2_with fail
  refine (HSp.out _ _ _ _ T2).mono ?_
  rintro e w3 ⟨rfl, hb3'⟩
  have hb3 := hb2.trans (hb3'.mono hb2.size)
  clear hb3' T2 hb2
  go_wp2_with fail
  refine (HT.out _ (HA.out.below hb3)).mono ?_
  rintro e w4 ⟨rfl, X4, hb4'⟩
  have hb4 := hb3.trans (hb4'.mono hb3.size)
  clear hb4' hb3
  go_wp2_with fail
  refine (HIm.out _ _ _ _ (hT.below hb4 hgt) ((hb4.cell (p := ⟨0, 0, none⟩) het).trans HE.out) X4).mono ?_
  rintro e w5 ⟨rfl, hb5'⟩
  have hb5 := hb4.trans (hb5'.mono hb4.size)
  have X5 := X4.below hb5'
  clear hb5' X4 hb4
  go_wp2_with fail
  refine (HT.out _ (HA.out.below hb5)).mono ?_
  rintro e w7 ⟨rfl, T7, hb7'⟩
  have hb7 := hb5.trans (hb7'.mono hb5.size)
  have X7 := X5.below hb7'
  clear hb7' X5 hb5
  go_wp2_with fail
  refine (HEF.out _ _ _ _ _ _ _ X7 T7).mono ?_
  rintro e w8 ⟨rfl, hb8'⟩
  have hb8 := hb7.trans (hb8'.mono hb7.size)
  go_wp2_with fail
  go_ret
  exact ⟨rfl, hb8⟩

end Go.Proofs.YtaplkbkpgdpbaaaDoor.Lnx
