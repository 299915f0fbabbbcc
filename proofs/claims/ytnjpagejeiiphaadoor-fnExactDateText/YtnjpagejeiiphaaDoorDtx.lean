/-
  Walks: impl.DateText and spec.DateText tell the same.
-/
import Derived.Test.YtnjpagejeiiphaaDoorDts
namespace Go.Proofs.YtnjpagejeiiphaaDoor.Nam
open Go.RowKit
open Go.Proofs.YtnjpagejeiiphaaDoor.Dmt
open Go.Proofs.YtnjpagejeiiphaaDoor.Dwa
open Go.Proofs.YtnjpagejeiiphaaDoor.Num (tab_below tab_lt tab_alloc)

theorem specDt_yes (y d h i s k : Nat) (m : Int) (w : World) (hg : goodB y m d h i s = true) (hk : wdI y m d = k) :
    Calls Tryd.prog 23 #[dateV y m d h i s] w fun e w' => e = .returned (.tuple #[.string (usualB k y m d h i s), .bool true]) ∧ Below w.heap.size w w' := by
  have C := fun w => specText_any y d h i s k m w hg hk
  have G := fun w => specGood_any y m d h i s w
  unfold dateV
  clear hk
  go_enter Tryd.func23, Tryd.ntmps23
  go_wp2_with (first
    | (go_at_call 19; refine (G _).mono ?_; rintro e w1 ⟨rfl, hb1⟩; obtain ⟨hc1, hf1, hsz⟩ := zcells hb1; rw [hg])
    | (go_at_call 39; refine (C _).mono ?_; rintro e w2 ⟨rfl, hb2⟩))
  go_ret2
  exact ⟨rfl, ((Below.refl _ _).alloc (Nat.le_refl _) _).trans ((hb1.trans (hb2.mono hb1.size)).mono (by simp))⟩

theorem specDt_no (y m d h i s : Int) (w : World) (hg : goodB y m d h i s = false) :
    Calls Tryd.prog 23 #[dateV y m d h i s] w fun e w' => e = .returned (.tuple #[.string ⟨#[]⟩, .bool false]) ∧ Below w.heap.size w w' := by
  have G := fun w => specGood_any y m d h i s w
  unfold dateV
  go_enter Tryd.func23, Tryd.ntmps23
  go_wp2_with (first
    | (go_at_call 19; refine (G _).mono ?_; rintro e w1 ⟨rfl, hb1⟩; obtain ⟨hc1, hf1, hsz⟩ := zcells hb1; rw [hg]))
  go_ret2
  exact ⟨rfl, ((Below.refl _ _).alloc (Nat.le_refl _) _).trans (hb1.mono (by simp))⟩

theorem implDt_yes (y d h i s k : Nat) (m : Int) (w : World) (hT : Tab w) (hD : TabD w) (hN : TabN w) (htab : Lib.TabIs Tryd.prog w "internal/strconv.uint64pow10" .u64 Lib.pow10Tab) (hg : goodB y m d h i s = true) (hk : wdI y m d = k) :
    Calls Tryd.prog 24 #[dateV y m d h i s] w fun e w' => e = .returned (.tuple #[.string (usualB k y m d h i s), .bool true]) ∧ Below w.heap.size w w' := by
  have C := fun w a b c t => implUsual_any y d h i s k m w a b c t hg hk
  have G := fun w hT => implGood_any y m d h i s w hT
  have t0 := tab_alloc htab (.cells #[.int .i64 y, .int .i64 m, .int .i64 d, .int .i64 h, .int .i64 i, .int .i64 s] 24)
  have l0 := tab_lt t0
  have a0 := hT.alloc (.cells #[.int .i64 y, .int .i64 m, .int .i64 d, .int .i64 h, .int .i64 i, .int .i64 s] 24)
  have a1 := a0.lt
  have b0 := hD.alloc (.cells #[.int .i64 y, .int .i64 m, .int .i64 d, .int .i64 h, .int .i64 i, .int .i64 s] 24)
  have b1 := b0.lt
  have d0 := hN.alloc (.cells #[.int .i64 y, .int .i64 m, .int .i64 d, .int .i64 h, .int .i64 i, .int .i64 s] 24)
  have d1 := d0.lt
  unfold dateV
  clear hk
  go_enter Tryd.func24, Tryd.ntmps24
  go_wp2_with (first
    | (go_at_call 12; refine (G _ a0).mono ?_; rintro e w1 ⟨rfl, hb1⟩; obtain ⟨hc1, hf1, hsz⟩ := zcells hb1; rw [hg])
    | (go_at_call 40; refine (C _ (a0.below hb1 a1) (b0.below hb1 b1) (d0.below hb1 d1) (tab_below t0 hb1 l0)).mono ?_; rintro e w2 ⟨rfl, hb2⟩))
  go_ret2
  exact ⟨rfl, ((Below.refl _ _).alloc (Nat.le_refl _) _).trans ((hb1.trans (hb2.mono hb1.size)).mono (by simp))⟩

theorem implDt_no (y m d h i s : Int) (w : World) (hT : Tab w) (hg : goodB y m d h i s = false) :
    Calls Tryd.prog 24 #[dateV y m d h i s] w fun e w' => e = .returned (.tuple #[.string ⟨#[]⟩, .bool false]) ∧ Below w.heap.size w w' := by
  have G := fun w hT => implGood_any y m d h i s w hT
  unfold dateV
  go_enter Tryd.func24, Tryd.ntmps24
  go_wp2_with (first
    | (go_at_call 12; refine (G _ (hT.alloc _)).mono ?_; rintro e w1 ⟨rfl, hb1⟩; obtain ⟨hc1, hf1, hsz⟩ := zcells hb1; rw [hg]))
  go_ret2
  exact ⟨rfl, ((Below.refl _ _).alloc (Nat.le_refl _) _).trans (hb1.mono (by simp))⟩

end Go.Proofs.YtnjpagejeiiphaaDoor.Nam
