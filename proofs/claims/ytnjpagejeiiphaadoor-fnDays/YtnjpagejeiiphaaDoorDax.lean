/-
  Walks: impl.DateAt, spec.DateAt, impl.SecondsOf, spec.SecondsOf, spec.DaysOf.
-/
import Derived.Test.YtnjpagejeiiphaaDoorDat
namespace Go.Proofs.YtnjpagejeiiphaaDoor.Dwa
open Go.RowKit
open Go.Proofs.YtnjpagejeiiphaaDoor.Dmt

/-- What lay there before a callee that makes memory alone still reads as it did. -/
theorem bcell {W w1 : World} (hb : Below W.heap.size W w1) : (∀ b o, b < W.heap.size → w1.cell? ⟨b, o, none⟩ = W.cell? ⟨b, o, none⟩) ∧ (∀ b o, b < W.heap.size → w1.frozen? ⟨b, o, none⟩ = W.frozen? ⟨b, o, none⟩) :=
  ⟨fun b o h => hb.cell (p := ⟨b, o, none⟩) h, fun b o h => hb.frozen (p := ⟨b, o, none⟩) h⟩

/-- A block that was made just ahead of a callee that makes memory alone. -/
theorem zcells {w w1 : World} {cs : Array Value} {t : TypeId} (hb : Below (w.alloc (.cells cs t)).heap.size (w.alloc (.cells cs t)) w1) :
    (∀ i, w1.cell? ⟨w.heap.size, i, none⟩ = cs[i]?) ∧ (∀ i, w1.frozen? ⟨w.heap.size, i, none⟩ = false) ∧ w.heap.size < w1.heap.size := by
  have hs : w.heap.size < (w.alloc (.cells cs t)).heap.size := by simp
  refine ⟨fun i => ?_, fun i => ?_, Nat.lt_of_lt_of_le hs hb.size⟩
  · rw [(bcell hb).1 _ i hs]; exact World.cell?_alloc_mark w cs t _ i
  · rw [(bcell hb).2 _ i hs]; exact World.frozen?_alloc_at cs t _ i rfl

theorem atV_is (t : Int) : ∃ Y M D, Y = yearI (t / 86400) ∧ M = (monthI (yearI (t / 86400)) (restI (t / 86400))).1 ∧ D = (monthI (yearI (t / 86400)) (restI (t / 86400))).2 + 1 ∧ atV t = dateV Y M D (t % 86400 / 3600) (t % 86400 / 60 % 60) (t % 86400 % 60) := ⟨_, _, _, rfl, rfl, rfl, rfl⟩

theorem ret_date {t : Int} {v : Value} (h : atV t = v) : Ending.returned (.tuple #[v, .bool true]) = .returned (.tuple #[atV t, .bool true]) := by rw [h]

set_option maxHeartbeats 800000 in
theorem implAt_yes (t : Int) (w : World) (hT : Tab w) (h1 : 0 ≤ t) (h2 : t ≤ 253402300799) :
    Calls Tryd.prog 13 #[.int .i64 t] w fun e w' => e = .returned (.tuple #[atV t, .bool true]) ∧ Below w.heap.size w w' := by
  obtain ⟨Y, M, D, hY, hM, hD, hA⟩ := atV_is t
  rw [show t % 86400 % 60 = t % 60 from by omega] at hA
  have HA : Hid (atV t = dateV Y M D (t % 86400 / 3600) (t % 86400 / 60 % 60) (t % 60)) := hA
  have C := fun w hT => implDate_any (t / 86400) w hT (by omega) (by omega)
  simp only [← hD, ← hM] at C
  simp only [← hY] at C
  have HC : Hid (∀ w, Tab w → Calls Tryd.prog 29 #[.int .i64 (t / 86400)] w fun e w' => e = .returned (.agg #[.int .i64 Y, .int .i64 M, .int .i64 D, .int .i64 0, .int .i64 0, .int .i64 0]) ∧ Below w.heap.size w w') := C
  clear C hY hM hD hA
  go_enter Tryd.func13, Tryd.ntmps13
  go_wp2_with (first
    | (go_at_call 29; refine (HC.out _ (by first | exact hT | exact hT.alloc _ | exact (hT.alloc _).alloc _)).mono ?_; rintro e w1 ⟨rfl, hb1⟩; obtain ⟨hc1, hf1, hsz⟩ := zcells hb1)
    | go_in)
  have hfin : Below w.heap.size w w1 := ((Below.refl _ _).alloc (Nat.le_refl _) _).trans (hb1.mono (by simp))
  exact bodyPost_ret (v := .tuple #[dateV Y M D (t % 86400 / 3600) (t % 86400 / 60 % 60) (t % 60), .bool true]) (by simp [results, Tryd.results13, go_sem, hsz, dateV, hc1]) rfl ⟨ret_date HA.out, ((((((hfin.setCell (Nat.le_refl _) _).setCell (Nat.le_refl _) _).setCell (Nat.le_refl _) _).setCell (Nat.le_refl _) _).setCell (Nat.le_refl _) _).setCell (Nat.le_refl _) _).alloc (Nat.le_of_lt (by simpa using hsz)) _⟩

theorem implAt_no (t : Int) (w : World) (h1 : t < 0 ∨ 253402300799 < t) :
    Calls Tryd.prog 13 #[.int .i64 t] w fun e w' => e = .returned (.tuple #[dateV 0 0 0 0 0 0, .bool false]) ∧ Below w.heap.size w w' := by
  rcases (show t < 0 ∨ (0 ≤ t ∧ 253402300799 < t) from by omega) with h1 | ⟨h0, h1⟩
  · go_enter Tryd.func13, Tryd.ntmps13
    go_wp2
    exact bodyPost_ret (v := .tuple #[dateV 0 0 0 0 0 0, .bool false]) (by simp [results, Tryd.results13, go_sem, dateV]) rfl ⟨rfl, by repeat (first | exact Below.refl _ _ | refine Below.alloc ?_ (by simp <;> omega) _ | refine Below.setCell ?_ (by simp <;> omega) _)⟩
  · have hd : decide (t ≤ 253402300799) = false := decide_eq_false (by omega)
    go_enter Tryd.func13, Tryd.ntmps13
    go_wp2
    exact bodyPost_ret (v := .tuple #[dateV 0 0 0 0 0 0, .bool false]) (by simp [results, Tryd.results13, go_sem, dateV]) rfl ⟨rfl, by repeat (first | exact Below.refl _ _ | refine Below.alloc ?_ (by simp <;> omega) _ | refine Below.setCell ?_ (by simp <;> omega) _)⟩

end Go.Proofs.YtnjpagejeiiphaaDoor.Dwa
