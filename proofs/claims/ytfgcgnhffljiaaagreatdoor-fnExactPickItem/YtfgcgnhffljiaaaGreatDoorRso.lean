/-
  Walk: laws' szResponse; a response among a law's arguments, opened.
-/
import Derived.Test.YtfgcgnhffljiaaaGreatDoorRqo
namespace Go.Proofs.YtfgcgnhffljiaaaGreatDoor.Rso
open Go.RowKit
open Go.Proofs.YtfgcgnhffljiaaaGreatDoor.Fbs
open Go.Proofs.YtfgcgnhffljiaaaGreatDoor.Fdb
open Go.Proofs.YtfgcgnhffljiaaaGreatDoor.Fds
open Go.Proofs.YtfgcgnhffljiaaaGreatDoor.Rqo (array4 list4 cellsL)

theorem cellsR : Tryz.prog.cellsOf 24 = 4 := by kernel_rfl
theorem cellsI : Tryz.prog.cellsOf 3 = 1 := by kernel_rfl

set_option maxRecDepth 100000 in
open Go.ChangeShapes Go.WideShapes Go.ChangeAt in
theorem open_response {H : Type} {enc : TypeId × Value → H} {W : World} {r : Reach} {b0 base : Nat} {sp : Nat → Bool} {held : Bool} {v : Value} {d : DataW H} {p : List MemPlace}
    (hv : Value.okWide Tryz.prog W r b0 24 v) (h : DataW.Trod enc Tryz.prog W base sp held 24 v d p) :
    ∃ (S : Int) (R B : ByteArray) (a : Option Addr) (cap : Nat) (l : List (ByteArray × ByteArray)), v = .agg #[.int .i64 S, .string R, .slice a l.length cap, .string B] ∧ R.size ≤ maxLen ∧ B.size ≤ maxLen ∧ AF W a l ∧ l.length ≤ maxLen ∧ ∀ x ∈ l, x.1.size ≤ maxLen ∧ x.2.size ≤ maxLen := by
  obtain ⟨cs, rfl, hsz⟩ := okWide_struct Tryz.underlying24 hv
  obtain ⟨c0, c1, c2, c3, rfl⟩ := array4 (hsz.trans cellsR)
  obtain ⟨fuel, hf⟩ := h
  obtain ⟨xs, n, _, _, hl, hlen, hg⟩ := DataW.trod_struct Tryz.underlying24 hf
  obtain ⟨y0, y1, y2, y3, rfl⟩ := list4 (show xs.length = 4 from hlen)
  have g0 := hg 0 _ rfl
  have g1 := hg 1 _ rfl
  have g2 := hg 2 _ rfl
  have g3 := hg 3 _ rfl
  obtain ⟨S, e0, _, k0⟩ := DataW.trod_int Tryz.underlying3 g0
  obtain ⟨R, e1, _, k1⟩ := DataW.trod_string Tryz.underlying9 g1
  obtain ⟨a, cap, l, e2, k2, k3, k4⟩ := open_fields_cells g2
  obtain ⟨B, e3, _, k5⟩ := DataW.trod_string Tryz.underlying9 g3
  simp [cellsS, cellsL, cellsI, Value.cells] at e0 e1 e2 e3
  subst e0 e1 e2 e3
  exact ⟨S, R, B, a, cap, l, rfl, k1, k5, k2, k3, k4⟩

/-- What a size tells of a response. -/
def ShortP (R B : ByteArray) (l : List (ByteArray × ByteArray)) : Prop := R.size ≤ 1048576 ∧ B.size ≤ 1048576 ∧ l.length ≤ 1048576 ∧ ∀ j, (hj : j < l.length) → l[j].1.size ≤ 1048576 ∧ l[j].2.size ≤ 1048576

set_option maxHeartbeats 800000 in
theorem szResponse_any (S : Int) (R B : ByteArray) (a : Option Addr) (ca : Nat) (l : List (ByteArray × ByteArray)) (w : World) (hR : R.size ≤ maxLen) (hB : B.size ≤ maxLen) (hl : l.length ≤ maxLen) (hx : ∀ x ∈ l, x.1.size ≤ maxLen ∧ x.2.size ≤ maxLen) (ha : AF w a l) :
    Calls Tryz.prog 8 #[.agg #[.int .i64 S, .string R, .slice a l.length ca, .string B], .int .i64 1048576] w fun e w' => ∃ v : Int, e = .returned (.int .i64 v) ∧ (0 ≤ v → ShortP R B l) ∧ Below w.heap.size w w' := by
  unfold maxLen at hR hB
  have hbox : Below w.heap.size w (w.alloc (.cells #[.int .i64 S, .string R, .slice a l.length ca, .string B] 24)) := (Below.refl _ _).alloc (Nat.le_refl _) _
  have hab := ha.below hbox
  by_cases h2 : 1048576 < R.size
  · have hd : decide (1048576 - (R.size : Int) < 0) = true := decide_eq_true (by omega)
    go_enter Tryz.func8, Tryz.ntmps8
    go_wp2_with fail
    go_ret
    exact ⟨-1, rfl, fun h => absurd h (by decide), hbox⟩
  have hd2 : decide (1048576 - (R.size : Int) < 0) = false := decide_eq_false (by omega)
  have HZ : Hid (∀ w, AF w a l → Calls Tryz.prog 37 #[.slice a l.length ca, .int .i64 (1048576 - (R.size : Int))] w fun e w' => ∃ v : Int, e = .returned (.int .i64 v) ∧ v ≤ 1048576 ∧ ShortF l v ∧ Below w.heap.size w w') := by
    intro w h
    have := szFieldS_any a ca l (1048576 - R.size) w (by omega) hl hx h
    rw [show ((1048576 - R.size : Nat) : Int) = 1048576 - (R.size : Int) from by omega] at this
    exact this.mono fun e w' ⟨v, h1, h2, h3, h4⟩ => ⟨v, h1, by omega, h3, h4⟩
  go_enter Tryz.func8, Tryz.ntmps8
  go_wp2_with fail
  refine (HZ.out _ hab).mono ?_
  rintro e w1 ⟨v, rfl, hv, hsh, hb1⟩
  have hb2 := hbox.trans (hb1.mono hbox.size)
  obtain ⟨hc, hf⟩ : w1.cell? ⟨w.heap.size, 3, none⟩ = some (.string B) ∧ True := ⟨(hb1.cell (p := ⟨w.heap.size, 3, none⟩) (by simp)).trans (by simp [go_sem]), trivial⟩
  by_cases hneg : v < 0
  · have hd : decide (v < 0) = true := decide_eq_true hneg
    go_wp2_with fail
    go_ret
    exact ⟨-1, rfl, fun h => absurd h (by decide), hb2⟩
  have hd3 : decide (v < 0) = false := decide_eq_false hneg
  have hwr : IntKind.i64.wrap (v - (B.size : Int)) = v - (B.size : Int) := by rw [IntKind.wrap_i64]; omega
  by_cases hneg2 : v - (B.size : Int) < 0
  · have hd : decide (v - (B.size : Int) < 0) = true := decide_eq_true hneg2
    go_wp2_with fail
    go_ret
    exact ⟨-1, rfl, fun h => absurd h (by decide), hb2⟩
  · have hd : decide (v - (B.size : Int) < 0) = false := decide_eq_false hneg2
    have HS : ShortP R B l := ⟨by omega, by omega, hsh (by omega)⟩
    go_wp2_with fail
    go_ret
    exact ⟨_, rfl, fun _ => HS, hb2⟩

end Go.Proofs.YtfgcgnhffljiaaaGreatDoor.Rso
