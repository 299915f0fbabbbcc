/-
  Walks: laws' szRequest, toRequest, eqRequest; a request among a law's arguments, opened.
-/
import Derived.Test.YtfgcgnhffljiaaaGreatDoorFds
import Derived.Lib.SmallJoins
namespace Go.Proofs.YtfgcgnhffljiaaaGreatDoor.Rqo
open Go.RowKit
open Go.Proofs.YtfgcgnhffljiaaaGreatDoor.Fbs
open Go.Proofs.YtfgcgnhffljiaaaGreatDoor.Fdb
open Go.Proofs.YtfgcgnhffljiaaaGreatDoor.Fds
open Go.Proofs.YtfgcgnhffljiaaaGreatDoor.Mrk (same_text)

theorem array4 {α : Type} {cs : Array α} (h : cs.size = 4) : ∃ c0 c1 c2 c3, cs = #[c0, c1, c2, c3] := by
  obtain ⟨l⟩ := cs
  match l, h with
  | [c0, c1, c2, c3], _ => exact ⟨c0, c1, c2, c3, rfl⟩
theorem list4 {α : Type} {l : List α} (h : l.length = 4) : ∃ c0 c1 c2 c3, l = [c0, c1, c2, c3] := by
  match l, h with
  | [c0, c1, c2, c3], _ => exact ⟨c0, c1, c2, c3, rfl⟩
theorem cellsR : Tryz.prog.cellsOf 43 = 4 := by kernel_rfl
theorem cellsL : Tryz.prog.cellsOf 22 = 1 := by kernel_rfl

set_option maxRecDepth 100000 in
open Go.ChangeShapes Go.WideShapes Go.ChangeAt in
theorem open_request {H : Type} {enc : TypeId × Value → H} {W : World} {r : Reach} {b0 base : Nat} {sp : Nat → Bool} {held : Bool} {v : Value} {d : DataW H} {p : List MemPlace}
    (hv : Value.okWide Tryz.prog W r b0 43 v) (h : DataW.Trod enc Tryz.prog W base sp held 43 v d p) :
    ∃ (M T B : ByteArray) (a : Option Addr) (cap : Nat) (l : List (ByteArray × ByteArray)), v = .agg #[.string M, .string T, .slice a l.length cap, .string B] ∧ M.size ≤ maxLen ∧ T.size ≤ maxLen ∧ B.size ≤ maxLen ∧ AF W a l ∧ l.length ≤ maxLen ∧ ∀ x ∈ l, x.1.size ≤ maxLen ∧ x.2.size ≤ maxLen := by
  obtain ⟨cs, rfl, hsz⟩ := okWide_struct Tryz.underlying43 hv
  obtain ⟨c0, c1, c2, c3, rfl⟩ := array4 (hsz.trans cellsR)
  obtain ⟨fuel, hf⟩ := h
  obtain ⟨xs, n, _, _, hl, hlen, hg⟩ := DataW.trod_struct Tryz.underlying43 hf
  obtain ⟨y0, y1, y2, y3, rfl⟩ := list4 (show xs.length = 4 from hlen)
  have g0 := hg 0 _ rfl
  have g1 := hg 1 _ rfl
  have g2 := hg 2 _ rfl
  have g3 := hg 3 _ rfl
  obtain ⟨M, e0, _, k0⟩ := DataW.trod_string Tryz.underlying9 g0
  obtain ⟨T, e1, _, k1⟩ := DataW.trod_string Tryz.underlying9 g1
  obtain ⟨a, cap, l, e2, k2, k3, k4⟩ := open_fields_cells g2
  obtain ⟨B, e3, _, k5⟩ := DataW.trod_string Tryz.underlying9 g3
  simp [cellsS, cellsL, Value.cells] at e0 e1 e2 e3
  subst e0 e1 e2 e3
  exact ⟨M, T, B, a, cap, l, rfl, k0, k1, k5, k2, k3, k4⟩

/-- What a size tells of a request. -/
def ShortR (M T B : ByteArray) (l : List (ByteArray × ByteArray)) : Prop := M.size ≤ 1048576 ∧ T.size ≤ 1048576 ∧ B.size ≤ 1048576 ∧ l.length ≤ 1048576 ∧ ∀ j, (hj : j < l.length) → l[j].1.size ≤ 1048576 ∧ l[j].2.size ≤ 1048576

set_option maxHeartbeats 800000 in
theorem szRequest_any (M T B : ByteArray) (a : Option Addr) (ca : Nat) (l : List (ByteArray × ByteArray)) (w : World) (hM : M.size ≤ maxLen) (hT : T.size ≤ maxLen) (hB : B.size ≤ maxLen) (hl : l.length ≤ maxLen) (hx : ∀ x ∈ l, x.1.size ≤ maxLen ∧ x.2.size ≤ maxLen) (ha : AF w a l) :
    Calls Tryz.prog 18 #[.agg #[.string M, .string T, .slice a l.length ca, .string B], .int .i64 1048576] w fun e w' => ∃ v : Int, e = .returned (.int .i64 v) ∧ (0 ≤ v → ShortR M T B l) ∧ Below w.heap.size w w' := by
  unfold maxLen at hM hT hB
  have hbox : Below w.heap.size w (w.alloc (.cells #[.string M, .string T, .slice a l.length ca, .string B] 43)) := (Below.refl _ _).alloc (Nat.le_refl _) _
  have hab := ha.below hbox
  by_cases h1 : 1048576 < M.size
  · have hd : decide (1048576 - (M.size : Int) < 0) = true := decide_eq_true (by omega)
    go_enter Tryz.func18, Tryz.ntmps18
    go_wp2_with fail
    go_ret
    exact ⟨-1, rfl, fun h => absurd h (by decide), hbox⟩
  have hd1 : decide (1048576 - (M.size : Int) < 0) = false := decide_eq_false (by omega)
  by_cases h2 : 1048576 < M.size + T.size
  · have hd : decide (1048576 - (M.size : Int) - (T.size : Int) < 0) = true := decide_eq_true (by omega)
    go_enter Tryz.func18, Tryz.ntmps18
    go_wp2_with fail
    go_ret
    exact ⟨-1, rfl, fun h => absurd h (by decide), hbox⟩
  have hd2 : decide (1048576 - (M.size : Int) - (T.size : Int) < 0) = false := decide_eq_false (by omega)
  have HZ : Hid (∀ w, AF w a l → Calls Tryz.prog 37 #[.slice a l.length ca, .int .i64 (1048576 - (M.size : Int) - (T.size : Int))] w fun e w' => ∃ v : Int, e = .returned (.int .i64 v) ∧ v ≤ 1048576 ∧ ShortF l v ∧ Below w.heap.size w w') := by
    intro w h
    have := szFieldS_any a ca l (1048576 - M.size - T.size) w (by omega) hl hx h
    rw [show ((1048576 - M.size - T.size : Nat) : Int) = 1048576 - (M.size : Int) - (T.size : Int) from by omega] at this
    exact this.mono fun e w' ⟨v, h1, h2, h3, h4⟩ => ⟨v, h1, by omega, h3, h4⟩
  go_enter Tryz.func18, Tryz.ntmps18
  go_wp2_with fail
  refine (HZ.out _ hab).mono ?_
  rintro e w1 ⟨v, rfl, hv, hsh, hb1⟩
  have hb2 := hbox.trans (hb1.mono hbox.size)
  obtain ⟨hc, hf⟩ : w1.cell? ⟨w.heap.size, 3, none⟩ = some (.string B) ∧ True := ⟨(hb1.cell (p := ⟨w.heap.size, 3, none⟩) (by simp)).trans (by simp [go_sem]), trivial⟩
  by_cases hneg : v < 0
  · have hd : decide (v < 0) = true := decide_eq_true hneg
    go_wp2_with fail
    go_ret
    exact ⟨-1, rfl, fun h => absurd h (by decide), hb2⟩
  have hd3 : decide (v < 0) = false := decide_eq_false hneg
  have hwr : IntKind.i64.wrap (v - (B.size : Int)) = v - (B.size : Int) := by rw [IntKind.wrap_i64]; omega
  by_cases hneg2 : v - (B.size : Int) < 0
  · have hd : decide (v - (B.size : Int) < 0) = true := decide_eq_true hneg2
    go_wp2_with fail
    go_ret
    exact ⟨-1, rfl, fun h => absurd h (by decide), hb2⟩
  · have hd : decide (v - (B.size : Int) < 0) = false := decide_eq_false hneg2
    have HS : ShortR M T B l := ⟨by omega, by omega, by omega, hsh (by omega)⟩
    go_wp2_with fail
    go_ret
    exact ⟨_, rfl, fun _ => HS, hb2⟩

end Go.Proofs.YtfgcgnhffljiaaaGreatDoor.Rqo
