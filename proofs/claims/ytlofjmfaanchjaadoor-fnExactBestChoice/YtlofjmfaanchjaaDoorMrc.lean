/-
  Walks: laws' eqChoice, eqChoiceS, heldChoiceS, markChoiceS.
-/
import Derived.Test.YtlofjmfaanchjaaDoorChz
namespace Go.Proofs.YtlofjmfaanchjaaDoor.Mrc
open Go.RowKit
open Go.Proofs.YtlofjmfaanchjaaDoor.Fbs
open Go.Proofs.YtlofjmfaanchjaaDoor.Och
open Go.Proofs.YtlofjmfaanchjaaDoor.Mrk (mk markText_any same_text below_drewN grown_below grown_of grown_set below_grown)

theorem flat_at : ∀ (l : List (ByteArray × Int)) (i : Nat) (c : ByteArray × Int), l[i]? = some c → (flatC l)[i * 2]? = some (.string c.1) ∧ (flatC l)[i * 2 + 1]? = some (.int .i64 c.2)
  | [], i, c, h => by simp at h
  | d :: r, 0, c, h => by
    have : d = c := by simpa using h
    subst this
    exact ⟨rfl, rfl⟩
  | d :: r, i + 1, c, h => by
    have := flat_at r i c (by simpa using h)
    have e : flatC (d :: r) = .string d.1 :: .int .i64 d.2 :: flatC r := rfl
    rw [e, show (i + 1) * 2 = i * 2 + 1 + 1 from by omega, show i * 2 + 1 + 1 + 1 = (i * 2 + 1) + 1 + 1 from rfl]
    simpa using this

/-- A row of choices in a block. -/
def RowC (w : World) (g : Nat) (l : List (ByteArray × Int)) : Prop := g < w.heap.size ∧ (∀ i, w.frozen? ⟨g, i, none⟩ = false) ∧ ∀ i c, l[i]? = some c → w.cell? ⟨g, i * 2, none⟩ = some (.string c.1) ∧ w.cell? ⟨g, i * 2 + 1, none⟩ = some (.int .i64 c.2)
/-- A list of choices: empty, or in a block from lo on and below hi. -/
def CV (w : World) (a : Option Addr) (l : List (ByteArray × Int)) (lo hi : Nat) : Prop := l = [] ∨ ∃ g, a = some ⟨g, 0, none⟩ ∧ lo ≤ g ∧ g < hi ∧ RowC w g l

theorem RowC.below {w w' : World} {g : Nat} {l : List (ByteArray × Int)} (h : RowC w g l) (hb : Below w.heap.size w w') : RowC w' g l :=
  ⟨Nat.lt_of_lt_of_le h.1 hb.size, fun i => (hb.frozen (p := ⟨g, i, none⟩) h.1).trans (h.2.1 i), fun i c hc => ⟨(hb.cell (p := ⟨g, i * 2, none⟩) h.1).trans (h.2.2 i c hc).1, (hb.cell (p := ⟨g, i * 2 + 1, none⟩) h.1).trans (h.2.2 i c hc).2⟩⟩
theorem CV.below {w w' : World} {a : Option Addr} {l : List (ByteArray × Int)} {lo hi : Nat} (h : CV w a l lo hi) (hb : Below w.heap.size w w') : CV w' a l lo hi := by
  rcases h with h | ⟨g, h1, h2, h3, h4⟩
  · exact .inl h
  · exact .inr ⟨g, h1, h2, h3, h4.below hb⟩
theorem cv_of {w : World} {B : Nat} {v : Value} {l : List (ByteArray × Int)} (h : choicesIn w B v l) : ∃ a cap, v = .slice a l.length cap ∧ CV w a l B w.heap.size := by
  have hh := h
  rcases h.2 with ⟨rfl, h0⟩ | ⟨g, cap, cur, rfl, hbg, hg, hnc, hcm, hcs, htake⟩
  · have hl : l = [] := by simpa using h0
    subst hl
    exact ⟨none, 0, rfl, .inl rfl⟩
  · refine ⟨_, _, rfl, .inr ⟨g, rfl, hbg, (Array.getElem?_eq_some_iff.1 hg).1, (Array.getElem?_eq_some_iff.1 hg).1, fun i => by simp [World.frozen?, hg], fun i c hc => ?_⟩⟩
    obtain ⟨f1, f2⟩ := flat_at l i c hc
    have e1 := World.ownsRow.cells hh (g := g) rfl (i * 2) _ f1
    have e2 := World.ownsRow.cells hh (g := g) rfl (i * 2 + 1) _ f2
    rw [Addr.add_lit, Nat.zero_add] at e1 e2
    exact ⟨e1, e2⟩

theorem eqC_one (X : ByteArray) (z : Int) (w : World) :
    Calls Tryd.prog 83 #[.agg #[.string X, .int .i64 z], .agg #[.string X, .int .i64 z]] w fun e w' => e = .returned (.bool true) ∧ Below w.heap.size w w' := by
  have hs := same_text X
  go_enter Tryd.func83, Tryd.ntmps83
  go_wp2
  go_ret
  exact ⟨rfl, ((Below.refl _ _).alloc (Nat.le_refl _) _).alloc (by simp) _⟩

set_option maxHeartbeats 800000 in
theorem eqCS_any (a b : Option Addr) (ca cb : Nat) (l : List (ByteArray × Int)) (w : World) (lo hi lo' hi' : Nat) (hl : l.length ≤ 2000000) (ha : CV w a l lo hi) (hb : CV w b l lo' hi') :
    Calls Tryd.prog 45 #[.slice a l.length ca, .slice b l.length cb] w fun e w' => e = .returned (.bool true) ∧ Below w.heap.size w w' := by
  by_cases h0 : l = []
  · subst h0
    go_enter Tryd.func45, Tryd.ntmps45
    go_wp2_with fail
    go_loop [5] (fun i => i = .int .i64 0) (fun _ => 0)
    case atStart => rfl
    case round =>
      obtain rfl := hrel
      go_wp2_with fail
      go_ret
      exact ⟨rfl, Below.refl _ _⟩
  · rcases ha with ha | ⟨g, rfl, _, _, ga⟩
    · exact absurd ha h0
    rcases hb with hb | ⟨g', rfl, _, _, gb⟩
    · exact absurd hb h0
    have GA : Hid (RowC w g l) := ga
    have GB : Hid (RowC w g' l) := gb
    go_enter Tryd.func45, Tryd.ntmps45
    go_wp2_with fail
    go_loopw [5] (fun i wr => ∃ k : Nat, k ≤ l.length ∧ i = .int .i64 k ∧ Below w.heap.size w wr) (fun i _ => l.length - (intOf i).toNat)
    case atStart => exact ⟨0, by omega, rfl, Below.refl _ _⟩
    case round =>
      obtain ⟨k, hk, rfl, hbel⟩ := hrel
      by_cases hlt : k < l.length
      · obtain ⟨ca1, ca2⟩ := (GA.out.below hbel).2.2 k l[k] (List.getElem?_eq_getElem hlt)
        obtain ⟨cb1, cb2⟩ := (GB.out.below hbel).2.2 k l[k] (List.getElem?_eq_getElem hlt)
        have HE : Hid _ := eqC_one l[k].1 l[k].2
        go_wp2_with fail
        go_region_with (go_at_call 83; refine (HE.out _).mono ?_; rintro e w2 ⟨rfl, hb2⟩)
        all_goals
          go_wp2_with fail
          go_roundw
          case rel => exact ⟨k + 1, by omega, by go_num, hbel.drew.trans (hb2.mono hbel.size)⟩
          case measure => simp [intOf]; omega
      · go_wp2_with fail
        go_ret
        exact ⟨rfl, hbel⟩

/-- The marks: names and weights, numbered on. -/
def marksC (k n : Nat) : List (ByteArray × Int) := (List.range n).map fun i => (mk (k + 2 * i), (k : Int) + 2 * (i : Int) + 1)
theorem marksC_at (k n i : Nat) (h : i < n) : (marksC k n)[i]? = some (mk (k + 2 * i), (k : Int) + 2 * (i : Int) + 1) := by
  unfold marksC
  rw [List.getElem?_map, List.getElem?_range h]; rfl
theorem marksC_len (k n : Nat) : (marksC k n).length = n := by simp [marksC]

set_option maxHeartbeats 1600000 in
theorem heldC_any (a : Option Addr) (ca k : Nat) (n : Nat) (w : World) (lo hi : Nat) (hk : 1 ≤ k) (hn : k + 2 * n ≤ 1000000) (ha : CV w a (marksC k n) lo hi) :
    Calls Tryd.prog 47 #[.slice a n ca, .int .i64 k] w fun e w' => e = .returned (.int .i64 ((k : Int) + 2 * n)) ∧ Below w.heap.size w w' := by
  by_cases h0 : n = 0
  · subst h0
    go_enter Tryd.func47, Tryd.ntmps47
    go_wp2_with fail
    go_loop [1, 5] (fun kv i => i = .int .i64 0 ∧ kv = .int .i64 k) (fun _ _ => 0)
    case atStart => exact ⟨rfl, rfl⟩
    case round =>
      obtain ⟨rfl, rfl⟩ := hrel
      go_wp2_with fail
      go_ret
      exact ⟨by simp, Below.refl _ _⟩
  · rcases ha with ha | ⟨g, rfl, _, _, ga⟩
    · exact absurd (show n = 0 by have := congrArg List.length ha; rwa [marksC_len] at this) h0
    have GA : Hid (RowC w g (marksC k n)) := ga
    clear ga
    go_enter Tryd.func47, Tryd.ntmps47
    go_wp2_with fail
    go_loopw [1, 5] (fun kv i wr => ∃ j : Nat, j ≤ n ∧ i = .int .i64 j ∧ kv = .int .i64 ((k : Int) + 2 * j) ∧ Below w.heap.size w wr) (fun _ i _ => n - (intOf i).toNat)
    case atStart => exact ⟨0, by omega, rfl, by simp, Below.refl _ _⟩
    case round =>
      obtain ⟨j, hj, rfl, rfl, hbel⟩ := hrel
      by_cases hlt : j < n
      · obtain ⟨hc, hd⟩ := (GA.out.below hbel).2.2 j _ (marksC_at k n j hlt)
        have HM : Hid (∀ w, Calls Tryd.prog 81 #[.int .i64 ((k : Int) + 2 * j)] w fun e w' => e = .returned (.string (mk (k + 2 * j))) ∧ Below w.heap.size w w') := by
          intro w
          have := markText_any (k + 2 * j) w (by omega) (by omega)
          rwa [show ((k + 2 * j : Nat) : Int) = (k : Int) + 2 * j from by omega] at this
        have hs := same_text (mk (k + 2 * j))
        have hg := (GA.out.below hbel).1
        dsimp only at hc hd
        generalize mk (k + 2 * j) = T at HM hc hs
        go_wp2_with fail
        go_region_with (go_at_call 81; refine (HM.out _).mono ?_; rintro e w2 ⟨rfl, hb2⟩; have hc2 := (hb2.cell (p := ⟨g, j * 2, none⟩) hg).trans hc; have hd2 := (hb2.cell (p := ⟨g, j * 2 + 1, none⟩) hg).trans hd)
        all_goals
          go_wp2_with fail
          go_roundw
          case rel => exact ⟨j + 1, by omega, by go_num, by go_num, hbel.drew.trans (hb2.mono hbel.size)⟩
          case measure => simp [intOf]; omega
      · obtain rfl : j = n := by omega
        go_wp2_with fail
        go_ret
        exact ⟨rfl, hbel⟩

end Go.Proofs.YtlofjmfaanchjaaDoor.Mrc
