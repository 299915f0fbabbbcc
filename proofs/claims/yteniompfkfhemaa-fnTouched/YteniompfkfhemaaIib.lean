/-
  Walks: laws.markIntS, heldIntS.
-/
import Derived.Test.YteniompfkfhemaaIia
namespace Go.Proofs.Yteniompfkfhemaa.Iia
open Go.RowKit

theorem grown_of {w w1 : World} (row : Option Nat) (hb : Below w.heap.size w w1) : w.grownBy w1 row := ⟨hb.os, hb.tape, hb.output, hb.size, fun k hk _ => hb.block k hk⟩
theorem grown_set {w w1 : World} {g : Nat} (h : w.grownBy w1 (some g)) (j : Nat) (v : Value) : w.grownBy (w1.setCell ⟨g, j, none⟩ v) (some g) :=
  ⟨h.os, h.tape, h.output, by have := h.size; simpa [World.setCell] using this, fun k hk hr => (Below.heap_setCell _ _ _ k (fun e => hr (by rw [e]))).trans (h.block k hk hr)⟩
theorem apart {w w' : World} {a : Option Addr} {l : List Int} {lo hi : Nat} (h : IW w a l lo hi) {row : Option Nat} (hg : w.grownBy w' row) (hr : ∀ g, row = some g → g < lo ∨ hi ≤ g) : IW w' a l lo hi := by
  rcases h with h | ⟨g, h1, h2, h3, h4, h5, h6⟩
  · exact .inl h
  · have hb : w'.heap[g]? = w.heap[g]? := hg.block g h4 (fun e => by have := hr g e.symm; omega)
    have hc : ∀ i, w'.cell? ⟨g, i, none⟩ = w.cell? ⟨g, i, none⟩ := fun i => by unfold World.cell?; rw [hb]
    refine .inr ⟨g, h1, h2, h3, Nat.lt_of_lt_of_le h4 hg.size, fun i => ?_, fun i c hi => (hc _).trans (h6 i c hi)⟩
    have := h5 i
    unfold World.frozen? at this ⊢
    rwa [hb]
theorem grownB {B : Nat} {w w1 w2 : World} (h : Below B w w1) {row : Option Nat} (hg : w1.grownBy w2 row) (hB : B ≤ w1.heap.size) (hr : ∀ g, row = some g → B ≤ g) : Below B w w2 :=
  ⟨hg.os.trans h.os, hg.tape.trans h.tape, hg.output.trans h.output, Nat.le_trans h.size hg.size, fun k hk => (hg.block k (by omega) (fun e => by have := hr k e.symm; omega)).trans (h.block k hk)⟩

def marksI (n : Nat) : List Int := (List.range n).map fun (i : Nat) => 1 + (i : Int)
theorem marksI_at (n i : Nat) (h : i < n) : (marksI n)[i]? = some (1 + (i : Int)) := by
  unfold marksI
  rw [List.getElem?_map, List.getElem?_range h]; rfl
theorem marksI_len (n : Nat) : (marksI n).length = n := by simp [marksI]

set_option maxHeartbeats 800000 in
theorem heldI_one (a : Option Addr) (ca n : Nat) (w : World) (lo hi : Nat) (hn : n ≤ 3000000) (ha : IW w a (marksI n) lo hi) :
    Calls Try.prog 35 #[.slice a n ca, .int .i64 1] w fun e w' => e = .returned (.int .i64 (1 + (n : Int))) ∧ Below w.heap.size w w' := by
  have HA : Hid (IL w a (marksI n) lo hi) := ha.il
  clear ha
  go_enter Try.func35, Try.ntmps35
  go_wp2_with fail
  go_loopw [1, 5] (fun kv i wr => ∃ j : Nat, j ≤ n ∧ i = .int .i64 j ∧ kv = .int .i64 (1 + (j : Int)) ∧ Below w.heap.size w wr) (fun _ i _ => n - (intOf i).toNat)
  case atStart => exact ⟨0, by omega, rfl, rfl, Below.refl _ _⟩
  case round =>
    obtain ⟨j, hj, rfl, rfl, hbel⟩ := hrel
    by_cases hlt : j < n
    · obtain ⟨ad, rfl, hc⟩ := (HA.out.below hbel).cell (k := j) (by rw [marksI_len]; exact hlt)
      have he : (marksI n)[j]'(by rw [marksI_len]; exact hlt) = 1 + (j : Int) := by
        have := marksI_at n j hlt
        rw [List.getElem?_eq_getElem (by rw [marksI_len]; exact hlt)] at this
        exact Option.some.inj this
      rw [he] at hc
      clear he
      go_wp2_with fail
      go_roundw
      case rel => exact ⟨j + 1, by omega, by go_num, by go_num, hbel⟩
      case measure => simp [intOf]; omega
    · obtain rfl : j = n := by omega
      go_wp2_with fail
      go_ret
      exact ⟨rfl, hbel⟩

/-- Marks so far: j of n numbers of a row turned. -/
def PartM (w : World) (g j n : Nat) : Prop := g < w.heap.size ∧ (∀ i, w.frozen? ⟨g, i, none⟩ = false) ∧ (∀ i, i < j → w.cell? ⟨g, i, none⟩ = some (.int .i64 (1 + (i : Int)))) ∧ ∀ i, j ≤ i → i < n → ∃ x, w.cell? ⟨g, i, none⟩ = some (.int .i64 x)
theorem PartM.step {w : World} {g j n : Nat} (h : PartM w g j n) (hj : j < n) : PartM (w.setCell ⟨g, j, none⟩ (.int .i64 (1 + (j : Int)))) g (j + 1) n := by
  obtain ⟨h1, h2, h3, h4⟩ := h
  obtain ⟨x0, hx0⟩ := h4 j (Nat.le_refl _) hj
  have T : ∀ q, (w.setCell ⟨g, j, none⟩ (.int .i64 (1 + (j : Int)))).cell? ⟨g, q, none⟩ = if q = j then some (.int .i64 (1 + (j : Int))) else w.cell? ⟨g, q, none⟩ := by
    intro q
    by_cases h : q = j
    · subst h; rw [if_pos rfl]; simp [go_sem, hx0]
    · rw [if_neg h]; simp [go_sem]
  refine ⟨by simpa [World.setCell] using h1, fun i => by simp [go_sem, h2], fun i hij => ?_, fun i hi hn => ?_⟩
  · rw [T]
    by_cases he : i = j
    · subst he; rw [if_pos rfl]
    · rw [if_neg he]; exact h3 i (by omega)
  · obtain ⟨x, hx⟩ := h4 i (by omega) hn
    rw [T, if_neg (by omega)]
    exact ⟨x, hx⟩

set_option maxHeartbeats 800000 in
theorem markI_one (a : Option Addr) (ca : Nat) (l : List Int) (w : World) (lo hi : Nat) (hn : l.length ≤ 3000000) (ha : IW w a l lo hi) :
    Calls Try.prog 34 #[.slice a l.length ca, .int .i64 1] w fun e w' => e = .returned (.int .i64 (1 + (l.length : Int))) ∧ IW w' a (marksI l.length) lo hi ∧ ∃ row, w.grownBy w' row ∧ ∀ g, row = some g → lo ≤ g ∧ g < hi := by
  by_cases h0 : l = []
  · subst h0
    go_enter Try.func34, Try.ntmps34
    go_wp2_with fail
    go_loop [1, 5] (fun kv i => i = .int .i64 0 ∧ kv = .int .i64 1) (fun _ _ => 0)
    case atStart => exact ⟨rfl, rfl⟩
    case round =>
      obtain ⟨rfl, rfl⟩ := hrel
      go_wp2_with fail
      go_ret
      exact ⟨by simp, .inl rfl, none, grown_of _ (Below.refl _ _), fun _ e => nomatch e⟩
  · rcases ha with ha | ⟨g, rfl, g1, g2, g3, g4, ga⟩
    · exact absurd ha h0
    have GA : Hid (PartM w g 0 l.length) := ⟨g3, g4, fun i hi => absurd hi (by omega), fun i _ hi => ⟨_, ga i _ (List.getElem?_eq_getElem hi)⟩⟩
    have hlen : ∃ n, n = l.length := ⟨_, rfl⟩
    obtain ⟨n, hln⟩ := hlen
    rw [← hln] at GA hn ⊢
    clear ga g4 hln h0
    go_enter Try.func34, Try.ntmps34
    go_wp2_with fail
    go_loopw [1, 5] (fun kv i wr => ∃ j : Nat, j ≤ n ∧ i = .int .i64 j ∧ kv = .int .i64 (1 + (j : Int)) ∧ Hid (PartM wr g j n) ∧ Hid (w.grownBy wr (some g))) (fun _ i _ => n - (intOf i).toNat)
    case atStart => exact ⟨0, by omega, rfl, rfl, GA, grown_of _ (Below.refl _ _)⟩
    case round =>
      obtain ⟨j, hj, rfl, rfl, HP, HG⟩ := hrel
      by_cases hlt : j < n
      · have HP3 : Hid _ := HP.out.step hlt
        have HG3 : Hid _ := grown_set HG.out j (.int .i64 (1 + (j : Int)))
        obtain ⟨p1, p2, _, p4⟩ := HP.out
        obtain ⟨x0, hx0⟩ := p4 j (Nat.le_refl _) hlt
        clear p4 HP HG
        go_wp2_with fail
        go_roundw
        case rel => exact ⟨j + 1, by omega, by go_num, by go_num, HP3, HG3⟩
        case measure => simp [intOf]; omega
      · obtain rfl : j = n := by omega
        have hR : IW wr (some ⟨g, 0, none⟩) (marksI j) lo hi := .inr ⟨g, rfl, g1, g2, HP.out.1, HP.out.2.1, fun i x hx => by
          have hi := (List.getElem?_eq_some_iff.1 hx).1
          rw [marksI_len] at hi
          rw [marksI_at j i hi] at hx
          cases hx
          exact HP.out.2.2.1 i hi⟩
        have HR : Hid _ := hR
        clear hR
        go_wp2_with fail
        go_ret
        exact ⟨rfl, HR.out, some g, HG.out, fun x e => by cases e; exact ⟨g1, g2⟩⟩

end Go.Proofs.Yteniompfkfhemaa.Iia
