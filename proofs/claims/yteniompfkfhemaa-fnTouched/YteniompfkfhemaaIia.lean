/-
  Lists of whole numbers: those that the call itself makes, those that are read; the laws' own helpers: eqIntS, toIntS, markIntS, heldIntS.
-/
import Derived.Test.YteniompfkfhemaaOwn
import Derived.WalkKit
import Derived.WalkLawsBesides
import Derived.WalkSpells
import Derived.Below
import Derived.BigQuiet
import Derived.Deep.QuietTactic
import Derived.Deep.RegionLaw
import Derived.Deep.OwnRows
import Derived.Laws.AppendOwnNone
import Derived.Laws.OwnMore
namespace Go.Proofs.Yteniompfkfhemaa.Iia
open Go.RowKit

theorem infoI : (Try.prog.info? 3).map (fun i => (i.zero, i.size, i.bytes)) = some (some (.int .i64 0), 1, 8) := by kernel_rfl
theorem add_block (a : Addr) (i : Nat) : (a.add i).block = a.block := by unfold Addr.add; split <;> rfl
theorem ret_b {a b : Bool} (h : a = b) : Ending.returned (.bool a) = .returned (.bool b) := by rw [h]
theorem ret_int {k : IntKind} {a b : Int} (h : a = b) : Ending.returned (.int k a) = .returned (.int k b) := by rw [h]
theorem below_drewN (w : World) (n : Nat) : Below w.heap.size w (w.drewN n) := ⟨rfl, rfl, rfl, Nat.le_refl _, fun _ _ => rfl⟩

def flI (l : List Int) : List Value := l.map fun x => .int .i64 x
theorem flI_len (l : List Int) : (flI l).length = l.length := by simp [flI]
/-- The value v holds the numbers l, in memory of the call's own from block B on. -/
def intsIn (w : World) (B : Nat) (v : Value) (l : List Int) : Prop := w.ownsRow B 3 1 v l.length (flI l)
theorem intsIn.below {w w' : World} {B : Nat} {v : Value} {l : List Int} (h : intsIn w B v l) (hb : Below w.heap.size w w') : intsIn w' B v l := by
  refine ⟨h.1, ?_⟩
  rcases h.2 with hn | ⟨g, cap, cur, rfl, hbg, hg, rest⟩
  · exact .inl hn
  · exact .inr ⟨g, cap, cur, rfl, hbg, (hb.block g (Array.getElem?_eq_some_iff.1 hg).1).trans hg, rest⟩
theorem intsIn.nil (w : World) (B : Nat) : intsIn w B (.slice none 0 0) [] := ⟨rfl, .inl ⟨rfl, rfl⟩⟩
theorem intsIn.made (w : World) (B : Nat) (h : B ≤ w.heap.size) : intsIn (w.alloc (.cells #[] 3)) B (.slice (some ⟨w.heap.size, 0, none⟩) 0 0) [] :=
  ⟨rfl, .inr ⟨w.heap.size, 0, #[], rfl, h, by show (w.heap.push _)[w.heap.size]? = _; simp, Nat.le_refl _, by decide, rfl, rfl⟩⟩
theorem intsIn.alloc {w : World} {B : Nat} {v : Value} {l : List Int} (h : intsIn w B v l) (o : Obj) : intsIn (w.alloc o) B v l := World.ownsRow.alloc h o
theorem intsIn.base {w : World} {B B' : Nat} {v : Value} {l : List Int} (h : intsIn w B v l) (hB : B' ≤ B) : intsIn w B' v l := by
  refine ⟨h.1, ?_⟩
  rcases h.2 with hn | ⟨g, cap, cur, rfl, hbg, rest⟩
  · exact .inl hn
  · exact .inr ⟨g, cap, cur, rfl, Nat.le_trans hB hbg, rest⟩

/-- 'append(v, x)' of one number that lies in a block of its own, for the walk. -/
theorem wpList_append_int (wr : World) {ops : Array Oper} {rest : List Oper} {o : Oper} {a : Act} {Q : Exit → Act → World → Prop} (hgd : o.guard = none) (s x : Operand)
    (ho : o.op = .call { callee := .builtin .append, args := #[s, x], argTypes := #[23, 23] })
    (B : Nat) (v : Value) (l : List Int) (hs : a.eval s = v) (hown : intsIn wr B v l)
    (X : Int) (cap : Nat) (hx : a.eval x = .slice (some ⟨wr.heap.size, 0, none⟩) 1 cap)
    (hb : l.length + 1 ≤ 4000000) (hbase : B ≤ wr.heap.size) (B0 : Nat) (hB0 : B0 ≤ B) (W : World) (hbel : Below B0 W wr)
    (h : ∀ v' w', intsIn w' B v' (l ++ [X]) → Below B0 W w' → wpList Try.prog ops Q rest (a.put o.dst v') w') : wpList Try.prog ops Q (o :: rest) a (wr.alloc (.cells #[.int .i64 X] 3)) := by
  obtain ⟨i0, hi, hz0, hz1, hz2⟩ := info_parts infoI
  refine wpList_append_own _ hgd s x 23 ho B 3 i0 (.int .i64 0) 1 8 Try.underlying23 hi hz0 hz1 hz2 rfl (by decide) v l.length _ hs (World.ownsRow.alloc hown _) ⟨wr.heap.size, 0, none⟩ 1 cap [.int .i64 X] hx rfl ?_ ?_
    (by unfold maxLen; omega) (by omega) (by simp; omega) ?_
  · intro j u hj
    match j, hj with
    | 0, hj => simp at hj; subst hj; simp [Addr.add]
  · intro u hu; simp at hu; subst hu; rfl
  · intro v' w' hown' hg _
    refine h v' w' ?_ ((hbel.alloc (by omega) _).grown hg (by simp; omega) (fun k hk => Nat.le_trans hB0 (World.ownsRow.lt hown k hk).1))
    unfold intsIn
    rw [List.length_append, show flI (l ++ [X]) = flI l ++ [.int .i64 X] from by simp [flI]]
    exact hown'

/-- A list of numbers that is read: empty, or in a block from lo on and below hi. -/
def IL (w : World) (a : Option Addr) (l : List Int) (lo hi : Nat) : Prop := l = [] ∨ ∃ ad : Addr, a = some ad ∧ lo ≤ ad.block ∧ ad.block < hi ∧ ad.block < w.heap.size ∧ ∀ i x, l[i]? = some x → w.cell? (ad.add i) = some (.int .i64 x)
/-- One that may be written, too. -/
def IW (w : World) (a : Option Addr) (l : List Int) (lo hi : Nat) : Prop := l = [] ∨ ∃ g, a = some ⟨g, 0, none⟩ ∧ lo ≤ g ∧ g < hi ∧ g < w.heap.size ∧ (∀ i, w.frozen? ⟨g, i, none⟩ = false) ∧ ∀ i x, l[i]? = some x → w.cell? ⟨g, i, none⟩ = some (.int .i64 x)
theorem add_lit0 (g i : Nat) : (⟨g, 0, none⟩ : Addr).add i = ⟨g, i, none⟩ := by rw [Addr.add_lit, Nat.zero_add]
theorem IW.il {w : World} {a : Option Addr} {l : List Int} {lo hi : Nat} (h : IW w a l lo hi) : IL w a l lo hi := by
  rcases h with h | ⟨g, rfl, h1, h2, h3, _, h5⟩
  · exact .inl h
  · exact .inr ⟨_, rfl, h1, h2, h3, fun i x hx => by rw [add_lit0]; exact h5 i x hx⟩
theorem IL.below {w w' : World} {a : Option Addr} {l : List Int} {lo hi : Nat} (h : IL w a l lo hi) (hb : Below w.heap.size w w') : IL w' a l lo hi := by
  rcases h with h | ⟨ad, h1, h2, h3, h4, h5⟩
  · exact .inl h
  · exact .inr ⟨ad, h1, h2, h3, Nat.lt_of_lt_of_le h4 hb.size, fun i x hx => (hb.cell (p := ad.add i) (by rw [add_block]; exact h4)).trans (h5 i x hx)⟩
theorem IW.below {w w' : World} {a : Option Addr} {l : List Int} {lo hi : Nat} (h : IW w a l lo hi) (hb : Below w.heap.size w w') : IW w' a l lo hi := by
  rcases h with h | ⟨g, h1, h2, h3, h4, h5, h6⟩
  · exact .inl h
  · exact .inr ⟨g, h1, h2, h3, Nat.lt_of_lt_of_le h4 hb.size, fun i => (hb.frozen (p := ⟨g, i, none⟩) h4).trans (h5 i), fun i x hx => (hb.cell (p := ⟨g, i, none⟩) h4).trans (h6 i x hx)⟩
theorem flI_at (l : List Int) (i : Nat) (x : Int) (h : l[i]? = some x) : (flI l)[i]? = some (.int .i64 x) := by simp [flI, h]
theorem iw_of {w : World} {B : Nat} {v : Value} {l : List Int} (h : intsIn w B v l) : ∃ a cap, v = .slice a l.length cap ∧ IW w a l B w.heap.size := by
  have hh := h
  rcases h.2 with ⟨rfl, h0⟩ | ⟨g, cap, cur, rfl, hbg, hg, hnc, hcm, hcs, htake⟩
  · have hl : l = [] := by simpa using h0
    subst hl
    exact ⟨none, 0, rfl, .inl rfl⟩
  · refine ⟨_, _, rfl, .inr ⟨g, rfl, hbg, (Array.getElem?_eq_some_iff.1 hg).1, (Array.getElem?_eq_some_iff.1 hg).1, fun i => by simp [World.frozen?, hg], fun i c hc => ?_⟩⟩
    have e1 := World.ownsRow.cells hh (g := g) rfl i _ (flI_at l i c hc)
    rw [add_lit0] at e1
    exact e1
theorem IL.wide {w : World} {a : Option Addr} {l : List Int} {lo hi lo' hi' : Nat} (h : IL w a l lo hi) (h1 : lo' ≤ lo) (h2 : hi ≤ hi') : IL w a l lo' hi' := by
  rcases h with h | ⟨g, e, g1, g2, hr⟩
  · exact .inl h
  · exact .inr ⟨g, e, by omega, by omega, hr⟩
/-- A piece of a list that is read. -/
theorem IL.drop {w : World} {ad : Addr} {l : List Int} {lo hi : Nat} (h : IL w (some ad) l lo hi) (k : Nat) : IL w (some (ad.add k)) (l.drop k) lo hi := by
  rcases h with h | ⟨ad', h1, h2, h3, h4, h5⟩
  · subst h; exact .inl (by simp)
  · cases h1
    refine .inr ⟨_, rfl, by rw [add_block]; exact h2, by rw [add_block]; exact h3, by rw [add_block]; exact h4, fun i x hx => ?_⟩
    rw [Addr.add_add]
    exact h5 _ x (by rw [List.getElem?_drop] at hx; exact hx)
theorem IL.take {w : World} {a : Option Addr} {l : List Int} {lo hi : Nat} (h : IL w a l lo hi) (k : Nat) : IL w a (l.take k) lo hi := by
  rcases h with h | ⟨ad', h1, h2, h3, h4, h5⟩
  · subst h; exact .inl (by simp)
  · refine .inr ⟨_, h1, h2, h3, h4, fun i x hx => h5 i x ?_⟩
    rw [List.getElem?_take] at hx
    split at hx
    · exact hx
    · cases hx
theorem IL.cell {w : World} {a : Option Addr} {l : List Int} {lo hi : Nat} (h : IL w a l lo hi) {k : Nat} (hk : k < l.length) : ∃ ad, a = some ad ∧ w.cell? (ad.add k) = some (.int .i64 l[k]) := by
  rcases h with h | ⟨ad, h1, _, _, _, h5⟩
  · subst h; simp at hk
  · exact ⟨ad, h1, h5 k l[k] (List.getElem?_eq_getElem hk)⟩

set_option maxHeartbeats 800000 in
theorem eqI_any (a b : Option Addr) (ca cb : Nat) (l : List Int) (w : World) (lo hi lo' hi' : Nat) (hl : l.length ≤ 2000000) (ha : IL w a l lo hi) (hb : IL w b l lo' hi') :
    Calls Try.prog 33 #[.slice a l.length ca, .slice b l.length cb] w fun e w' => e = .returned (.bool true) ∧ Below w.heap.size w w' := by
  have HA : Hid (IL w a l lo hi) := ha
  have HB : Hid (IL w b l lo' hi') := hb
  clear ha hb
  go_enter Try.func33, Try.ntmps33
  go_wp2_with fail
  go_loopw [5] (fun i wr => ∃ k : Nat, k ≤ l.length ∧ i = .int .i64 k ∧ Below w.heap.size w wr) (fun i _ => l.length - (intOf i).toNat)
  case atStart => exact ⟨0, by omega, rfl, Below.refl _ _⟩
  case round =>
    obtain ⟨k, hk, rfl, hbel⟩ := hrel
    by_cases hlt : k < l.length
    · obtain ⟨ad, rfl, ca'⟩ := (HA.out.below hbel).cell hlt
      obtain ⟨bd, rfl, cb'⟩ := (HB.out.below hbel).cell hlt
      go_wp2_with fail
      go_quiet (fail)
      go_wp2_with fail
      go_roundw
      case rel => exact ⟨k + 1, by omega, by go_num, hbel.trans ((below_drewN _ _).mono hbel.size)⟩
      case measure => simp [intOf]; omega
    · go_wp2_with fail
      go_ret
      exact ⟨rfl, hbel⟩

/-- A row of numbers of the call's own, j of n laid. -/
def PartI (w : World) (g j : Nat) (l : List Int) : Prop := g < w.heap.size ∧ (∀ i, w.frozen? ⟨g, i, none⟩ = false) ∧ (∀ i, (hi : i < l.length) → i < j → w.cell? ⟨g, i, none⟩ = some (.int .i64 l[i])) ∧ ∀ i, j ≤ i → i < l.length → ∃ x, w.cell? ⟨g, i, none⟩ = some (.int .i64 x)
theorem PartI.made (w : World) (l : List Int) : PartI (w.alloc (.cells (madeCells #[.int .i64 0] (l.length * 1)) 3)) w.heap.size 0 l := by
  refine ⟨by simp, fun i => World.frozen?_alloc_at _ 3 _ i rfl, fun i _ h => absurd h (by omega), fun i _ hi => ⟨0, ?_⟩⟩
  rw [World.cell?_alloc_mark]
  have h1 : i % 1 = 0 := by omega
  simp [madeCells, hi, h1]
theorem PartI.step {w : World} {g j : Nat} {l : List Int} (h : PartI w g j l) (hj : j < l.length) : PartI (w.setCell ⟨g, j, none⟩ (.int .i64 l[j])) g (j + 1) l := by
  obtain ⟨h1, h2, h3, h4⟩ := h
  obtain ⟨x0, hx0⟩ := h4 j (Nat.le_refl _) hj
  have T : ∀ q, (w.setCell ⟨g, j, none⟩ (.int .i64 l[j])).cell? ⟨g, q, none⟩ = if q = j then some (.int .i64 l[j]) else w.cell? ⟨g, q, none⟩ := by
    intro q
    by_cases h : q = j
    · subst h; rw [if_pos rfl]; simp [go_sem, hx0]
    · rw [if_neg h]; simp [go_sem]
  refine ⟨by simpa [World.setCell] using h1, fun i => by simp [go_sem, h2], fun i hi hij => ?_, fun i hi hn => ?_⟩
  · rw [T]
    by_cases he : i = j
    · subst he; rw [if_pos rfl]
    · rw [if_neg he]; exact h3 i hi (by omega)
  · obtain ⟨x, hx⟩ := h4 i (by omega) hn
    rw [T, if_neg (by omega)]
    exact ⟨x, hx⟩

set_option maxRecDepth 20000 in
set_option maxHeartbeats 800000 in
theorem toI_any (a : Option Addr) (ca : Nat) (l : List Int) (w : World) (lo hi : Nat) (hl : l.length ≤ 1048576) (ha : IL w a l lo hi) :
    Calls Try.prog 32 #[.slice a l.length ca] w fun e w' => e = .returned (.slice (some ⟨w.heap.size, 0, none⟩) l.length l.length) ∧ IW w' (some ⟨w.heap.size, 0, none⟩) l w.heap.size w'.heap.size ∧ Below w.heap.size w w' := by
  obtain ⟨i0, hi0, hz0, hz1, hz2⟩ := info_parts infoI
  have hmk := run_make (P := Try.prog) w 23 3 i0 _ Try.underlying23 hi0 hz0 .i64 .i64 (l.length : Int) (l.length : Int) (by omega) (by omega) (by rw [hz2]; omega) (by omega)
  rw [hz1, Int.toNat_natCast] at hmk
  have hmk2 : (Instr.makeSlice 23 (.int .i64 (l.length : Int)) (.int .i64 (l.length : Int))).run Try.prog w = .ok (.slice (some ⟨w.heap.size, 0, none⟩) l.length l.length) (w.alloc (.cells (madeCells #[.int .i64 0] (l.length * 1)) 3)) := hmk
  clear hmk
  have HP0 : Hid (PartI (w.alloc (.cells (madeCells #[.int .i64 0] (l.length * 1)) 3)) w.heap.size 0 l) := PartI.made w l
  have hB0 : Below w.heap.size w (w.alloc (.cells (madeCells #[.int .i64 0] (l.length * 1)) 3)) := (Below.refl _ _).alloc (Nat.le_refl _) _
  have hS0 : w.heap.size < (w.alloc (.cells (madeCells #[.int .i64 0] (l.length * 1)) 3)).heap.size := by simp
  generalize w.alloc (.cells (madeCells #[.int .i64 0] (l.length * 1)) 3) = wm at hmk2 HP0 hB0 hS0
  have HA : Hid (IL w a l lo hi) := ha
  clear ha
  go_enter Try.func32, Try.ntmps32
  go_wp2_with fail
  go_loopw [4] (fun i wr => ∃ k : Nat, i = .int .i64 k ∧ k ≤ l.length ∧ Hid (PartI wr w.heap.size k l) ∧ Below w.heap.size w wr) (fun i _ => l.length - (intOf i).toNat)
  case atStart => exact ⟨0, rfl, Nat.zero_le _, HP0, hB0⟩
  case round =>
    obtain ⟨k, rfl, hk, HP, hbel⟩ := hrel
    by_cases hlt : k < l.length
    · obtain ⟨ad, rfl, hc⟩ := (HA.out.below hbel).cell hlt
      have HP' : Hid (PartI (wr.setCell ⟨w.heap.size, k, none⟩ (.int .i64 l[k])) w.heap.size (k + 1) l) := HP.out.step hlt
      have hbel' := hbel.setCell (p := ⟨w.heap.size, k, none⟩) (Nat.le_refl _) (.int .i64 l[k])
      obtain ⟨p1, p2, _, p4⟩ := HP.out
      obtain ⟨x0, hx0⟩ := p4 k (Nat.le_refl _) hlt
      clear p4 HP hbel hmk2
      go_wp2_with fail
      go_roundw
      case rel => exact ⟨k + 1, by go_num, by omega, HP', hbel'⟩
      case measure => simp [intOf]; omega
    · obtain rfl : k = l.length := by omega
      have hR : IW wr (some ⟨w.heap.size, 0, none⟩) l w.heap.size wr.heap.size := .inr ⟨w.heap.size, rfl, Nat.le_refl _, HP.out.1, HP.out.1, HP.out.2.1, fun i x hx => by
        obtain ⟨hi, rfl⟩ := List.getElem?_eq_some_iff.1 hx
        exact HP.out.2.2.1 i hi hi⟩
      have HR : Hid _ := hR
      clear hmk2 hR
      go_wp2_with fail
      go_ret
      exact ⟨rfl, HR.out, hbel⟩

end Go.Proofs.Yteniompfkfhemaa.Iia
