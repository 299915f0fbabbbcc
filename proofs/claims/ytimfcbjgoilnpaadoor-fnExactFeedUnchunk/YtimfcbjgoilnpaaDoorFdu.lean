/-
  Walks: impl.FeedUnchunk.
-/
import Derived.Test.YtimfcbjgoilnpaaDoorGdu
import Derived.Test.YtimfcbjgoilnpaaDoorJna
namespace Go.Proofs.YtimfcbjgoilnpaaDoor.Unk
open Go.RowKit
open Go.Proofs.YtimfcbjgoilnpaaDoor.Hex
open Go.Proofs.YtimfcbjgoilnpaaDoor.Cqs (rcS rcQ rcC implRead_any l5Chunks_any rc_three)

/-- What is fed: the body, the rest, whether it is done, whether it is wrong. -/
def fB (t : ByteArray) : ByteArray := if rcC t = 0 then rcS t else ⟨#[]⟩
def fR (t : ByteArray) : ByteArray := if rcC t = 0 then t.extract (rcQ t) t.size else if rcC t = 2 then ⟨#[]⟩ else t
def fD (t : ByteArray) : Bool := decide (rcC t = 0)
def fW (t : ByteArray) : Bool := decide (rcC t = 2)
/-- Whether an unchunk may be fed a text. -/
def mayF (B R : ByteArray) (d g : Bool) (s : ByteArray) : Bool := gU B R d g && !d && !g && decide (s.size ≤ 2000)

/-- A block that holds an unchunk. -/
def Bx (w : World) (n : Nat) (B R : ByteArray) (d g : Bool) : Prop :=
  n < w.heap.size ∧ w.cell? ⟨n, 0, none⟩ = some (.string B) ∧ w.cell? ⟨n, 1, none⟩ = some (.string R) ∧ w.cell? ⟨n, 2, none⟩ = some (.bool d) ∧ w.cell? ⟨n, 3, none⟩ = some (.bool g) ∧ ∀ i, w.frozen? ⟨n, i, none⟩ = false
theorem Bx.made (w : World) (B R : ByteArray) (d g : Bool) (o : Nat) : Bx (w.alloc (.cells #[.string B, .string R, .bool d, .bool g] o)) w.heap.size B R d g :=
  ⟨by simp, by simp [go_sem], by simp [go_sem], by simp [go_sem], by simp [go_sem], fun i => by simp [go_sem]⟩
theorem Bx.below {w w' : World} {n : Nat} {B R : ByteArray} {d g : Bool} (h : Bx w n B R d g) (hb : Below w.heap.size w w') : Bx w' n B R d g := by
  obtain ⟨h0, h1, h2, h3, h4, h5⟩ := h
  have e : ∀ i, w'.cell? ⟨n, i, none⟩ = w.cell? ⟨n, i, none⟩ := fun i => hb.cell (p := ⟨n, i, none⟩) h0
  exact ⟨Nat.lt_of_lt_of_le h0 hb.size, (e 0).trans h1, (e 1).trans h2, (e 2).trans h3, (e 3).trans h4, fun i => (hb.frozen (p := ⟨n, i, none⟩) h0).trans (h5 i)⟩
theorem Bx.alloc {w : World} {n : Nat} {B R : ByteArray} {d g : Bool} (h : Bx w n B R d g) (o : Obj) : Bx (w.alloc o) n B R d g := h.below ((Below.refl _ _).alloc (Nat.le_refl _) o)

/-- The world with the argument's box and the answer's. -/
def two (w : World) (B R : ByteArray) (d g : Bool) : World := (w.alloc (.cells #[.string B, .string R, .bool d, .bool g] 36)).alloc (.cells #[.string ⟨#[]⟩, .string ⟨#[]⟩, .bool false, .bool false] 36)
theorem two_facts (w : World) (B R : ByteArray) (d g : Bool) : Below w.heap.size w (two w B R d g) ∧ Bx (two w B R d g) w.heap.size B R d g ∧ Bx (two w B R d g) (w.heap.size + 1) ⟨#[]⟩ ⟨#[]⟩ false false := by
  refine ⟨((Below.refl _ _).alloc (Nat.le_refl _) _).alloc (by simp) _, (Bx.made w B R d g _).alloc _, ?_⟩
  have := Bx.made (w.alloc (.cells #[.string B, .string R, .bool d, .bool g] 36)) ⟨#[]⟩ ⟨#[]⟩ false false 36
  rwa [World.size_alloc] at this
theorem may_no {B R : ByteArray} {d g : Bool} {s : ByteArray} (h : mayF B R d g s = false) : gU B R d g = false ∨ (gU B R d g = true ∧ d = true) ∨ (gU B R d g = true ∧ d = false ∧ g = true) ∨ (gU B R d g = true ∧ d = false ∧ g = false ∧ 2000 < s.size) := by
  unfold mayF at h
  cases h1 : gU B R d g
  · exact .inl rfl
  · cases d
    · cases g
      · rw [h1] at h
        refine .inr (.inr (.inr ⟨rfl, rfl, rfl, ?_⟩))
        have := of_decide_eq_false (show decide (s.size ≤ 2000) = false from h)
        omega
      · exact .inr (.inr (.inl ⟨rfl, rfl, rfl⟩))
    · exact .inr (.inl ⟨rfl, rfl⟩)
theorem may_yes {B R : ByteArray} {d g : Bool} {s : ByteArray} (h : mayF B R d g s = true) : gU B R d g = true ∧ d = false ∧ g = false ∧ s.size ≤ 2000 := by
  unfold mayF at h
  simp only [Bool.and_eq_true, Bool.not_eq_true', decide_eq_true_eq] at h
  exact ⟨h.1.1.1, h.1.1.2, h.1.2, h.2⟩

set_option maxHeartbeats 1600000 in
theorem implFeed_no (B R : ByteArray) (d g : Bool) (s : ByteArray) (w : World) (hT : Tab w) (hR : R.size ≤ 1900000) (hB : B.size ≤ 1900000) (hs : s.size ≤ 1900000) (h : mayF B R d g s = false) :
    Calls Tryd.prog 24 #[.agg #[.string B, .string R, .bool d, .bool g], .string s] w fun e w' => e = .returned (.tuple #[.agg #[.string ⟨#[]⟩, .string ⟨#[]⟩, .bool false, .bool false], .bool false]) ∧ Below w.heap.size w w' := by
  obtain ⟨hB0, hX, hY⟩ := two_facts w B R d g
  have hg := hT.lt
  have HG0 := implGood_any B R d g _ (hT.below hB0 hg) hR hB
  have hcase := may_no h
  have hT2 : Hid (Below w.heap.size w (two w B R d g)) := hB0
  obtain ⟨W, hW⟩ : ∃ W, W = two w B R d g := ⟨_, rfl⟩
  rw [← hW] at HG0 hX hY hT2
  have HX : Hid _ := hX
  have HY : Hid _ := hY
  clear hX hY hT h hB0
  unfold two at hW
  rcases hcase with h | ⟨h, rfl⟩ | ⟨h, rfl, rfl⟩ | ⟨h, rfl, rfl, hl⟩
  all_goals
    rw [h] at HG0
    have HG : Hid _ := HG0
    clear HG0 h
    go_enter Tryd.func24, Tryd.ntmps24
    go_wp2_with fail
    try rw [← hW]
    refine Calls.mono HG.out ?_
    rintro e w2 ⟨rfl, hb2⟩
    obtain ⟨x0, x1, x2, x3, x4, x5⟩ := Bx.below HX.out hb2
    have HY2 : Hid (Bx w2 _ _ _ _ _) := Bx.below HY.out hb2
    obtain ⟨y0, y1, y2, y3, y4, y5⟩ := HY2.out
    have Hb : Hid (Below w.heap.size w w2) := hT2.out.trans (hb2.mono hT2.out.size)
    clear hW hb2 HG HX HY hT2
    go_wp2_with fail
    refine bodyPost_ret (v := .tuple #[.agg #[.string ⟨#[]⟩, .string ⟨#[]⟩, .bool false, .bool false], .bool false]) (by simp [results, Tryd.results24, go_sem, y1, y2, y3, y4]) rfl ⟨rfl, ?_⟩
    repeat (first | exact Hb.out | refine Below.setCell ?_ (by simp) _)

end Go.Proofs.YtimfcbjgoilnpaaDoor.Unk
