/-
  Feeding many texts (pure, and the blocks that hold it): what is fed is told by all texts together.
-/
import Derived.Test.YtimfcbjgoilnpaaDoorMg2
import Derived.Test.YtimfcbjgoilnpaaDoorFkp
namespace Go.Proofs.YtimfcbjgoilnpaaDoor.Unk
open Go.RowKit
open Go.Proofs.YtimfcbjgoilnpaaDoor.Chp (chunks_ext chunks_fuel)
open Go.Proofs.YtimfcbjgoilnpaaDoor.Rkb (rcL len_eq)
open Go.Proofs.YtimfcbjgoilnpaaDoor.Cqs (rcS rcQ rcC)
open Go.Proofs.YtimfcbjgoilnpaaDoor.Fkp (allT allT_take allT_size)

theorem rc_ext (t x : ByteArray) (h : rcC t ≠ 1) : rcL (t ++ x) = rcL t := by
  have hz : (t ++ x).size = t.size + x.size := ByteArray.size_append
  have hl : (t ++ x).data.toList = t.data.toList ++ x.data.toList := by simp
  have e : Chp.chunksL ((t ++ x).size + 1) t.data.toList [] 0 0 = rcL t := chunks_fuel _ _ _ _ _ _ (by rw [len_eq, hz]; omega) (by rw [len_eq]; omega)
  have h1 : (Chp.chunksL ((t ++ x).size + 1) t.data.toList [] 0 0).2.2 ≠ 1 := by
    rw [e]; exact h
  show Chp.chunksL ((t ++ x).size + 1) (t ++ x).data.toList [] 0 0 = rcL t
  rw [hl, chunks_ext _ _ _ _ _ _ h1]
  exact e

theorem fed_done {t : ByteArray} (x : ByteArray) (h : rcC t = 0) : fB (t ++ x) = fB t ∧ fR (t ++ x) = fR t ++ x ∧ fD (t ++ x) = true ∧ fW (t ++ x) = false ∧ fD t = true ∧ fW t = false := by
  have e := rc_ext t x (by omega)
  have hc : rcC (t ++ x) = 0 := by unfold rcC at h ⊢; rw [e]; exact h
  have hs : rcS (t ++ x) = rcS t := by unfold rcS; rw [e]
  have hq : rcQ (t ++ x) = rcQ t := by unfold rcQ; rw [e]
  have hqs : rcQ t ≤ t.size := by
    rcases code_3 t with ⟨_, _, h3⟩ | ⟨h1, _⟩ | h2
    · exact h3
    · omega
    · omega
  obtain ⟨a1, a2, a3, a4⟩ := feed_0 hc
  obtain ⟨b1, b2, b3, b4⟩ := feed_0 h
  refine ⟨by rw [a1, b1, hs], ?_, a3, a4, b3, b4⟩
  rw [a2, b2, hq]
  apply ByteArray.ext
  apply Array.toList_inj.1
  rw [Rkb.drop_eq]
  have : ((t.extract (rcQ t) t.size) ++ x).data.toList = (t.extract (rcQ t) t.size).data.toList ++ x.data.toList := by simp
  rw [this, Rkb.drop_eq]
  have hl : (t ++ x).data.toList = t.data.toList ++ x.data.toList := by simp
  rw [hl, List.drop_append_of_le_length (by rw [len_eq]; exact hqs)]
theorem fed_wrong {t : ByteArray} (x : ByteArray) (h : rcC t = 2) : fB (t ++ x) = fB t ∧ fR (t ++ x) = fR t ∧ fD (t ++ x) = false ∧ fW (t ++ x) = true ∧ fD t = false ∧ fW t = true := by
  have e := rc_ext t x (by omega)
  have hc : rcC (t ++ x) = 2 := by unfold rcC at h ⊢; rw [e]; exact h
  obtain ⟨a1, a2, a3, a4⟩ := feed_2 hc
  obtain ⟨b1, b2, b3, b4⟩ := feed_2 h
  exact ⟨by rw [a1, b1], by rw [a2, b2], a3, a4, b3, b4⟩
theorem fed_none : fB ⟨#[]⟩ = ⟨#[]⟩ ∧ fR ⟨#[]⟩ = ⟨#[]⟩ ∧ fD ⟨#[]⟩ = false ∧ fW ⟨#[]⟩ = false := by
  have h : rcC ⟨#[]⟩ = 1 := by decide
  exact feed_1 h

theorem Bx.other {w : World} {n m : Nat} {B R : ByteArray} {d g : Bool} (h : Bx w n B R d g) (hne : n ≠ m) (o : Nat) (v : Value) : Bx (w.setCell ⟨m, o, none⟩ v) n B R d g := by
  obtain ⟨h0, h1, h2, h3, h4, h5⟩ := h
  have e : ∀ i, (w.setCell ⟨m, o, none⟩ v).cell? ⟨n, i, none⟩ = w.cell? ⟨n, i, none⟩ := fun i => World.cell?_setCell_other _ _ _ _ (by intro x; injection x with x _; exact hne x.symm)
  exact ⟨by simpa [World.setCell] using h0, (e 0).trans h1, (e 1).trans h2, (e 2).trans h3, (e 3).trans h4, fun i => by simp [go_sem, h5]⟩
theorem Bx.put0 {w : World} {n : Nat} {B R : ByteArray} {d g : Bool} (h : Bx w n B R d g) (B' : ByteArray) : Bx (w.setCell ⟨n, 0, none⟩ (.string B')) n B' R d g := by
  obtain ⟨h0, h1, h2, h3, h4, h5⟩ := h
  exact ⟨by simpa [World.setCell] using h0, by simp [go_sem, h1], by simp [go_sem, h2], by simp [go_sem, h3], by simp [go_sem, h4], fun i => by simp [go_sem, h5]⟩
theorem Bx.put1 {w : World} {n : Nat} {B R : ByteArray} {d g : Bool} (h : Bx w n B R d g) (R' : ByteArray) : Bx (w.setCell ⟨n, 1, none⟩ (.string R')) n B R' d g := by
  obtain ⟨h0, h1, h2, h3, h4, h5⟩ := h
  exact ⟨by simpa [World.setCell] using h0, by simp [go_sem, h1], by simp [go_sem, h2], by simp [go_sem, h3], by simp [go_sem, h4], fun i => by simp [go_sem, h5]⟩
theorem Bx.put2 {w : World} {n : Nat} {B R : ByteArray} {d g : Bool} (h : Bx w n B R d g) (d' : Bool) : Bx (w.setCell ⟨n, 2, none⟩ (.bool d')) n B R d' g := by
  obtain ⟨h0, h1, h2, h3, h4, h5⟩ := h
  exact ⟨by simpa [World.setCell] using h0, by simp [go_sem, h1], by simp [go_sem, h2], by simp [go_sem, h3], by simp [go_sem, h4], fun i => by simp [go_sem, h5]⟩
theorem Bx.put3 {w : World} {n : Nat} {B R : ByteArray} {d g : Bool} (h : Bx w n B R d g) (g' : Bool) : Bx (w.setCell ⟨n, 3, none⟩ (.bool g')) n B R d g' := by
  obtain ⟨h0, h1, h2, h3, h4, h5⟩ := h
  exact ⟨by simpa [World.setCell] using h0, by simp [go_sem, h1], by simp [go_sem, h2], by simp [go_sem, h3], by simp [go_sem, h4], fun i => by simp [go_sem, h5]⟩

/-- The state between two texts: the answer's block, the unchunk's block, what has been fed so far. -/
def Fst (w : World) (n0 nu : Nat) (wr : World) (B R : ByteArray) (d g : Bool) : Prop := Below w.heap.size w wr ∧ w.heap.size ≤ n0 ∧ n0 < nu ∧ Bx wr n0 ⟨#[]⟩ ⟨#[]⟩ false false ∧ Bx wr nu B R d g
theorem Fst.below {w wr w' : World} {n0 nu : Nat} {B R : ByteArray} {d g : Bool} (h : Fst w n0 nu wr B R d g) (hb : Below wr.heap.size wr w') : Fst w n0 nu w' B R d g :=
  ⟨h.1.trans (hb.mono h.1.size), h.2.1, h.2.2.1, h.2.2.2.1.below hb, h.2.2.2.2.below hb⟩
theorem Fst.rest {w wr : World} {n0 nu : Nat} {B R : ByteArray} {d g : Bool} (h : Fst w n0 nu wr B R d g) (R' : ByteArray) : Fst w n0 nu (wr.setCell ⟨nu, 1, none⟩ (.string R')) B R' d g := by
  obtain ⟨h1, h2, h3, h4, h5⟩ := h
  exact ⟨h1.setCell (by show w.heap.size ≤ nu; omega) _, h2, h3, h4.other (by omega) _ _, h5.put1 _⟩
theorem Fst.all {w wr : World} {n0 nu : Nat} {B R : ByteArray} {d g : Bool} (h : Fst w n0 nu wr B R d g) (B' R' : ByteArray) (d' g' : Bool) : Fst w n0 nu ((((wr.setCell ⟨nu, 0, none⟩ (.string B')).setCell ⟨nu, 1, none⟩ (.string R')).setCell ⟨nu, 2, none⟩ (.bool d')).setCell ⟨nu, 3, none⟩ (.bool g')) B' R' d' g' := by
  obtain ⟨h1, h2, h3, h4, h5⟩ := h
  have hn : w.heap.size ≤ nu := by omega
  exact ⟨(((h1.setCell (p := ⟨nu, 0, none⟩) hn _).setCell (p := ⟨nu, 1, none⟩) hn _).setCell (p := ⟨nu, 2, none⟩) hn _).setCell (p := ⟨nu, 3, none⟩) hn _, h2, h3,
    (((h4.other (by omega) _ _).other (by omega) _ _).other (by omega) _ _).other (by omega) _ _, (((h5.put0 _).put1 _).put2 _).put3 _⟩

end Go.Proofs.YtimfcbjgoilnpaaDoor.Unk
