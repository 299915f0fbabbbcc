/-
  Walks: draws: (*l1Cur).bytes.
-/
import Derived.Test.YteniompfkfhemaaDrc
import Derived.Test.YteniompfkfhemaaOwn
import Derived.Deep.OwnRows
namespace Go.Proofs.Yteniompfkfhemaa.Cur
open Go.RowKit
open Go.Proofs.Yteniompfkfhemaa.Own

theorem But.then {cb : Nat} {w wr w' : World} (h : But cb w wr) (hb : Below w.heap.size wr w') : But cb w w' :=
  ⟨hb.os.trans h.1, hb.tape.trans h.2.1, hb.output.trans h.2.2.1, Nat.le_trans h.2.2.2.1 hb.size, fun k hk hc => (hb.block k hk).trans (h.2.2.2.2 k hk hc)⟩
theorem Cursor.belowB {w w' : World} {B cb n N : Nat} {v : Value} (h : Cursor w cb v n N) (hB : cb < B) (hb : Below B w w') : Cursor w' cb v n N := by
  obtain ⟨h1, h2, h3, h4, ⟨a, ha, h5⟩, ⟨s, h6⟩, h7⟩ := h
  have e : ∀ i, w'.cell? ⟨cb, i, none⟩ = w.cell? ⟨cb, i, none⟩ := fun i => hb.cell (p := ⟨cb, i, none⟩) hB
  refine ⟨?_, h2, Nat.lt_of_lt_of_le h3 hb.size, (e 0).trans h4, ⟨a, ha, (e 1).trans h5⟩, ⟨s, (e 2).trans h6⟩, fun i => (hb.frozen (p := ⟨cb, i, none⟩) hB).trans (h7 i)⟩
  rcases h1 with h | ⟨a, cap, k1, k2, k3, k6⟩
  · exact .inl h
  · refine .inr ⟨a, cap, k1, k2, k3, fun i hi => ?_⟩
    obtain ⟨k4, c, hc⟩ := k6 i hi
    exact ⟨k4, c, (hb.cell (p := a.add i) (by rw [add_block]; omega)).trans hc⟩
theorem bytes_but {w w' : World} {B cb : Nat} {v : Value} {l : List UInt8} (h : bytesIn w B v l) (hb : But cb w w') (hc : cb < B) : bytesIn w' B v l := by
  refine ⟨h.1, ?_⟩
  rcases h.2 with hn | ⟨g, cap, cur, rfl, hbg, hg, rest⟩
  · exact .inl hn
  · exact .inr ⟨g, cap, cur, rfl, hbg, (hb.2.2.2.2 g (Array.getElem?_eq_some_iff.1 hg).1 (by omega)).trans hg, rest⟩

end Go.Proofs.Yteniompfkfhemaa.Cur
