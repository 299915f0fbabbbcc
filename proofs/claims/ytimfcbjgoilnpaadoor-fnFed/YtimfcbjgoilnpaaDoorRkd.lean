/-
  Walks: (*chunkReader).takePieceEnd, takePiece.
-/
import Derived.Test.YtimfcbjgoilnpaaDoorRkc
import Derived.Test.YtimfcbjgoilnpaaDoorAps
import Derived.Deep.RegionLaw
namespace Go.Proofs.YtimfcbjgoilnpaaDoor.Rkb
open Go.RowKit
open Go.Proofs.YtimfcbjgoilnpaaDoor.Own
open Go.Proofs.YtimfcbjgoilnpaaDoor.Chp (expC)

theorem bdrewN {R : Nat} {W w : World} (h : Below R W w) (n : Nat) : Below R W (w.drewN n) := ⟨h.os, h.tape, h.output, h.size, h.block⟩

set_option maxHeartbeats 1600000 in
theorem takePieceEnd_any (R : Nat) (t : ByteArray) (n : Nat) (p : Int) (b : List UInt8) (w : World) (hR : Rdr w R t 3 n p b) (hs : t.size ≤ 4000000) :
    Calls Tryd.prog 42 #[.pointer (some ⟨R, 0, none⟩)] w fun e w' => e = .returned (.int .i64 (expC t.data.toList)) ∧ Below R w w' ∧ (expC t.data.toList = 0 → Rdr w' R (t.extract 2 t.size) (if n = 0 then 4 else 0) n p b) := by
  have HL0 := takeLineEnd_any R t 3 n p b w hR hs (by omega) (by omega)
  rcases expC_cases t.data.toList with h | h | h
  · rw [h] at HL0 ⊢
    have HL : Hid _ := HL0
    clear HL0 h
    by_cases h0 : n = 0
    · subst h0
      go_enter Tryd.func42, Tryd.ntmps42
      go_wp2_with (go_at_call 40; refine Calls.mono HL.out ?_; rintro e w1 ⟨rfl, hb1, hr1⟩; obtain ⟨c0, c1, c2, _⟩ := hr1 rfl; have HR1 : Hid (Rdr w1 R (t.extract 2 t.size) (3 + 1) (0 : Nat) p b) := hr1 rfl; clear hr1)
      go_ret
      first
        | exact ⟨rfl, hb1, HR1.out⟩
        | exact ⟨rfl, hb1, fun _ => HR1.out⟩
    · have hd : 0 < (n : Int) := by omega
      rw [if_neg h0]
      go_enter Tryd.func42, Tryd.ntmps42
      go_wp2_with (go_at_call 40; refine Calls.mono HL.out ?_; rintro e w1 ⟨rfl, hb1, hr1⟩; have HR1 : Hid (Rdr w1 R (t.extract 2 t.size) (3 + 1) n p b) := hr1 rfl; clear hr1; obtain ⟨c0, c1, c2, _, _, hf1⟩ := HR1.out)
      go_ret
      exact ⟨rfl, bset hb1 _ _, fun _ => HR1.out.put1 _⟩
  · rw [h] at HL0 ⊢
    have HL : Hid _ := HL0
    clear HL0 h
    go_enter Tryd.func42, Tryd.ntmps42
    go_wp2_with (go_at_call 40; refine Calls.mono HL.out ?_; rintro e w1 ⟨rfl, hb1, _⟩)
    all_goals
      go_ret
      first
        | exact ⟨rfl, hb1⟩
        | exact ⟨rfl, hb1, fun h => absurd h (by decide)⟩
  · rw [h] at HL0 ⊢
    have HL : Hid _ := HL0
    clear HL0 h
    go_enter Tryd.func42, Tryd.ntmps42
    go_wp2_with (go_at_call 40; refine Calls.mono HL.out ?_; rintro e w1 ⟨rfl, hb1, _⟩)
    all_goals
      go_ret
      first
        | exact ⟨rfl, hb1⟩
        | exact ⟨rfl, hb1, fun h => absurd h (by decide)⟩

/-- 'append(v, s...)' of a text's bytes, as a step of a region that draws its order. -/
theorem step_append_str {ops : Array Oper} {o : Oper} {a : Act} {w : World} {K : Act → World → Prop} {Q : Exit → Act → World → Prop} {E : Prop} (hgd : o.guard = none) (s x : Operand)
    (ho : o.op = .call { callee := .builtin .append, args := #[s, x], argTypes := #[48, 9] })
    (B : Nat) (v : Value) (l : List UInt8) (hs : a.eval s = v) (hown : bytesIn w B v l) (X : ByteArray) (hx : a.eval x = .string X)
    (hb : l.length + X.size ≤ 140737488355328) (hbase : B ≤ w.heap.size) (W : World) (hbel : Below B W w)
    (h : ∀ v' w', bytesIn w' B v' (l ++ X.data.toList) → Below B W w' → K (a.put o.dst v') w') :
    if Region.wanted o (yielded ops a.tmps) = true then Oper.wp Tryd.prog o a w K Q else E := by
  have hw : Region.wanted o (yielded ops a.tmps) = true := by simp [Region.wanted, hgd]
  rw [if_pos hw]
  obtain ⟨i0, hi, hz0, hz1, hz2⟩ := info_parts info5
  obtain ⟨v', w', hrun, hown', hg, _⟩ := Go.Lib.run_append_own_string (P := Tryd.prog) w B 48 9 o.type 5 i0 Tryd.underlying48 Tryd.underlying9 hi hz0 hz1 hz2 v l.length _ hown X (by unfold maxLen; omega) hb hbase
  have hk := h v' w' (by
    unfold bytesIn
    rw [List.length_append, List.map_append, ← strCells_eq, show X.data.toList.length = X.size by simp]
    exact hown') (hbel.grown hg hbase (fun k hk => (World.ownsRow.lt hown k hk).1))
  unfold Oper.wp
  simp [execOp, ho, resolve, invoke, builtin, hs, hx, hrun, Result.andThen]
  exact hk

theorem Rdr.put4 {w w' : World} {R : Nat} {t : ByteArray} {x n p : Int} {b b' : List UInt8} (h : Rdr w R t x n p b) (hb : Below (R + 1) w w') (v : Value) (hv : bytesIn w' (R + 1) v b') : Rdr (w'.setCell ⟨R, 4, none⟩ v) R t x n p b' := by
  have hl := h.lt
  obtain ⟨h0, h1, h2, h3, ⟨v0, h4, _⟩, hf⟩ := h
  have e : ∀ i, w'.cell? ⟨R, i, none⟩ = w.cell? ⟨R, i, none⟩ := fun i => hb.cell (p := ⟨R, i, none⟩) (by show R < R + 1; omega)
  have ef : ∀ i, w'.frozen? ⟨R, i, none⟩ = w.frozen? ⟨R, i, none⟩ := fun i => hb.frozen (p := ⟨R, i, none⟩) (by show R < R + 1; omega)
  exact ⟨by simp [go_sem, e, h0], by simp [go_sem, e, h1], by simp [go_sem, e, h2], by simp [go_sem, e, h3], ⟨v, by simp [go_sem, e, h4], bytes_set hv (by omega) _ _⟩, fun i => by simp [go_sem, ef, hf]⟩

set_option maxHeartbeats 1600000 in
theorem takePiece_more (R : Nat) (t : ByteArray) (x p : Int) (n : Nat) (b : List UInt8) (w : World) (hR : Rdr w R t x n p b) (h : t.size < n) :
    Calls Tryd.prog 41 #[.pointer (some ⟨R, 0, none⟩)] w fun e w' => e = .returned (.int .i64 1) ∧ Below R w w' := by
  obtain ⟨c0, _, c2, _⟩ := hR
  have hd : decide ((t.size : Int) < (n : Int)) = true := decide_eq_true (by omega)
  go_enter Tryd.func41, Tryd.ntmps41
  go_wp2_with fail
  go_quiet (fail)
  go_wp2_with fail
  go_ret
  exact ⟨rfl, bdrewN (Below.refl R w) _⟩

set_option maxHeartbeats 3200000 in
theorem takePiece_goes (R : Nat) (t : ByteArray) (p : Int) (n : Nat) (b : List UInt8) (w : World) (hR : Rdr w R t 2 n p b) (hs : t.size ≤ 4000000) (hb : b.length ≤ 300) (h : n ≤ t.size) :
    Calls Tryd.prog 41 #[.pointer (some ⟨R, 0, none⟩)] w fun e w' => e = .returned (.int .i64 0) ∧ Below R w w' ∧ Rdr w' R (t.extract n t.size) 3 n p (b ++ t.data.toList.take n) := by
  have HRd : Hid (Rdr w R t 2 n p b) := hR
  have hlt := hR.lt
  obtain ⟨c0, c1, c2, _, ⟨v, c4, hv⟩, hf⟩ := hR
  obtain ⟨o, c, rfl⟩ := slice_of hv
  have hd : decide ((t.size : Int) < (n : Int)) = false := decide_eq_false (by omega)
  have hX : (t.extract 0 n).data.toList = t.data.toList.take n := by rw [Hdg.ext_list, List.drop_zero]
  have hXs : (t.extract 0 n).size = n := by rw [ByteArray.size_extract]; omega
  go_enter Tryd.func41, Tryd.ntmps41
  go_wp2_with fail
  go_quiet (fail)
  go_wp2_with fail
  go_region_law (refine step_append_str rfl _ _ rfl (R + 1) _ b (by rfl) (bytes_drew (bytes_drew hv _) 1) (t.extract 0 n) (by rfl) (by omega) (by simp; omega) w (bdrewN (Below.refl (R + 1) w) _).drew ?_; intro v' w1 hown1 hbel1; obtain ⟨o1, k1, rfl⟩ := slice_of hown1; have e4 := (hbel1.cell (p := ⟨R, 4, none⟩) (by show R < R + 1; omega)).trans c4; have e0 := (hbel1.cell (p := ⟨R, 0, none⟩) (by show R < R + 1; omega)).trans c0; have e1 := (hbel1.cell (p := ⟨R, 1, none⟩) (by show R < R + 1; omega)).trans c1; have e2 := (hbel1.cell (p := ⟨R, 2, none⟩) (by show R < R + 1; omega)).trans c2; have ef := fun i => (hbel1.frozen (p := ⟨R, i, none⟩) (by show R < R + 1; omega)).trans (hf i))
  all_goals
    have hl : (b ++ (t.extract 0 n).data.toList).length = b.length + n := by rw [List.length_append, hX, List.length_take]; simp; omega
    rw [hl, hX] at hown1
    have HR4 : Hid (Rdr (w1.setCell ⟨R, 4, none⟩ (.slice o1 (b.length + n) k1)) R t 2 n p (b ++ t.data.toList.take n)) := HRd.out.put4 hbel1 _ hown1
    have HB4 : Hid (Below R w (w1.setCell ⟨R, 4, none⟩ (.slice o1 (b.length + n) k1))) := bset (hbel1.mono (by omega)) _ _
    clear hown1 hX hbel1 hv
    go_wp2_with fail
    go_region
    all_goals
      go_wp2_with fail
      go_ret
      exact ⟨rfl, bset (bset HB4.out.drew _ _) _ _, ((HR4.out.drewN 1).put0 _).put1 _⟩

end Go.Proofs.YtimfcbjgoilnpaaDoor.Rkb
