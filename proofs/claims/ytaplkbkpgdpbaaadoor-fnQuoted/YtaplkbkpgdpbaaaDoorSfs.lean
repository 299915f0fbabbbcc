/-
  Walks: spec.l3Set, spec.SetField.
-/
import Derived.Test.YtaplkbkpgdpbaaaDoorStf
import Derived.Test.YtaplkbkpgdpbaaaDoorVsp
namespace Go.Proofs.YtaplkbkpgdpbaaaDoor.Stf
open Go.RowKit
open Go.Proofs.YtaplkbkpgdpbaaaDoor.Fbs
open Go.Proofs.YtaplkbkpgdpbaaaDoor.Fdb
open Go.Proofs.YtaplkbkpgdpbaaaDoor.Fgd (goodF implGoodF_any specGoodF_any)
open Go.Proofs.YtaplkbkpgdpbaaaDoor.Fvs
open Go.Proofs.YtaplkbkpgdpbaaaDoor.Fpl
open Go.Proofs.YtaplkbkpgdpbaaaDoor.Lof (lowS)

set_option maxRecDepth 20000 in
set_option maxHeartbeats 3200000 in
theorem l3Set_any (a : Option Addr) (ca : Nat) (l : List (ByteArray × ByteArray)) (S V : ByteArray) (w : World) (lo hi : Nat) (hl : l.length ≤ 900000) (hS : S.size ≤ 2000000) (hz : SzF l) (ha : FV w a l lo hi) :
    Calls Tryd.prog 57 #[.slice a l.length ca, .agg #[.string S, .string V]] w fun e w' => (∃ v, e = .returned v ∧ fieldsIn w' w.heap.size v (setL S V l)) ∧ Below w.heap.size w w' := by
  have hbox : Below w.heap.size w (w.alloc (.cells #[.string S, .string V] 31)) := (Below.refl _ _).alloc (Nat.le_refl _) _
  have ha0 := ha.below hbox
  have hS0 : (w.alloc (.cells #[.string S, .string V] 31)).cell? ⟨w.heap.size, 0, none⟩ = some (.string S) := by simp [go_sem]
  have hV0 : (w.alloc (.cells #[.string S, .string V] 31)).cell? ⟨w.heap.size, 1, none⟩ = some (.string V) := by simp [go_sem]
  have hp0 : w.heap.size < (w.alloc (.cells #[.string S, .string V] 31)).heap.size := by simp
  have HL : Hid (setL S V l = if (setP S V l).2 = true then (setP S V l).1 else (setP S V l).1 ++ [(S, V)]) := rfl
  have hlen := setP_len S V l
  have HI : Hid _ := fun X Y w h => l3Is_any X Y S w h hS
  go_enter Tryd.func57, Tryd.ntmps57
  go_wp2_with fail
  generalize w.alloc (.cells #[.string S, .string V] 31) = wb at *
  by_cases h0 : l = []
  · subst h0
    have HL : Hid (setL S V [] = [] ++ [(S, V)]) := rfl
    go_loop [5, 6, 11] (fun v p i => v = .slice none 0 0 ∧ p = .bool false ∧ i = .int .i64 0) (fun _ _ _ => 0)
    case atStart => exact ⟨rfl, rfl, rfl⟩
    case round =>
      obtain ⟨rfl, rfl, rfl⟩ := hrel
      go_wp2_with (at_builtin; refine wpList_append_field wb rfl _ _ rfl wb.heap.size _ [] (by rfl) (fieldsIn.nil _ _) S V 1 rfl (by decide) (Nat.le_refl _) wb.heap.size (Nat.le_refl _) wb (Below.refl _ _) ?_)
      intro v' w3 hown hbel
      have hb3 := hbox.trans (hbel.mono hbox.size)
      go_wp2_with fail
      go_ret
      exact ⟨⟨_, rfl, by rw [HL.out]; exact hown.base (Nat.le_of_lt hp0)⟩, hb3⟩
  rcases ha0 with ha0 | ⟨g, rfl, _, _, ga⟩
  · exact absurd ha0 h0
  have GA : Hid (RowF wb g l) := ga
  clear ga
  have hbox' := hbox
  clear ha
  go_loopw [5, 6, 11] (fun v pv i wr => ∃ k : Nat, k ≤ l.length ∧ i = .int .i64 k ∧ Below wb.heap.size wb wr ∧ pv = .bool (setP S V (l.take k)).2 ∧ fieldsIn wr wb.heap.size v (setP S V (l.take k)).1) (fun _ _ i _ => l.length - (intOf i).toNat)
  case atStart => exact ⟨0, by omega, rfl, Below.refl _ _, rfl, fieldsIn.nil _ _⟩
  case round =>
    obtain ⟨k, hk, rfl, hbel, rfl, hown⟩ := hrel
    by_cases hlt : k < l.length
    · obtain ⟨k1, k2⟩ := (GA.out.below hbel).2.2 k l[k] (List.getElem?_eq_getElem hlt)
      obtain ⟨hs1, hs2⟩ := hz l[k] (List.getElem_mem hlt)
      have htk : l.take (k + 1) = l.take k ++ [l[k]] := List.take_succ_eq_append_getElem hlt
      have HST : Hid (setP S V (l.take (k + 1)) = stepS S V (setP S V (l.take k)) l[k]) := by show _ = _; rw [htk]; exact setP_snoc S V _ _
      have hlen2 : (setP S V (l.take k)).1.length ≤ k := Nat.le_trans (setP_len S V _) (by rw [List.length_take]; omega)
      have hB := hbel.size
      generalize l[k] = c at *
      obtain ⟨X, Y⟩ := c
      dsimp only at k1 k2 hs1 hs2
      generalize setP S V (l.take k) = st at *
      obtain ⟨acc, pb⟩ := st
      dsimp only at hown hlen2 ⊢
      have HI1 : Hid _ := fun w => HI.out X Y w hs1
      have hc0 := (hbel.cell (p := ⟨w.heap.size, 0, none⟩) hp0).trans hS0
      have hx := hbel.alloc hB (.cells #[.string X, .string Y] 31)
      have hown1 := hown.alloc (.cells #[.string X, .string Y] 31)
      have hpr : w.heap.size < wr.heap.size := Nat.lt_of_lt_of_le hp0 hB
      clear htk hlen HL hs1 hs2
      cases hi : isN S (X, Y)
      · have HS' : Hid (setP S V (l.take (k + 1)) = (acc ++ [(X, Y)], pb)) := by show _ = _; rw [HST.out, step_no hi]
        rw [hi] at HI1
        clear hi HST hown hbel
        go_wp2_with fail
        refine (HI1.out _).mono ?_
        rintro e w2 ⟨rfl, hb2⟩
        have hbel2 := hx.trans (hb2.mono hx.size)
        have hown2 := hown1.below hb2
        have hx0 : w2.cell? ⟨wr.heap.size, 0, none⟩ = some (.string X) := (hb2.cell (p := ⟨wr.heap.size, 0, none⟩) (by simp)).trans (by simp [go_sem])
        have hx1 : w2.cell? ⟨wr.heap.size, 1, none⟩ = some (.string Y) := (hb2.cell (p := ⟨wr.heap.size, 1, none⟩) (by simp)).trans (by simp [go_sem])
        have hB2 := hbel2.size
        clear hx hown1 hb2 k1 k2
        go_wp2_with (at_builtin; refine wpList_append_field w2 rfl _ _ rfl wb.heap.size _ acc (by rfl) hown2 X Y 1 rfl ?q3 hB2 wb.heap.size (Nat.le_refl _) wb hbel2 ?_)
        case q3 => omega
        intro v' w3 hown3 hbel3
        clear hown2 hbel2 hB2 hx0 hx1
        go_wp2_with fail
        go_roundw
        case rel => exact ⟨k + 1, by omega, by go_num, hbel3, by rw [HS'.out], by rw [HS'.out]; exact hown3⟩
        case measure => simp [intOf]; omega
      · cases pb
        · have HS' : Hid (setP S V (l.take (k + 1)) = (acc ++ [(X, V)], true)) := by show _ = _; rw [HST.out, step_new hi]
          rw [hi] at HI1
          have hv0 := (hbel.cell (p := ⟨w.heap.size, 1, none⟩) hp0).trans hV0
          have hown0 := hown
          clear hi HST hown
          go_wp2_with fail
          refine (HI1.out _).mono ?_
          rintro e w2 ⟨rfl, hb2⟩
          have hbel2 := hx.trans (hb2.mono hx.size)
          have hown2 := hown1.below hb2
          have hx0 : w2.cell? ⟨wr.heap.size, 0, none⟩ = some (.string X) := (hb2.cell (p := ⟨wr.heap.size, 0, none⟩) (by simp)).trans (by simp [go_sem])
          have hx1 : w2.cell? ⟨wr.heap.size, 1, none⟩ = some (.string Y) := (hb2.cell (p := ⟨wr.heap.size, 1, none⟩) (by simp)).trans (by simp [go_sem])
          have hxf : w2.frozen? ⟨wr.heap.size, 1, none⟩ = false := (hb2.frozen (p := ⟨wr.heap.size, 1, none⟩) (by simp)).trans (by simp [go_sem])
          have hv2 : w2.cell? ⟨w.heap.size, 1, none⟩ = some (.string V) := (hb2.cell (p := ⟨w.heap.size, 1, none⟩) (by simp; omega)).trans (by rw [World.cell?_alloc_lt _ _ ⟨w.heap.size, 1, none⟩ hpr]; exact hv0)
          have hbw : Below wr.heap.size wr (w2.setCell ⟨wr.heap.size, 1, none⟩ (.string V)) := (((Below.refl wr.heap.size wr).alloc (Nat.le_refl _) (.cells #[.string X, .string Y] 31)).trans (hb2.mono (by simp))).setCell (p := ⟨wr.heap.size, 1, none⟩) (Nat.le_refl _) (.string V)
          have hown3 := hown0.below hbw
          have hbel3 := hbel.trans (hbw.mono hB)
          have hB3 := hbel3.size
          have hsz : (w2.setCell ⟨wr.heap.size, 1, none⟩ (.string V)).heap.size = w2.heap.size := by simp [World.setCell]
          clear hx hb2 k1 k2 hc0 hv0 hbel hown2 hown1 hown0 hbel2 hbw
          go_wp2_with (at_builtin; go_loud (refine wpList_append_field (w2.setCell ⟨wr.heap.size, 1, none⟩ (.string V)) rfl _ _ rfl wb.heap.size _ acc (by rfl) hown3 X V 1 (by rw [hsz]; rfl) ?q3 hB3 wb.heap.size (Nat.le_refl _) wb hbel3 ?_))
          case q3 => omega
          intro v' w3 hown4 hbel4
          clear hown3 hbel3 hB3 hx0 hx1 hv2 hxf
          go_wp2_with fail
          go_roundw
          case rel => exact ⟨k + 1, by omega, by go_num, hbel4, by rw [HS'.out], by rw [HS'.out]; exact hown4⟩
          case measure => simp [intOf]; omega
        · have HS' : Hid (setP S V (l.take (k + 1)) = (acc, true)) := by show _ = _; rw [HST.out, step_old hi]
          rw [hi] at HI1
          clear hi HST hown hbel
          go_wp2_with fail
          refine (HI1.out _).mono ?_
          rintro e w2 ⟨rfl, hb2⟩
          have hbel2 := hx.trans (hb2.mono hx.size)
          have hown2 := hown1.below hb2
          clear hx hown1 hb2 k1 k2
          go_wp2_with fail
          go_roundw
          case rel => exact ⟨k + 1, by omega, by go_num, hbel2, by rw [HS'.out], by rw [HS'.out]; exact hown2⟩
          case measure => simp [intOf]; omega
    · obtain rfl : k = l.length := by omega
      rw [List.take_length] at hown ⊢
      have hc0 := (hbel.cell (p := ⟨w.heap.size, 0, none⟩) hp0).trans hS0
      have hc1 := (hbel.cell (p := ⟨w.heap.size, 1, none⟩) hp0).trans hV0
      generalize setP S V l = st at *
      obtain ⟨acc, pb⟩ := st
      dsimp only at hown hlen ⊢
      have hB := hbel.size
      have hb1 := hbox'.trans (hbel.mono (Nat.le_of_lt hp0))
      cases pb
      · have HL' : Hid (setL S V l = acc ++ [(S, V)]) := HL.out
        clear HL
        go_wp2_with (at_builtin; refine wpList_append_field wr rfl _ _ rfl wb.heap.size _ acc (by rfl) hown S V 1 rfl ?q3 hB wb.heap.size (Nat.le_refl _) wb hbel ?_)
        case q3 => omega
        intro v' w3 hown3 hbel3
        have hb3 := hbox'.trans (hbel3.mono (Nat.le_of_lt hp0))
        go_wp2_with fail
        go_ret
        exact ⟨⟨_, rfl, by rw [HL'.out]; exact hown3.base (Nat.le_of_lt hp0)⟩, hb3⟩
      · have HL' : Hid (setL S V l = acc) := HL.out
        clear HL
        go_wp2_with fail
        go_ret
        exact ⟨⟨_, rfl, by rw [HL'.out]; exact hown.base (Nat.le_of_lt hp0)⟩, hb1⟩

end Go.Proofs.YtaplkbkpgdpbaaaDoor.Stf
