/-
  Walks: spec.l3Is, l3Values, ValuesOf.
-/
import Derived.Test.YtfgcgnhffljiaaaGreatDoorFvs
import Derived.Test.YtfgcgnhffljiaaaGreatDoorLsp
namespace Go.Proofs.YtfgcgnhffljiaaaGreatDoor.Fvs
open Go.RowKit
open Go.Proofs.YtfgcgnhffljiaaaGreatDoor.Fbs
open Go.Proofs.YtfgcgnhffljiaaaGreatDoor.Fch
open Go.Proofs.YtfgcgnhffljiaaaGreatDoor.Ows
open Go.Proofs.YtfgcgnhffljiaaaGreatDoor.Lof (lowB lowS specLow_any implLow_any lowS_size)
open Go.Proofs.YtfgcgnhffljiaaaGreatDoor.Kls (text_cmp)
open Go.Proofs.YtfgcgnhffljiaaaGreatDoor.Fdb

theorem tbase {w : World} {B B' : Nat} {v : Value} {l : List ByteArray} (h : textsIn w B v l) (hB : B' ≤ B) : textsIn w B' v l := by
  refine ⟨h.1, ?_⟩
  rcases h.2 with hn | ⟨g, cap, cur, rfl, hbg, rest⟩
  · exact .inl hn
  · exact .inr ⟨g, cap, cur, rfl, Nat.le_trans hB hbg, rest⟩

set_option maxHeartbeats 800000 in
theorem l3Is_any (X V n : ByteArray) (w : World) (hX : X.size ≤ 2000000) (hn : n.size ≤ 2000000) :
    Calls Tryz.prog 136 #[.agg #[.string X, .string V], .string n] w fun e w' => e = .returned (.bool (isN n (X, V))) ∧ Below w.heap.size w w' := by
  have H1 : Hid _ := fun w => specLow_any X w hX
  have H2 : Hid _ := fun w => specLow_any n w hn
  have hc : ((lowS X).toList == (lowS n).toList) = isN n (X, V) := text_cmp _ _
  generalize lowS X = x at H1 hc
  generalize lowS n = y at H2 hc
  generalize isN n (X, V) = b at hc ⊢
  have hbox : Below w.heap.size w (w.alloc (.cells #[.string X, .string V] 108)) := (Below.refl _ _).alloc (Nat.le_refl _) _
  go_enter Tryz.func136, Tryz.ntmps136
  go_wp2_with fail
  refine (H1.out _).mono ?_
  rintro e w1 ⟨rfl, hb1⟩
  have hb01 := hbox.trans (hb1.mono (by simp))
  go_wp2_with fail
  refine (H2.out _).mono ?_
  rintro e w2 ⟨rfl, hb2⟩
  have hb02 := hb01.trans (hb2.mono hb01.size)
  go_wp2_with fail
  go_ret
  exact ⟨rfl, hb02⟩

set_option maxHeartbeats 800000 in
theorem l3Values_any (a : Option Addr) (ca : Nat) (l : List (ByteArray × ByteArray)) (n : ByteArray) (w : World) (lo hi : Nat) (hl : l.length ≤ 2000000) (hn : n.size ≤ 2000000) (hz : SzF l) (ha : FV w a l lo hi) :
    Calls Tryz.prog 105 #[.slice a l.length ca, .string n] w fun e w' => (∃ v, e = .returned v ∧ textsIn w' w.heap.size v (valsOf n l)) ∧ Below w.heap.size w w' := by
  by_cases h0 : l = []
  · subst h0
    go_enter Tryz.func105, Tryz.ntmps105
    go_wp2_with fail
    go_loop [5, 10] (fun v i => v = .slice none 0 0 ∧ i = .int .i64 0) (fun _ _ => 0)
    case atStart => exact ⟨rfl, rfl⟩
    case round =>
      obtain ⟨rfl, rfl⟩ := hrel
      go_wp2_with fail
      go_ret
      exact ⟨⟨_, rfl, World.ownsRow_nil _ _ _ _⟩, Below.refl _ _⟩
  rcases ha with ha | ⟨g, rfl, _, _, ga⟩
  · exact absurd ha h0
  have GA : Hid (RowF w g l) := ga
  clear ga
  go_enter Tryz.func105, Tryz.ntmps105
  go_wp2_with fail
  go_loopw [5, 10] (fun v i wr => ∃ k : Nat, k ≤ l.length ∧ i = .int .i64 k ∧ Below w.heap.size w wr ∧ textsIn wr w.heap.size v (valsOf n (l.take k))) (fun _ i _ => l.length - (intOf i).toNat)
  case atStart => exact ⟨0, by omega, rfl, Below.refl _ _, World.ownsRow_nil _ _ _ _⟩
  case round =>
    obtain ⟨k, hk, rfl, hbel, hown⟩ := hrel
    by_cases hlt : k < l.length
    · obtain ⟨k1, k2⟩ := (GA.out.below hbel).2.2 k l[k] (List.getElem?_eq_getElem hlt)
      obtain ⟨hs1, hs2⟩ := hz l[k] (List.getElem_mem hlt)
      have htk : l.take (k + 1) = l.take k ++ [l[k]] := List.take_succ_eq_append_getElem hlt
      have hlen : (valsOf n (l.take k)).length ≤ k := Nat.le_trans (valsOf_len n _) (by rw [List.length_take]; omega)
      have HI := fun w => l3Is_any l[k].1 l[k].2 n w hs1 hn
      clear hs1 hs2
      have hB := hbel.size
      cases hi : isN n l[k]
      · have HI1 : Hid (∀ w, Calls Tryz.prog 136 #[.agg #[.string l[k].1, .string l[k].2], .string n] w fun e w' => e = .returned (.bool false) ∧ Below w.heap.size w w') := by
          intro w; have := HI w; rwa [show (l[k].1, l[k].2) = l[k] from rfl, hi] at this
        have HV : Hid (valsOf n (l.take (k + 1)) = valsOf n (l.take k)) := by show _ = _; rw [htk, valsOf_no hi]
        clear HI hi htk
        generalize valsOf n (l.take k) = acc at *
        go_wp2_with fail
        refine (HI1.out _).mono ?_
        rintro e w2 ⟨rfl, hb2⟩
        have hbx := hbel.alloc hB (.cells #[.string l[k].1, .string l[k].2] 108)
        have hbel2 := hbx.trans (hb2.mono hbx.size)
        have hown2 := (hown.alloc (.cells #[.string l[k].1, .string l[k].2] 108)).below hb2
        clear hown hbx hb2 hbel k1 k2
        go_wp2_with fail
        go_roundw
        case rel => exact ⟨k + 1, by omega, by go_num, hbel2, by rw [HV.out]; exact hown2⟩
        case measure => simp [intOf]; omega
      · have HI1 : Hid (∀ w, Calls Tryz.prog 136 #[.agg #[.string l[k].1, .string l[k].2], .string n] w fun e w' => e = .returned (.bool true) ∧ Below w.heap.size w w') := by
          intro w; have := HI w; rwa [show (l[k].1, l[k].2) = l[k] from rfl, hi] at this
        have HV : Hid (valsOf n (l.take (k + 1)) = valsOf n (l.take k) ++ [l[k].2]) := by show _ = _; rw [htk, valsOf_yes hi]
        clear HI hi htk
        generalize valsOf n (l.take k) = acc at *
        go_wp2_with fail
        refine (HI1.out _).mono ?_
        rintro e w2 ⟨rfl, hb2⟩
        have hbx := hbel.alloc hB (.cells #[.string l[k].1, .string l[k].2] 108)
        have hbel2 := hbx.trans (hb2.mono hbx.size)
        have hown2 := (hown.alloc (.cells #[.string l[k].1, .string l[k].2] 108)).below hb2
        have hc2 : w2.cell? ⟨wr.heap.size, 1, none⟩ = some (.string l[k].2) := (hb2.cell (p := ⟨wr.heap.size, 1, none⟩) (by simp)).trans (by simp [go_sem])
        have hB2 := hbel2.size
        clear hown hbx hb2 hbel k1 k2
        go_wp2_with (at_builtin; refine wpList_append_text w2 rfl _ _ rfl w.heap.size _ acc (by rfl) hown2 _ _ rfl ?q3 hB2 w.heap.size (Nat.le_refl _) w hbel2 ?_)
        case q3 => omega
        intro v' w3 hown3 hbel3
        clear hown2 hbel2 hB2 hc2
        go_wp2_with fail
        go_roundw
        case rel => exact ⟨k + 1, by omega, by go_num, hbel3, by rw [HV.out]; exact hown3⟩
        case measure => simp [intOf]; omega
    · obtain rfl : k = l.length := by omega
      rw [List.take_length] at hown
      go_wp2_with fail
      go_ret
      exact ⟨⟨_, rfl, hown⟩, hbel⟩

end Go.Proofs.YtfgcgnhffljiaaaGreatDoor.Fvs
