/-
  The fields of a head; walk: impl.fieldsTold.
-/
import Derived.Test.YtaplkbkpgdpbaaaGreatDoorTkl
namespace Go.Proofs.YtaplkbkpgdpbaaaGreatDoor.Tkr
open Go.RowKit
open Go.Proofs.YtaplkbkpgdpbaaaGreatDoor
open Go.Proofs.YtaplkbkpgdpbaaaGreatDoor.Fbs
open Go.Proofs.YtaplkbkpgdpbaaaGreatDoor.Ows
open Go.Proofs.YtaplkbkpgdpbaaaGreatDoor.Fdb
open Go.Proofs.YtaplkbkpgdpbaaaGreatDoor.Tri (trimS)

/-- The field that a line tells. -/
def fldO (x : ByteArray) : ByteArray × ByteArray := (if Ctf.cutB x 58 = true then Ctf.cutA x 58 else ⟨#[]⟩, trimS (Ctf.cutZ x 58))
/-- A row of texts from a place of a block on. -/
def RowO (w : World) (g o : Nat) (l : List ByteArray) : Prop := g < w.heap.size ∧ ∀ j x, l[j]? = some x → w.cell? ⟨g, o + j, none⟩ = some (.string x)
theorem RowO.below {w w' : World} {g o : Nat} {l : List ByteArray} (h : RowO w g o l) (hb : Below w.heap.size w w') : RowO w' g o l :=
  ⟨Nat.lt_of_lt_of_le h.1 hb.size, fun j x hx => (hb.cell (p := ⟨g, o + j, none⟩) h.1).trans (h.2 j x hx)⟩

theorem trim_call (V : ByteArray) (w : World) (hV : V.size ≤ 2000000) :
    Calls Tryz.prog 126 #[.string V, .string ⟨#[32]⟩] w fun e w' => e = .returned (.string (trimS V)) ∧ Below w.heap.size w w' := by
  refine (Tryz.strings_Trim_one V 32 (by decide) w (by omega)).mono ?_
  rintro e w' ⟨rfl, rfl | rfl⟩
  · exact ⟨rfl, Below.refl _ _⟩
  · exact ⟨rfl, (Below.refl _ _).drew⟩
theorem cut_call (s : ByteArray) (c : UInt8) (m : Int) (w : World) (hs : s.size ≤ 2000000) (hm : w.cell? ⟨3, 0, none⟩ = some (.int .i64 m)) :
    Calls Tryz.prog 125 #[.string s, .string ⟨#[c]⟩] w fun e w' => e = .returned (.tuple #[.string (Ctf.cutA s c), .string (Ctf.cutZ s c), .bool (Ctf.cutB s c)]) ∧ Below w.heap.size w w' := by
  refine (Tryz.strings_Cut s ⟨#[c]⟩ m w (by omega) hm).mono ?_
  rintro e w' ⟨rfl, n, rfl⟩
  obtain ⟨c1, c2, c3⟩ := Ctf.cut_is s c
  refine ⟨?_, Ctf.below_drewN w n⟩
  rw [← c1, ← c2, ← c3]
theorem cutZ_size (x : ByteArray) (c : UInt8) : (Ctf.cutZ x c).size ≤ x.size := by
  cases h : Ctf.cutI x c with
  | some k => rw [(Ctf.cut_some h).2.1, ByteArray.size_extract]; omega
  | none => rw [(Ctf.cut_none h).2.1]; exact Nat.zero_le _

set_option maxRecDepth 20000 in
set_option maxHeartbeats 1600000 in
theorem fieldsTold_any (g o ca : Nat) (l : List ByteArray) (m : Int) (w : World) (hl : l.length ≤ 900000) (hz : ∀ x ∈ l, x.size ≤ 2000000) (hm : w.cell? ⟨3, 0, none⟩ = some (.int .i64 m)) (ha : RowO w g o l) :
    Calls Tryz.prog 86 #[.slice (some ⟨g, o, none⟩) l.length ca] w fun e w' => (∃ x, e = .returned x ∧ fieldsIn w' w.heap.size x (l.map fldO)) ∧ Below w.heap.size w w' := by
  have hml := World.block_lt_of_cell? _ _ hm
  have HM : Hid (w.cell? ⟨3, 0, none⟩ = some (.int .i64 m)) := hm
  have GA : Hid (RowO w g o l) := ha
  clear ha hm
  go_enter Tryz.func86, Tryz.ntmps86
  go_wp2_with fail
  go_loopw [3, 12] (fun v i wr => ∃ k : Nat, k ≤ l.length ∧ i = .int .i64 k ∧ fieldsIn wr w.heap.size v ((l.take k).map fldO) ∧ Below w.heap.size w wr) (fun _ i _ => l.length - (intOf i).toNat)
  case atStart => exact ⟨0, Nat.zero_le _, rfl, fieldsIn.made w _ (Nat.le_refl _), (Below.refl _ _).alloc (Nat.le_refl _) _⟩
  case round =>
    obtain ⟨k, hk, rfl, hown, hbel⟩ := hrel
    by_cases hlt : k < l.length
    · have hc := (GA.out.below hbel).2 k l[k] (List.getElem?_eq_getElem hlt)
      have hs := hz l[k] (List.getElem_mem hlt)
      have HTK : Hid ((l.take (k + 1)).map fldO = (l.take k).map fldO ++ [fldO l[k]]) := by
        show _ = _; rw [List.take_succ_eq_append_getElem hlt, List.map_append]; rfl
      have hacc : ((l.take k).map fldO).length ≤ 900000 := by simp; omega
      have hzs := cutZ_size l[k] 58
      have HCut : Hid _ := fun w h => cut_call l[k] 58 m w (by omega) h
      have HTr : Hid _ := fun w => trim_call (Ctf.cutZ l[k] 58) w (by omega)
      have hm1 := (hbel.cell (p := ⟨3, 0, none⟩) hml).trans HM.out
      generalize (l.take k).map fldO = acc at *
      unfold fldO at HTK
      generalize trimS (Ctf.cutZ l[k] 58) = V at *
      clear hs hzs
      have hB := hbel.size
      cases hb : Ctf.cutB l[k] 58
      · rw [hb] at HTK HCut
        have HTK' : Hid ((l.take (k + 1)).map fldO = acc ++ [(⟨#[]⟩, V)]) := HTK
        clear HTK hb
        go_wp2_with fail
        refine (HCut.out _ hm1).mono ?_
        rintro e w2 ⟨rfl, hb2⟩
        have hbel2 := hbel.trans (hb2.mono hB)
        have hown2 := hown.below hb2
        clear hown hbel hb2 hc hm1
        go_wp2_with fail
        refine (HTr.out _).mono ?_
        rintro e w3 ⟨rfl, hb3⟩
        have hB2 := hbel2.size
        have hbel3 := hbel2.trans (hb3.mono hB2)
        have hown3 := hown2.below hb3
        have hB3 := hbel3.size
        clear hown2 hbel2 hb3
        go_wp2_with (at_builtin; go_loud (refine wpList_append_field w3 rfl _ _ rfl w.heap.size _ acc (by rfl) hown3 _ _ 1 (by rfl) ?q3 hB3 w.heap.size (Nat.le_refl _) w hbel3 ?_))
        case q3 => omega
        intro v' w6 hown6 hbel6
        go_wp2_with fail
        go_roundw
        case rel => exact ⟨k + 1, by omega, by go_num, by rw [HTK'.out]; exact hown6, hbel6⟩
        case measure => simp [intOf]; omega
      · rw [hb] at HTK HCut
        have HTK' : Hid ((l.take (k + 1)).map fldO = acc ++ [(Ctf.cutA l[k] 58, V)]) := HTK
        clear HTK hb
        go_wp2_with fail
        refine (HCut.out _ hm1).mono ?_
        rintro e w2 ⟨rfl, hb2⟩
        have hbel2 := hbel.trans (hb2.mono hB)
        have hown2 := hown.below hb2
        clear hown hbel hb2 hc hm1
        go_wp2_with fail
        refine (HTr.out _).mono ?_
        rintro e w3 ⟨rfl, hb3⟩
        have hB2 := hbel2.size
        have hbel3 := hbel2.trans (hb3.mono hB2)
        have hown3 := hown2.below hb3
        have hB3 := hbel3.size
        clear hown2 hbel2 hb3
        go_wp2_with (at_builtin; go_loud (refine wpList_append_field w3 rfl _ _ rfl w.heap.size _ acc (by rfl) hown3 _ _ 1 (by rfl) ?q3 hB3 w.heap.size (Nat.le_refl _) w hbel3 ?_))
        case q3 => omega
        intro v' w6 hown6 hbel6
        go_wp2_with fail
        go_roundw
        case rel => exact ⟨k + 1, by omega, by go_num, by rw [HTK'.out]; exact hown6, hbel6⟩
        case measure => simp [intOf]; omega
    · obtain rfl : k = l.length := by omega
      rw [List.take_length] at hown
      go_wp2_with fail
      go_ret
      exact ⟨⟨_, rfl, hown⟩, hbel⟩

end Go.Proofs.YtaplkbkpgdpbaaaGreatDoor.Tkr
