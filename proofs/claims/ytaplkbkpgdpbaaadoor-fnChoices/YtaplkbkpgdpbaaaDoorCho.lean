/-
  Walks: impl.ChoicesOf.
-/
import Derived.Test.YtaplkbkpgdpbaaaDoorOch
import Derived.Test.YtaplkbkpgdpbaaaDoorMrk
namespace Go.Proofs.YtaplkbkpgdpbaaaDoor.Och
open Go.RowKit
open Go.Proofs.YtaplkbkpgdpbaaaDoor.Byt
open Go.Proofs.YtaplkbkpgdpbaaaDoor.Fbs
open Go.Proofs.YtaplkbkpgdpbaaaDoor.Fch
open Go.Proofs.YtaplkbkpgdpbaaaDoor.Tri
open Go.Proofs.YtaplkbkpgdpbaaaDoor.Chc
open Go.Proofs.YtaplkbkpgdpbaaaDoor.Lsp (listO listL)
open Go.Proofs.YtaplkbkpgdpbaaaDoor.Mrk (TV lst told_tv)

theorem choicesIn.made (w : World) (B : Nat) (h : B ≤ w.heap.size) : choicesIn (w.alloc (.cells #[] 48)) B (.slice (some ⟨w.heap.size, 0, none⟩) 0 0) [] :=
  ⟨rfl, .inr ⟨w.heap.size, 0, #[], rfl, h, by show (w.heap.push _)[w.heap.size]? = _; simp, Nat.le_refl _, by decide, rfl, rfl⟩⟩
theorem choicesIn.alloc {w : World} {B : Nat} {v : Value} {l : List (ByteArray × Int)} (h : choicesIn w B v l) (o : Obj) : choicesIn (w.alloc o) B v l := World.ownsRow.alloc h o
theorem choicesIn.base {w : World} {B B' : Nat} {v : Value} {l : List (ByteArray × Int)} (h : choicesIn w B v l) (hB : B' ≤ B) : choicesIn w B' v l := by
  refine ⟨h.1, ?_⟩
  rcases h.2 with hn | ⟨g, cap, cur, rfl, hbg, rest⟩
  · exact .inl hn
  · exact .inr ⟨g, cap, cur, rfl, Nat.le_trans hB hbg, rest⟩

set_option maxRecDepth 20000 in
set_option maxHeartbeats 1600000 in
theorem implChoices_any (s : ByteArray) (m : Int) (w : World) (hT : Tab w) (hs : s.size ≤ 2000000) (hm : w.cell? ⟨2, 0, none⟩ = some (.int .i64 m)) :
    Calls Tryd.prog 25 #[.string s] w fun e w' => ToldC w' w.heap.size e (choO s) ∧ Below w.heap.size w w' := by
  have hgt := hT.lt
  have hmt := World.block_lt_of_cell? _ _ hm
  have HI : Hid (∀ w, Calls Tryd.prog 13 #[.string s] w fun e w' => (∃ a cap, e = .returned (.tuple #[.slice a (lst (listO s)).length cap, .bool (listO s).isSome]) ∧ TV w' a (lst (listO s)) w.heap.size w'.heap.size) ∧ Below w.heap.size w w') :=
    fun w => (Lit.implList_any s w (by omega)).mono fun e w' ⟨h, hb⟩ => ⟨told_tv h, hb⟩
  have HM : Hid (w.cell? ⟨2, 0, none⟩ = some (.int .i64 m)) := hm
  clear hm
  have hcl := @list_cl s
  have HV : choO s = match listO s with
    | none => none
    | some l => if 20 < l.length then none else chF l [] := rfl
  generalize choO s = V at HV ⊢
  generalize listO s = o at *
  cases o with
  | none =>
    have HR : Hid (V = none) := HV
    clear HV hcl
    have HI : Hid (∀ w, Calls Tryd.prog 13 #[.string s] w fun e w' => (∃ a cap, e = .returned (.tuple #[.slice a 0 cap, .bool false]) ∧ TV w' a [] w.heap.size w'.heap.size) ∧ Below w.heap.size w w') := HI
    go_enter Tryd.func25, Tryd.ntmps25
    go_wp2_with fail
    refine (HI.out _).mono ?_
    rintro e w1 ⟨⟨a0, c0, rfl, T0⟩, hb1⟩
    go_wp2_with fail
    go_ret2
    exact ⟨by rw [HR.out]; rfl, hb1⟩
  | some l =>
    have hcl := hcl rfl
    have HI : Hid (∀ w, Calls Tryd.prog 13 #[.string s] w fun e w' => (∃ a cap, e = .returned (.tuple #[.slice a l.length cap, .bool true]) ∧ TV w' a l w.heap.size w'.heap.size) ∧ Below w.heap.size w w') := HI
    by_cases h20 : 20 < l.length
    · have HR : Hid (V = none) := by show _ = _; rw [HV]; exact if_pos h20
      have hd : decide (20 < (l.length : Int)) = true := decide_eq_true (by omega)
      clear HV hcl
      go_enter Tryd.func25, Tryd.ntmps25
      go_wp2_with fail
      refine (HI.out _).mono ?_
      rintro e w1 ⟨⟨a0, c0, rfl, T0⟩, hb1⟩
      go_wp2_with fail
      go_ret2
      exact ⟨by rw [HR.out]; rfl, hb1⟩
    · have HR : Hid (V = chF l []) := by show _ = _; rw [HV]; exact if_neg h20
      have hd : decide (20 < (l.length : Int)) = false := decide_eq_false (by omega)
      clear HV
      have HCL : Hid _ := hcl
      clear hcl
      go_enter Tryd.func25, Tryd.ntmps25
      go_wp2_with fail
      refine (HI.out _).mono ?_
      rintro e w1 ⟨⟨a0, c0, rfl, T0⟩, hb1⟩
      go_wp2_with fail
      by_cases h0 : l = []
      · subst h0
        have HR : Hid (V = some []) := by show _ = _; rw [HR.out]; rfl
        go_loop [6, 26] (fun v i => v = .slice (some ⟨w1.heap.size, 0, none⟩) 0 0 ∧ i = .int .i64 0) (fun _ _ => 0)
        case atStart => exact ⟨rfl, rfl⟩
        case round =>
          obtain ⟨rfl, rfl⟩ := hrel
          go_wp2_with fail
          go_ret2
          exact ⟨by rw [HR.out]; exact ⟨_, rfl, (choicesIn.made w1 w1.heap.size (Nat.le_refl _)).base hb1.size⟩, hb1.alloc hb1.size _⟩
      rcases T0 with T0 | ⟨g, rfl, _, _, T0⟩
      · exact absurd T0 h0
      have GT : Hid (Mrk.RowT w1 g l) := T0
      go_loopw [6, 26] (fun v i wr => ∃ (k : Nat) (acc : List (ByteArray × Int)), i = .int .i64 k ∧ k ≤ l.length ∧ acc.length = k ∧ choicesIn wr w1.heap.size v acc ∧ Below w1.heap.size w1 wr ∧ Hid (V = chF (l.drop k) acc)) (fun _ i _ => l.length - (intOf i).toNat)
      case atStart => exact ⟨0, [], rfl, Nat.zero_le _, rfl, choicesIn.made w1 w1.heap.size (Nat.le_refl _), (Below.refl _ _).alloc (Nat.le_refl _) _, HR⟩
      case round =>
        obtain ⟨k, acc, rfl, hk, hac, hown, hbel, HK⟩ := hrel
        by_cases hlt : k < l.length
        · have hx := (GT.out.below hbel).2.2 k l[k] (List.getElem?_eq_getElem hlt)
          have hcx := HCL.out l[k] (List.getElem_mem hlt)
          have hsz := hbel.size
          have hbw := hb1.trans (hbel.mono hb1.size)
          have HRC : Hid _ := fun w h k' => readChoice_any l[k] m w h hcx.2 hcx.1 k'
          have hdr : l.drop k = l[k] :: l.drop (k + 1) := List.drop_eq_getElem_cons hlt
          rw [hdr] at HK
          cases hc : chR l[k] with
          | none =>
            have HN : Hid (V = none) := HK.out.trans (chF_none hc)
            have HRC : Hid (∀ w, Tab w → w.cell? ⟨2, 0, none⟩ = some (.int .i64 m) → Calls Tryd.prog 67 #[.string l[k]] w fun e w' => e = .returned (.tuple #[.agg #[.string ⟨#[]⟩, .int .i64 0], .bool false]) ∧ Below w.heap.size w w') := by
              have := HRC.out; rw [hc] at this; exact this
            clear HK hdr hc hcx
            go_wp2_with fail
            refine (HRC.out _ (hT.below hbw hgt) ((hbw.cell (p := ⟨2, 0, none⟩) hmt).trans HM.out)).mono ?_
            rintro e w2 ⟨rfl, hb2⟩
            have hb3 := hbw.trans (hb2.mono hbw.size)
            go_wp2_with fail
            go_ret2
            exact ⟨by rw [HN.out]; rfl, hb3.alloc hb3.size _⟩
          | some c =>
            obtain ⟨X, z⟩ := c
            have HN : Hid (V = chF (l.drop (k + 1)) (acc ++ [(X, z)])) := HK.out.trans (chF_some hc)
            have HRC : Hid (∀ w, Tab w → w.cell? ⟨2, 0, none⟩ = some (.int .i64 m) → Calls Tryd.prog 67 #[.string l[k]] w fun e w' => e = .returned (.tuple #[.agg #[.string X, .int .i64 z], .bool true]) ∧ Below w.heap.size w w') := by
              have := HRC.out; rw [hc] at this; exact this
            clear HK hdr hc hcx
            go_wp2_with fail
            refine (HRC.out _ (hT.below hbw hgt) ((hbw.cell (p := ⟨2, 0, none⟩) hmt).trans HM.out)).mono ?_
            rintro e w2 ⟨rfl, hb2⟩
            have hown2 := choicesIn.alloc (hown.below hb2) (.cells #[.string X, .int .i64 z] 48)
            have hbel2 := (hbel.trans (hb2.mono hbel.size)).alloc (Nat.le_trans hbel.size hb2.size) (.cells #[.string X, .int .i64 z] 48)
            have hsz2 : w1.heap.size ≤ (w2.alloc (.cells #[.string X, .int .i64 z] 48)).heap.size := hbel2.size
            clear hown hbel hb2 hbw hx
            go_wp2_with (at_builtin; go_loud (refine wpList_append_choice _ rfl _ _ rfl w1.heap.size _ acc (by rfl) hown2 X z 1 (by rw [World.size_alloc]; rfl) ?q3 hsz2 w1.heap.size (Nat.le_refl _) w1 hbel2 ?_))
            case q3 => omega
            intro v' w3 hown' hbel'
            clear hown2 hbel2
            go_wp2_with fail
            go_roundw
            case rel => exact ⟨k + 1, _, by go_num, by omega, by simp; omega, hown', hbel', HN⟩
            case measure => simp [intOf]; omega
        · have HN : Hid (V = some acc) := by
            show _ = _
            rw [HK.out, List.drop_eq_nil_of_le (by omega)]; rfl
          have hform := hown.base hb1.size
          go_wp2_with fail
          go_ret2
          exact ⟨by rw [HN.out]; exact ⟨_, rfl, hform⟩, hb1.trans (hbel.mono hb1.size)⟩

end Go.Proofs.YtaplkbkpgdpbaaaDoor.Och
