/-
  Walks: laws' eqRequest, markRequest, heldRequest of what is taken.
-/
import Derived.Test.YtaplkbkpgdpbaaaGreatDoorTku
import Derived.Test.YtaplkbkpgdpbaaaGreatDoorFdm
namespace Go.Proofs.YtaplkbkpgdpbaaaGreatDoor.Tkr
open Go.RowKit
open Go.Proofs.YtaplkbkpgdpbaaaGreatDoor
open Go.Proofs.YtaplkbkpgdpbaaaGreatDoor.Fbs
open Go.Proofs.YtaplkbkpgdpbaaaGreatDoor.Fdb
open Go.Proofs.YtaplkbkpgdpbaaaGreatDoor.Hdl (cutO cdS)
open Go.Proofs.YtaplkbkpgdpbaaaGreatDoor.Rqb (BoxR)
open Go.Proofs.YtaplkbkpgdpbaaaGreatDoor.Mrk (same_text below_grown)

theorem toldR_any (s : ByteArray) : ∃ (M T : ByteArray) (F : List (ByteArray × ByteArray)) (Bd : ByteArray) (N c : Int), F.length ≤ 2002 ∧ ∀ w B e, ToldR w B e (fun c => .int .i64 c) s → ∃ (a : Option Addr) (q : Nat), e = .returned (.tuple #[.agg #[.string M, .string T, .slice a F.length q, .string Bd], .int .i64 N, .int .i64 c]) ∧ FV w a F B w.heap.size := by
  unfold ToldR
  cases hc : cutO s with
  | none => exact ⟨⟨#[]⟩, ⟨#[]⟩, [], ⟨#[]⟩, 0, cdS s, Nat.zero_le _, fun w B e h => ⟨none, 0, h, .inl rfl⟩⟩
  | some p =>
    obtain ⟨ls, n⟩ := p
    have hl := cut_lines hc
    have hF : (tkF ls).length ≤ 2002 := by unfold tkF; rw [List.length_map, List.length_tail]; omega
    by_cases h0 : tkC s ls n = 0
    · refine ⟨(tkM ls).1, (tkM ls).2, tkF ls, tkB s ls n, (n : Int) + (tkB s ls n).size, 0, hF, fun w B e h => ?_⟩
      dsimp only at h
      rw [if_pos h0] at h
      obtain ⟨x, h1, h2⟩ := h
      obtain ⟨a, q, rfl, _, hv⟩ := ff_form h2
      exact ⟨a, q, h1, hv⟩
    · refine ⟨⟨#[]⟩, ⟨#[]⟩, [], ⟨#[]⟩, 0, tkC s ls n, Nat.zero_le _, fun w B e h => ?_⟩
      dsimp only at h
      rw [if_neg h0] at h
      exact ⟨none, 0, h, .inl rfl⟩

set_option maxHeartbeats 1600000 in
theorem eqReq_any (M T B : ByteArray) (a b : Option Addr) (ca cb : Nat) (l : List (ByteArray × ByteArray)) (w : World) (x y x' y' : Nat) (hl : l.length ≤ 2000000) (ha : FV w a l x y) (hb : FV w b l x' y') :
    Calls Tryz.prog 32 #[.agg #[.string M, .string T, .slice a l.length ca, .string B], .agg #[.string M, .string T, .slice b l.length cb, .string B]] w fun e w' => e = .returned (.bool true) ∧ Below w.heap.size w w' := by
  have s1 := same_text M
  have s2 := same_text T
  have s3 := same_text B
  have HE : Hid _ := fun w h1 h2 => eqFS_any a b ca cb l w x y x' y' hl h1 h2
  have hb1 : Below w.heap.size w (w.alloc (.cells #[.string M, .string T, .slice a l.length ca, .string B] 25)) := (Below.refl _ _).alloc (Nat.le_refl _) _
  have hb2 := hb1.alloc hb1.size (.cells #[.string M, .string T, .slice b l.length cb, .string B] 25)
  have ha2 := ha.below hb2
  have hbb2 := hb.below hb2
  have HX : Hid (BoxR ((w.alloc (.cells #[.string M, .string T, .slice a l.length ca, .string B] 25)).alloc (.cells #[.string M, .string T, .slice b l.length cb, .string B] 25)) w.heap.size M T a l.length ca B) := (BoxR.made w M T a l.length ca B _).below ((Below.refl _ _).alloc (Nat.le_refl _) _)
  have HX2 : Hid (BoxR ((w.alloc (.cells #[.string M, .string T, .slice a l.length ca, .string B] 25)).alloc (.cells #[.string M, .string T, .slice b l.length cb, .string B] 25)) (w.heap.size + 1) M T b l.length cb B) := by
    have h := BoxR.made (w.alloc (.cells #[.string M, .string T, .slice a l.length ca, .string B] 25)) M T b l.length cb B 25
    rwa [World.size_alloc] at h
  go_enter Tryz.func32, Tryz.ntmps32
  go_wp2_with fail
  refine (HE.out _ ha2 hbb2).mono ?_
  rintro e w3 ⟨rfl, hb3⟩
  have hb13 := hb2.trans (hb3.mono hb2.size)
  obtain ⟨x0, x1, x2, x3⟩ := HX.out.below hb3
  obtain ⟨y0, y1, y2, y3⟩ := HX2.out.below hb3
  go_wp2_with fail
  go_ret
  exact ⟨rfl, hb13⟩

theorem markReq_any (M T B : ByteArray) (a : Option Addr) (ca : Nat) (l : List (ByteArray × ByteArray)) (w : World) (lo hi : Nat) (hl : l.length ≤ 1400000) (ha : FV w a l lo hi) :
    Calls Tryz.prog 38 #[.agg #[.string M, .string T, .slice a l.length ca, .string B], .int .i64 1] w fun e w' => e = .returned (.int .i64 (1 + 2 * (l.length : Int))) ∧ FV w' a (marksF 1 l.length) lo hi ∧ ∃ wb row, Below w.heap.size w wb ∧ wb.grownBy w' row ∧ ∀ g, row = some g → lo ≤ g ∧ g < hi := by
  have hb1 : Below w.heap.size w (w.alloc (.cells #[.string M, .string T, .slice a l.length ca, .string B] 25)) := (Below.refl _ _).alloc (Nat.le_refl _) _
  have HM : Hid _ := markF_one a ca l (w.alloc (.cells #[.string M, .string T, .slice a l.length ca, .string B] 25)) lo hi hl (ha.below hb1)
  go_enter Tryz.func38, Tryz.ntmps38
  go_wp2_with fail
  refine (Calls.mono HM.out ?_)
  rintro e w2 ⟨rfl, hF, row, hg, hr⟩
  have HX : Hid _ := hr
  clear hr
  go_wp2_with fail
  go_ret
  exact ⟨rfl, hF, _, row, hb1, hg, HX.out⟩

theorem heldReq_any (M T B : ByteArray) (a : Option Addr) (ca n : Nat) (w : World) (lo hi : Nat) (hl : n ≤ 1400000) (ha : FV w a (marksF 1 n) lo hi) :
    Calls Tryz.prog 39 #[.agg #[.string M, .string T, .slice a n ca, .string B], .int .i64 1] w fun e w' => e = .returned (.int .i64 (1 + 2 * (n : Int))) ∧ Below w.heap.size w w' := by
  have hb1 : Below w.heap.size w (w.alloc (.cells #[.string M, .string T, .slice a n ca, .string B] 25)) := (Below.refl _ _).alloc (Nat.le_refl _) _
  have HM : Hid _ := heldF_one a ca n (w.alloc (.cells #[.string M, .string T, .slice a n ca, .string B] 25)) lo hi hl (ha.below hb1)
  have hd : decide ((1 : Int) + 2 * (n : Int) < 0) = false := decide_eq_false (by omega)
  go_enter Tryz.func39, Tryz.ntmps39
  go_wp2_with fail
  refine (Calls.mono HM.out ?_)
  rintro e w2 ⟨rfl, hb2⟩
  have hb12 := hb1.trans (hb2.mono hb1.size)
  go_wp2_with fail
  go_ret
  exact ⟨rfl, hb12⟩

theorem BoxR_kept {w w' : World} {g : Nat} {M T : ByteArray} {a : Option Addr} {n ca : Nat} {B : ByteArray} (h : BoxR w g M T a n ca B) {row : Option Nat} (hg : w.grownBy w' row) (hr : ∀ r, row = some r → r ≠ g) : BoxR w' g M T a n ca B := by
  have hlt := World.block_lt_of_cell? _ _ h.1
  have hb : w'.heap[g]? = w.heap[g]? := hg.block g hlt (fun e => hr g e.symm rfl)
  have hc : ∀ i, w'.cell? ⟨g, i, none⟩ = w.cell? ⟨g, i, none⟩ := fun i => by unfold World.cell?; rw [hb]
  exact ⟨(hc 0).trans h.1, (hc 1).trans h.2.1, (hc 2).trans h.2.2.1, (hc 3).trans h.2.2.2⟩
/-- A list above or below what has turned is as it was. -/
theorem FV_above {w w' : World} {a : Option Addr} {l : List (ByteArray × ByteArray)} {lo hi : Nat} (h : FV w a l lo hi) {row : Option Nat} (hg : w.grownBy w' row) (hr : ∀ g, row = some g → hi ≤ g) : FV w' a l lo hi := h.kept hg hr

end Go.Proofs.YtaplkbkpgdpbaaaGreatDoor.Tkr
