/-
  Walk: impl.TakeRequest.
-/
import Derived.Test.YtaplkbkpgdpbaaaGreatDoorTki
namespace Go.Proofs.YtaplkbkpgdpbaaaGreatDoor.Tkr
open Go.RowKit
open Go.Proofs.YtaplkbkpgdpbaaaGreatDoor
open Go.Proofs.YtaplkbkpgdpbaaaGreatDoor.Fbs
open Go.Proofs.YtaplkbkpgdpbaaaGreatDoor.Fch
open Go.Proofs.YtaplkbkpgdpbaaaGreatDoor.Fdb
open Go.Proofs.YtaplkbkpgdpbaaaGreatDoor.Fvs
open Go.Proofs.YtaplkbkpgdpbaaaGreatDoor.Lnp
open Go.Proofs.YtaplkbkpgdpbaaaGreatDoor.Hdl (cutO cdS)
open Go.Proofs.YtaplkbkpgdpbaaaGreatDoor.Rqb (errV Own4 err_none err_some)
open Go.Proofs.YtaplkbkpgdpbaaaGreatDoor.Asf (ErrT codeOf_any)

theorem toldR_split {w : World} {B : Nat} {e : Ending} {s : ByteArray} (h : ToldR w B e errV s) :
    ∃ (M T : ByteArray) (a : Option Addr) (k q : Nat) (Bd : ByteArray) (N c : Int), e = .returned (.tuple #[.agg #[.string M, .string T, .slice a k q, .string Bd], .int .i64 N, errV c]) ∧
      ∀ w' B', (∀ F, fieldsIn w B (.slice a k q) F → fieldsIn w' B' (.slice a k q) F) → ToldR w' B' (.returned (.tuple #[.agg #[.string M, .string T, .slice a k q, .string Bd], .int .i64 N, .int .i64 c])) (fun c => .int .i64 c) s := by
  unfold ToldR at h
  cases hc : cutO s with
  | none =>
    rw [hc] at h
    exact ⟨_, _, _, _, _, _, _, _, h, fun w' B' _ => toldR_none hc rfl⟩
  | some p =>
    obtain ⟨ls, n⟩ := p
    rw [hc] at h
    dsimp only at h
    by_cases h0 : tkC s ls n = 0
    · rw [if_pos h0] at h
      obtain ⟨x, h1, h2⟩ := h
      obtain ⟨a, q, rfl, _, _⟩ := ff_form h2
      exact ⟨_, _, _, _, _, _, _, _, h1, fun w' B' hk => toldR_good hc h0 _ rfl (hk _ h2)⟩
    · rw [if_neg h0] at h
      exact ⟨_, _, _, _, _, _, _, _, h, fun w' B' _ => toldR_bad hc h0 rfl⟩

set_option maxRecDepth 20000 in
set_option maxHeartbeats 1600000 in
theorem implTake_any (s : ByteArray) (m : Int) (b : Addr) (w : World) (hs : s.size ≤ 1048576) (hT : Tab w) (hE : w.cell? ⟨0, 0, none⟩ = some (sent b)) (hm : w.cell? ⟨3, 0, none⟩ = some (.int .i64 m)) (hR : ErrT w) :
    Calls Tryz.prog 16 #[.string s] w fun e w' => ToldR w' w.heap.size e (fun c => .int .i64 c) s ∧ Below w.heap.size w w' := by
  have hgt := hT.lt
  have het := World.block_lt_of_cell? _ _ hE
  have hml := World.block_lt_of_cell? _ _ hm
  have hrl := hR.lt
  obtain ⟨W, hW⟩ : ∃ W, W = w.alloc (.cells #[.string ⟨#[]⟩, .string ⟨#[]⟩, .slice none 0 0, .string ⟨#[]⟩] 25) := ⟨_, rfl⟩
  have hb1 : Below w.heap.size w W := by rw [hW]; exact (Below.refl _ _).alloc (Nat.le_refl _) _
  have hsW : W.heap.size = w.heap.size + 1 := by rw [hW]; simp
  have HO : Hid (Own4 W w.heap.size (.string ⟨#[]⟩) (.string ⟨#[]⟩) (.slice none 0 0) (.string ⟨#[]⟩)) := by rw [hW]; exact Rqb.Own4.made w _ _ _ _ _
  have HT : Hid _ := takeRequest_any s m b W hs (hT.below hb1 hgt) ((hb1.cell (p := ⟨0, 0, none⟩) het).trans hE) ((hb1.cell (p := ⟨3, 0, none⟩) hml).trans hm)
  have HR : Hid (ErrT w) := hR
  have HC : Hid _ := fun c w h => codeOf_any c w h
  clear hT hE hm hR
  go_enter Tryz.func16, Tryz.ntmps16
  go_wp2_with fail
  rw [← hW]
  clear hW
  refine (Calls.mono HT.out ?_)
  rintro e w2 ⟨h, hb2⟩
  obtain ⟨M, T, a, k, q, Bd, N, c, rfl, hk⟩ := toldR_split h
  have HK : Hid _ := hk
  have hb12 := hb1.trans (hb2.mono hb1.size)
  have HO2 : Hid (Own4 W w.heap.size (.string ⟨#[]⟩) (.string ⟨#[]⟩) (.slice none 0 0) (.string ⟨#[]⟩) → Own4 w2 w.heap.size (.string ⟨#[]⟩) (.string ⟨#[]⟩) (.slice none 0 0) (.string ⟨#[]⟩)) := fun h => h.below hb2
  have hE2 : ErrT w2 := HR.out.below hb12 hrl
  have HO2' : Hid (Own4 w2 w.heap.size (.string ⟨#[]⟩) (.string ⟨#[]⟩) (.slice none 0 0) (.string ⟨#[]⟩)) := HO2.out HO.out
  obtain ⟨w3, hw3⟩ : ∃ w3, w3 = w2.alloc (.cells #[.string M, .string T, .slice a k q, .string Bd] 25) := ⟨_, rfl⟩
  have hb23 : Below w2.heap.size w2 w3 := by rw [hw3]; exact (Below.refl _ _).alloc (Nat.le_refl _) _
  have HX3 : Hid (Own4 w3 w2.heap.size (.string M) (.string T) (.slice a k q) (.string Bd)) := by rw [hw3]; exact Rqb.Own4.made w2 _ _ _ _ _
  have HO3 : Hid (Own4 w3 w.heap.size (.string ⟨#[]⟩) (.string ⟨#[]⟩) (.slice none 0 0) (.string ⟨#[]⟩)) := HO2'.out.below hb23
  have hb13 := hb12.trans (hb23.mono hb12.size)
  have hE3 : ErrT w3 := HR.out.below hb13 hrl
  have hws : w.heap.size < w2.heap.size := World.block_lt_of_cell? _ _ HO2'.out.2.1
  have hne : w2.heap.size ≠ w.heap.size := by omega
  have hWB := hsW
  clear h hk HO2 HO hE2
  go_wp2_with fail
  rw [← hw3]
  clear hw3
  obtain ⟨f3, p0, p1, p2, p3⟩ := HO3.out
  obtain ⟨g3, q0, q1, q2, q3⟩ := HX3.out
  go_region_with (go_at_call 50; go_loud (refine (HC.out c _ (by exact hE3)).mono ?_; rintro e w4 ⟨rfl, hb4'⟩; have hb4 : Below w3.heap.size w3 w4 := (by first | exact hb4' | exact (Below.refl _ _).drew.trans hb4'); have hb14 := hb13.trans (hb4.mono hb13.size); obtain ⟨f4, p0', p1', p2', p3'⟩ := HO3.out.below hb4; obtain ⟨g4, q0', q1', q2', q3'⟩ := HX3.out.below hb4; clear hb4'))
  all_goals
    clear f3 p0 p1 p2 p3 g3 q0 q1 q2 q3
    go_wp2_with fail
    exact bodyPost_ret (v := .tuple #[.agg #[.string M, .string T, .slice a k q, .string Bd], .int .i64 N, .int .i64 c]) (by simp [results, Tryz.results16, go_sem, p0', p1', p2', p3']) rfl ⟨HK.out _ _ (fun F hF => (ff_set (ff_set (ff_set (ff_set ((hF.below hb23).below hb4) (by omega) _) (by omega) _) (by omega) _) (by omega) _).base (by omega)), (((hb14.setCell (Nat.le_refl _) _).setCell (Nat.le_refl _) _).setCell (Nat.le_refl _) _).setCell (Nat.le_refl _) _⟩

end Go.Proofs.YtaplkbkpgdpbaaaGreatDoor.Tkr
