/-
  Walks: HostOf of both programs.
-/
import Derived.Test.YtaplkbkpgdpbaaaGreatDoorRqs
namespace Go.Proofs.YtaplkbkpgdpbaaaGreatDoor.Rqb
open Go.RowKit
open Go.Proofs.YtaplkbkpgdpbaaaGreatDoor.Fbs
open Go.Proofs.YtaplkbkpgdpbaaaGreatDoor.Fch
open Go.Proofs.YtaplkbkpgdpbaaaGreatDoor.Ows
open Go.Proofs.YtaplkbkpgdpbaaaGreatDoor.Fdb
open Go.Proofs.YtaplkbkpgdpbaaaGreatDoor.Fvs
open Go.Proofs.YtaplkbkpgdpbaaaGreatDoor.Lnp
open Go.Proofs.YtaplkbkpgdpbaaaGreatDoor.Mrk (TV RowT tv_of)

def hostN : ByteArray := ⟨#[104, 111, 115, 116]⟩
/-- What HostOf answers. -/
def hoO (M T : ByteArray) (l : List (ByteArray × ByteArray)) (B : ByteArray) : ByteArray × Bool :=
  if h : rqB M T l B = true ∧ (valsOf hostN l).length = 1 then ((valsOf hostN l)[0]'(by omega), true) else (⟨#[]⟩, false)
theorem ho_no {M T B : ByteArray} {l : List (ByteArray × ByteArray)} (h : ¬ (rqB M T l B = true ∧ (valsOf hostN l).length = 1)) : hoO M T l B = (⟨#[]⟩, false) := by unfold hoO; rw [dif_neg h]
theorem ho_yes {M T B : ByteArray} {l : List (ByteArray × ByteArray)} {x : ByteArray} (h : rqB M T l B = true) (h2 : valsOf hostN l = [x]) : hoO M T l B = (x, true) := by
  unfold hoO
  rw [dif_pos ⟨h, by rw [h2]; rfl⟩]
  simp [h2]

set_option maxHeartbeats 1600000 in
theorem implHost_any (M T B : ByteArray) (a : Option Addr) (ca : Nat) (l : List (ByteArray × ByteArray)) (b : Addr) (w : World) (lo hi : Nat) (hT : Tab w) (hE : w.cell? ⟨0, 0, none⟩ = some (sent b)) (hM : M.size ≤ 2000000) (hTs : T.size ≤ 2000000) (hz : SzF l) (hca : l.length ≤ ca) (ha : FV w a l lo hi) :
    Calls Tryz.prog 43 #[.agg #[.string M, .string T, .slice a l.length ca, .string B]] w fun e w' => e = .returned (.tuple #[.string (hoO M T l B).1, .bool (hoO M T l B).2]) ∧ Below w.heap.size w w' := by
  have hgt := hT.lt
  have het := World.block_lt_of_cell? _ _ hE
  have hb1 : Below w.heap.size w (w.alloc (.cells #[.string M, .string T, .slice a l.length ca, .string B] 25)) := (Below.refl _ _).alloc (Nat.le_refl _) _
  have HX : Hid (BoxR (w.alloc (.cells #[.string M, .string T, .slice a l.length ca, .string B] 25)) w.heap.size M T a l.length ca B) := BoxR.made w M T a l.length ca B _
  have HA1 : Hid (FV _ a l lo hi) := ha.below hb1
  have HT1 : Hid (Tab _) := hT.below hb1 hgt
  have HG := implGoodR_any M T B a ca l b (w.alloc (.cells #[.string M, .string T, .slice a l.length ca, .string B] 25)) lo hi HT1.out ((hb1.cell (p := ⟨0, 0, none⟩) het).trans hE) hM hTs hz hca HA1.out
  cases hq : rqB M T l B
  · rw [hq] at HG
    rw [ho_no (by simp [hq])]
    have HG1 : Hid _ := HG
    clear HG hq hE hz
    go_enter Tryz.func43, Tryz.ntmps43
    go_wp2_with fail
    refine (Calls.mono HG1.out ?_)
    rintro e w2 ⟨rfl, hb2⟩
    have hb12 := hb1.trans (hb2.mono hb1.size)
    go_wp2_with fail
    go_ret2
    exact ⟨rfl, hb12⟩
  rw [hq] at HG
  have hg : goodL l = true := by
    unfold rqB at hq
    simp only [Bool.and_eq_true] at hq
    exact hq.2.2.1
  have HV : Hid (∀ w, Tab w → FV w a l lo hi → Calls Tryz.prog 78 #[.slice a l.length ca, .string hostN] w fun e w' => Lsp.Told w' w.heap.size e (some (valsOf hostN l)) ∧ Below w.heap.size w w') := by
    intro w t h
    have := Vof.implVals_any a ca l hostN w lo hi t (by decide) hz hca h
    rwa [Vof.valO_is hg (by decide)] at this
  have hlen : (valsOf hostN l).length ≤ 40 := Nat.le_trans (valsOf_len hostN l) (goodL_all hg).1
  have HN : Hid (∀ x, valsOf hostN l = [x] → hoO M T l B = (x, true)) := fun x h => ho_yes hq h
  have HO : Hid ((valsOf hostN l).length ≠ 1 → hoO M T l B = (⟨#[]⟩, false)) := fun h => ho_no (fun h' => h h'.2)
  generalize hoO M T l B = R at HN HO ⊢
  generalize valsOf hostN l = vs at HV hlen HN HO
  have HG1 : Hid _ := HG
  clear HG hq hE hz hg
  by_cases h1 : vs.length = 1
  · obtain ⟨x, rfl⟩ := List.length_eq_one_iff.1 h1
    rw [HN.out x rfl]
    clear HN HO h1 hlen
    go_enter Tryz.func43, Tryz.ntmps43
    go_wp2_with fail
    refine (Calls.mono HG1.out ?_)
    rintro e w2 ⟨rfl, hb2⟩
    have hb12 := hb1.trans (hb2.mono hb1.size)
    obtain ⟨x0, x1, x2, x3⟩ := HX.out.below hb2
    have ha2 := HA1.out.below hb2
    have hT2 := HT1.out.below hb2 (by have := hb1.size; omega)
    clear hb2
    go_wp2_with fail
    refine (HV.out _ hT2 ha2).mono ?_
    rintro e w3 ⟨⟨v, rfl, hown⟩, hb3⟩
    obtain ⟨a3, c3, rfl, T3⟩ := tv_of hown
    rcases T3 with T3 | ⟨g3, rfl, _, _, gb⟩
    · cases T3
    have hc0 := gb.2.2 0 x rfl
    have hb13 := hb12.trans (hb3.mono hb12.size)
    clear hown gb
    go_wp2_with fail
    go_ret2
    exact ⟨rfl, hb13⟩
  · have hne : ((vs.length : Int) != 1) = true := by rw [bne_iff_ne]; omega
    rw [HO.out h1]
    clear HN HO
    go_enter Tryz.func43, Tryz.ntmps43
    go_wp2_with fail
    refine (Calls.mono HG1.out ?_)
    rintro e w2 ⟨rfl, hb2⟩
    have hb12 := hb1.trans (hb2.mono hb1.size)
    obtain ⟨x0, x1, x2, x3⟩ := HX.out.below hb2
    have ha2 := HA1.out.below hb2
    have hT2 := HT1.out.below hb2 (by have := hb1.size; omega)
    clear hb2
    go_wp2_with fail
    refine (HV.out _ hT2 ha2).mono ?_
    rintro e w3 ⟨⟨v, rfl, hown⟩, hb3⟩
    obtain ⟨a3, c3, rfl, _⟩ := tv_of hown
    have hb13 := hb12.trans (hb3.mono hb12.size)
    clear hown
    go_wp2_with fail
    go_ret2
    exact ⟨rfl, hb13⟩

set_option maxHeartbeats 1600000 in
theorem specHost_any (M T B : ByteArray) (a : Option Addr) (ca : Nat) (l : List (ByteArray × ByteArray)) (w : World) (lo hi : Nat) (hM : M.size ≤ 2000000) (hTs : T.size ≤ 2000000) (hl : l.length ≤ 2000000) (hz : SzF l) (ha : FV w a l lo hi) :
    Calls Tryz.prog 42 #[.agg #[.string M, .string T, .slice a l.length ca, .string B]] w fun e w' => e = .returned (.tuple #[.string (hoO M T l B).1, .bool (hoO M T l B).2]) ∧ Below w.heap.size w w' := by
  have hb1 : Below w.heap.size w (w.alloc (.cells #[.string M, .string T, .slice a l.length ca, .string B] 25)) := (Below.refl _ _).alloc (Nat.le_refl _) _
  have HX : Hid (BoxR (w.alloc (.cells #[.string M, .string T, .slice a l.length ca, .string B] 25)) w.heap.size M T a l.length ca B) := BoxR.made w M T a l.length ca B _
  have HA1 : Hid (FV _ a l lo hi) := ha.below hb1
  have HV : Hid (∀ w, FV w a l lo hi → Calls Tryz.prog 77 #[.slice a l.length ca, .string hostN] w fun e w' => (∃ v, e = .returned v ∧ textsIn w' w.heap.size v (valsOf hostN l)) ∧ Below w.heap.size w w') := fun w h => l3Values_any a ca l hostN w lo hi hl (by decide) hz h
  have HG : Hid (∀ w, FV w a l lo hi → Calls Tryz.prog 30 #[.agg #[.string M, .string T, .slice a l.length ca, .string B]] w fun e w' => e = .returned (.bool (rqB M T l B)) ∧ Below w.heap.size w w') := fun w h => specGoodR_any M T B a ca l w lo hi hM hTs hl hz h
  have HN : Hid (∀ x, rqB M T l B = true → valsOf hostN l = [x] → hoO M T l B = (x, true)) := fun x hq h => ho_yes hq h
  have HO : Hid (¬ (rqB M T l B = true ∧ (valsOf hostN l).length = 1) → hoO M T l B = (⟨#[]⟩, false)) := fun h => ho_no h
  have hlen : (valsOf hostN l).length ≤ 2000000 := Nat.le_trans (valsOf_len hostN l) hl
  generalize hoO M T l B = R at HN HO ⊢
  generalize valsOf hostN l = vs at HV HN HO hlen
  clear hz
  cases hq : rqB M T l B
  · rw [hq] at HG HO
    rw [HO.out (by simp)]
    clear HO HN
    go_enter Tryz.func42, Tryz.ntmps42
    go_wp2_with fail
    refine (HV.out _ HA1.out).mono ?_
    rintro e w2 ⟨⟨v, rfl, hown⟩, hb2⟩
    obtain ⟨a3, c3, rfl, _⟩ := tv_of hown
    have hb12 := hb1.trans (hb2.mono hb1.size)
    obtain ⟨x0, x1, x2, x3⟩ := HX.out.below hb2
    have ha2 := HA1.out.below hb2
    clear hb2 hown
    go_wp2_with fail
    refine (HG.out _ ha2).mono ?_
    rintro e w3 ⟨rfl, hb3⟩
    have hb13 := hb12.trans (hb3.mono hb12.size)
    go_wp2_with fail
    go_ret2
    exact ⟨rfl, hb13⟩
  rw [hq] at HG HO HN
  by_cases h1 : vs.length = 1
  · obtain ⟨x, rfl⟩ := List.length_eq_one_iff.1 h1
    rw [HN.out x rfl rfl]
    clear HN HO h1
    go_enter Tryz.func42, Tryz.ntmps42
    go_wp2_with fail
    refine (HV.out _ HA1.out).mono ?_
    rintro e w2 ⟨⟨v, rfl, hown⟩, hb2⟩
    obtain ⟨a3, c3, rfl, T3⟩ := tv_of hown
    rcases T3 with T3 | ⟨g3, rfl, _, _, gb⟩
    · cases T3
    have hb12 := hb1.trans (hb2.mono hb1.size)
    obtain ⟨x0, x1, x2, x3⟩ := HX.out.below hb2
    have ha2 := HA1.out.below hb2
    clear hb2 hown
    go_wp2_with fail
    refine (HG.out _ ha2).mono ?_
    rintro e w3 ⟨rfl, hb3⟩
    have hc0 := (gb.below hb3).2.2 0 x rfl
    have hb13 := hb12.trans (hb3.mono hb12.size)
    clear gb
    go_wp2_with fail
    go_ret2
    exact ⟨rfl, hb13⟩
  · have hne : ((vs.length : Int) != 1) = true := by rw [bne_iff_ne]; omega
    rw [HO.out (by simp [h1])]
    clear HN HO
    go_enter Tryz.func42, Tryz.ntmps42
    go_wp2_with fail
    refine (HV.out _ HA1.out).mono ?_
    rintro e w2 ⟨⟨v, rfl, hown⟩, hb2⟩
    obtain ⟨a3, c3, rfl, _⟩ := tv_of hown
    have hb12 := hb1.trans (hb2.mono hb1.size)
    obtain ⟨x0, x1, x2, x3⟩ := HX.out.below hb2
    have ha2 := HA1.out.below hb2
    clear hb2 hown
    go_wp2_with fail
    refine (HG.out _ ha2).mono ?_
    rintro e w3 ⟨rfl, hb3⟩
    have hb13 := hb12.trans (hb3.mono hb12.size)
    go_wp2_with fail
    go_ret2
    exact ⟨rfl, hb13⟩

end Go.Proofs.YtaplkbkpgdpbaaaGreatDoor.Rqb
