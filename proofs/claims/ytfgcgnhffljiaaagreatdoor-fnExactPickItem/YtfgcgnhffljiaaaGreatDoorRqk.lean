/-
  Walks: impl.requestHead, impl.checkHead, impl.checkRequest, impl.GoodRequest.
-/
import Derived.Test.YtfgcgnhffljiaaaGreatDoorRqj
namespace Go.Proofs.YtfgcgnhffljiaaaGreatDoor.Rqb
open Go.RowKit
open Go.Proofs.YtfgcgnhffljiaaaGreatDoor.Fbs
open Go.Proofs.YtfgcgnhffljiaaaGreatDoor.Fch
open Go.Proofs.YtfgcgnhffljiaaaGreatDoor.Fdb
open Go.Proofs.YtfgcgnhffljiaaaGreatDoor.Fvs
open Go.Proofs.YtfgcgnhffljiaaaGreatDoor.Lnp

/-- A request in a block of its own. -/
def BoxR (w : World) (g : Nat) (M T : ByteArray) (a : Option Addr) (n ca : Nat) (B : ByteArray) : Prop :=
  w.cell? ⟨g, 0, none⟩ = some (.string M) ∧ w.cell? ⟨g, 1, none⟩ = some (.string T) ∧ w.cell? ⟨g, 2, none⟩ = some (.slice a n ca) ∧ w.cell? ⟨g, 3, none⟩ = some (.string B)
theorem BoxR.below {w w' : World} {g : Nat} {M T : ByteArray} {a : Option Addr} {n ca : Nat} {B : ByteArray} (h : BoxR w g M T a n ca B) (hb : Below w.heap.size w w') : BoxR w' g M T a n ca B := by
  have hg := World.block_lt_of_cell? _ _ h.1
  have e : ∀ i, w'.cell? ⟨g, i, none⟩ = w.cell? ⟨g, i, none⟩ := fun i => hb.cell (p := ⟨g, i, none⟩) hg
  exact ⟨(e 0).trans h.1, (e 1).trans h.2.1, (e 2).trans h.2.2.1, (e 3).trans h.2.2.2⟩
theorem BoxR.made (w : World) (M T : ByteArray) (a : Option Addr) (n ca : Nat) (B : ByteArray) (t : TypeId) : BoxR (w.alloc (.cells #[.string M, .string T, .slice a n ca, .string B] t)) w.heap.size M T a n ca B := by
  refine ⟨?_, ?_, ?_, ?_⟩ <;> simp [go_sem]

def vers : ByteArray := ⟨#[72, 84, 84, 80, 47, 49, 46, 49]⟩
/-- The first line of a request. -/
def firstR (M T : ByteArray) : ByteArray := spc3 M T vers

set_option maxHeartbeats 800000 in
theorem requestHead_any (M T B : ByteArray) (a : Option Addr) (ca : Nat) (l : List (ByteArray × ByteArray)) (w : World) (lo hi : Nat) (hs : M.size + T.size ≤ 4000000) (hl : l.length ≤ 40) (hz : SzF l) (ha : FV w a l lo hi) :
    Calls Tryz.prog 133 #[.agg #[.string M, .string T, .slice a l.length ca, .string B]] w fun e w' => e = .returned (.string (headS (firstR M T) l)) ∧ Below w.heap.size w w' := by
  have hv : (⟨#[72, 84, 84, 80, 47, 49, 46, 49]⟩ : ByteArray).size = 8 := rfl
  have HJ : Hid (∀ g0 w, w.cell? ⟨g0, 0, none⟩ = some (.string M) → w.cell? ⟨g0, 1, none⟩ = some (.string T) → w.cell? ⟨g0, 2, none⟩ = some (.string ⟨#[72, 84, 84, 80, 47, 49, 46, 49]⟩) → FV w a l lo hi →
      Calls Tryz.prog 142 #[.slice a l.length ca, .slice (some ⟨g0, 0, none⟩) 3 3] w fun e w' => e = .returned (.string (headS (firstR M T) l)) ∧ Below w.heap.size w w') :=
    fun g0 w h1 h2 h3 h4 => joinHead_any a ca l g0 M T vers w lo hi h1 h2 h3 (by show _ + _ + 8 ≤ _; omega) hl hz h4
  generalize headS (firstR M T) l = R at HJ ⊢
  have hb1 : Below w.heap.size w (w.alloc (.cells #[.string M, .string T, .slice a l.length ca, .string B] 54)) := (Below.refl _ _).alloc (Nat.le_refl _) _
  have hb2 := hb1.alloc hb1.size (.cells #[.string M, .string T, .string ⟨#[72, 84, 84, 80, 47, 49, 46, 49]⟩] 9)
  have ha2 := ha.below hb2
  go_enter Tryz.func133, Tryz.ntmps133
  go_wp2_with fail
  refine (HJ.out _ _ (by simp [go_sem]) (by simp [go_sem]) (by simp [go_sem]) ha2).mono ?_
  rintro e w3 ⟨rfl, hb3⟩
  have hb4 := hb2.trans (hb3.mono hb2.size)
  go_wp2_with fail
  go_ret
  exact ⟨rfl, hb4⟩

/-- Whether a head is too long, as a fault. -/
def hdC (s : ByteArray) : Int := if 2000 < (s.size : Int) then 5 else 0
theorem checkHead_any (s : ByteArray) (w : World) :
    Calls Tryz.prog 111 #[.string s] w fun e w' => e = .returned (errV (hdC s)) ∧ Below w.heap.size w w' := by
  by_cases h : 2000 < (s.size : Int)
  · have hd : decide (2000 < (s.size : Int)) = true := decide_eq_true h
    have HR : Hid (errV (hdC s) = .iface 139 (.agg #[.int .i64 5])) := by show _ = _; unfold hdC; rw [if_pos h]; rfl
    generalize errV (hdC s) = R at HR ⊢
    go_enter Tryz.func111, Tryz.ntmps111
    go_wp2_with fail
    go_ret
    exact ⟨ret_v HR.out, by first | exact Below.refl _ _ | exact (Below.refl _ _).alloc (Nat.le_refl _) _⟩
  · have hd : decide (2000 < (s.size : Int)) = false := decide_eq_false h
    have HR : Hid (errV (hdC s) = .nilIface) := by show _ = _; unfold hdC; rw [if_neg h]; rfl
    generalize errV (hdC s) = R at HR ⊢
    go_enter Tryz.func111, Tryz.ntmps111
    go_wp2_with fail
    go_ret
    exact ⟨ret_v HR.out, Below.refl _ _⟩

/-- The first fault of a request, 0 for none. -/
def rqC (M T : ByteArray) (l : List (ByteArray × ByteArray)) (B : ByteArray) : Int :=
  if mthB M && tgtB T then (if fbC l B = 0 then hdC (headS (firstR M T) l) else fbC l B) else 2
/-- Whether a request is good. -/
def rqB (M T : ByteArray) (l : List (ByteArray × ByteArray)) (B : ByteArray) : Bool :=
  mthB M && (tgtB T && (goodL l && (frB l B && decide (((headS (firstR M T) l).size : Int) ≤ 2000))))
theorem rq_is (M T : ByteArray) (l : List (ByteArray × ByteArray)) (B : ByteArray) : rqB M T l B = decide (rqC M T l B = 0) := by
  have h := fr_fb l B
  unfold rqB rqC
  rw [← Bool.and_assoc (goodL l), h]
  cases mthB M
  · simp
  cases tgtB T
  · simp
  by_cases hf : fbC l B = 0
  · simp only [Bool.and_self, Bool.true_and, if_true, if_pos hf]
    rw [decide_eq_true hf, Bool.true_and]
    unfold hdC
    by_cases h2 : 2000 < ((headS (firstR M T) l).size : Int)
    · rw [if_pos h2, decide_eq_false (by omega)]; rfl
    · rw [if_neg h2, decide_eq_true (by omega)]; rfl
  · simp only [Bool.and_self, Bool.true_and, if_true, if_neg hf]
    rw [decide_eq_false hf, Bool.false_and]
    

set_option maxRecDepth 20000 in
set_option maxHeartbeats 3200000 in
theorem checkRequest_any (M T B : ByteArray) (a : Option Addr) (ca : Nat) (l : List (ByteArray × ByteArray)) (b : Addr) (w : World) (lo hi : Nat) (hT : Tab w) (hE : w.cell? ⟨1, 0, none⟩ = some (sent b)) (hM : M.size ≤ 2000000) (hTs : T.size ≤ 2000000) (hz : SzF l) (hca : l.length ≤ ca) (ha : FV w a l lo hi) :
    Calls Tryz.prog 98 #[.agg #[.string M, .string T, .slice a l.length ca, .string B]] w fun e w' => e = .returned (errV (rqC M T l B)) ∧ Below w.heap.size w w' := by
  have hgt := hT.lt
  have het := World.block_lt_of_cell? _ _ hE
  have hb1 : Below w.heap.size w (w.alloc (.cells #[.string M, .string T, .slice a l.length ca, .string B] 54)) := (Below.refl _ _).alloc (Nat.le_refl _) _
  have HX : Hid (BoxR (w.alloc (.cells #[.string M, .string T, .slice a l.length ca, .string B] 54)) w.heap.size M T a l.length ca B) := BoxR.made w M T a l.length ca B _
  have HK : Hid _ := fun w t => isToken_any M w t
  have HT : Hid (∀ w, Calls Tryz.prog 132 #[.string T] w fun e w' => e = .returned (.bool (tgtB T)) ∧ w' = w) := fun w => isTarget_any T w hTs
  have hT1 : Tab _ := hT.below hb1 hgt
  have HT1 : Hid (Tab _) := hT1
  have hE1 := (hb1.cell (p := ⟨1, 0, none⟩) het).trans hE
  have HE1 : Hid _ := hE1
  have ha1 := ha.below hb1
  have HA1 : Hid (FV _ a l lo hi) := ha1
  clear hE1 hT1 ha1
  by_cases h10' : 10 < (M.size : Int)
  · have h10 : ¬ (M.size : Int) ≤ 10 := by omega
    have hd : decide (10 < (M.size : Int)) = true := decide_eq_true (by omega)
    have HR : Hid (errV (rqC M T l B) = .iface 139 (.agg #[.int .i64 2])) := by
      show _ = _; unfold rqC mthB; rw [decide_eq_false h10, Bool.and_false]; rfl
    generalize errV (rqC M T l B) = R at HR ⊢
    clear hz hE
    go_enter Tryz.func98, Tryz.ntmps98
    go_wp2_with fail
    go_ret
    exact ⟨ret_v HR.out, by first | exact hb1 | exact hb1.alloc hb1.size _⟩
  have h10 : (M.size : Int) ≤ 10 := by omega
  have hd : decide (10 < (M.size : Int)) = false := decide_eq_false (by omega)
  cases htk : tokenB M.data.toList
  · rw [htk] at HK
    have HR : Hid (errV (rqC M T l B) = .iface 139 (.agg #[.int .i64 2])) := by
      show _ = _; unfold rqC mthB; rw [htk]; rfl
    generalize errV (rqC M T l B) = R at HR ⊢
    clear hz hE
    go_enter Tryz.func98, Tryz.ntmps98
    go_wp2_with fail
    refine (HK.out _ HT1.out).mono ?_
    rintro e w2 ⟨rfl, hw⟩
    obtain rfl := hw.symm
    go_wp2_with fail
    go_ret
    exact ⟨ret_v HR.out, by first | exact hb1 | exact hb1.alloc hb1.size _⟩
  rw [htk] at HK
  cases htg : tgtB T
  · rw [htg] at HT
    have HR : Hid (errV (rqC M T l B) = .iface 139 (.agg #[.int .i64 2])) := by
      show _ = _; unfold rqC; rw [htg, Bool.and_false]; rfl
    generalize errV (rqC M T l B) = R at HR ⊢
    clear hz hE
    go_enter Tryz.func98, Tryz.ntmps98
    go_wp2_with fail
    refine (HK.out _ HT1.out).mono ?_
    rintro e w2 ⟨rfl, hw⟩
    obtain rfl := hw.symm
    go_wp2_with fail
    refine (HT.out _).mono ?_
    rintro e w2 ⟨rfl, hw⟩
    obtain rfl := hw.symm
    go_wp2_with fail
    go_ret
    exact ⟨ret_v HR.out, by first | exact hb1 | exact hb1.alloc hb1.size _⟩
  rw [htg] at HT
  have hRC : rqC M T l B = if fbC l B = 0 then hdC (headS (firstR M T) l) else fbC l B := by
    unfold rqC mthB; rw [htk, htg, decide_eq_true h10]; rfl
  have HC : Hid _ := checkFB_any a ca l B b (w.alloc (.cells #[.string M, .string T, .slice a l.length ca, .string B] 54)) lo hi HT1.out HE1.out hz hca HA1.out
  by_cases hf : fbC l B ≠ 0
  · rw [if_neg hf] at hRC
    rw [hRC]
    have HC1 : Hid (Calls Tryz.prog 110 #[.slice a l.length ca, .string B] (w.alloc (.cells #[.string M, .string T, .slice a l.length ca, .string B] 54)) fun e w' => e = .returned (.iface 139 (.agg #[.int .i64 (fbC l B)])) ∧ Below (w.alloc (.cells #[.string M, .string T, .slice a l.length ca, .string B] 54)).heap.size (w.alloc (.cells #[.string M, .string T, .slice a l.length ca, .string B] 54)) w') := by
      have := HC.out
      rwa [err_some hf] at this
    rw [err_some hf]
    generalize fbC l B = C at *
    clear hz hE hRC HC hf
    go_enter Tryz.func98, Tryz.ntmps98
    go_wp2_with fail
    refine (HK.out _ HT1.out).mono ?_
    rintro e w2 ⟨rfl, hw⟩
    obtain rfl := hw.symm
    go_wp2_with fail
    refine (HT.out _).mono ?_
    rintro e w2 ⟨rfl, hw⟩
    obtain rfl := hw.symm
    go_wp2_with fail
    refine (Calls.mono HC1.out ?_)
    rintro e w3 ⟨rfl, hb3⟩
    have hb13 := hb1.trans (hb3.mono hb1.size)
    go_wp2_with fail
    go_ret
    exact ⟨rfl, hb13⟩
  · have hf : fbC l B = 0 := Decidable.not_not.1 hf
    rw [if_pos hf] at hRC
    rw [hRC]
    have HC1 : Hid (Calls Tryz.prog 110 #[.slice a l.length ca, .string B] (w.alloc (.cells #[.string M, .string T, .slice a l.length ca, .string B] 54)) fun e w' => e = .returned .nilIface ∧ Below (w.alloc (.cells #[.string M, .string T, .slice a l.length ca, .string B] 54)).heap.size (w.alloc (.cells #[.string M, .string T, .slice a l.length ca, .string B] 54)) w') := by
      have := HC.out
      rwa [hf, err_none] at this
    have h40 : l.length ≤ 40 := by
      have hg : goodL l = true := by
        cases hg : goodL l
        · rw [fb_bad hg] at hf; cases hf
        · rfl
      exact (goodL_all hg).1
    have HH : Hid _ := fun w h => requestHead_any M T B a ca l w lo hi (by omega) h40 hz h
    have HD : Hid _ := fun w => checkHead_any (headS (firstR M T) l) w
    generalize headS (firstR M T) l = H at HH HD ⊢
    generalize errV (hdC H) = R at HD ⊢
    clear hz hE hRC HC hf
    go_enter Tryz.func98, Tryz.ntmps98
    go_wp2_with fail
    refine (HK.out _ HT1.out).mono ?_
    rintro e w2 ⟨rfl, hw⟩
    obtain rfl := hw.symm
    go_wp2_with fail
    refine (HT.out _).mono ?_
    rintro e w2 ⟨rfl, hw⟩
    obtain rfl := hw.symm
    go_wp2_with fail
    refine (Calls.mono HC1.out ?_)
    rintro e w3 ⟨rfl, hb3⟩
    have hb13 := hb1.trans (hb3.mono hb1.size)
    obtain ⟨x0, x1, x2, x3⟩ := HX.out.below hb3
    have ha3 := HA1.out.below hb3
    clear hb3
    go_wp2_with fail
    refine (HH.out _ ha3).mono ?_
    rintro e w4 ⟨rfl, hb4⟩
    have hb14 := hb13.trans (hb4.mono hb13.size)
    go_wp2_with fail
    refine (HD.out _).mono ?_
    rintro e w5 ⟨rfl, hb5⟩
    have hb15 := hb14.trans (hb5.mono hb14.size)
    go_wp2_with fail
    go_ret
    exact ⟨rfl, hb15⟩

set_option maxHeartbeats 800000 in
theorem implGoodR_any (M T B : ByteArray) (a : Option Addr) (ca : Nat) (l : List (ByteArray × ByteArray)) (b : Addr) (w : World) (lo hi : Nat) (hT : Tab w) (hE : w.cell? ⟨1, 0, none⟩ = some (sent b)) (hM : M.size ≤ 2000000) (hTs : T.size ≤ 2000000) (hz : SzF l) (hca : l.length ≤ ca) (ha : FV w a l lo hi) :
    Calls Tryz.prog 57 #[.agg #[.string M, .string T, .slice a l.length ca, .string B]] w fun e w' => e = .returned (.bool (rqB M T l B)) ∧ Below w.heap.size w w' := by
  have hgt := hT.lt
  have het := World.block_lt_of_cell? _ _ hE
  have hb1 : Below w.heap.size w (w.alloc (.cells #[.string M, .string T, .slice a l.length ca, .string B] 54)) := (Below.refl _ _).alloc (Nat.le_refl _) _
  have HC := checkRequest_any M T B a ca l b (w.alloc (.cells #[.string M, .string T, .slice a l.length ca, .string B] 54)) lo hi (hT.below hb1 hgt) ((hb1.cell (p := ⟨1, 0, none⟩) het).trans hE) hM hTs hz hca (ha.below hb1)
  rw [rq_is]
  by_cases hc : rqC M T l B = 0
  · rw [hc, err_none] at HC
    rw [decide_eq_true hc]
    have HC1 : Hid _ := HC
    clear HC hc hE hz
    go_enter Tryz.func57, Tryz.ntmps57
    go_wp2_with fail
    refine (Calls.mono HC1.out ?_)
    rintro e w2 ⟨rfl, hb2⟩
    have hb12 := hb1.trans (hb2.mono hb1.size)
    go_wp2_with fail
    go_ret
    exact ⟨rfl, hb12⟩
  · rw [err_some hc] at HC
    rw [decide_eq_false hc]
    have HC1 : Hid _ := HC
    clear HC hc hE hz
    go_enter Tryz.func57, Tryz.ntmps57
    go_wp2_with fail
    refine (Calls.mono HC1.out ?_)
    rintro e w2 ⟨rfl, hb2⟩
    have hb12 := hb1.trans (hb2.mono hb1.size)
    go_wp2_with fail
    go_ret
    exact ⟨rfl, hb12⟩

end Go.Proofs.YtfgcgnhffljiaaaGreatDoor.Rqb
