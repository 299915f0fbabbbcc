/-
  Walks: impl.responseHead, impl.checkResponse, impl.GoodResponse.
-/
import Derived.Test.YtfgcgnhffljiaaaGreatDoorRqk
import Derived.Test.YtfgcgnhffljiaaaGreatDoorNum
import Derived.Deep.RegionHeld
namespace Go.Proofs.YtfgcgnhffljiaaaGreatDoor.Rsb
open Go.RowKit
open Go.Proofs.YtfgcgnhffljiaaaGreatDoor.Fbs
open Go.Proofs.YtfgcgnhffljiaaaGreatDoor.Fch
open Go.Proofs.YtfgcgnhffljiaaaGreatDoor.Fdb
open Go.Proofs.YtfgcgnhffljiaaaGreatDoor.Fvs
open Go.Proofs.YtfgcgnhffljiaaaGreatDoor.Lnp
open Go.Proofs.YtfgcgnhffljiaaaGreatDoor.Rqb
open Go.Proofs.YtfgcgnhffljiaaaGreatDoor.Num (num num_any itoa_any num_size_le tab_below tab_lt)

/-- A response in a block of its own. -/
def BoxP (w : World) (g : Nat) (S : Int) (R : ByteArray) (a : Option Addr) (n ca : Nat) (B : ByteArray) : Prop :=
  w.cell? ⟨g, 0, none⟩ = some (.int .i64 S) ∧ w.cell? ⟨g, 1, none⟩ = some (.string R) ∧ w.cell? ⟨g, 2, none⟩ = some (.slice a n ca) ∧ w.cell? ⟨g, 3, none⟩ = some (.string B)
theorem BoxP.below {w w' : World} {g : Nat} {S : Int} {R : ByteArray} {a : Option Addr} {n ca : Nat} {B : ByteArray} (h : BoxP w g S R a n ca B) (hb : Below w.heap.size w w') : BoxP w' g S R a n ca B := by
  have hg := World.block_lt_of_cell? _ _ h.1
  have e : ∀ i, w'.cell? ⟨g, i, none⟩ = w.cell? ⟨g, i, none⟩ := fun i => hb.cell (p := ⟨g, i, none⟩) hg
  exact ⟨(e 0).trans h.1, (e 1).trans h.2.1, (e 2).trans h.2.2.1, (e 3).trans h.2.2.2⟩
theorem BoxP.made (w : World) (S : Int) (R : ByteArray) (a : Option Addr) (n ca : Nat) (B : ByteArray) (t : TypeId) : BoxP (w.alloc (.cells #[.int .i64 S, .string R, .slice a n ca, .string B] t)) w.heap.size S R a n ca B := by
  refine ⟨?_, ?_, ?_, ?_⟩ <;> simp [go_sem]

abbrev PowT (w : World) : Prop := Lib.TabIs Tryz.prog w "internal/strconv.uint64pow10" .u64 Lib.pow10Tab
/-- The first line of a response. -/
def firstP (S : Int) (R : ByteArray) : ByteArray := spc3 vers (num S.toNat) R
theorem keep_first (W : World) : Below W.heap.size W W.drew := ⟨rfl, rfl, rfl, Nat.le_refl _, fun _ _ => rfl⟩
theorem and5 {a b c d e : Prop} (h : a ∧ b ∧ c ∧ d ∧ e) : e := h.2.2.2.2
theorem keep4 {W w0 w1 : World} {n : Nat} {u0 u1 u2 u3 : Option Value} (hn : n < W.heap.size) (h : w0.cell? ⟨n, 0, none⟩ = u0 ∧ w0.cell? ⟨n, 1, none⟩ = u1 ∧ w0.cell? ⟨n, 2, none⟩ = u2 ∧ w0.cell? ⟨n, 3, none⟩ = u3 ∧ Below W.heap.size W w0) (hb : Below w0.heap.size w0 w1) :
    w1.cell? ⟨n, 0, none⟩ = u0 ∧ w1.cell? ⟨n, 1, none⟩ = u1 ∧ w1.cell? ⟨n, 2, none⟩ = u2 ∧ w1.cell? ⟨n, 3, none⟩ = u3 ∧ Below W.heap.size W w1 := by
  obtain ⟨h0, h1, h2, h3, h4⟩ := h
  have e : ∀ i, w1.cell? ⟨n, i, none⟩ = w0.cell? ⟨n, i, none⟩ := fun i => hb.cell (p := ⟨n, i, none⟩) (Nat.lt_of_lt_of_le hn h4.size)
  exact ⟨(e 0).trans h0, (e 1).trans h1, (e 2).trans h2, (e 3).trans h3, h4.trans (hb.mono h4.size)⟩
theorem num_le {n : Nat} (h : n ≤ 599) : (num n).size ≤ 3 := num_size_le 2 n (by omega)

set_option maxHeartbeats 800000 in
theorem responseHead_any (S : Nat) (R B : ByteArray) (a : Option Addr) (ca : Nat) (l : List (ByteArray × ByteArray)) (w : World) (lo hi : Nat) (hP : PowT w) (hS : S ≤ 599) (hs : R.size ≤ 4000000) (hl : l.length ≤ 40) (hz : SzF l) (ha : FV w a l lo hi) :
    Calls Tryz.prog 112 #[.agg #[.int .i64 S, .string R, .slice a l.length ca, .string B]] w fun e w' => e = .returned (.string (headS (firstP S R) l)) ∧ Below w.heap.size w w' := by
  have hgp := tab_lt hP
  have hns := num_le hS
  have HJ : Hid (∀ g0 w, w.cell? ⟨g0, 0, none⟩ = some (.string ⟨#[72, 84, 84, 80, 47, 49, 46, 49]⟩) → w.cell? ⟨g0, 1, none⟩ = some (.string (num S)) → w.cell? ⟨g0, 2, none⟩ = some (.string R) → FV w a l lo hi →
      Calls Tryz.prog 142 #[.slice a l.length ca, .slice (some ⟨g0, 0, none⟩) 3 3] w fun e w' => e = .returned (.string (headS (firstP S R) l)) ∧ Below w.heap.size w w') :=
    fun g0 w h1 h2 h3 h4 => joinHead_any a ca l g0 vers (num S) R w lo hi h1 h2 h3 (by show 8 + _ + _ ≤ _; omega) hl hz h4
  have HI : Hid (∀ w, PowT w → Calls Tryz.prog 143 #[.int .i64 S] w fun e w' => e = .returned (.string (num S)) ∧ Below w.heap.size w w') := fun w h => itoa_any S w (by omega) h
  generalize headS (firstP S R) l = Hd at HJ ⊢
  generalize num S = N at HJ HI
  obtain ⟨W, hW⟩ : ∃ W, W = (w.alloc (.cells #[.int .i64 S, .string R, .slice a l.length ca, .string B] 31)) := ⟨_, rfl⟩
  have hn : w.heap.size < W.heap.size := by rw [hW]; simp
  have hb1 : Below w.heap.size w W := by rw [hW]; exact (Below.refl _ _).alloc (Nat.le_refl _) _
  have HX : Hid (BoxP W w.heap.size S R a l.length ca B) := by rw [hW]; exact BoxP.made w S R a l.length ca B _
  obtain ⟨x0, x1, x2, x3⟩ := HX.out
  have HP1 : Hid (PowT W) := tab_below hP hb1 hgp
  have HA1 : Hid (FV W a l lo hi) := ha.below hb1
  have hgp1 := tab_lt HP1.out
  clear hns hz ha hP
  go_enter Tryz.func112, Tryz.ntmps112
  go_wp2_with fail
  rw [← hW]
  clear hW
  go_region_held (fun w' => w'.cell? ⟨w.heap.size, 0, none⟩ = some (.int .i64 S) ∧ w'.cell? ⟨w.heap.size, 1, none⟩ = some (.string R) ∧ w'.cell? ⟨w.heap.size, 2, none⟩ = some (.slice a l.length ca) ∧ w'.cell? ⟨w.heap.size, 3, none⟩ = some (.string B) ∧ Below W.heap.size W w')
    (first
      | exact ⟨x0, x1, x2, x3, keep_first W⟩
      | assumption
      | exact keep4 hn (by assumption) (by assumption)
      | exact keep4 hn (by assumption) ((Below.refl _ _).alloc (Nat.le_refl _) _))
    (first
      | (go_at_call 143; with_reducible refine (HI.out _ (tab_below HP1.out (and5 (by assumption)) hgp1)).mono ?_; rintro e w2 ⟨rfl, hb2⟩)
      | (go_at_call 142; refine (HJ.out _ _ (by simp [go_sem]) (by simp [go_sem]) (by simp [go_sem]) (HA1.out.below (and5 (by assumption)))).mono ?_; rintro e w4 ⟨rfl, hb4⟩))
  all_goals
    go_wp2
    go_ret
    exact ⟨rfl, hb1.trans (Below.mono (and5 (by assumption) : Below W.heap.size W _) hb1.size)⟩

def stB (n : Int) : Bool := decide (100 ≤ n) && decide (n ≤ 599)
/-- The first fault of a response, 0 for none. -/
def rsC (S : Int) (R : ByteArray) (l : List (ByteArray × ByteArray)) (B : ByteArray) : Int :=
  if stB S && rsnB R then (if fbC l B = 0 then hdC (headS (firstP S R) l) else fbC l B) else 2
/-- Whether a response is good. -/
def rsB (S : Int) (R : ByteArray) (l : List (ByteArray × ByteArray)) (B : ByteArray) : Bool :=
  stB S && (rsnB R && (goodL l && (frB l B && decide (((headS (firstP S R) l).size : Int) ≤ 2000))))
theorem rs_is (S : Int) (R : ByteArray) (l : List (ByteArray × ByteArray)) (B : ByteArray) : rsB S R l B = decide (rsC S R l B = 0) := by
  have h := fr_fb l B
  unfold rsB rsC
  rw [← Bool.and_assoc (goodL l), h]
  cases stB S
  · simp
  cases rsnB R
  · simp
  by_cases hf : fbC l B = 0
  · simp only [Bool.and_self, Bool.true_and, if_true, if_pos hf]
    rw [decide_eq_true hf, Bool.true_and]
    unfold hdC
    by_cases h2 : 2000 < ((headS (firstP S R) l).size : Int)
    · rw [if_pos h2, decide_eq_false (by omega)]; rfl
    · rw [if_neg h2, decide_eq_true (by omega)]; rfl
  · simp only [Bool.and_self, Bool.true_and, if_true, if_neg hf]
    rw [decide_eq_false hf, Bool.false_and]

set_option maxRecDepth 20000 in
set_option maxHeartbeats 3200000 in
theorem checkResponse_any (S : Int) (R B : ByteArray) (a : Option Addr) (ca : Nat) (l : List (ByteArray × ByteArray)) (b : Addr) (w : World) (lo hi : Nat) (hT : Tab w) (hP : PowT w) (hE : w.cell? ⟨1, 0, none⟩ = some (sent b)) (hR : R.size ≤ 2000000) (hz : SzF l) (hca : l.length ≤ ca) (ha : FV w a l lo hi) :
    Calls Tryz.prog 81 #[.agg #[.int .i64 S, .string R, .slice a l.length ca, .string B]] w fun e w' => e = .returned (errV (rsC S R l B)) ∧ Below w.heap.size w w' := by
  have hgt := hT.lt
  have hgp := tab_lt hP
  have het := World.block_lt_of_cell? _ _ hE
  have hb1 : Below w.heap.size w (w.alloc (.cells #[.int .i64 S, .string R, .slice a l.length ca, .string B] 31)) := (Below.refl _ _).alloc (Nat.le_refl _) _
  have HX : Hid (BoxP (w.alloc (.cells #[.int .i64 S, .string R, .slice a l.length ca, .string B] 31)) w.heap.size S R a l.length ca B) := BoxP.made w S R a l.length ca B _
  have HK : Hid (∀ w, Calls Tryz.prog 85 #[.int .i64 100, .int .i64 S, .int .i64 599] w fun e w' => e = .returned (.bool (stB S)) ∧ w' = w) := fun w => isBetween_any 100 S 599 w
  have HPl : Hid (∀ w, Calls Tryz.prog 109 #[.string R] w fun e w' => e = .returned (.bool (plainB R.data.toList)) ∧ w' = w) := fun w => isPlain_any R w hR
  have HT1 : Hid (Tab _) := hT.below hb1 hgt
  have HP1 : Hid (PowT _) := tab_below hP hb1 hgp
  have HE1 : Hid _ := (hb1.cell (p := ⟨1, 0, none⟩) het).trans hE
  have HA1 : Hid (FV _ a l lo hi) := ha.below hb1
  cases hst : stB S
  · rw [hst] at HK
    have HR : Hid (errV (rsC S R l B) = .iface 139 (.agg #[.int .i64 2])) := by
      show _ = _; unfold rsC; rw [hst]; rfl
    generalize errV (rsC S R l B) = R0 at HR ⊢
    clear hz hE
    go_enter Tryz.func81, Tryz.ntmps81
    go_wp2_with fail
    refine (HK.out _).mono ?_
    rintro e w2 ⟨rfl, hw⟩
    obtain rfl := hw.symm
    go_wp2_with fail
    go_ret
    exact ⟨ret_v HR.out, by first | exact hb1 | exact hb1.alloc hb1.size _⟩
  have hS2 : 100 ≤ S ∧ S ≤ 599 := by unfold stB at hst; simpa using hst
  rw [hst] at HK
  by_cases h40' : 40 < (R.size : Int)
  · have h40 : ¬ (R.size : Int) ≤ 40 := by omega
    have hd : decide (40 < (R.size : Int)) = true := decide_eq_true (by omega)
    have HR : Hid (errV (rsC S R l B) = .iface 139 (.agg #[.int .i64 2])) := by
      show _ = _; unfold rsC rsnB; rw [decide_eq_false h40, Bool.and_false, Bool.and_false]; rfl
    generalize errV (rsC S R l B) = R0 at HR ⊢
    clear hz hE
    go_enter Tryz.func81, Tryz.ntmps81
    go_wp2_with fail
    refine (HK.out _).mono ?_
    rintro e w2 ⟨rfl, hw⟩
    obtain rfl := hw.symm
    go_wp2_with fail
    go_ret
    exact ⟨ret_v HR.out, by first | exact hb1 | exact hb1.alloc hb1.size _⟩
  have h40 : (R.size : Int) ≤ 40 := by omega
  have hd : decide (40 < (R.size : Int)) = false := decide_eq_false (by omega)
  cases hpl : plainB R.data.toList
  · rw [hpl] at HPl
    have HR : Hid (errV (rsC S R l B) = .iface 139 (.agg #[.int .i64 2])) := by
      show _ = _; unfold rsC rsnB; rw [hpl, Bool.false_and, Bool.and_false]; rfl
    generalize errV (rsC S R l B) = R0 at HR ⊢
    clear hz hE
    go_enter Tryz.func81, Tryz.ntmps81
    go_wp2_with fail
    refine (HK.out _).mono ?_
    rintro e w2 ⟨rfl, hw⟩
    obtain rfl := hw.symm
    go_wp2_with fail
    refine (HPl.out _).mono ?_
    rintro e w2 ⟨rfl, hw⟩
    obtain rfl := hw.symm
    go_wp2_with fail
    go_ret
    exact ⟨ret_v HR.out, by first | exact hb1 | exact hb1.alloc hb1.size _⟩
  rw [hpl] at HPl
  have hRC : rsC S R l B = if fbC l B = 0 then hdC (headS (firstP S R) l) else fbC l B := by
    unfold rsC rsnB; rw [hst, hpl, decide_eq_true h40]; rfl
  have HC : Hid _ := checkFB_any a ca l B b (w.alloc (.cells #[.int .i64 S, .string R, .slice a l.length ca, .string B] 31)) lo hi HT1.out HE1.out hz hca HA1.out
  by_cases hf : fbC l B ≠ 0
  · rw [if_neg hf] at hRC
    rw [hRC]
    have HC1 : Hid (Calls Tryz.prog 110 #[.slice a l.length ca, .string B] (w.alloc (.cells #[.int .i64 S, .string R, .slice a l.length ca, .string B] 31)) fun e w' => e = .returned (.iface 139 (.agg #[.int .i64 (fbC l B)])) ∧ Below (w.alloc (.cells #[.int .i64 S, .string R, .slice a l.length ca, .string B] 31)).heap.size (w.alloc (.cells #[.int .i64 S, .string R, .slice a l.length ca, .string B] 31)) w') := by
      have := HC.out
      rwa [err_some hf] at this
    rw [err_some hf]
    generalize fbC l B = C at *
    clear hz hE hRC HC hf
    go_enter Tryz.func81, Tryz.ntmps81
    go_wp2_with fail
    refine (HK.out _).mono ?_
    rintro e w2 ⟨rfl, hw⟩
    obtain rfl := hw.symm
    go_wp2_with fail
    refine (HPl.out _).mono ?_
    rintro e w2 ⟨rfl, hw⟩
    obtain rfl := hw.symm
    go_wp2_with fail
    refine (Calls.mono HC1.out ?_)
    rintro e w3 ⟨rfl, hb3⟩
    have hb13 := hb1.trans (hb3.mono hb1.size)
    go_wp2_with fail
    go_ret
    exact ⟨rfl, hb13⟩
  · have hf : fbC l B = 0 := Decidable.not_not.1 hf
    rw [if_pos hf] at hRC
    rw [hRC]
    have HC1 : Hid (Calls Tryz.prog 110 #[.slice a l.length ca, .string B] (w.alloc (.cells #[.int .i64 S, .string R, .slice a l.length ca, .string B] 31)) fun e w' => e = .returned .nilIface ∧ Below (w.alloc (.cells #[.int .i64 S, .string R, .slice a l.length ca, .string B] 31)).heap.size (w.alloc (.cells #[.int .i64 S, .string R, .slice a l.length ca, .string B] 31)) w') := by
      have := HC.out
      rwa [hf, err_none] at this
    have h40 : l.length ≤ 40 := by
      have hg : goodL l = true := by
        cases hg : goodL l
        · rw [fb_bad hg] at hf; cases hf
        · rfl
      exact (goodL_all hg).1
    have HH : Hid (∀ w, PowT w → FV w a l lo hi → Calls Tryz.prog 112 #[.agg #[.int .i64 S, .string R, .slice a l.length ca, .string B]] w fun e w' => e = .returned (.string (headS (firstP S R) l)) ∧ Below w.heap.size w w') := by
      intro w t h
      obtain ⟨n, rfl⟩ := Int.eq_ofNat_of_zero_le (show 0 ≤ S by omega)
      exact responseHead_any n R B a ca l w lo hi t (by omega) (by omega) h40 hz h
    have HD : Hid _ := fun w => checkHead_any (headS (firstP S R) l) w
    generalize headS (firstP S R) l = H at HH HD ⊢
    generalize errV (hdC H) = R0 at HD ⊢
    clear hz hE hRC HC hf
    go_enter Tryz.func81, Tryz.ntmps81
    go_wp2_with fail
    refine (HK.out _).mono ?_
    rintro e w2 ⟨rfl, hw⟩
    obtain rfl := hw.symm
    go_wp2_with fail
    refine (HPl.out _).mono ?_
    rintro e w2 ⟨rfl, hw⟩
    obtain rfl := hw.symm
    go_wp2_with fail
    refine (Calls.mono HC1.out ?_)
    rintro e w3 ⟨rfl, hb3⟩
    have hb13 := hb1.trans (hb3.mono hb1.size)
    obtain ⟨x0, x1, x2, x3⟩ := HX.out.below hb3
    have ha3 := HA1.out.below hb3
    have hP3 := tab_below HP1.out hb3 (Nat.lt_of_lt_of_le hgp hb1.size)
    clear hb3
    go_wp2_with fail
    refine (HH.out _ hP3 ha3).mono ?_
    rintro e w4 ⟨rfl, hb4⟩
    have hb14 := hb13.trans (hb4.mono hb13.size)
    go_wp2_with fail
    refine (HD.out _).mono ?_
    rintro e w5 ⟨rfl, hb5⟩
    have hb15 := hb14.trans (hb5.mono hb14.size)
    go_wp2_with fail
    go_ret
    exact ⟨rfl, hb15⟩

set_option maxHeartbeats 800000 in
theorem implGoodP_any (S : Int) (R B : ByteArray) (a : Option Addr) (ca : Nat) (l : List (ByteArray × ByteArray)) (b : Addr) (w : World) (lo hi : Nat) (hT : Tab w) (hP : PowT w) (hE : w.cell? ⟨1, 0, none⟩ = some (sent b)) (hR : R.size ≤ 2000000) (hz : SzF l) (hca : l.length ≤ ca) (ha : FV w a l lo hi) :
    Calls Tryz.prog 41 #[.agg #[.int .i64 S, .string R, .slice a l.length ca, .string B]] w fun e w' => e = .returned (.bool (rsB S R l B)) ∧ Below w.heap.size w w' := by
  have hgt := hT.lt
  have hgp := tab_lt hP
  have het := World.block_lt_of_cell? _ _ hE
  have hb1 : Below w.heap.size w (w.alloc (.cells #[.int .i64 S, .string R, .slice a l.length ca, .string B] 31)) := (Below.refl _ _).alloc (Nat.le_refl _) _
  have HC := checkResponse_any S R B a ca l b (w.alloc (.cells #[.int .i64 S, .string R, .slice a l.length ca, .string B] 31)) lo hi (hT.below hb1 hgt) (tab_below hP hb1 hgp) ((hb1.cell (p := ⟨1, 0, none⟩) het).trans hE) hR hz hca (ha.below hb1)
  rw [rs_is]
  by_cases hc : rsC S R l B = 0
  · rw [hc, err_none] at HC
    rw [decide_eq_true hc]
    have HC1 : Hid _ := HC
    clear HC hc hE hz
    go_enter Tryz.func41, Tryz.ntmps41
    go_wp2_with fail
    refine (Calls.mono HC1.out ?_)
    rintro e w2 ⟨rfl, hb2⟩
    have hb12 := hb1.trans (hb2.mono hb1.size)
    go_wp2_with fail
    go_ret
    exact ⟨rfl, hb12⟩
  · rw [err_some hc] at HC
    rw [decide_eq_false hc]
    have HC1 : Hid _ := HC
    clear HC hc hE hz
    go_enter Tryz.func41, Tryz.ntmps41
    go_wp2_with fail
    refine (Calls.mono HC1.out ?_)
    rintro e w2 ⟨rfl, hb2⟩
    have hb12 := hb1.trans (hb2.mono hb1.size)
    go_wp2_with fail
    go_ret
    exact ⟨rfl, hb12⟩

end Go.Proofs.YtfgcgnhffljiaaaGreatDoor.Rsb
