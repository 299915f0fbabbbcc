/-
  Messages: their heads, what is good; walks: spec's l4Target, l4Method, l4Reason, l4Framed, l4Head.
-/
import Derived.Test.YtfgcgnhffljiaaaGreatDoorLns
namespace Go.Proofs.YtfgcgnhffljiaaaGreatDoor.Rqb
open Go.RowKit
open Go.Proofs.YtfgcgnhffljiaaaGreatDoor.Fbs
open Go.Proofs.YtfgcgnhffljiaaaGreatDoor.Fch
open Go.Proofs.YtfgcgnhffljiaaaGreatDoor.Ows
open Go.Proofs.YtfgcgnhffljiaaaGreatDoor.Fdb
open Go.Proofs.YtfgcgnhffljiaaaGreatDoor.Fvs
open Go.Proofs.YtfgcgnhffljiaaaGreatDoor.Lnp (lnV clen l4Length_any)
open Go.Proofs.YtfgcgnhffljiaaaGreatDoor.Mrk (TV RowT tv_of)

/-- A byte that can be seen. -/
def solidB (b : Int) : Bool := decide (33 ≤ b) && decide (b ≤ 126)
def solidL (l : List UInt8) : Bool := l.all (fun c => solidB (c.toNat : Int))
def tgtB (s : ByteArray) : Bool := solidL s.data.toList && (decide ((1 : Int) ≤ (s.size : Int)) && decide ((s.size : Int) ≤ 200))
def mthB (s : ByteArray) : Bool := tokenB s.data.toList && decide ((s.size : Int) ≤ 10)
def rsnB (s : ByteArray) : Bool := plainB s.data.toList && decide ((s.size : Int) ≤ 40)

theorem l4Target_any (s : ByteArray) (w : World) (hs : s.size ≤ 2000000) :
    Calls Tryz.prog 93 #[.string s] w fun e w' => e = .returned (.bool (tgtB s)) ∧ w' = w := by
  have C := l1In_any s.size 1 200 w
  go_enter Tryz.func93, Tryz.ntmps93
  go_wp2
  go_loop [3] (fun i => ∃ k : Nat, k ≤ s.size ∧ i = .int .i64 k ∧ Hid (∀ j, j < k → solidB ((s.data.toList[j]?.getD 0).toNat : Int) = true)) (fun i => s.size - (intOf i).toNat)
  case atStart => exact ⟨0, by omega, rfl, fun j hj => absurd hj (by omega)⟩
  case round =>
    obtain ⟨k, hk, rfl, HA⟩ := hrel
    by_cases hlt : k < s.size
    · have e0 := at_list s k hlt
      by_cases hf : 33 ≤ (s[k].toNat : Int) ∧ (s[k].toNat : Int) ≤ 126
      · have HA' : Hid (∀ j, j < k + 1 → solidB ((s.data.toList[j]?.getD 0).toNat : Int) = true) := by
          intro j hj
          by_cases hjk : j = k
          · subst hjk; rw [e0]; unfold solidB; rw [decide_eq_true hf.1, decide_eq_true hf.2]; rfl
          · exact HA.out j (by omega)
        clear HA e0
        obtain ⟨f1, f2⟩ := hf
        go_wp2
        go_round
        case rel => exact ⟨k + 1, by omega, by go_num, HA'⟩
        case measure => simp [intOf]; omega
      · have HF : Hid (tgtB s = false) := by
          show _ = _
          unfold tgtB solidL
          rw [all_no (k := k) (by rw [len_list]; exact hlt) ?_, Bool.false_and]
          rw [e0]; unfold solidB
          rcases (show ¬ 33 ≤ (s[k].toNat : Int) ∨ ¬ (s[k].toNat : Int) ≤ 126 from by omega) with h | h
          · rw [decide_eq_false h]; rfl
          · rw [decide_eq_false h]; simp
        clear HA e0
        rcases (show (s[k].toNat : Int) < 33 ∨ 126 < (s[k].toNat : Int) from by omega) with h | h
        all_goals
          clear hf
          go_wp2
          go_ret
          exact ⟨ret_bool HF.out.symm, rfl⟩
    · have HF : Hid (tgtB s = (decide ((1 : Int) ≤ (s.size : Int)) && decide ((s.size : Int) ≤ 200))) := by
        show _ = _
        unfold tgtB solidL
        rw [all_yes (fun j hj => HA.out j (by rw [len_list] at hj; omega)), Bool.true_and]
      clear HA
      rw [← HF.out] at C
      clear HF
      go_wp2_with (go_at_call 70; refine C.mono ?_; rintro e w' ⟨rfl, hw⟩; obtain rfl := hw.symm)
      go_ret
      exact ⟨rfl, rfl⟩

theorem l4Method_any (s : ByteArray) (w : World) (hs : s.size ≤ 2000000) :
    Calls Tryz.prog 92 #[.string s] w fun e w' => e = .returned (.bool (mthB s)) ∧ w' = w := by
  have C := l3Token_any s w hs
  unfold mthB
  cases ht : tokenB s.data.toList
  · rw [ht] at C
    go_enter Tryz.func92, Tryz.ntmps92
    go_wp2_with (go_at_call 78; refine C.mono ?_; rintro e w' ⟨rfl, hw⟩; obtain rfl := hw.symm)
    go_ret
    exact ⟨rfl, rfl⟩
  · rw [ht] at C
    rw [Bool.true_and]
    go_enter Tryz.func92, Tryz.ntmps92
    go_wp2_with (go_at_call 78; refine C.mono ?_; rintro e w' ⟨rfl, hw⟩; obtain rfl := hw.symm)
    go_ret
    exact ⟨rfl, rfl⟩

theorem l4Reason_any (s : ByteArray) (w : World) (hs : s.size ≤ 2000000) :
    Calls Tryz.prog 71 #[.string s] w fun e w' => e = .returned (.bool (rsnB s)) ∧ w' = w := by
  have C := l3Printed_any s w hs
  unfold rsnB
  cases ht : plainB s.data.toList
  · rw [ht] at C
    go_enter Tryz.func71, Tryz.ntmps71
    go_wp2_with (go_at_call 102; refine C.mono ?_; rintro e w' ⟨rfl, hw⟩; obtain rfl := hw.symm)
    go_ret
    exact ⟨rfl, rfl⟩
  · rw [ht] at C
    rw [Bool.true_and]
    go_enter Tryz.func71, Tryz.ntmps71
    go_wp2_with (go_at_call 102; refine C.mono ?_; rintro e w' ⟨rfl, hw⟩; obtain rfl := hw.symm)
    go_ret
    exact ⟨rfl, rfl⟩

def tenc : ByteArray := ⟨#[116, 114, 97, 110, 115, 102, 101, 114, 45, 101, 110, 99, 111, 100, 105, 110, 103]⟩
/-- How long a body is told to be. -/
def lnN (l : List (ByteArray × ByteArray)) : Int := if lnV l = -1 then 0 else lnV l
/-- The first fault of fields and a body, 0 for none. -/
def fbC (l : List (ByteArray × ByteArray)) (B : ByteArray) : Int :=
  if goodL l = false then 3 else if valsOf tenc l ≠ [] then 3 else if lnV l = -2 then 4 else if 300 < lnN l then 4 else if (B.size : Int) ≠ lnN l then 1 else 0
/-- Whether a body is as fields tell. -/
def frB (l : List (ByteArray × ByteArray)) (B : ByteArray) : Bool := decide (lnN l = (B.size : Int)) && (decide ((B.size : Int) ≤ 300) && decide (valsOf tenc l = []))
theorem fr_fb (l : List (ByteArray × ByteArray)) (B : ByteArray) : (goodL l && frB l B) = decide (fbC l B = 0) := by
  unfold frB fbC
  cases hg : goodL l
  · simp
  · rw [if_neg (by simp), Bool.true_and]
    by_cases hv : valsOf tenc l = []
    · rw [if_neg (by simp [hv]), decide_eq_true hv, Bool.and_true]
      by_cases h2 : lnV l = -2
      · have e : lnN l = -2 := by unfold lnN; rw [if_neg (by omega), h2]
        rw [if_pos h2, e, decide_eq_false (by omega)]
        rfl
      · rw [if_neg h2]
        by_cases h3 : 300 < lnN l
        · rw [if_pos h3]
          by_cases h4 : lnN l = (B.size : Int)
          · rw [decide_eq_false (show ¬ (B.size : Int) ≤ 300 from by omega), Bool.and_false]; rfl
          · rw [decide_eq_false h4]; rfl
        · rw [if_neg h3]
          by_cases h4 : lnN l = (B.size : Int)
          · rw [if_neg (by omega), decide_eq_true h4, decide_eq_true (by omega)]; rfl
          · rw [if_pos (by omega), decide_eq_false h4]; rfl
    · rw [if_pos hv, decide_eq_false hv, Bool.and_false, Bool.and_false]; rfl

set_option maxHeartbeats 1600000 in
theorem l4Framed_any (a : Option Addr) (ca : Nat) (l : List (ByteArray × ByteArray)) (B : ByteArray) (w : World) (lo hi : Nat) (hg : goodL l = true) (hz : SzF l) (ha : FV w a l lo hi) :
    Calls Tryz.prog 73 #[.slice a l.length ca, .string B] w fun e w' => e = .returned (.bool (frB l B)) ∧ Below w.heap.size w w' := by
  have HL : Hid _ := fun w h => l4Length_any a ca l w lo hi hg hz h
  have HV : Hid _ := fun w h => l3Values_any a ca l tenc w lo hi (by have := (goodL_all hg).1; omega) (by decide) hz h
  have hlen : (valsOf tenc l).length ≤ 40 := Nat.le_trans (valsOf_len tenc l) (goodL_all hg).1
  have HA : Hid (∀ w', Below w.heap.size w w' → FV w' a l lo hi) := fun _ h => ha.below h
  have HF : Hid (frB l B = (decide (lnN l = (B.size : Int)) && (decide ((B.size : Int) ≤ 300) && decide (valsOf tenc l = [])))) := rfl
  generalize frB l B = F at HF ⊢
  generalize valsOf tenc l = vs at HV hlen HF
  have hb0 : B.size ≤ 300 ∨ 300 < B.size := by omega
  rcases (show (lnV l = -1 ∧ lnN l = 0) ∨ (lnV l ≠ -1 ∧ lnN l = lnV l) from by unfold lnN; by_cases h : lnV l = -1 <;> simp [h]) with ⟨h1, hN⟩ | ⟨h1, hN⟩
  · rw [h1] at HL
    rw [hN] at HF
    clear h1 hN hg hz
    by_cases hq : (0 : Int) = (B.size : Int)
    · have he : ((0 : Int) == (B.size : Int)) = true := by rw [beq_iff_eq]; exact hq
      have hB : decide ((B.size : Int) ≤ 300) = true := decide_eq_true (by omega)
      have HR : Hid (F = decide (vs = [])) := HF.out.trans (by rw [decide_eq_true hq, hB]; rfl)
      clear HF hq
      go_enter Tryz.func73, Tryz.ntmps73
      go_wp2_with fail
      refine (HL.out _ ha).mono ?_
      rintro e w1 ⟨rfl, hb1⟩
      have ha1 := HA.out _ hb1
      go_wp2_with fail
      refine (HV.out _ ha1).mono ?_
      rintro e w2 ⟨⟨v, rfl, hown⟩, hb2⟩
      obtain ⟨a2, c2, rfl, _⟩ := tv_of hown
      have hb12 := hb1.trans (hb2.mono hb1.size)
      have hv : ((vs.length : Int) == 0) = decide (vs = []) := by
        rw [Bool.eq_iff_iff, beq_iff_eq, decide_eq_true_eq, ← List.length_eq_zero_iff]; omega
      go_wp2_with fail
      go_ret
      exact ⟨ret_bool (by first | exact HR.out.symm | exact hv.trans HR.out.symm), hb12⟩
    · have he : ((0 : Int) == (B.size : Int)) = false := by rw [beq_eq_false_iff_ne]; exact hq
      have HR : Hid (F = false) := HF.out.trans (by rw [decide_eq_false hq]; rfl)
      clear HF
      go_enter Tryz.func73, Tryz.ntmps73
      go_wp2_with fail
      refine (HL.out _ ha).mono ?_
      rintro e w1 ⟨rfl, hb1⟩
      go_wp2_with fail
      go_ret
      exact ⟨ret_bool HR.out.symm, hb1⟩
  · rw [hN] at HF
    have hq1 : (lnV l == -1) = false := by rw [beq_eq_false_iff_ne]; exact h1
    clear h1 hN hg hz
    generalize lnV l = T at HL HF hq1
    by_cases hq : T = (B.size : Int)
    · have he : (T == (B.size : Int)) = true := by rw [beq_iff_eq]; exact hq
      by_cases h3 : (B.size : Int) ≤ 300
      · have hB : decide ((B.size : Int) ≤ 300) = true := decide_eq_true h3
        have HR : Hid (F = decide (vs = [])) := HF.out.trans (by rw [decide_eq_true hq, hB]; rfl)
        clear HF
        go_enter Tryz.func73, Tryz.ntmps73
        go_wp2_with fail
        refine (HL.out _ ha).mono ?_
        rintro e w1 ⟨rfl, hb1⟩
        have ha1 := HA.out _ hb1
        go_wp2_with fail
        refine (HV.out _ ha1).mono ?_
        rintro e w2 ⟨⟨v, rfl, hown⟩, hb2⟩
        obtain ⟨a2, c2, rfl, _⟩ := tv_of hown
        have hb12 := hb1.trans (hb2.mono hb1.size)
        have hv : ((vs.length : Int) == 0) = decide (vs = []) := by
          rw [Bool.eq_iff_iff, beq_iff_eq, decide_eq_true_eq, ← List.length_eq_zero_iff]; omega
        go_wp2_with fail
        go_ret
        exact ⟨ret_bool (by first | exact HR.out.symm | exact hv.trans HR.out.symm), hb12⟩
      · have hB : decide ((B.size : Int) ≤ 300) = false := decide_eq_false h3
        have HR : Hid (F = false) := HF.out.trans (by rw [decide_eq_true hq, hB]; rfl)
        clear HF
        go_enter Tryz.func73, Tryz.ntmps73
        go_wp2_with fail
        refine (HL.out _ ha).mono ?_
        rintro e w1 ⟨rfl, hb1⟩
        go_wp2_with fail
        go_ret
        exact ⟨ret_bool HR.out.symm, hb1⟩
    · have he : (T == (B.size : Int)) = false := by rw [beq_eq_false_iff_ne]; exact hq
      have HR : Hid (F = false) := HF.out.trans (by rw [decide_eq_false hq]; rfl)
      clear HF
      go_enter Tryz.func73, Tryz.ntmps73
      go_wp2_with fail
      refine (HL.out _ ha).mono ?_
      rintro e w1 ⟨rfl, hb1⟩
      go_wp2_with fail
      go_ret
      exact ⟨ret_bool HR.out.symm, hb1⟩

end Go.Proofs.YtfgcgnhffljiaaaGreatDoor.Rqb
