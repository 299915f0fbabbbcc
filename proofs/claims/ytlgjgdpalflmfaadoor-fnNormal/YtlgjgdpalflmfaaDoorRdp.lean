/-
  Walk: impl.readPort, and what a digit is.
-/
import Derived.Test.YtlgjgdpalflmfaaDoorRdm
import Derived.Test.YtlgjgdpalflmfaaDoorChr
import Derived.Test.YtlgjgdpalflmfaaDoorShelf
import Derived.Lib.AtoiTie
import Derived.WalkMore
namespace Go.Proofs.YtlgjgdpalflmfaaDoor.Rdp
open Go.RowKit
open Go.Proofs.YtlgjgdpalflmfaaDoor.Byt
open Go.Proofs.YtlgjgdpalflmfaaDoor.Hex
open Go.Proofs.YtlgjgdpalflmfaaDoor.Chr
open Go.Proofs.YtlgjgdpalflmfaaDoor.Rdm

def portV : Option Nat → Value
  | some n => .tuple #[.int .i64 n, .bool true]
  | none => .tuple #[.int .i64 0, .bool false]

theorem dec_dig : ∀ (l : List UInt8) (acc : Nat), (∀ c ∈ l, noDig c = false) → Lib.decFrom acc l = some (l.foldl (fun n c => 10 * n + (c.toNat - 48)) acc)
  | [], _, _ => rfl
  | b :: r, acc, h => by
    have hb : 48 ≤ b.toNat ∧ b.toNat ≤ 57 := by have := h b (by simp); simpa [noDig] using this
    simp only [Lib.decFrom, Lib.digitVal, if_pos hb, List.foldl_cons]
    rw [dec_dig r _ (fun c hc => h c (by simp [hc])), Nat.mul_comm]
theorem dec_all {l : List UInt8} (h0 : 0 < l.length) (h5 : l.length ≤ 5) (h : ∀ c ∈ l, noDig c = false) : Lib.atoiAll l = .ok ((l.foldl (fun n c => 10 * n + (c.toNat - 48)) 0 : Nat) : Int) := by
  rw [Lib.atoiAll_short l (by omega)]
  cases l with
  | nil => simp at h0
  | cons b r =>
    have hb : 48 ≤ b.toNat ∧ b.toNat ≤ 57 := by have := h b (by simp); simpa [noDig] using this
    have e1 : (b == 45) = false := by cases he : (b == 45); rfl; have := eq_of_beq he; subst this; simp at hb
    have e2 : (b == 43) = false := by cases he : (b == 43); rfl; have := eq_of_beq he; subst this; simp at hb
    simp only [Lib.atoi, e1, e2, Lib.decNat, List.isEmpty_cons, Bool.false_eq_true, if_false]
    rw [dec_dig _ _ h]
    rfl

theorem isK_dig (b : Int) (h0 : 0 ≤ b) (h1 : b ≤ 255) : isK b 16 = (decide (48 ≤ b) && decide (b ≤ 57)) := by
  obtain ⟨n, rfl⟩ := Int.eq_ofNat_of_zero_le h0
  have all : ∀ n : Nat, n < 256 → isK (n : Int) 16 = (decide (48 ≤ (n : Int)) && decide ((n : Int) ≤ 57)) := by decide +kernel
  exact all n (by omega)
theorem isDigB_any (b : Int) (w : World) (hT : Tab w) (h0 : 0 ≤ b) (h1 : b ≤ 255) :
    Calls Tryd.prog 49 #[.int .u8 b, .int .u8 16] w fun e w' => e = .returned (.bool (decide (48 ≤ b) && decide (b ≤ 57))) ∧ w' = w := by
  rw [← isK_dig b h0 h1]
  exact isKind_any b 16 w hT h0 h1

set_option maxHeartbeats 800000 in
theorem readPort_any (d : ByteArray) (w : World) (hs : d.size ≤ 2000000) (hd : ∀ j, j < d.size → noDig (d.data.toList[j]?.getD 0) = false) :
    Calls Tryd.prog 76 #[.string d] w fun e w' => e = .returned (portV (portR d)) ∧ Below w.heap.size w w' := by
  have hl : d.data.toList.length = d.size := by simp
  by_cases h0 : d.size = 0
  · have HV : portR d = none := by unfold portR; rw [if_pos (Or.inl h0)]
    obtain rfl : d = ⟨#[]⟩ := by apply ByteArray.ext; exact Array.eq_empty_of_size_eq_zero h0
    rw [HV]
    go_enter Tryd.func76, Tryd.ntmps76
    go_wp2
    go_ret2
    exact ⟨rfl, Below.refl _ _⟩
  · have hlt : 0 < d.size := by omega
    have e0 := at_list d 0 hlt
    have hne : d.toList.isEmpty = false := by
      rw [ByteArray.toList_eq]
      cases he : d.data.toList with
      | nil => rw [he] at hl; simp at hl; omega
      | cons a r => rfl
    by_cases h48 : d[0].toNat = 48
    · have HV : portR d = none := by unfold portR; rw [if_pos (Or.inr (Or.inl (by rw [e0]; exact h48)))]
      have hc : ((d[0].toNat : Int) == 48) = true := beq_iff_eq.2 (by omega)
      rw [HV]
      clear HV hd e0
      go_enter Tryd.func76, Tryd.ntmps76
      go_wp2
      go_ret2
      exact ⟨rfl, Below.refl _ _⟩
    · have hc : ((d[0].toNat : Int) == 48) = false := beq_eq_false_iff_ne.2 (by omega)
      by_cases h5 : 5 < d.size
      · have HV : portR d = none := by unfold portR; rw [if_pos (Or.inr (Or.inr h5))]
        have hc5 : decide ((5 : Int) < (d.size : Int)) = true := decide_eq_true (by omega)
        rw [HV]
        clear HV hd e0
        go_enter Tryd.func76, Tryd.ntmps76
        go_wp2
        go_ret2
        exact ⟨rfl, Below.refl _ _⟩
      · have hA := dec_all (l := d.data.toList) (by omega) (by omega) (fun c hc => by
          obtain ⟨j, hj, rfl⟩ := List.mem_iff_getElem.1 hc
          have := hd j (by omega)
          rwa [List.getElem?_eq_getElem hj] at this)
        have HV : portR d = some (d.data.toList.foldl (fun n c => 10 * n + (c.toNat - 48)) 0) := by unfold portR; rw [if_neg (by rw [e0]; omega)]
        have hc5 : decide ((5 : Int) < (d.size : Int)) = false := decide_eq_false (by omega)
        have hmx : d.size ≤ 9223372036854775806 := by omega
        rw [HV]
        clear HV hd e0
        generalize List.foldl (fun n c => 10 * n + (UInt8.toNat c - 48)) 0 d.data.toList = v at hA ⊢
        go_enter Tryd.func76, Tryd.ntmps76
        go_wp2_with (go_at_call 93; refine (Tryd.strconv_Atoi_ok d hmx _ hA _).mono ?_; rintro e w2 ⟨rfl, h2⟩)
        go_region
        go_wp2_with fail
        go_ret2
        refine ⟨rfl, Below.trans (b := w2) ?_ ⟨rfl, rfl, rfl, Nat.le_refl _, fun _ _ => rfl⟩⟩
        rcases h2 with rfl | ⟨t, rfl⟩
        · exact Below.refl _ _
        · exact Lib.bytesWorld_below _ _ _

end Go.Proofs.YtlgjgdpalflmfaaDoor.Rdp
