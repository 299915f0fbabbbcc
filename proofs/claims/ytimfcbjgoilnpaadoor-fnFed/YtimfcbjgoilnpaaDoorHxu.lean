/-
  Walks: impl.HexText; spec.l5Hex, HexText.
-/
import Derived.Test.YtimfcbjgoilnpaaDoorHxf
import Derived.Test.YtimfcbjgoilnpaaDoorFbt
import Derived.Test.YtimfcbjgoilnpaaDoorLow
namespace Go.Proofs.YtimfcbjgoilnpaaDoor.Hxu
open Go.RowKit
open Go.Proofs.YtimfcbjgoilnpaaDoor.Hxt
open Go.Proofs.YtimfcbjgoilnpaaDoor.Fbt

/-- HexText's answer. -/
def htB (n : Int) : Bool := decide (0 ≤ n) && decide (n ≤ 65535)
def htS (n : Int) : ByteArray := if htB n then ⟨(hexT n.toNat).toArray⟩ else ⟨#[]⟩
theorem ht_yes {n : Nat} (h : n < 65536) : htB (n : Int) = true ∧ htS (n : Int) = ⟨(hexT n).toArray⟩ := by
  have e : htB (n : Int) = true := by unfold htB; rw [decide_eq_true (by omega), decide_eq_true (by omega)]; rfl
  refine ⟨e, ?_⟩
  unfold htS; rw [e]; rfl
theorem ht_no {n : Int} (h : htB n = false) : htS n = ⟨#[]⟩ := by unfold htS; rw [h]; rfl
theorem ret_sb {a b : ByteArray} {x y : Bool} (h : a = b) (h' : x = y) : Ending.returned (.tuple #[.string a, .bool x]) = .returned (.tuple #[.string b, .bool y]) := by rw [h, h']

theorem implHexText_any (n : Int) (w : World) (hT : w.cell? ⟨3, 15, none⟩ = some (.int .u8 4)) :
    Calls Tryd.prog 29 #[.int .i64 n] w fun e w' => e = .returned (.tuple #[.string (htS n), .bool (htB n)]) ∧ Below w.heap.size w w' := by
  have HB0 := fun wx => isBetween_any 0 n 65535 wx
  by_cases hb : 0 ≤ n ∧ n ≤ 65535
  · obtain ⟨m, rfl⟩ := Int.eq_ofNat_of_zero_le hb.1
    have hm : m < 65536 := by omega
    rw [show (decide ((0 : Int) ≤ (m : Int)) && decide ((m : Int) ≤ 65535)) = true from (ht_yes hm).1] at HB0
    have HB : Hid _ := HB0
    have HR : Hid _ := ht_yes hm
    have HF0 := fun wx hx => Hxf.format_any m hm wx hx
    have HF : Hid _ := HF0
    clear HF0 HB0 hb
    go_enter Tryd.func29, Tryd.ntmps29
    go_wp2_with (first
      | (go_at_call 48; refine (HB.out _).mono ?_; rintro e w1 ⟨rfl, hw⟩; obtain rfl := hw.symm)
      | (go_at_call 49; refine (HF.out _ hT).mono ?_; rintro e w1 ⟨rfl, hb1⟩))
    go_ret2
    exact ⟨ret_sb HR.out.2.symm HR.out.1.symm, hb1⟩
  · have hf : htB n = false := by
      unfold htB
      rcases (show ¬ 0 ≤ n ∨ ¬ n ≤ 65535 by omega) with h | h
      · rw [decide_eq_false h]; rfl
      · rw [decide_eq_false h, Bool.and_false]
    rw [show (decide ((0 : Int) ≤ n) && decide (n ≤ 65535)) = false from hf] at HB0
    have HB : Hid _ := HB0
    have HR : Hid _ := And.intro hf (ht_no hf)
    clear HB0 hb hf
    go_enter Tryd.func29, Tryd.ntmps29
    go_wp2_with (first
      | (go_at_call 48; refine (HB.out _).mono ?_; rintro e w1 ⟨rfl, hw⟩; obtain rfl := hw.symm))
    go_ret2
    exact ⟨ret_sb HR.out.2.symm HR.out.1.symm, Below.refl _ _⟩

end Go.Proofs.YtimfcbjgoilnpaaDoor.Hxu
