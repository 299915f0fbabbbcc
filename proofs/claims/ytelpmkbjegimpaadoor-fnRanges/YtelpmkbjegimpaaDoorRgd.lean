/-
  Walks: impl.readPlace, spanBetween, readRange.
-/
import Derived.Test.YtelpmkbjegimpaaDoorRgc
import Derived.Test.YtelpmkbjegimpaaDoorRwt
import Derived.Test.YtelpmkbjegimpaaDoorSra
namespace Go.Proofs.YtelpmkbjegimpaaDoor.Rgb
open Go.RowKit
open Go.Proofs.YtelpmkbjegimpaaDoor.Fch (Tab)
open Go.Proofs.YtelpmkbjegimpaaDoor.Rga
open Go.Proofs.YtelpmkbjegimpaaDoor.Ctf (cutA cutZ cutB cutI cut_some cut_none)
open Go.Proofs.YtelpmkbjegimpaaDoor.Wgt (rdL readDigits_any ret_i)

def plV (s : ByteArray) : Int := if s.size = 0 ∨ 9 < (Lib.trimLeftB s.data.toList 48).length then 0 else rdL s.data.toList 0
theorem pl_is {s : ByteArray} (h : 0 ≤ numP s) : plV s = numP s := by
  unfold plV
  unfold numP at h ⊢
  split at h
  · omega
  · rename_i hn; rw [if_neg hn, if_neg hn]
theorem ret_ib {a b : Int} {x y : Bool} (h : a = b) (k : x = y) : Ending.returned (.tuple #[.int .i64 a, .bool x]) = .returned (.tuple #[.int .i64 b, .bool y]) := by rw [h, k]
theorem left0_call (s : ByteArray) (w : World) : Calls Tryd.prog 63 #[.string s, .string ⟨#[48]⟩] w fun e w' => e = .returned (.string ⟨(Lib.trimLeftB s.data.toList 48).toArray⟩) ∧ w' = w :=
  Tryd.strings_TrimLeft_one s 48 (by decide) w
theorem left0_size (s : ByteArray) : (⟨(Lib.trimLeftB s.data.toList 48).toArray⟩ : ByteArray).size = (Lib.trimLeftB s.data.toList 48).length := by
  show (List.toArray _).size = _; simp

set_option maxHeartbeats 800000 in
theorem readPlace_any (s : ByteArray) (w : World) (hT : Tab w) :
    Calls Tryd.prog 50 #[.string s] w fun e w' => e = .returned (.tuple #[.int .i64 (plV s), .bool (decide (0 ≤ numP s))]) ∧ w' = w := by
  have HL : Hid _ := fun wx => left0_call s wx
  have hz := left0_size s
  have hbk : (⟨(Lib.trimLeftB s.data.toList 48).toArray⟩ : ByteArray).data.toList = Lib.trimLeftB s.data.toList 48 := by simp
  by_cases h0 : s.size = 0
  · have HV : Hid (plV s = 0) := by show _ = _; unfold plV; rw [if_pos (Or.inl h0)]
    have HB : Hid (decide (0 ≤ numP s) = false) := by show _ = _; unfold numP; rw [if_pos (Or.inl h0)]; rfl
    have hem := Lsp.empty_cmp h0
    generalize (⟨(Lib.trimLeftB s.data.toList 48).toArray⟩ : ByteArray) = D at *
    clear h0 hbk hz
    go_enter Tryd.func50, Tryd.ntmps50
    go_wp2_with (go_at_call 63; refine (HL.out _).mono ?_; rintro e w' ⟨rfl, hw⟩; obtain rfl := hw.symm)
    go_ret2
    exact ⟨ret_ib HV.out.symm HB.out.symm, rfl⟩
  have hem := Lsp.some_cmp h0
  by_cases h9 : 9 < (Lib.trimLeftB s.data.toList 48).length
  · have HV : Hid (plV s = 0) := by show _ = _; unfold plV; rw [if_pos (Or.inr h9)]
    have HB : Hid (decide (0 ≤ numP s) = false) := by show _ = _; unfold numP; rw [if_pos (Or.inr h9)]; rfl
    rw [← hz] at h9
    generalize (⟨(Lib.trimLeftB s.data.toList 48).toArray⟩ : ByteArray) = D at *
    have hd : decide (9 < (D.size : Int)) = true := decide_eq_true (by omega)
    clear h0 hbk hz h9
    go_enter Tryd.func50, Tryd.ntmps50
    go_wp2_with (go_at_call 63; refine (HL.out _).mono ?_; rintro e w' ⟨rfl, hw⟩; obtain rfl := hw.symm)
    go_ret2
    exact ⟨ret_ib HV.out.symm HB.out.symm, rfl⟩
  · have HV : Hid (plV s = rdL s.data.toList 0) := by show _ = _; unfold plV; rw [if_neg (by omega)]
    have HB : Hid (numP s = rdL s.data.toList 0) := by show _ = _; unfold numP; rw [if_neg (by omega)]
    have hrd : rdL (⟨(Lib.trimLeftB s.data.toList 48).toArray⟩ : ByteArray).data.toList 0 = rdL s.data.toList 0 := by rw [hbk, rd_zeros]
    rw [← hz] at h9
    generalize (⟨(Lib.trimLeftB s.data.toList 48).toArray⟩ : ByteArray) = D at *
    have hd : decide (9 < (D.size : Int)) = false := decide_eq_false (by omega)
    have HR : Hid _ := fun wx hx => readDigits_any D wx hx (by omega)
    rw [hrd] at HR
    have HT : Hid (Tab w) := hT
    generalize rdL s.data.toList 0 = r at HR HV HB
    clear h0 hbk hz h9 hrd hT
    go_enter Tryd.func50, Tryd.ntmps50
    go_wp2_with (first
      | (go_at_call 63; refine (HL.out _).mono ?_; rintro e w' ⟨rfl, hw⟩; obtain rfl := hw.symm)
      | (go_at_call 64; refine (HR.out _ HT.out).mono ?_; rintro e w' ⟨rfl, hw⟩; obtain rfl := hw.symm))
    go_ret2
    refine ⟨ret_ib HV.out.symm ?_, rfl⟩
    rw [HB.out]

def spV (o : Option (Int × Int)) : Int × Int := o.getD (0, 0)
theorem between_any (F T : Int) (w : World) :
    Calls Tryd.prog 51 #[.int .i64 F, .int .i64 T] w fun e w' => e = .returned (.agg #[.int .i64 (spV (betw F T)).1, .int .i64 (spV (betw F T)).2]) ∧ Below w.heap.size w w' := by
  by_cases h : T ≤ F
  · have hb : betw F T = none := by unfold betw; rw [if_pos h]
    rw [hb]
    go_enter Tryd.func51, Tryd.ntmps51
    go_wp2_with fail
    exact bodyPost_ret (v := .agg #[.int .i64 0, .int .i64 0]) (by simp [results, Tryd.results51, go_sem]) rfl ⟨rfl, by repeat (first | exact Below.refl _ _ | refine Below.alloc ?_ (by simp <;> omega) _ | refine Below.setCell ?_ (by simp) _)⟩
  · have hb : betw F T = some (F, T) := by unfold betw; rw [if_neg h]
    rw [hb]
    have hd : decide (T ≤ F) = false := decide_eq_false h
    go_enter Tryd.func51, Tryd.ntmps51
    go_wp2_with fail
    exact bodyPost_ret (v := .agg #[.int .i64 F, .int .i64 T]) (by simp [results, Tryd.results51, go_sem]) rfl ⟨rfl, by repeat (first | exact Below.refl _ _ | refine Below.alloc ?_ (by simp <;> omega) _ | refine Below.setCell ?_ (by simp) _)⟩

end Go.Proofs.YtelpmkbjegimpaaDoor.Rgb
