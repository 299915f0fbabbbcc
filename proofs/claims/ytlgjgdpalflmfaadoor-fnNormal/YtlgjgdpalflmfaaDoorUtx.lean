/-
  Walks: an address told: spec.l1Text and impl.joinUrl tell the same.
-/
import Derived.Test.YtlgjgdpalflmfaaDoorTxt
namespace Go.Proofs.YtlgjgdpalflmfaaDoor.Txt
open Go.RowKit
open Go.Proofs.YtlgjgdpalflmfaaDoor.Byt
open Go.Proofs.YtlgjgdpalflmfaaDoor.Hex
open Go.Proofs.YtlgjgdpalflmfaaDoor.Enc
open Go.Proofs.YtlgjgdpalflmfaaDoor.Own

/-- What lay there before a callee that makes memory alone still reads as it did. -/
theorem bcell {W w1 : World} (hb : Below W.heap.size W w1) : (∀ b o, b < W.heap.size → w1.cell? ⟨b, o, none⟩ = W.cell? ⟨b, o, none⟩) ∧ (∀ b o, b < W.heap.size → w1.frozen? ⟨b, o, none⟩ = W.frozen? ⟨b, o, none⟩) :=
  ⟨fun b o h => hb.cell (p := ⟨b, o, none⟩) h, fun b o h => hb.frozen (p := ⟨b, o, none⟩) h⟩

theorem gPow : Tryd.prog.globalNamed "internal/strconv.uint64pow10" = some 2 := by kernel_rfl
theorem tab_below {B : Nat} {w w' : World} (h : Lib.TabIs Tryd.prog w "internal/strconv.uint64pow10" .u64 Lib.pow10Tab) (hb : Below B w w') (hB : 2 < B) : Lib.TabIs Tryd.prog w' "internal/strconv.uint64pow10" .u64 Lib.pow10Tab :=
  var?_below hb gPow hB h
theorem tab_lt {w : World} (h : Lib.TabIs Tryd.prog w "internal/strconv.uint64pow10" .u64 Lib.pow10Tab) : 2 < w.heap.size := by
  unfold Lib.TabIs World.var? at h
  rw [gPow] at h
  simp only [Option.bind_some] at h
  cases hh : w.heap[2]? with
  | none => rw [hh] at h; cases h
  | some o => exact (Array.getElem?_eq_some_iff.1 hh).1
theorem tab_alloc {w : World} (h : Lib.TabIs Tryd.prog w "internal/strconv.uint64pow10" .u64 Lib.pow10Tab) (o : Obj) : Lib.TabIs Tryd.prog (w.alloc o) "internal/strconv.uint64pow10" .u64 Lib.pow10Tab :=
  tab_below h ((Below.refl w.heap.size w).alloc (Nat.le_refl _) o) (tab_lt h)

set_option maxHeartbeats 800000 in
theorem specText_any (S H P Q : ByteArray) (n : Nat) (asks : Bool) (w : World) (hS : S.size ≤ 2000000) (hH : H.size ≤ 2000000) (hP : P.size ≤ 2000000) (hQ : Q.size ≤ 2000000) (hn : n ≤ 65535) :
    Calls Tryd.prog 41 #[.agg #[.string S, .string H, .int .i64 n, .string P, .string Q, .bool asks]] w fun e w' => e = .returned (.string (urlB S H n P Q asks)) ∧ Below w.heap.size w w' := by
  obtain ⟨N, hN⟩ : ∃ N, N = num n := ⟨_, rfl⟩
  have hNs : N.size ≤ 7 := by rw [hN]; exact num_size_le 6 n (by omega)
  have HN : Hid (N = num n) := hN
  by_cases h0 : n = 0
  · subst h0
    clear hN
    cases asks
    · have HR : Hid (urlB S H 0 P Q false = S ++ css ++ H ++ P) := rfl
      go_enter Tryd.func41, Tryd.ntmps41
      go_wp2
      go_ret
      exact ⟨ret_str HR.out.symm, (Below.refl _ _).alloc (Nat.le_refl _) _⟩
    · have HR : Hid (urlB S H 0 P Q true = S ++ css ++ H ++ P ++ (qm ++ Q)) := rfl
      go_enter Tryd.func41, Tryd.ntmps41
      go_wp2
      go_ret
      exact ⟨ret_str HR.out.symm, (Below.refl _ _).alloc (Nat.le_refl _) _⟩
  · have h0' : ((n : Int) != 0) = true := by rw [bne_iff_ne]; omega
    cases asks
    · have HR : Hid (urlB S H n P Q false = S ++ css ++ H ++ (colon ++ N) ++ P) := by show _ = _; unfold urlB; rw [if_neg h0, hN]; rfl
      clear hN h0
      go_enter Tryd.func41, Tryd.ntmps41
      go_wp2_with (go_at_call 73; refine (num_any 5 n _ (by omega) (by omega)).mono ?_; rintro e w1 ⟨rfl, hb1⟩; rw [← HN.out]; obtain ⟨hcl, hfr⟩ := bcell hb1)
      go_wp2
      go_ret
      exact ⟨ret_str HR.out.symm, by first | exact ((Below.refl _ _).alloc (Nat.le_refl _) _).trans (hb1.mono (by simp))⟩
    · have HR : Hid (urlB S H n P Q true = S ++ css ++ H ++ (colon ++ N) ++ P ++ (qm ++ Q)) := by show _ = _; unfold urlB; rw [if_neg h0, hN]; rfl
      clear hN h0
      go_enter Tryd.func41, Tryd.ntmps41
      go_wp2_with (go_at_call 73; refine (num_any 5 n _ (by omega) (by omega)).mono ?_; rintro e w1 ⟨rfl, hb1⟩; rw [← HN.out]; obtain ⟨hcl, hfr⟩ := bcell hb1)
      go_wp2
      go_ret
      exact ⟨ret_str HR.out.symm, by first | exact ((Below.refl _ _).alloc (Nat.le_refl _) _).trans (hb1.mono (by simp))⟩

set_option maxHeartbeats 800000 in
theorem implText_any (S H P Q : ByteArray) (n : Nat) (asks : Bool) (w : World) (hS : S.size ≤ 2000000) (hH : H.size ≤ 2000000) (hP : P.size ≤ 2000000) (hQ : Q.size ≤ 2000000) (hn : n ≤ 65535) (htab : Lib.TabIs Tryd.prog w "internal/strconv.uint64pow10" .u64 Lib.pow10Tab) :
    Calls Tryd.prog 40 #[.agg #[.string S, .string H, .int .i64 n, .string P, .string Q, .bool asks]] w fun e w' => e = .returned (.string (urlB S H n P Q asks)) ∧ Below w.heap.size w w' := by
  obtain ⟨N, hN⟩ : ∃ N, N = num n := ⟨_, rfl⟩
  have hNs : N.size ≤ 7 := by rw [hN]; exact num_size_le 6 n (by omega)
  have HN : Hid (N = num n) := hN
  by_cases h0 : n = 0
  · subst h0
    clear hN
    cases asks
    · have HR : Hid (urlB S H 0 P Q false = S ++ css ++ H ++ P) := rfl
      go_enter Tryd.func40, Tryd.ntmps40
      go_wp2
      go_ret
      exact ⟨ret_str HR.out.symm, (Below.refl _ _).alloc (Nat.le_refl _) _⟩
    · have HR : Hid (urlB S H 0 P Q true = S ++ css ++ H ++ P ++ (qm ++ Q)) := rfl
      go_enter Tryd.func40, Tryd.ntmps40
      go_wp2
      go_ret
      exact ⟨ret_str HR.out.symm, (Below.refl _ _).alloc (Nat.le_refl _) _⟩
  · have h0' : ((n : Int) != 0) = true := by rw [bne_iff_ne]; omega
    cases asks
    · have HR : Hid (urlB S H n P Q false = S ++ css ++ H ++ (colon ++ N) ++ P) := by show _ = _; unfold urlB; rw [if_neg h0, hN]; rfl
      clear hN h0
      go_enter Tryd.func40, Tryd.ntmps40
      go_wp2_with (go_at_call 72; refine (itoa_any n _ (by omega) (tab_alloc htab _)).mono ?_; rintro e w1 ⟨rfl, hb1⟩; rw [← HN.out]; obtain ⟨hcl, hfr⟩ := bcell hb1)
      go_wp2
      go_ret
      exact ⟨ret_str HR.out.symm, by first | exact ((Below.refl _ _).alloc (Nat.le_refl _) _).trans (hb1.mono (by simp))⟩
    · have HR : Hid (urlB S H n P Q true = S ++ css ++ H ++ (colon ++ N) ++ P ++ (qm ++ Q)) := by show _ = _; unfold urlB; rw [if_neg h0, hN]; rfl
      clear hN h0
      go_enter Tryd.func40, Tryd.ntmps40
      go_wp2_with (go_at_call 72; refine (itoa_any n _ (by omega) (tab_alloc htab _)).mono ?_; rintro e w1 ⟨rfl, hb1⟩; rw [← HN.out]; obtain ⟨hcl, hfr⟩ := bcell hb1)
      go_wp2
      go_ret
      exact ⟨ret_str HR.out.symm, by first | exact ((Below.refl _ _).alloc (Nat.le_refl _) _).trans (hb1.mono (by simp))⟩

end Go.Proofs.YtlgjgdpalflmfaaDoor.Txt
