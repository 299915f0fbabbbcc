/-
  Walks: spec.l1Read, spec.ReadUrl.
-/
import Derived.Test.YtlgjgdpalflmfaaDoorRsp
namespace Go.Proofs.YtlgjgdpalflmfaaDoor.Rsr
open Go.RowKit
open Go.Proofs.YtlgjgdpalflmfaaDoor.Byt
open Go.Proofs.YtlgjgdpalflmfaaDoor.Hex
open Go.Proofs.YtlgjgdpalflmfaaDoor.Rdm
open Go.Proofs.YtlgjgdpalflmfaaDoor.Rdi
open Go.Proofs.YtlgjgdpalflmfaaDoor.Spl
open Go.Proofs.YtlgjgdpalflmfaaDoor.Req
open Go.Proofs.YtlgjgdpalflmfaaDoor.Rsp
open Go.Proofs.YtlgjgdpalflmfaaDoor.Nrm (Blk Blk.made Blk.below Blk.alloc Blk.set Blk.other)

theorem cmp_of (a b c : ByteArray) (h : b = c) : (a.toList == b.toList) = decide (a = c) := by
  subst h
  have e : ∀ x : ByteArray, x.toList = x.data.toList := fun x => by simp [ByteArray.toList_eq]
  rw [e, e, Bool.eq_iff_iff, beq_iff_eq, decide_eq_true_eq]
  constructor
  · intro h; apply ByteArray.ext; exact Array.ext' h
  · intro h; rw [h]

set_option maxHeartbeats 1600000 in
theorem l1Read_any (s : ByteArray) (w : World) (hs : s.size ≤ 2000000) :
    Calls Tryd.prog 66 #[.string s] w fun e w' => e = .returned (partsV (specR s)) ∧ Below w.heap.size w w' := by
  by_cases h200 : 200 < s.size
  · have HV : specR s = none := by unfold specR; rw [if_pos h200]
    rw [HV]
    go_enter Tryd.func66, Tryd.ntmps66
    go_wp2_with fail
    have y3 := (Blk.made w #[.string ⟨#[]⟩, .string ⟨#[]⟩, .int .i64 0, .string ⟨#[]⟩, .string ⟨#[]⟩, .bool false] 24).2.2
    exact bodyPost_ret (v := .tuple #[.agg #[.string ⟨#[]⟩, .string ⟨#[]⟩, .int .i64 0, .string ⟨#[]⟩, .string ⟨#[]⟩, .bool false], .bool false]) (by simp [results, Tryd.results66, go_sem, y3]) rfl ⟨rfl, (Below.refl _ _).alloc (Nat.le_refl _) _⟩
  · have HR0 : Hid (Blk ((w.alloc (.cells #[.string ⟨#[]⟩, .string ⟨#[]⟩, .int .i64 0, .string ⟨#[]⟩, .string ⟨#[]⟩, .bool false] 24)).alloc (.cells #[.string ⟨#[104, 116, 116, 112]⟩, .string ⟨#[104, 116, 116, 112, 115]⟩] 9)) w.heap.size #[.string ⟨#[]⟩, .string ⟨#[]⟩, .int .i64 0, .string ⟨#[]⟩, .string ⟨#[]⟩, .bool false]) := (Blk.made w _ _).alloc _
    have hB0 : Below w.heap.size w ((w.alloc (.cells #[.string ⟨#[]⟩, .string ⟨#[]⟩, .int .i64 0, .string ⟨#[]⟩, .string ⟨#[]⟩, .bool false] 24)).alloc (.cells #[.string ⟨#[104, 116, 116, 112]⟩, .string ⟨#[104, 116, 116, 112, 115]⟩] 9)) := ((Below.refl _ _).alloc (Nat.le_refl _) _).alloc (by simp) _
    go_enter Tryd.func66, Tryd.ntmps66
    go_wp2_with fail
    go_loop [13] (fun i => ∃ k : Nat, i = .int .i64 k ∧ Hid (k = 0 ∨ (k = 1 ∧ ¬ (7 < s.size ∧ s.extract 0 7 = http7)) ∨ (k = 2 ∧ ¬ (7 < s.size ∧ s.extract 0 7 = http7) ∧ ¬ (8 < s.size ∧ s.extract 0 8 = http8)))) (fun i => 3 - (intOf i).toNat)
    case atStart => exact ⟨0, rfl, Or.inl rfl⟩
    case round =>
      obtain ⟨k, rfl, HC⟩ := hrel
      rcases HC.out with rfl | ⟨rfl, h7⟩ | ⟨rfl, h7, h8⟩
      · by_cases hz : 7 < s.size
        · have hz' : (7 : Int) < (s.size : Int) := by omega
          have hcmp := cmp_of (s.extract 0 7) (⟨#[104, 116, 116, 112]⟩ ++ ⟨#[58, 47, 47]⟩) http7 rfl
          by_cases hx : s.extract 0 7 = http7
          · rw [decide_eq_true hx] at hcmp
            have HV : Hid (specR s = authR http4 (s.extract 7 s.size)) := by show _ = _; unfold specR; rw [if_neg h200, if_pos ⟨hz, hx⟩]
            have HC' : Hid (∀ w, Calls Tryd.prog 67 #[.string ⟨#[104, 116, 116, 112]⟩, .string (s.extract 7 s.size)] w fun e w' => e = .returned (partsV (authR http4 (s.extract 7 s.size))) ∧ Below w.heap.size w w') := fun w => l1Authority_any http4 _ w (by decide) (by rw [ByteArray.size_extract]; omega)
            generalize authR http4 (s.extract 7 s.size) = o at HV HC'
            clear HC hx
            rcases o with _ | ⟨sc, h, n, p, q, a⟩
            · have HC2 : Hid (∀ w, Calls Tryd.prog 67 #[.string ⟨#[104, 116, 116, 112]⟩, .string (s.extract 7 s.size)] w fun e w' => e = .returned (.tuple #[.agg #[.string ⟨#[]⟩, .string ⟨#[]⟩, .int .i64 0, .string ⟨#[]⟩, .string ⟨#[]⟩, .bool false], .bool false]) ∧ Below w.heap.size w w') := HC'
              clear HC'
              go_wp2_with fail
              refine (HC2.out _).mono ?_
              rintro e w2 ⟨rfl, hb2⟩
              have hB2 : Below w.heap.size w w2 := hB0.trans (hb2.mono hB0.size)
              have hR2 := Blk.below HR0.out hb2
              obtain ⟨y1, y2, y3⟩ := hR2
              clear hb2 HC2
              go_wp2_with fail
              exact bodyPost_ret (v := .tuple #[.agg #[.string ⟨#[]⟩, .string ⟨#[]⟩, .int .i64 0, .string ⟨#[]⟩, .string ⟨#[]⟩, .bool false], .bool false]) (by simp [results, Tryd.results66, go_sem, y3]) rfl ⟨congrArg (fun x => Ending.returned (partsV x)) HV.out.symm, bel6 hB2 (Nat.le_refl _) _ _ _ _ _ _⟩
            · have HC2 : Hid (∀ w, Calls Tryd.prog 67 #[.string ⟨#[104, 116, 116, 112]⟩, .string (s.extract 7 s.size)] w fun e w' => e = .returned (.tuple #[.agg #[.string sc, .string h, .int .i64 n, .string p, .string q, .bool a], .bool true]) ∧ Below w.heap.size w w') := HC'
              clear HC'
              go_wp2_with fail
              refine (HC2.out _).mono ?_
              rintro e w2 ⟨rfl, hb2⟩
              have hB2 : Below w.heap.size w w2 := hB0.trans (hb2.mono hB0.size)
              have hR2 := Blk.below HR0.out hb2
              obtain ⟨y1, y2, y3⟩ := hR2
              clear hb2 HC2
              go_wp2_with fail
              exact bodyPost_ret (v := .tuple #[.agg #[.string sc, .string h, .int .i64 n, .string p, .string q, .bool a], .bool true]) (by simp [results, Tryd.results66, go_sem, y3]) rfl ⟨congrArg (fun x => Ending.returned (partsV x)) HV.out.symm, bel6 hB2 (Nat.le_refl _) _ _ _ _ _ _⟩
          · rw [decide_eq_false hx] at hcmp
            clear HC HR0 hB0
            go_wp2_with fail
            refine ⟨⟨1, rfl, Or.inr (Or.inl ⟨rfl, fun h => hx h.2⟩)⟩, by simp [intOf]⟩
        · have hz' : ¬ (7 : Int) < (s.size : Int) := by omega
          clear HC HR0 hB0
          go_wp2_with fail
          refine ⟨⟨1, rfl, Or.inr (Or.inl ⟨rfl, fun h => hz h.1⟩)⟩, by simp [intOf]⟩
      · by_cases hz : 8 < s.size
        · have hz' : (8 : Int) < (s.size : Int) := by omega
          have hcmp := cmp_of (s.extract 0 8) (⟨#[104, 116, 116, 112, 115]⟩ ++ ⟨#[58, 47, 47]⟩) http8 rfl
          by_cases hx : s.extract 0 8 = http8
          · rw [decide_eq_true hx] at hcmp
            have HV : Hid (specR s = authR http5 (s.extract 8 s.size)) := by show _ = _; unfold specR; rw [if_neg h200, if_neg h7, if_pos ⟨hz, hx⟩]
            have HC' : Hid (∀ w, Calls Tryd.prog 67 #[.string ⟨#[104, 116, 116, 112, 115]⟩, .string (s.extract 8 s.size)] w fun e w' => e = .returned (partsV (authR http5 (s.extract 8 s.size))) ∧ Below w.heap.size w w') := fun w => l1Authority_any http5 _ w (by decide) (by rw [ByteArray.size_extract]; omega)
            generalize authR http5 (s.extract 8 s.size) = o at HV HC'
            clear HC hx
            rcases o with _ | ⟨sc, h, n, p, q, a⟩
            · have HC2 : Hid (∀ w, Calls Tryd.prog 67 #[.string ⟨#[104, 116, 116, 112, 115]⟩, .string (s.extract 8 s.size)] w fun e w' => e = .returned (.tuple #[.agg #[.string ⟨#[]⟩, .string ⟨#[]⟩, .int .i64 0, .string ⟨#[]⟩, .string ⟨#[]⟩, .bool false], .bool false]) ∧ Below w.heap.size w w') := HC'
              clear HC'
              go_wp2_with fail
              refine (HC2.out _).mono ?_
              rintro e w2 ⟨rfl, hb2⟩
              have hB2 : Below w.heap.size w w2 := hB0.trans (hb2.mono hB0.size)
              have hR2 := Blk.below HR0.out hb2
              obtain ⟨y1, y2, y3⟩ := hR2
              clear hb2 HC2
              go_wp2_with fail
              exact bodyPost_ret (v := .tuple #[.agg #[.string ⟨#[]⟩, .string ⟨#[]⟩, .int .i64 0, .string ⟨#[]⟩, .string ⟨#[]⟩, .bool false], .bool false]) (by simp [results, Tryd.results66, go_sem, y3]) rfl ⟨congrArg (fun x => Ending.returned (partsV x)) HV.out.symm, bel6 hB2 (Nat.le_refl _) _ _ _ _ _ _⟩
            · have HC2 : Hid (∀ w, Calls Tryd.prog 67 #[.string ⟨#[104, 116, 116, 112, 115]⟩, .string (s.extract 8 s.size)] w fun e w' => e = .returned (.tuple #[.agg #[.string sc, .string h, .int .i64 n, .string p, .string q, .bool a], .bool true]) ∧ Below w.heap.size w w') := HC'
              clear HC'
              go_wp2_with fail
              refine (HC2.out _).mono ?_
              rintro e w2 ⟨rfl, hb2⟩
              have hB2 : Below w.heap.size w w2 := hB0.trans (hb2.mono hB0.size)
              have hR2 := Blk.below HR0.out hb2
              obtain ⟨y1, y2, y3⟩ := hR2
              clear hb2 HC2
              go_wp2_with fail
              exact bodyPost_ret (v := .tuple #[.agg #[.string sc, .string h, .int .i64 n, .string p, .string q, .bool a], .bool true]) (by simp [results, Tryd.results66, go_sem, y3]) rfl ⟨congrArg (fun x => Ending.returned (partsV x)) HV.out.symm, bel6 hB2 (Nat.le_refl _) _ _ _ _ _ _⟩
          · rw [decide_eq_false hx] at hcmp
            clear HC HR0 hB0
            go_wp2_with fail
            refine ⟨⟨2, rfl, Or.inr (Or.inr ⟨rfl, h7, fun h => hx h.2⟩)⟩, by simp [intOf]⟩
        · have hz' : ¬ (8 : Int) < (s.size : Int) := by omega
          clear HC HR0 hB0
          go_wp2_with fail
          refine ⟨⟨2, rfl, Or.inr (Or.inr ⟨rfl, h7, fun h => hz h.1⟩)⟩, by simp [intOf]⟩
      · have HV : Hid (specR s = none) := by show _ = _; unfold specR; rw [if_neg h200, if_neg h7, if_neg h8]
        obtain ⟨y1, y2, y3⟩ := HR0.out
        clear HC h7 h8
        go_wp2_with fail
        exact bodyPost_ret (v := .tuple #[.agg #[.string ⟨#[]⟩, .string ⟨#[]⟩, .int .i64 0, .string ⟨#[]⟩, .string ⟨#[]⟩, .bool false], .bool false]) (by simp [results, Tryd.results66, go_sem, y3]) rfl ⟨congrArg (fun x => Ending.returned (partsV x)) HV.out.symm, by first | with_reducible exact hB0 | with_reducible exact bel6 hB0 (Nat.le_refl _) _ _ _ _ _ _⟩

theorem specRead_any (s : ByteArray) (w : World) (hs : s.size ≤ 2000000) :
    Calls Tryd.prog 33 #[.string s] w fun e w' => e = .returned (partsV (specR s)) ∧ Below w.heap.size w w' := by
  have HC : Hid (∀ w, Calls Tryd.prog 66 #[.string s] w fun e w' => e = .returned (partsV (specR s)) ∧ Below w.heap.size w w') := fun w => l1Read_any s w hs
  have HR0 : Hid (Blk (w.alloc (.cells #[.string ⟨#[]⟩, .string ⟨#[]⟩, .int .i64 0, .string ⟨#[]⟩, .string ⟨#[]⟩, .bool false] 24)) w.heap.size #[.string ⟨#[]⟩, .string ⟨#[]⟩, .int .i64 0, .string ⟨#[]⟩, .string ⟨#[]⟩, .bool false]) := Blk.made w _ _
  have hB0 : Below w.heap.size w (w.alloc (.cells #[.string ⟨#[]⟩, .string ⟨#[]⟩, .int .i64 0, .string ⟨#[]⟩, .string ⟨#[]⟩, .bool false] 24)) := (Below.refl _ _).alloc (Nat.le_refl _) _
  obtain ⟨o, ho⟩ : ∃ o, o = specR s := ⟨_, rfl⟩
  rw [← ho] at HC ⊢
  clear ho
  rcases o with _ | ⟨sc, h, n, p, q, a⟩
  · have HC2 : Hid (∀ w, Calls Tryd.prog 66 #[.string s] w fun e w' => e = .returned (.tuple #[.agg #[.string ⟨#[]⟩, .string ⟨#[]⟩, .int .i64 0, .string ⟨#[]⟩, .string ⟨#[]⟩, .bool false], .bool false]) ∧ Below w.heap.size w w') := HC
    clear HC
    go_enter Tryd.func33, Tryd.ntmps33
    go_wp2_with fail
    refine (HC2.out _).mono ?_
    rintro e w2 ⟨rfl, hb2⟩
    have hB2 : Below w.heap.size w w2 := hB0.trans (hb2.mono hB0.size)
    have hR2 := Blk.below HR0.out hb2
    obtain ⟨y1, y2, y3⟩ := hR2
    clear hb2 HC2
    go_wp2_with fail
    exact bodyPost_ret (v := .tuple #[.agg #[.string ⟨#[]⟩, .string ⟨#[]⟩, .int .i64 0, .string ⟨#[]⟩, .string ⟨#[]⟩, .bool false], .bool false]) (by simp [results, Tryd.results33, go_sem, y3]) rfl ⟨rfl, bel6 hB2 (Nat.le_refl _) _ _ _ _ _ _⟩
  · have HC2 : Hid (∀ w, Calls Tryd.prog 66 #[.string s] w fun e w' => e = .returned (.tuple #[.agg #[.string sc, .string h, .int .i64 n, .string p, .string q, .bool a], .bool true]) ∧ Below w.heap.size w w') := HC
    clear HC
    go_enter Tryd.func33, Tryd.ntmps33
    go_wp2_with fail
    refine (HC2.out _).mono ?_
    rintro e w2 ⟨rfl, hb2⟩
    have hB2 : Below w.heap.size w w2 := hB0.trans (hb2.mono hB0.size)
    have hR2 := Blk.below HR0.out hb2
    obtain ⟨y1, y2, y3⟩ := hR2
    clear hb2 HC2
    go_wp2_with fail
    exact bodyPost_ret (v := .tuple #[.agg #[.string sc, .string h, .int .i64 n, .string p, .string q, .bool a], .bool true]) (by simp [results, Tryd.results33, go_sem, y3]) rfl ⟨rfl, bel6 hB2 (Nat.le_refl _) _ _ _ _ _ _⟩

end Go.Proofs.YtlgjgdpalflmfaaDoor.Rsr
