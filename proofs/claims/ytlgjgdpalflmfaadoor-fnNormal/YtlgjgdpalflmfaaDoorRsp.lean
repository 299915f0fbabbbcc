/-
  Walks: spec.l1Int, l1Authority, l1Read, ReadUrl.
-/
import Derived.Test.YtlgjgdpalflmfaaDoorReq
import Derived.Test.YtlgjgdpalflmfaaDoorGus
import Derived.Test.YtlgjgdpalflmfaaDoorNrm
import Derived.Test.YtlgjgdpalflmfaaDoorSpl
import Derived.Test.YtlgjgdpalflmfaaDoorSpl
import Derived.Test.YtlgjgdpalflmfaaDoorSpl
import Derived.Test.YtlgjgdpalflmfaaDoorSpl
namespace Go.Proofs.YtlgjgdpalflmfaaDoor.Rsp
open Go.RowKit
open Go.Proofs.YtlgjgdpalflmfaaDoor.Byt
open Go.Proofs.YtlgjgdpalflmfaaDoor.Hex
open Go.Proofs.YtlgjgdpalflmfaaDoor.Rdm
open Go.Proofs.YtlgjgdpalflmfaaDoor.Rdi
open Go.Proofs.YtlgjgdpalflmfaaDoor.Gud
open Go.Proofs.YtlgjgdpalflmfaaDoor.Chr
open Go.Proofs.YtlgjgdpalflmfaaDoor.Cut
open Go.Proofs.YtlgjgdpalflmfaaDoor.Req
open Go.Proofs.YtlgjgdpalflmfaaDoor.Spl
open Go.Proofs.YtlgjgdpalflmfaaDoor.Spl
open Go.Proofs.YtlgjgdpalflmfaaDoor.Spl
open Go.Proofs.YtlgjgdpalflmfaaDoor.Spl
open Go.Proofs.YtlgjgdpalflmfaaDoor.Nrm (Blk Blk.made Blk.below Blk.alloc Blk.set Blk.other)

theorem ret_i {a b : Int} (h : a = b) : Ending.returned (.int .i64 a) = .returned (.int .i64 b) := by rw [h]
def sumN (l : List UInt8) : Nat := l.foldl (fun n c => 10 * n + (c.toNat - 48)) 0
theorem sum_snoc (l : List UInt8) (c : UInt8) : sumN (l ++ [c]) = 10 * sumN l + (c.toNat - 48) := by
  unfold sumN; rw [List.foldl_append]; rfl
theorem nodig (b : Nat) : (noDig (UInt8.ofNat b) = false) ↔ (48 ≤ b % 256 ∧ b % 256 ≤ 57) := by
  unfold noDig; simp

/-- So far: digits alone, and their number. -/
def DigTo (d : ByteArray) (k v : Nat) : Prop := k ≤ d.size ∧ v < 10 ^ k ∧ v = sumN (d.data.toList.take k) ∧ ∀ j, j < k → noDig (at0 d j) = false

set_option maxHeartbeats 800000 in
theorem l1Int_any (d : ByteArray) (w : World) (hs : d.size ≤ 2000000) :
    Calls Tryd.prog 87 #[.string d] w fun e w' => e = .returned (.int .i64 (intR d)) ∧ w' = w := by
  by_cases h1 : d.size < 1
  · have HV : Hid (intR d = -1) := by show _ = _; unfold intR; rw [if_pos (Or.inl (by omega))]
    have ha : decide ((1 : Int) ≤ (d.size : Int)) = false := decide_eq_false (by omega)
    go_enter Tryd.func87, Tryd.ntmps87
    go_wp2
    go_ret
    exact ⟨ret_i HV.out.symm, rfl⟩
  have ha : decide ((1 : Int) ≤ (d.size : Int)) = true := decide_eq_true (by omega)
  by_cases h9 : 9 < d.size
  · have HV : Hid (intR d = -1) := by show _ = _; unfold intR; rw [if_pos (Or.inr (Or.inl h9))]
    have hb : decide ((d.size : Int) ≤ 9) = false := decide_eq_false (by omega)
    go_enter Tryd.func87, Tryd.ntmps87
    go_wp2
    go_ret
    exact ⟨ret_i HV.out.symm, rfl⟩
  have hb : decide ((d.size : Int) ≤ 9) = true := decide_eq_true (by omega)
  have hpos : 0 < d.size := by omega
  have e0 : at0 d 0 = d[0] := at_list d 0 hpos
  by_cases h0 : (d[0].toNat : Int) = 48 ∧ 1 < d.size
  · obtain ⟨h0, h2⟩ := h0
    have HV : Hid (intR d = -1) := by show _ = _; unfold intR; rw [e0, if_pos (Or.inr (Or.inr ⟨by omega, h2⟩))]
    have h0' : ((d[0].toNat : Int) == 48) = true := by simpa using h0
    clear e0
    go_enter Tryd.func87, Tryd.ntmps87
    go_wp2
    go_ret
    exact ⟨ret_i HV.out.symm, rfl⟩
  have HV : Hid (intR d = if d.data.toList.all (fun c => !noDig c) = true then (sumN d.data.toList : Int) else -1) := by
    show _ = _; unfold intR
    rw [e0, if_neg (show ¬ (d.size = 0 ∨ 9 < d.size ∨ (d[0].toNat = 48 ∧ 1 < d.size)) from by omega)]; rfl
  have HL : Hid (∀ P : Prop, ((d[0].toNat : Int) = 48 → ¬ 1 < d.size → P) → ((d[0].toNat : Int) ≠ 48 → P) → P) := by
    intro P p1 p2
    by_cases h : (d[0].toNat : Int) = 48
    · exact p1 h (fun h2 => h0 ⟨h, h2⟩)
    · exact p2 h
  clear e0 h0
  refine HL.out _ (fun z1 z2 => ?_) (fun z1 => ?_)
  all_goals
    first
    | (have z3 : ((d[0].toNat : Int) == 48) = true := by simpa using z1)
    | (have z3 : ((d[0].toNat : Int) == 48) = false := by simpa using z1)
    clear HL
    go_enter Tryd.func87, Tryd.ntmps87
    go_wp2
    go_loop [3, 4] (fun n i => ∃ (k v : Nat), n = .int .i64 v ∧ i = .int .i64 k ∧ Hid (DigTo d k v)) (fun _ i => d.size - (intOf i).toNat)
    case atStart => exact ⟨0, 0, rfl, rfl, by omega, by decide, rfl, fun j hj => absurd hj (by omega)⟩
    case round =>
      obtain ⟨k, v, rfl, rfl, HX⟩ := hrel
      obtain ⟨hk, hv, hS, hA⟩ := HX.out
      have HS : Hid (v = sumN (d.data.toList.take k)) := hS
      have HA : Hid (∀ j, j < k → noDig (at0 d j) = false) := hA
      clear hS hA HX
      by_cases hlt : k < d.size
      · have ek : at0 d k = d[k] := at_list d k hlt
        by_cases hd : 48 ≤ (d[k].toNat : Int) ∧ (d[k].toNat : Int) ≤ 57
        · obtain ⟨d1, d2⟩ := hd
          have hp : 10 ^ k ≤ 10 ^ 8 := Nat.pow_le_pow_right (by omega) (by omega)
          have hp8 : (10 : Nat) ^ 8 = 100000000 := by decide
          have HS' : Hid (10 * v + (d[k].toNat - 48) = sumN (d.data.toList.take (k + 1))) := by
            show _ = _
            have hkl : k < d.data.toList.length := by simpa using hlt
            rw [List.take_succ_eq_append_getElem hkl, sum_snoc, ← HS.out]
            unfold at0 at ek
            rw [List.getElem?_eq_getElem hkl, Option.getD_some] at ek
            rw [ek]
          have HA' : Hid (∀ j, j < k + 1 → noDig (at0 d j) = false) := by
            intro j hj
            by_cases hjk : j = k
            · subst hjk; rw [ek]; unfold noDig; rw [decide_eq_true (show 48 ≤ d[j].toNat from by omega), decide_eq_true (show d[j].toNat ≤ 57 from by omega)]; rfl
            · exact HA.out j (by omega)
          have hv' : 10 * v + (d[k].toNat - 48) < 10 ^ (k + 1) := by rw [Nat.pow_succ]; omega
          have w1 : IntKind.i64.wrap (10 * (v : Int)) = 10 * (v : Int) := by rw [IntKind.wrap_i64]; omega
          have w2 : IntKind.u8.wrap ((d[k].toNat : Int) - 48) = (d[k].toNat : Int) - 48 := by rw [IntKind.wrap_u8]; omega
          have w3 : IntKind.i64.wrap ((d[k].toNat : Int) - 48) = (d[k].toNat : Int) - 48 := by rw [IntKind.wrap_i64]; omega
          have w4 : IntKind.i64.wrap (10 * (v : Int) + ((d[k].toNat : Int) - 48)) = 10 * (v : Int) + ((d[k].toNat : Int) - 48) := by rw [IntKind.wrap_i64]; omega
          clear HS HA ek
          go_wp2
          go_round
          case rel => exact ⟨_, _, _, ⟨k + 1, 10 * v + (d[k].toNat - 48), rfl, rfl, by omega, hv', HS'.out, HA'.out⟩, rfl, by go_num, by go_num⟩
          case measure => simp [intOf]; omega
        · have HR : Hid (intR d = -1) := by
            show _ = _
            rw [HV.out, not_all (j := k) hlt (by unfold noDig; rw [ek]; rcases (show ¬ 48 ≤ d[k].toNat ∨ ¬ d[k].toNat ≤ 57 from by omega) with h | h <;> simp [h])]
            rfl
          clear HS HA ek HV
          rcases (show (d[k].toNat : Int) < 48 ∨ 57 < (d[k].toNat : Int) from by omega) with h | h
          all_goals
            clear hd
            go_wp2
            go_ret
            exact ⟨ret_i HR.out.symm, rfl⟩
      · obtain rfl : k = d.size := by omega
        have HR : Hid (intR d = (v : Int)) := by
          show _ = _
          rw [HV.out, all_of (d := d) (fun j hj => HA.out j hj), if_pos rfl, HS.out]
          congr 2
          rw [← show d.data.toList.length = d.size by simp, List.take_length]
        clear HS HA HV
        go_wp2
        go_ret
        exact ⟨ret_i HR.out.symm, rfl⟩

theorem scan_uniq {p : UInt8 → Bool} {s : ByteArray} {k : Nat} (hk : k ≤ s.size) (h1 : ∀ j, j < k → p (at0 s j) = false) (h2 : k < s.size → p (at0 s k) = true) : scanF p s.data.toList s.data.toList.length 0 = k := by
  obtain ⟨_, a2, a3, a4⟩ := scan_is p s 0 (Nat.zero_le _)
  generalize scanF p s.data.toList s.data.toList.length 0 = e at a2 a3 a4
  rcases Nat.lt_trichotomy e k with h | h | h
  · have := a4 (by omega); rw [h1 e h] at this; cases this
  · exact h
  · have := h2 (by omega); rw [a3 k (by omega) h] at this; cases this

theorem parts_n {sc H P Q : ByteArray} {A : Bool} {n : Int} (h : 0 ≤ n) : partsV (some (sc, H, n.toNat, P, Q, A)) = .tuple #[.agg #[.string sc, .string H, .int .i64 n, .string P, .string Q, .bool A], .bool true] := by
  show Value.tuple #[.agg #[.string sc, .string H, .int .i64 (n.toNat : Int), .string P, .string Q, .bool A], .bool true] = _
  rw [Int.toNat_of_nonneg h]
theorem empty_cmp {T : ByteArray} (h : T.size = 0) : (T.toList == []) = true := by
  have e : T.toList = T.data.toList := by simp [ByteArray.toList_eq]
  rw [e, size_zero h]; rfl
theorem some_cmp {T : ByteArray} (h : T.size ≠ 0) : (T.toList == []) = false := by
  have e : T.toList = T.data.toList := by simp [ByteArray.toList_eq]
  rw [e]
  have : T.data.toList.length = T.size := by simp
  cases hT : T.data.toList with
  | nil => rw [hT] at this; simp at this; omega
  | cons => rfl

set_option maxRecDepth 20000 in
set_option maxHeartbeats 12800000 in
theorem l1Authority_any (sc t : ByteArray) (w : World) (hsc : sc.size ≤ 10) (ht : t.size ≤ 200) :
    Calls Tryd.prog 67 #[.string sc, .string t] w fun e w' => e = .returned (partsV (authR sc t)) ∧ Below w.heap.size w w' := by
  have hs0 : (w.alloc (.cells #[.string ⟨#[]⟩, .string ⟨#[]⟩, .int .i64 0, .string ⟨#[]⟩, .string ⟨#[]⟩, .bool false] 24)).heap.size = w.heap.size + 1 := by simp
  have HU0 : Hid (Blk ((w.alloc (.cells #[.string ⟨#[]⟩, .string ⟨#[]⟩, .int .i64 0, .string ⟨#[]⟩, .string ⟨#[]⟩, .bool false] 24)).alloc (.cells #[.string sc, .string ⟨#[]⟩, .int .i64 0, .string ⟨#[]⟩, .string ⟨#[]⟩, .bool false] 24)) (w.heap.size + 1) #[.string sc, .string ⟨#[]⟩, .int .i64 0, .string ⟨#[]⟩, .string ⟨#[]⟩, .bool false]) := by
    show Blk _ _ _; rw [← hs0]; exact Blk.made _ _ _
  have HR0 : Hid (Blk ((w.alloc (.cells #[.string ⟨#[]⟩, .string ⟨#[]⟩, .int .i64 0, .string ⟨#[]⟩, .string ⟨#[]⟩, .bool false] 24)).alloc (.cells #[.string sc, .string ⟨#[]⟩, .int .i64 0, .string ⟨#[]⟩, .string ⟨#[]⟩, .bool false] 24)) w.heap.size #[.string ⟨#[]⟩, .string ⟨#[]⟩, .int .i64 0, .string ⟨#[]⟩, .string ⟨#[]⟩, .bool false]) := (Blk.made w _ _).alloc _
  have hB0 : Below w.heap.size w ((w.alloc (.cells #[.string ⟨#[]⟩, .string ⟨#[]⟩, .int .i64 0, .string ⟨#[]⟩, .string ⟨#[]⟩, .bool false] 24)).alloc (.cells #[.string sc, .string ⟨#[]⟩, .int .i64 0, .string ⟨#[]⟩, .string ⟨#[]⟩, .bool false] 24)) := ((Below.refl _ _).alloc (Nat.le_refl _) _).alloc (by simp) _
  clear hs0
  go_enter Tryd.func67, Tryd.ntmps67
  go_wp2_with fail
  go_loop [7] (fun i => ∃ k : Nat, k ≤ t.size ∧ i = .int .i64 k ∧ Hid (∀ j, j < k → isEnd (at0 t j) = false)) (fun i => t.size - (intOf i).toNat)
  case atStart => exact ⟨0, by omega, rfl, fun j hj => absurd hj (by omega)⟩
  case round =>
    obtain ⟨k, hk, rfl, HA⟩ := hrel
    have HK : Hid (∀ P : Prop, ((h : k < t.size) → (t[k].toNat : Int) ≠ 47 → (t[k].toNat : Int) ≠ 63 → P) → ((¬ (k < t.size) ∨ ∃ h : k < t.size, (t[k].toNat : Int) = 47 ∨ ((t[k].toNat : Int) ≠ 47 ∧ (t[k].toNat : Int) = 63)) → P) → P) := by
      intro P p1 p2
      by_cases h : k < t.size
      · by_cases h1 : (t[k].toNat : Int) = 47
        · exact p2 (Or.inr ⟨h, Or.inl h1⟩)
        · by_cases h2 : (t[k].toNat : Int) = 63
          · exact p2 (Or.inr ⟨h, Or.inr ⟨h1, h2⟩⟩)
          · exact p1 h h1 h2
      · exact p2 (Or.inl h)
    refine HK.out _ (fun hlt h1 h2 => ?_) (fun hE => ?_)
    · have e0 : at0 t k = t[k] := at_list t k hlt
      have HA' : Hid (∀ j, j < k + 1 → isEnd (at0 t j) = false) := by
        intro j hj
        by_cases hjk : j = k
        · subst hjk; rw [e0]; unfold isEnd; simp; omega
        · exact HA.out j (by omega)
      have h1' : ((t[k].toNat : Int) != 47) = true := by simpa using h1
      have h2' : ((t[k].toNat : Int) != 63) = true := by simpa using h2
      clear HA HK e0 h1 h2 HU0 HR0 hB0
      go_wp2_with fail
      go_round
      case rel => exact ⟨k + 1, by omega, by go_num, HA'⟩
      case measure => simp [intOf]; omega
    · have hend : scanF isEnd t.data.toList t.data.toList.length 0 = k := scan_uniq hk HA.out (by
        intro hlt
        have e0 : at0 t k = t[k] := at_list t k hlt
        rw [e0]; unfold isEnd
        rcases hE with hE | ⟨_, hE | ⟨_, hE⟩⟩
        · omega
        · simp; omega
        · simp; omega)
      have HV0 : Hid (authR sc t = if cutB (t.extract 0 k) 58 = true then
          if intR (cutZ (t.extract 0 k) 58) ≤ 0 then none
          else if goodB sc (cutA (t.extract 0 k) 58) (intR (cutZ (t.extract 0 k) 58)) (pathP (t.extract k t.size)) (cutZ (t.extract k t.size) 63) (cutB (t.extract k t.size) 63) = true then some (sc, cutA (t.extract 0 k) 58, (intR (cutZ (t.extract 0 k) 58)).toNat, pathP (t.extract k t.size), cutZ (t.extract k t.size) 63, cutB (t.extract k t.size) 63) else none
        else if goodB sc (cutA (t.extract 0 k) 58) 0 (pathP (t.extract k t.size)) (cutZ (t.extract k t.size) 63) (cutB (t.extract k t.size) 63) = true then some (sc, cutA (t.extract 0 k) 58, 0, pathP (t.extract k t.size), cutZ (t.extract k t.size) 63, cutB (t.extract k t.size) 63) else none) := by
        show _ = _
        unfold authR
        simp only [hend]
      have HC1 : Hid (∀ w, Calls Tryd.prog 68 #[.string (t.extract 0 k), .int .u8 58] w fun e w' => e = .returned (.tuple #[.string (cutA (t.extract 0 k) 58), .string (cutZ (t.extract 0 k) 58), .bool (cutB (t.extract 0 k) 58)]) ∧ Below w.heap.size w w') := fun w => l1Cut_any (t.extract 0 k) 58 w (by rw [ByteArray.size_extract]; omega)
      have HC2 : Hid (∀ w, Calls Tryd.prog 68 #[.string (t.extract k t.size), .int .u8 63] w fun e w' => e = .returned (.tuple #[.string (cutA (t.extract k t.size) 63), .string (cutZ (t.extract k t.size) 63), .bool (cutB (t.extract k t.size) 63)]) ∧ Below w.heap.size w w') := fun w => l1Cut_any (t.extract k t.size) 63 w (by rw [ByteArray.size_extract]; omega)
      have HPP : Hid (((cutA (t.extract k t.size) 63).size = 0 → pathP (t.extract k t.size) = slash) ∧ ((cutA (t.extract k t.size) 63).size ≠ 0 → pathP (t.extract k t.size) = cutA (t.extract k t.size) 63)) :=
        ⟨fun h => by unfold pathP; rw [if_pos h], fun h => by unfold pathP; rw [if_neg h]⟩
      have z1 := cut_size (t.extract 0 k) 58
      have z2 := cut_size (t.extract k t.size) 63
      have z3 := ext_size t 0 k
      have z4 := ext_size t k t.size
      have HI : Hid (∀ w, Calls Tryd.prog 87 #[.string (cutZ (t.extract 0 k) 58)] w fun e w' => e = .returned (.int .i64 (intR (cutZ (t.extract 0 k) 58))) ∧ w' = w) := fun w => l1Int_any _ w (by omega)
      obtain ⟨z5, z6⟩ := z1
      obtain ⟨z7, z8⟩ := z2
      generalize cutA (t.extract 0 k) 58 = H at HV0 HC1 z5
      generalize cutZ (t.extract 0 k) 58 = D at HV0 HC1 HI z6
      generalize cutB (t.extract 0 k) 58 = B at HV0 HC1
      generalize pathP (t.extract k t.size) = PP at HV0 HPP
      generalize cutA (t.extract k t.size) 63 = P0 at HC2 HPP z7
      generalize cutZ (t.extract k t.size) 63 = Q at HV0 HC2 z8
      generalize cutB (t.extract k t.size) 63 = A at HV0 HC2
      clear hend HA HK
      have zz : H.size ≤ 200 ∧ P0.size ≤ 200 ∧ Q.size ≤ 200 := by omega
      obtain ⟨zH, zP, zQ⟩ := zz
      clear z3 z4 z5 z6 z7 z8
      have HE : Hid (∀ G : Prop, (¬ k < t.size → G) → ((h : k < t.size) → (t[k].toNat : Int) = 47 → G) → ((h : k < t.size) → ((t[k].toNat : Int) != 47) = true → (t[k].toNat : Int) = 63 → G) → G) := by
        intro G g1 g2 g3
        rcases hE with h | ⟨h, h1 | ⟨h1, h2⟩⟩
        · exact g1 h
        · exact g2 h h1
        · exact g3 h (by simpa using h1) h2
      clear hE
      refine HE.out _ (fun q1 => ?_) (fun q1 q2 => ?_) (fun q1 q2 q3 => ?_)
      all_goals
        clear HE
        go_wp2_with fail
        refine (HC1.out _).mono ?_
        rintro e w1 ⟨rfl, hb1⟩
        have hU1 := Blk.below HU0.out hb1
        have hR1 := Blk.below HR0.out hb1
        have hB1 : Below w.heap.size w w1 := hB0.trans (hb1.mono hB0.size)
        have hU1s : Hid (Blk (w1.setCell ⟨w.heap.size + 1, 1, none⟩ (.string H)) (w.heap.size + 1) #[.string sc, .string H, .int .i64 0, .string ⟨#[]⟩, .string ⟨#[]⟩, .bool false]) := Blk.set hU1 1 (.string H) (by simp)
        have hR1s : Hid (Blk (w1.setCell ⟨w.heap.size + 1, 1, none⟩ (.string H)) w.heap.size #[.string ⟨#[]⟩, .string ⟨#[]⟩, .int .i64 0, .string ⟨#[]⟩, .string ⟨#[]⟩, .bool false]) := Blk.other hR1 (Nat.ne_of_lt (Nat.lt_succ_self _)) 1 (.string H)
        have hB1s : Below w.heap.size w (w1.setCell ⟨w.heap.size + 1, 1, none⟩ (.string H)) := Below.setCell hB1 (p := ⟨w.heap.size + 1, 1, none⟩) (Nat.le_succ _) (.string H)
        have hR1c := hR1
        obtain ⟨v1, v2, v3⟩ := hU1
        obtain ⟨y1, y2, y3⟩ := hR1c
        clear hb1 HU0 HR0 hB0 HC1
        try clear q3
        try clear q2
        clear q1
        cases B with
        | false =>
          have HV : Hid (authR sc t = if goodB sc H 0 PP Q A = true then some (sc, H, 0, PP, Q, A) else none) := by
            show _ = _; rw [HV0.out]; exact if_neg (by simp)
          clear HV0 HI y1 y2 y3
          go_wp2_with fail
          refine (HC2.out _).mono ?_
          rintro e w2 ⟨rfl, hb2⟩
          have hU2 := Blk.below hU1s.out hb2
          have hR2 : Hid _ := Blk.below hR1s.out hb2
          have hB2 : Below w.heap.size w w2 := hB1s.trans (hb2.mono hB1s.size)
          have hU3 : Hid (Blk (((w2.setCell ⟨w.heap.size + 1, 3, none⟩ (.string P0)).setCell ⟨w.heap.size + 1, 4, none⟩ (.string Q)).setCell ⟨w.heap.size + 1, 5, none⟩ (.bool A)) (w.heap.size + 1) #[.string sc, .string H, .int .i64 0, .string P0, .string Q, .bool A]) := Blk.set (Blk.set (Blk.set hU2 3 (.string P0) (by simp)) 4 (.string Q) (by simp)) 5 (.bool A) (by simp)
          have hR3 : Hid (Blk (((w2.setCell ⟨w.heap.size + 1, 3, none⟩ (.string P0)).setCell ⟨w.heap.size + 1, 4, none⟩ (.string Q)).setCell ⟨w.heap.size + 1, 5, none⟩ (.bool A)) w.heap.size #[.string ⟨#[]⟩, .string ⟨#[]⟩, .int .i64 0, .string ⟨#[]⟩, .string ⟨#[]⟩, .bool false]) := Blk.other (Blk.other (Blk.other hR2.out (Nat.ne_of_lt (Nat.lt_succ_self _)) 3 (.string P0)) (Nat.ne_of_lt (Nat.lt_succ_self _)) 4 (.string Q)) (Nat.ne_of_lt (Nat.lt_succ_self _)) 5 (.bool A)
          have hB3 : Below w.heap.size w (((w2.setCell ⟨w.heap.size + 1, 3, none⟩ (.string P0)).setCell ⟨w.heap.size + 1, 4, none⟩ (.string Q)).setCell ⟨w.heap.size + 1, 5, none⟩ (.bool A)) := Below.setCell (Below.setCell (Below.setCell hB2 (p := ⟨w.heap.size + 1, 3, none⟩) (Nat.le_succ _) (.string P0)) (p := ⟨w.heap.size + 1, 4, none⟩) (Nat.le_succ _) (.string Q)) (p := ⟨w.heap.size + 1, 5, none⟩) (Nat.le_succ _) (.bool A)
          obtain ⟨u1, u2, u3⟩ := hU2
          clear hb2 hB2
          by_cases hp : P0.size = 0
          · have hp0 := empty_cmp hp
            have hU4 : Hid (Blk ((((w2.setCell ⟨w.heap.size + 1, 3, none⟩ (.string P0)).setCell ⟨w.heap.size + 1, 4, none⟩ (.string Q)).setCell ⟨w.heap.size + 1, 5, none⟩ (.bool A)).setCell ⟨w.heap.size + 1, 3, none⟩ (.string ⟨#[47]⟩)) (w.heap.size + 1) #[.string sc, .string H, .int .i64 0, .string ⟨#[47]⟩, .string Q, .bool A]) := Blk.set hU3.out 3 (.string ⟨#[47]⟩) (by simp)
            have hR4 : Hid (Blk ((((w2.setCell ⟨w.heap.size + 1, 3, none⟩ (.string P0)).setCell ⟨w.heap.size + 1, 4, none⟩ (.string Q)).setCell ⟨w.heap.size + 1, 5, none⟩ (.bool A)).setCell ⟨w.heap.size + 1, 3, none⟩ (.string ⟨#[47]⟩)) w.heap.size #[.string ⟨#[]⟩, .string ⟨#[]⟩, .int .i64 0, .string ⟨#[]⟩, .string ⟨#[]⟩, .bool false]) := Blk.other hR3.out (Nat.ne_of_lt (Nat.lt_succ_self _)) 3 (.string ⟨#[47]⟩)
            have hB4 : Below w.heap.size w ((((w2.setCell ⟨w.heap.size + 1, 3, none⟩ (.string P0)).setCell ⟨w.heap.size + 1, 4, none⟩ (.string Q)).setCell ⟨w.heap.size + 1, 5, none⟩ (.bool A)).setCell ⟨w.heap.size + 1, 3, none⟩ (.string ⟨#[47]⟩)) := Below.setCell hB3 (p := ⟨w.heap.size + 1, 3, none⟩) (Nat.le_succ _) (.string ⟨#[47]⟩)
            have hPP : PP = (⟨#[47]⟩ : ByteArray) := HPP.out.1 hp
            have HG : Hid (∀ w1, Calls Tryd.prog 31 #[.agg #[.string sc, .string H, .int .i64 0, .string ⟨#[47]⟩, .string Q, .bool A]] w1 fun e w2 => e = .returned (.bool (goodB sc H 0 ⟨#[47]⟩ Q A)) ∧ Below w1.heap.size w1 w2) := fun w1 => specGood_any sc H ⟨#[47]⟩ Q 0 A w1 (by omega) (by omega) (by decide) (by omega)
            rw [hPP] at HV
            cases hg : goodB sc H 0 ⟨#[47]⟩ Q A
            · rw [hg] at HG
              have HR : Hid (partsV (authR sc t) = .tuple #[.agg #[.string ⟨#[]⟩, .string ⟨#[]⟩, .int .i64 0, .string ⟨#[]⟩, .string ⟨#[]⟩, .bool false], .bool false]) := by
                show _ = _
                rw [HV.out, if_neg (show ¬ (goodB sc H 0 ⟨#[47]⟩ Q A = true) from by rw [hg]; simp)]; rfl
              clear HV hg hPP HPP hp
              go_wp2_with fail
              refine (HG.out _).mono ?_
              rintro e w5 ⟨rfl, hb5⟩
              have hU5 := Blk.below hU4.out hb5
              have hR5 := Blk.below hR4.out hb5
              have hB5 : Below w.heap.size w w5 := hB4.trans (hb5.mono hB4.size)
              obtain ⟨x1, x2, x3⟩ := hU5
              obtain ⟨y1, y2, y3⟩ := hR5
              clear hb5 u1 u2 u3 hU3 hR3 hB3 hU4 hR4 hB4 hR2 HG
              have hne : (w.heap.size + 1 = w.heap.size) = False := by simp
              have hne' : (w.heap.size = w.heap.size + 1) = False := by simp
              go_wp2_with fail
              exact bodyPost_ret (v := .tuple #[.agg #[.string ⟨#[]⟩, .string ⟨#[]⟩, .int .i64 0, .string ⟨#[]⟩, .string ⟨#[]⟩, .bool false], .bool false]) (by simp [results, Tryd.results67, go_sem, y3]) rfl ⟨congrArg Ending.returned HR.out.symm, bel6 hB5 (Nat.le_refl _) _ _ _ _ _ _⟩
            · rw [hg] at HG
              have HR : Hid (partsV (authR sc t) = .tuple #[.agg #[.string sc, .string H, .int .i64 0, .string ⟨#[47]⟩, .string Q, .bool A], .bool true]) := by
                show _ = _
                rw [HV.out, if_pos (show (goodB sc H 0 ⟨#[47]⟩ Q A = true) from by rw [hg])]; rfl
              clear HV hg hPP HPP hp
              go_wp2_with fail
              refine (HG.out _).mono ?_
              rintro e w5 ⟨rfl, hb5⟩
              have hU5 := Blk.below hU4.out hb5
              have hR5 := Blk.below hR4.out hb5
              have hB5 : Below w.heap.size w w5 := hB4.trans (hb5.mono hB4.size)
              obtain ⟨x1, x2, x3⟩ := hU5
              obtain ⟨y1, y2, y3⟩ := hR5
              clear hb5 u1 u2 u3 hU3 hR3 hB3 hU4 hR4 hB4 hR2 HG
              have hne : (w.heap.size + 1 = w.heap.size) = False := by simp
              have hne' : (w.heap.size = w.heap.size + 1) = False := by simp
              go_wp2_with fail
              exact bodyPost_ret (v := .tuple #[.agg #[.string sc, .string H, .int .i64 0, .string ⟨#[47]⟩, .string Q, .bool A], .bool true]) (by simp [results, Tryd.results67, go_sem, y3]) rfl ⟨congrArg Ending.returned HR.out.symm, bel6 hB5 (Nat.le_refl _) _ _ _ _ _ _⟩
          · have hp0 := some_cmp hp
            have hU4 : Hid _ := hU3
            have hR4 : Hid _ := hR3
            have hB4 := hB3
            have hPP := HPP.out.2 hp
            have HG : Hid (∀ w1, Calls Tryd.prog 31 #[.agg #[.string sc, .string H, .int .i64 0, .string P0, .string Q, .bool A]] w1 fun e w2 => e = .returned (.bool (goodB sc H 0 P0 Q A)) ∧ Below w1.heap.size w1 w2) := fun w1 => specGood_any sc H P0 Q 0 A w1 (by omega) (by omega) (by omega) (by omega)
            rw [hPP] at HV
            cases hg : goodB sc H 0 P0 Q A
            · rw [hg] at HG
              have HR : Hid (partsV (authR sc t) = .tuple #[.agg #[.string ⟨#[]⟩, .string ⟨#[]⟩, .int .i64 0, .string ⟨#[]⟩, .string ⟨#[]⟩, .bool false], .bool false]) := by
                show _ = _
                rw [HV.out, if_neg (show ¬ (goodB sc H 0 P0 Q A = true) from by rw [hg]; simp)]; rfl
              clear HV hg hPP HPP hp
              go_wp2_with fail
              refine (HG.out _).mono ?_
              rintro e w5 ⟨rfl, hb5⟩
              have hU5 := Blk.below hU4.out hb5
              have hR5 := Blk.below hR4.out hb5
              have hB5 : Below w.heap.size w w5 := hB4.trans (hb5.mono hB4.size)
              obtain ⟨x1, x2, x3⟩ := hU5
              obtain ⟨y1, y2, y3⟩ := hR5
              clear hb5 u1 u2 u3 hU3 hR3 hB3 hU4 hR4 hB4 hR2 HG
              have hne : (w.heap.size + 1 = w.heap.size) = False := by simp
              have hne' : (w.heap.size = w.heap.size + 1) = False := by simp
              go_wp2_with fail
              exact bodyPost_ret (v := .tuple #[.agg #[.string ⟨#[]⟩, .string ⟨#[]⟩, .int .i64 0, .string ⟨#[]⟩, .string ⟨#[]⟩, .bool false], .bool false]) (by simp [results, Tryd.results67, go_sem, y3]) rfl ⟨congrArg Ending.returned HR.out.symm, bel6 hB5 (Nat.le_refl _) _ _ _ _ _ _⟩
            · rw [hg] at HG
              have HR : Hid (partsV (authR sc t) = .tuple #[.agg #[.string sc, .string H, .int .i64 0, .string P0, .string Q, .bool A], .bool true]) := by
                show _ = _
                rw [HV.out, if_pos (show (goodB sc H 0 P0 Q A = true) from by rw [hg])]; rfl
              clear HV hg hPP HPP hp
              go_wp2_with fail
              refine (HG.out _).mono ?_
              rintro e w5 ⟨rfl, hb5⟩
              have hU5 := Blk.below hU4.out hb5
              have hR5 := Blk.below hR4.out hb5
              have hB5 : Below w.heap.size w w5 := hB4.trans (hb5.mono hB4.size)
              obtain ⟨x1, x2, x3⟩ := hU5
              obtain ⟨y1, y2, y3⟩ := hR5
              clear hb5 u1 u2 u3 hU3 hR3 hB3 hU4 hR4 hB4 hR2 HG
              have hne : (w.heap.size + 1 = w.heap.size) = False := by simp
              have hne' : (w.heap.size = w.heap.size + 1) = False := by simp
              go_wp2_with fail
              exact bodyPost_ret (v := .tuple #[.agg #[.string sc, .string H, .int .i64 0, .string P0, .string Q, .bool A], .bool true]) (by simp [results, Tryd.results67, go_sem, y3]) rfl ⟨congrArg Ending.returned HR.out.symm, bel6 hB5 (Nat.le_refl _) _ _ _ _ _ _⟩
        | true =>
          have HV1 : Hid (authR sc t = if intR D ≤ 0 then none else if goodB sc H (intR D) PP Q A = true then some (sc, H, (intR D).toNat, PP, Q, A) else none) := by
            show _ = _; rw [HV0.out]; exact if_pos rfl
          clear HV0
          generalize intR D = n at HV1 HI
          have hB1t : Below w.heap.size w ((w1.setCell ⟨w.heap.size + 1, 1, none⟩ (.string H)).setCell ⟨w.heap.size + 1, 2, none⟩ (.int .i64 n)) := Below.setCell hB1s (p := ⟨w.heap.size + 1, 2, none⟩) (Nat.le_succ _) (.int .i64 n)
          have hU1t : Hid (Blk ((w1.setCell ⟨w.heap.size + 1, 1, none⟩ (.string H)).setCell ⟨w.heap.size + 1, 2, none⟩ (.int .i64 n)) (w.heap.size + 1) #[.string sc, .string H, .int .i64 n, .string ⟨#[]⟩, .string ⟨#[]⟩, .bool false]) := Blk.set hU1s.out 2 (.int .i64 n) (by simp)
          have hR1t : Hid (Blk ((w1.setCell ⟨w.heap.size + 1, 1, none⟩ (.string H)).setCell ⟨w.heap.size + 1, 2, none⟩ (.int .i64 n)) w.heap.size #[.string ⟨#[]⟩, .string ⟨#[]⟩, .int .i64 0, .string ⟨#[]⟩, .string ⟨#[]⟩, .bool false]) := Blk.other hR1s.out (Nat.ne_of_lt (Nat.lt_succ_self _)) 2 (.int .i64 n)
          by_cases hn : n ≤ 0
          · have HR : Hid (partsV (authR sc t) = .tuple #[.agg #[.string ⟨#[]⟩, .string ⟨#[]⟩, .int .i64 0, .string ⟨#[]⟩, .string ⟨#[]⟩, .bool false], .bool false]) := by show _ = _; rw [HV1.out, if_pos hn]; rfl
            have hne : (w.heap.size + 1 = w.heap.size) = False := by simp
            have hne' : (w.heap.size = w.heap.size + 1) = False := by simp
            clear HV1 hU1t hR1t
            go_wp2_with (go_at_call 87; refine (HI.out _).mono ?_; rintro e w2 ⟨rfl, hw⟩; obtain rfl := hw.symm)
            exact bodyPost_ret (v := .tuple #[.agg #[.string ⟨#[]⟩, .string ⟨#[]⟩, .int .i64 0, .string ⟨#[]⟩, .string ⟨#[]⟩, .bool false], .bool false]) (by simp [results, Tryd.results67, go_sem, y3]) rfl ⟨congrArg Ending.returned HR.out.symm, bel6 hB1t (Nat.le_refl _) _ _ _ _ _ _⟩
          · have HV2 : Hid (authR sc t = if goodB sc H n PP Q A = true then some (sc, H, n.toNat, PP, Q, A) else none) := by
              show _ = _; rw [HV1.out, if_neg hn]
            have HV : Hid (authR sc t = if goodB sc H n PP Q A = true then some (sc, H, n.toNat, PP, Q, A) else none) := HV2
            have hn0 : 0 < n := by omega
            clear HV1 HV2 y1 y2 y3 hn
            rename 0 < n => hn
            go_wp2_with fail
            refine (HI.out _).mono ?_
            rintro e wx ⟨rfl, hw⟩
            obtain rfl := hw.symm
            clear HI
            go_wp2_with fail
            refine (HC2.out _).mono ?_
            rintro e w2 ⟨rfl, hb2⟩
            have hU2 := Blk.below hU1t.out hb2
            have hR2 : Hid _ := Blk.below hR1t.out hb2
            have hB2 : Below w.heap.size w w2 := hB1t.trans (hb2.mono hB1t.size)
            have hU3 : Hid (Blk (((w2.setCell ⟨w.heap.size + 1, 3, none⟩ (.string P0)).setCell ⟨w.heap.size + 1, 4, none⟩ (.string Q)).setCell ⟨w.heap.size + 1, 5, none⟩ (.bool A)) (w.heap.size + 1) #[.string sc, .string H, .int .i64 n, .string P0, .string Q, .bool A]) := Blk.set (Blk.set (Blk.set hU2 3 (.string P0) (by simp)) 4 (.string Q) (by simp)) 5 (.bool A) (by simp)
            have hR3 : Hid (Blk (((w2.setCell ⟨w.heap.size + 1, 3, none⟩ (.string P0)).setCell ⟨w.heap.size + 1, 4, none⟩ (.string Q)).setCell ⟨w.heap.size + 1, 5, none⟩ (.bool A)) w.heap.size #[.string ⟨#[]⟩, .string ⟨#[]⟩, .int .i64 0, .string ⟨#[]⟩, .string ⟨#[]⟩, .bool false]) := Blk.other (Blk.other (Blk.other hR2.out (Nat.ne_of_lt (Nat.lt_succ_self _)) 3 (.string P0)) (Nat.ne_of_lt (Nat.lt_succ_self _)) 4 (.string Q)) (Nat.ne_of_lt (Nat.lt_succ_self _)) 5 (.bool A)
            have hB3 : Below w.heap.size w (((w2.setCell ⟨w.heap.size + 1, 3, none⟩ (.string P0)).setCell ⟨w.heap.size + 1, 4, none⟩ (.string Q)).setCell ⟨w.heap.size + 1, 5, none⟩ (.bool A)) := Below.setCell (Below.setCell (Below.setCell hB2 (p := ⟨w.heap.size + 1, 3, none⟩) (Nat.le_succ _) (.string P0)) (p := ⟨w.heap.size + 1, 4, none⟩) (Nat.le_succ _) (.string Q)) (p := ⟨w.heap.size + 1, 5, none⟩) (Nat.le_succ _) (.bool A)
            obtain ⟨u1, u2, u3⟩ := hU2
            clear hb2 hB2
            by_cases hp : P0.size = 0
            · have hp0 := empty_cmp hp
              have hU4 : Hid (Blk ((((w2.setCell ⟨w.heap.size + 1, 3, none⟩ (.string P0)).setCell ⟨w.heap.size + 1, 4, none⟩ (.string Q)).setCell ⟨w.heap.size + 1, 5, none⟩ (.bool A)).setCell ⟨w.heap.size + 1, 3, none⟩ (.string ⟨#[47]⟩)) (w.heap.size + 1) #[.string sc, .string H, .int .i64 n, .string ⟨#[47]⟩, .string Q, .bool A]) := Blk.set hU3.out 3 (.string ⟨#[47]⟩) (by simp)
              have hR4 : Hid (Blk ((((w2.setCell ⟨w.heap.size + 1, 3, none⟩ (.string P0)).setCell ⟨w.heap.size + 1, 4, none⟩ (.string Q)).setCell ⟨w.heap.size + 1, 5, none⟩ (.bool A)).setCell ⟨w.heap.size + 1, 3, none⟩ (.string ⟨#[47]⟩)) w.heap.size #[.string ⟨#[]⟩, .string ⟨#[]⟩, .int .i64 0, .string ⟨#[]⟩, .string ⟨#[]⟩, .bool false]) := Blk.other hR3.out (Nat.ne_of_lt (Nat.lt_succ_self _)) 3 (.string ⟨#[47]⟩)
              have hB4 : Below w.heap.size w ((((w2.setCell ⟨w.heap.size + 1, 3, none⟩ (.string P0)).setCell ⟨w.heap.size + 1, 4, none⟩ (.string Q)).setCell ⟨w.heap.size + 1, 5, none⟩ (.bool A)).setCell ⟨w.heap.size + 1, 3, none⟩ (.string ⟨#[47]⟩)) := Below.setCell hB3 (p := ⟨w.heap.size + 1, 3, none⟩) (Nat.le_succ _) (.string ⟨#[47]⟩)
              have hPP : PP = (⟨#[47]⟩ : ByteArray) := HPP.out.1 hp
              have HG : Hid (∀ w1, Calls Tryd.prog 31 #[.agg #[.string sc, .string H, .int .i64 n, .string ⟨#[47]⟩, .string Q, .bool A]] w1 fun e w2 => e = .returned (.bool (goodB sc H n ⟨#[47]⟩ Q A)) ∧ Below w1.heap.size w1 w2) := fun w1 => specGood_any sc H ⟨#[47]⟩ Q n A w1 (by omega) (by omega) (by decide) (by omega)
              rw [hPP] at HV
              cases hg : goodB sc H n ⟨#[47]⟩ Q A
              · rw [hg] at HG
                have HR : Hid (partsV (authR sc t) = .tuple #[.agg #[.string ⟨#[]⟩, .string ⟨#[]⟩, .int .i64 0, .string ⟨#[]⟩, .string ⟨#[]⟩, .bool false], .bool false]) := by
                  show _ = _
                  rw [HV.out, if_neg (show ¬ (goodB sc H n ⟨#[47]⟩ Q A = true) from by rw [hg]; simp)]; rfl
                clear HV hg hPP HPP hp
                go_wp2_with fail
                refine (HG.out _).mono ?_
                rintro e w5 ⟨rfl, hb5⟩
                have hU5 := Blk.below hU4.out hb5
                have hR5 := Blk.below hR4.out hb5
                have hB5 : Below w.heap.size w w5 := hB4.trans (hb5.mono hB4.size)
                obtain ⟨x1, x2, x3⟩ := hU5
                obtain ⟨y1, y2, y3⟩ := hR5
                clear hb5 u1 u2 u3 hU3 hR3 hB3 hU4 hR4 hB4 hR2 HG
                have hne : (w.heap.size + 1 = w.heap.size) = False := by simp
                have hne' : (w.heap.size = w.heap.size + 1) = False := by simp
                go_wp2_with fail
                exact bodyPost_ret (v := .tuple #[.agg #[.string ⟨#[]⟩, .string ⟨#[]⟩, .int .i64 0, .string ⟨#[]⟩, .string ⟨#[]⟩, .bool false], .bool false]) (by simp [results, Tryd.results67, go_sem, y3]) rfl ⟨congrArg Ending.returned HR.out.symm, bel6 hB5 (Nat.le_refl _) _ _ _ _ _ _⟩
              · rw [hg] at HG
                have HR : Hid (partsV (authR sc t) = .tuple #[.agg #[.string sc, .string H, .int .i64 n, .string ⟨#[47]⟩, .string Q, .bool A], .bool true]) := by
                  show _ = _
                  rw [HV.out, if_pos (show (goodB sc H n ⟨#[47]⟩ Q A = true) from by rw [hg])]; exact parts_n (Int.le_of_lt hn)
                clear HV hg hPP HPP hp
                go_wp2_with fail
                refine (HG.out _).mono ?_
                rintro e w5 ⟨rfl, hb5⟩
                have hU5 := Blk.below hU4.out hb5
                have hR5 := Blk.below hR4.out hb5
                have hB5 : Below w.heap.size w w5 := hB4.trans (hb5.mono hB4.size)
                obtain ⟨x1, x2, x3⟩ := hU5
                obtain ⟨y1, y2, y3⟩ := hR5
                clear hb5 u1 u2 u3 hU3 hR3 hB3 hU4 hR4 hB4 hR2 HG
                have hne : (w.heap.size + 1 = w.heap.size) = False := by simp
                have hne' : (w.heap.size = w.heap.size + 1) = False := by simp
                go_wp2_with fail
                exact bodyPost_ret (v := .tuple #[.agg #[.string sc, .string H, .int .i64 n, .string ⟨#[47]⟩, .string Q, .bool A], .bool true]) (by simp [results, Tryd.results67, go_sem, y3]) rfl ⟨congrArg Ending.returned HR.out.symm, bel6 hB5 (Nat.le_refl _) _ _ _ _ _ _⟩
            · have hp0 := some_cmp hp
              have hU4 : Hid _ := hU3
              have hR4 : Hid _ := hR3
              have hB4 := hB3
              have hPP := HPP.out.2 hp
              have HG : Hid (∀ w1, Calls Tryd.prog 31 #[.agg #[.string sc, .string H, .int .i64 n, .string P0, .string Q, .bool A]] w1 fun e w2 => e = .returned (.bool (goodB sc H n P0 Q A)) ∧ Below w1.heap.size w1 w2) := fun w1 => specGood_any sc H P0 Q n A w1 (by omega) (by omega) (by omega) (by omega)
              rw [hPP] at HV
              cases hg : goodB sc H n P0 Q A
              · rw [hg] at HG
                have HR : Hid (partsV (authR sc t) = .tuple #[.agg #[.string ⟨#[]⟩, .string ⟨#[]⟩, .int .i64 0, .string ⟨#[]⟩, .string ⟨#[]⟩, .bool false], .bool false]) := by
                  show _ = _
                  rw [HV.out, if_neg (show ¬ (goodB sc H n P0 Q A = true) from by rw [hg]; simp)]; rfl
                clear HV hg hPP HPP hp
                go_wp2_with fail
                refine (HG.out _).mono ?_
                rintro e w5 ⟨rfl, hb5⟩
                have hU5 := Blk.below hU4.out hb5
                have hR5 := Blk.below hR4.out hb5
                have hB5 : Below w.heap.size w w5 := hB4.trans (hb5.mono hB4.size)
                obtain ⟨x1, x2, x3⟩ := hU5
                obtain ⟨y1, y2, y3⟩ := hR5
                clear hb5 u1 u2 u3 hU3 hR3 hB3 hU4 hR4 hB4 hR2 HG
                have hne : (w.heap.size + 1 = w.heap.size) = False := by simp
                have hne' : (w.heap.size = w.heap.size + 1) = False := by simp
                go_wp2_with fail
                exact bodyPost_ret (v := .tuple #[.agg #[.string ⟨#[]⟩, .string ⟨#[]⟩, .int .i64 0, .string ⟨#[]⟩, .string ⟨#[]⟩, .bool false], .bool false]) (by simp [results, Tryd.results67, go_sem, y3]) rfl ⟨congrArg Ending.returned HR.out.symm, bel6 hB5 (Nat.le_refl _) _ _ _ _ _ _⟩
              · rw [hg] at HG
                have HR : Hid (partsV (authR sc t) = .tuple #[.agg #[.string sc, .string H, .int .i64 n, .string P0, .string Q, .bool A], .bool true]) := by
                  show _ = _
                  rw [HV.out, if_pos (show (goodB sc H n P0 Q A = true) from by rw [hg])]; exact parts_n (Int.le_of_lt hn)
                clear HV hg hPP HPP hp
                go_wp2_with fail
                refine (HG.out _).mono ?_
                rintro e w5 ⟨rfl, hb5⟩
                have hU5 := Blk.below hU4.out hb5
                have hR5 := Blk.below hR4.out hb5
                have hB5 : Below w.heap.size w w5 := hB4.trans (hb5.mono hB4.size)
                obtain ⟨x1, x2, x3⟩ := hU5
                obtain ⟨y1, y2, y3⟩ := hR5
                clear hb5 u1 u2 u3 hU3 hR3 hB3 hU4 hR4 hB4 hR2 HG
                have hne : (w.heap.size + 1 = w.heap.size) = False := by simp
                have hne' : (w.heap.size = w.heap.size + 1) = False := by simp
                go_wp2_with fail
                exact bodyPost_ret (v := .tuple #[.agg #[.string sc, .string H, .int .i64 n, .string P0, .string Q, .bool A], .bool true]) (by simp [results, Tryd.results67, go_sem, y3]) rfl ⟨congrArg Ending.returned HR.out.symm, bel6 hB5 (Nat.le_refl _) _ _ _ _ _ _⟩

end Go.Proofs.YtlgjgdpalflmfaaDoor.Rsp
