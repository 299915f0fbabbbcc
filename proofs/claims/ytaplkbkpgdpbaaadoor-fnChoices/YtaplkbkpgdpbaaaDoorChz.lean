/-
  Walks: spec.ChoicesOf.
-/
import Derived.Test.YtaplkbkpgdpbaaaDoorCho
namespace Go.Proofs.YtaplkbkpgdpbaaaDoor.Och
open Go.RowKit
open Go.Proofs.YtaplkbkpgdpbaaaDoor.Byt
open Go.Proofs.YtaplkbkpgdpbaaaDoor.Fbs
open Go.Proofs.YtaplkbkpgdpbaaaDoor.Fch
open Go.Proofs.YtaplkbkpgdpbaaaDoor.Tri
open Go.Proofs.YtaplkbkpgdpbaaaDoor.Chc
open Go.Proofs.YtaplkbkpgdpbaaaDoor.Lsp (listO listL)
open Go.Proofs.YtaplkbkpgdpbaaaDoor.Mrk (TV lst told_tv)
open Go.Proofs.YtaplkbkpgdpbaaaDoor.Ctf
open Go.Proofs.YtaplkbkpgdpbaaaDoor.Wgt (wS l3Weight_any)
open Go.Proofs.YtaplkbkpgdpbaaaDoor.Lof (lowB lowS specLow_any lowS_size)

theorem cut_sizes (x : ByteArray) (c : UInt8) : (cutA x c).size ≤ x.size ∧ (cutZ x c).size ≤ x.size := by
  cases hc : cutI x c with
  | some k =>
    obtain ⟨e1, e2, e3⟩ := cut_some hc
    rw [e1, e2, ByteArray.size_extract, ByteArray.size_extract]; omega
  | none =>
    obtain ⟨e1, e2, e3⟩ := cut_none hc
    rw [e1, e2]; exact ⟨Nat.le_refl _, Nat.zero_le _⟩
theorem pre_two (Z : ByteArray) (h : 2 ≤ Z.size) : ((Z.extract 0 2).toList == [113, 61]) = Lib.hasPrefix Z.data.toList [113, 61] := by
  have e : (Z.extract 0 2).toList = Z.data.toList.take 2 := by rw [ByteArray.toList_eq, Lib.extract_from_zero]
  rw [e]
  have hl := len_list Z
  rcases hz : Z.data.toList with _ | ⟨a, _ | ⟨b, r⟩⟩
  · rw [hz] at hl; simp at hl; omega
  · rw [hz] at hl; simp at hl; omega
  · simp only [Lib.hasPrefix, List.isPrefixOf, List.take_succ_cons, List.take_zero]
    rw [Bool.eq_iff_iff]
    simp
    exact ⟨fun h => ⟨h.1.symm, h.2.symm⟩, fun h => ⟨h.1.symm, h.2.symm⟩⟩
theorem short_none (Z : ByteArray) (h : Z.size < 3) : ¬ (Lib.hasPrefix Z.data.toList [113, 61] = true ∧ 0 ≤ wS (Z.data.toList.drop 2)) := by
  intro ⟨_, h0⟩
  rw [List.drop_eq_nil_of_le (by rw [len_list]; omega)] at h0
  exact absurd h0 (by decide)

set_option maxRecDepth 20000 in
set_option maxHeartbeats 1600000 in
theorem specChoices_any (s : ByteArray) (m : Int) (w : World) (hT : Tab w) (hs : s.size ≤ 2000000) (hm : w.cell? ⟨2, 0, none⟩ = some (.int .i64 m)) :
    Calls Tryd.prog 26 #[.string s] w fun e w' => ToldC w' w.heap.size e (choO s) ∧ Below w.heap.size w w' := by
  have hgt := hT.lt
  have hmt := World.block_lt_of_cell? _ _ hm
  have HI : Hid (∀ w, Calls Tryd.prog 28 #[.string s] w fun e w' => (∃ a cap, e = .returned (.tuple #[.slice a (lst (listO s)).length cap, .bool (listO s).isSome]) ∧ TV w' a (lst (listO s)) w.heap.size w'.heap.size) ∧ Below w.heap.size w w') :=
    fun w => (Lsp.specList_any s w (by omega)).mono fun e w' ⟨h, hb⟩ => ⟨told_tv h, hb⟩
  have HM : Hid (w.cell? ⟨2, 0, none⟩ = some (.int .i64 m)) := hm
  clear hm
  have hcl := @list_cl s
  have HV : choO s = match listO s with
    | none => none
    | some l => if 20 < l.length then none else chF l [] := rfl
  generalize choO s = V at HV ⊢
  generalize listO s = o at *
  cases o with
  | none =>
    have HR : Hid (V = none) := HV
    clear HV hcl
    have HI : Hid (∀ w, Calls Tryd.prog 28 #[.string s] w fun e w' => (∃ a cap, e = .returned (.tuple #[.slice a 0 cap, .bool false]) ∧ TV w' a [] w.heap.size w'.heap.size) ∧ Below w.heap.size w w') := HI
    go_enter Tryd.func26, Tryd.ntmps26
    go_wp2_with fail
    refine (HI.out _).mono ?_
    rintro e w1 ⟨⟨a0, c0, rfl, T0⟩, hb1⟩
    go_wp2_with fail
    go_ret2
    exact ⟨by rw [HR.out]; rfl, hb1⟩
  | some l =>
    have hcl := hcl rfl
    have HI : Hid (∀ w, Calls Tryd.prog 28 #[.string s] w fun e w' => (∃ a cap, e = .returned (.tuple #[.slice a l.length cap, .bool true]) ∧ TV w' a l w.heap.size w'.heap.size) ∧ Below w.heap.size w w') := HI
    by_cases h20 : 20 < l.length
    · have HR : Hid (V = none) := by show _ = _; rw [HV]; exact if_pos h20
      have hd : decide (20 < (l.length : Int)) = true := decide_eq_true (by omega)
      clear HV hcl
      go_enter Tryd.func26, Tryd.ntmps26
      go_wp2_with fail
      refine (HI.out _).mono ?_
      rintro e w1 ⟨⟨a0, c0, rfl, T0⟩, hb1⟩
      go_wp2_with fail
      go_ret2
      exact ⟨by rw [HR.out]; rfl, hb1⟩
    · have HR : Hid (V = chF l []) := by show _ = _; rw [HV]; exact if_neg h20
      have hd : decide (20 < (l.length : Int)) = false := decide_eq_false (by omega)
      clear HV
      have HCL : Hid _ := hcl
      clear hcl
      go_enter Tryd.func26, Tryd.ntmps26
      go_wp2_with fail
      refine (HI.out _).mono ?_
      rintro e w1 ⟨⟨a0, c0, rfl, T0⟩, hb1⟩
      go_wp2_with fail
      by_cases h0 : l = []
      · subst h0
        have HR : Hid (V = some []) := by show _ = _; rw [HR.out]; rfl
        go_loop [6, 27] (fun v i => v = .slice none 0 0 ∧ i = .int .i64 0) (fun _ _ => 0)
        case atStart => exact ⟨rfl, rfl⟩
        case round =>
          obtain ⟨rfl, rfl⟩ := hrel
          go_wp2_with fail
          go_ret2
          exact ⟨by rw [HR.out]; exact ⟨_, rfl, choicesIn.nil w1 w.heap.size⟩, hb1⟩
      rcases T0 with T0 | ⟨g, rfl, _, _, T0⟩
      · exact absurd T0 h0
      have GT : Hid (Mrk.RowT w1 g l) := T0
      go_loopw [6, 27] (fun v i wr => ∃ (k : Nat) (acc : List (ByteArray × Int)), i = .int .i64 k ∧ k ≤ l.length ∧ acc.length = k ∧ choicesIn wr w1.heap.size v acc ∧ Below w1.heap.size w1 wr ∧ Hid (V = chF (l.drop k) acc)) (fun _ i _ => l.length - (intOf i).toNat)
      case atStart => exact ⟨0, [], rfl, Nat.zero_le _, rfl, choicesIn.nil w1 w1.heap.size, Below.refl _ _, HR⟩
      case round =>
        obtain ⟨k, acc, rfl, hk, hac, hown, hbel, HK⟩ := hrel
        by_cases hlt : k < l.length
        · have hx := (GT.out.below hbel).2.2 k l[k] (List.getElem?_eq_getElem hlt)
          have hcx := HCL.out l[k] (List.getElem_mem hlt)
          have hsz := hbel.size
          have hbw := hb1.trans (hbel.mono hb1.size)
          have hdr : l.drop k = l[k] :: l.drop (k + 1) := List.drop_eq_getElem_cons hlt
          rw [hdr] at HK
          have HVx : chR l[k] = if tokenB (trimS (cutA l[k] 59)).data.toList = true then
              (if cutB l[k] 59 = true then
                (if Lib.hasPrefix (trimS (cutZ l[k] 59)).data.toList [113, 61] = true ∧ 0 ≤ wS ((trimS (cutZ l[k] 59)).data.toList.drop 2) then some (lowS (trimS (cutA l[k] 59)), wS ((trimS (cutZ l[k] 59)).data.toList.drop 2)) else none)
              else some (lowS (trimS (cutA l[k] 59)), 1000))
            else none := rfl
          have hz : (cutA l[k] 59).size ≤ l[k].size ∧ (cutZ l[k] 59).size ≤ l[k].size := cut_sizes l[k] 59
          have n1 := trimS_size (cutA l[k] 59)
          have n2 := trimS_size (cutZ l[k] 59)
          have hnn : chR l[k] = none → V = none := fun h => HK.out.trans (chF_none h)
          have hss : ∀ c, chR l[k] = some c → V = chF (l.drop (k + 1)) (acc ++ [c]) := fun c h => HK.out.trans (chF_some h)
          have HC1 : Hid (∀ w, Calls Tryd.prog 68 #[.string l[k], .int .u8 59] w fun e w' => e = .returned (.tuple #[.string (cutA l[k] 59), .string (cutZ l[k] 59), .bool (cutB l[k] 59)]) ∧ Below w.heap.size w w') := fun w => l1Cut_any l[k] 59 w hcx.2
          have HT1 : Hid _ := fun w => l3Trim_any (cutA l[k] 59) w (by omega)
          have HT2 : Hid _ := fun w => l3Trim_any (cutZ l[k] 59) w (by omega)
          have HLo : Hid _ := fun w => specLow_any (trimS (cutA l[k] 59)) w (by omega)
          have Tk := fun w => l3Token_any (lowS (trimS (cutA l[k] 59))) w (by rw [lowS_size]; omega)
          rw [token_low] at Tk
          have W1 := fun w => l3Weight_any ((trimS (cutZ l[k] 59)).extract 2 (trimS (cutZ l[k] 59)).size) w (by rw [ByteArray.size_extract]; omega)
          rw [Lib.extract_to_end] at W1
          have hpre := pre_two (trimS (cutZ l[k] 59))
          have hsh := short_none (trimS (cutZ l[k] 59))
          clear hdr HK hcx hz n1 n2
          generalize chR l[k] = CR at *
          generalize trimS (cutZ l[k] 59) = Z at *
          generalize lowS (trimS (cutA l[k] 59)) = L at *
          generalize tokenB (trimS (cutA l[k] 59)).data.toList = tk at *
          generalize trimS (cutA l[k] 59) = A at *
          generalize cutA l[k] 59 = A0 at *
          generalize cutZ l[k] 59 = Z0 at *
          generalize cutB l[k] 59 = b at *
          generalize wS (Z.data.toList.drop 2) = W at *
          have HTk : Hid _ := Tk
          have HW1 : Hid _ := W1
          clear Tk W1
          cases b
          · cases tk
            · have HN : Hid (V = none) := hnn HVx
              clear HVx hnn hss hpre hsh
              go_wp2_with fail
              refine (HC1.out _).mono ?_
              rintro e w2 ⟨rfl, hb2⟩
              have hbel2 := hbel.trans (hb2.mono hbel.size)
              have hown2 := hown.below hb2
              clear hb2 hbel hown hx
              go_wp2_with fail
              refine (HT1.out _).mono ?_
              rintro e w3 ⟨rfl, hw⟩
              obtain rfl := hw.symm
              go_wp2_with fail
              refine (HLo.out _).mono ?_
              rintro e w3 ⟨rfl, hb3⟩
              have hbel3 := (hbel2.trans (hb3.mono hbel2.size))
              have hbel3a := hbel3.alloc hbel3.size (.cells #[.string L, .int .i64 1000] 48)
              have hown3b := hown2.below hb3
              have hown3 := hown3b.alloc (.cells #[.string L, .int .i64 1000] 48)
              have hsz3 := hbel3.size
              clear hb3 hbel2 hown2
              go_wp2_with fail
              refine (HTk.out _).mono ?_
              rintro e w4 ⟨rfl, hw⟩
              obtain rfl := hw.symm
              go_wp2_with fail
              go_ret2
              exact ⟨by rw [HN.out]; rfl, hb1.trans (hbel3a.mono hb1.size)⟩
            · have HN : Hid _ := hss _ HVx
              clear HVx hnn hss hpre hsh
              go_wp2_with fail
              refine (HC1.out _).mono ?_
              rintro e w2 ⟨rfl, hb2⟩
              have hbel2 := hbel.trans (hb2.mono hbel.size)
              have hown2 := hown.below hb2
              clear hb2 hbel hown hx
              go_wp2_with fail
              refine (HT1.out _).mono ?_
              rintro e w3 ⟨rfl, hw⟩
              obtain rfl := hw.symm
              go_wp2_with fail
              refine (HLo.out _).mono ?_
              rintro e w3 ⟨rfl, hb3⟩
              have hbel3 := (hbel2.trans (hb3.mono hbel2.size))
              have hbel3a := hbel3.alloc hbel3.size (.cells #[.string L, .int .i64 1000] 48)
              have hown3b := hown2.below hb3
              have hown3 := hown3b.alloc (.cells #[.string L, .int .i64 1000] 48)
              have hsz3 := hbel3.size
              clear hb3 hbel2 hown2
              go_wp2_with fail
              refine (HTk.out _).mono ?_
              rintro e w4 ⟨rfl, hw⟩
              obtain rfl := hw.symm
              go_wp2_with (at_builtin; refine wpList_append_choice _ rfl _ _ rfl w1.heap.size _ acc (by rfl) hown3 L 1000 1 (by first | rfl | (rw [World.size_alloc]; rfl)) ?q3 hbel3a.size w1.heap.size (Nat.le_refl _) w1 hbel3a ?_)
              case q3 => omega
              intro v' w5 hown' hbel'
              go_wp2_with fail
              go_roundw
              case rel => exact ⟨k + 1, _, by go_num, by omega, by simp; omega, hown', hbel', HN⟩
              case measure => simp [intOf]; omega
          · by_cases hs3 : Z.size < 3
            · have HN : Hid (V = none) := hnn (by rw [HVx]; cases tk; rfl; exact if_neg (hsh hs3))
              have hd3 : decide ((Z.size : Int) < 3) = true := decide_eq_true (by omega)
              clear HVx hnn hss hpre hsh
              go_wp2_with fail
              refine (HC1.out _).mono ?_
              rintro e w2 ⟨rfl, hb2⟩
              have hbel2 := hbel.trans (hb2.mono hbel.size)
              have hown2 := hown.below hb2
              clear hb2 hbel hown hx
              go_wp2_with fail
              refine (HT1.out _).mono ?_
              rintro e w3 ⟨rfl, hw⟩
              obtain rfl := hw.symm
              go_wp2_with fail
              refine (HLo.out _).mono ?_
              rintro e w3 ⟨rfl, hb3⟩
              have hbel3 := (hbel2.trans (hb3.mono hbel2.size))
              have hbel3a := hbel3.alloc hbel3.size (.cells #[.string L, .int .i64 1000] 48)
              have hown3b := hown2.below hb3
              have hown3 := hown3b.alloc (.cells #[.string L, .int .i64 1000] 48)
              have hsz3 := hbel3.size
              clear hb3 hbel2 hown2
              go_wp2_with fail
              refine (HT2.out _).mono ?_
              rintro e w4 ⟨rfl, hw⟩
              obtain rfl := hw.symm
              go_wp2_with fail
              go_ret2
              exact ⟨by rw [HN.out]; rfl, hb1.trans (hbel3a.mono hb1.size)⟩
            · have hd3 : decide ((Z.size : Int) < 3) = false := decide_eq_false (by omega)
              have hpre := hpre (by omega)
              cases hp : Lib.hasPrefix Z.data.toList [113, 61]
              · rw [hp] at hpre
                have HN : Hid (V = none) := hnn (by rw [HVx, hp]; cases tk; rfl; exact (if_pos rfl).trans ((if_pos rfl).trans (if_neg (show ¬ (false = true ∧ 0 ≤ W) from fun h => by cases h.1))))
                have hpn : ((Z.extract 0 2).toList != [113, 61]) = true := by rw [bne, hpre]; rfl
                clear HVx hnn hss hsh hp
                go_wp2_with fail
                refine (HC1.out _).mono ?_
                rintro e w2 ⟨rfl, hb2⟩
                have hbel2 := hbel.trans (hb2.mono hbel.size)
                have hown2 := hown.below hb2
                clear hb2 hbel hown hx
                go_wp2_with fail
                refine (HT1.out _).mono ?_
                rintro e w3 ⟨rfl, hw⟩
                obtain rfl := hw.symm
                go_wp2_with fail
                refine (HLo.out _).mono ?_
                rintro e w3 ⟨rfl, hb3⟩
                have hbel3 := (hbel2.trans (hb3.mono hbel2.size))
                have hbel3a := hbel3.alloc hbel3.size (.cells #[.string L, .int .i64 1000] 48)
                have hown3b := hown2.below hb3
                have hown3 := hown3b.alloc (.cells #[.string L, .int .i64 1000] 48)
                have hsz3 := hbel3.size
                clear hb3 hbel2 hown2
                go_wp2_with fail
                refine (HT2.out _).mono ?_
                rintro e w4 ⟨rfl, hw⟩
                obtain rfl := hw.symm
                go_wp2_with fail
                go_ret2
                exact ⟨by rw [HN.out]; rfl, hb1.trans (hbel3a.mono hb1.size)⟩
              · rw [hp] at hpre
                have hpn : ((Z.extract 0 2).toList != [113, 61]) = false := by rw [bne, hpre]; rfl
                rw [hp] at HVx
                cases tk
                · have HN : Hid (V = none) := hnn HVx
                  clear HVx hnn hss hsh hp
                  go_wp2_with fail
                  refine (HC1.out _).mono ?_
                  rintro e w2 ⟨rfl, hb2⟩
                  have hbel2 := hbel.trans (hb2.mono hbel.size)
                  have hown2 := hown.below hb2
                  clear hb2 hbel hown hx
                  go_wp2_with fail
                  refine (HT1.out _).mono ?_
                  rintro e w3 ⟨rfl, hw⟩
                  obtain rfl := hw.symm
                  go_wp2_with fail
                  refine (HLo.out _).mono ?_
                  rintro e w3 ⟨rfl, hb3⟩
                  have hbel3 := (hbel2.trans (hb3.mono hbel2.size))
                  have hbel3a := hbel3.alloc hbel3.size (.cells #[.string L, .int .i64 1000] 48)
                  have hown3b := hown2.below hb3
                  have hown3 := hown3b.alloc (.cells #[.string L, .int .i64 1000] 48)
                  have hsz3 := hbel3.size
                  clear hb3 hbel2 hown2
                  go_wp2_with fail
                  refine (HT2.out _).mono ?_
                  rintro e w4 ⟨rfl, hw⟩
                  obtain rfl := hw.symm
                  go_wp2_with fail
                  refine (HW1.out _).mono ?_
                  rintro e w4 ⟨rfl, hw⟩
                  obtain rfl := hw.symm
                  go_wp2_with fail
                  refine (HTk.out _).mono ?_
                  rintro e w4 ⟨rfl, hw⟩
                  obtain rfl := hw.symm
                  have hbelW := hbel3.alloc hbel3.size (.cells #[.string L, .int .i64 W] 48)
                  have hownW := hown3b.alloc (.cells #[.string L, .int .i64 W] 48)
                  go_wp2_with fail
                  go_ret2
                  exact ⟨by rw [HN.out]; rfl, hb1.trans (hbelW.mono hb1.size)⟩
                · by_cases h0 : 0 ≤ W
                  · have HN : Hid (V = chF (l.drop (k + 1)) (acc ++ [(L, W)])) := hss _ (by rw [HVx]; exact if_pos (show true = true ∧ 0 ≤ W from ⟨rfl, h0⟩))
                    have hdw : decide (W < 0) = false := decide_eq_false (by omega)
                    clear HVx hnn hss hsh hp
                    go_wp2_with fail
                    refine (HC1.out _).mono ?_
                    rintro e w2 ⟨rfl, hb2⟩
                    have hbel2 := hbel.trans (hb2.mono hbel.size)
                    have hown2 := hown.below hb2
                    clear hb2 hbel hown hx
                    go_wp2_with fail
                    refine (HT1.out _).mono ?_
                    rintro e w3 ⟨rfl, hw⟩
                    obtain rfl := hw.symm
                    go_wp2_with fail
                    refine (HLo.out _).mono ?_
                    rintro e w3 ⟨rfl, hb3⟩
                    have hbel3 := (hbel2.trans (hb3.mono hbel2.size))
                    have hbel3a := hbel3.alloc hbel3.size (.cells #[.string L, .int .i64 1000] 48)
                    have hown3b := hown2.below hb3
                    have hown3 := hown3b.alloc (.cells #[.string L, .int .i64 1000] 48)
                    have hsz3 := hbel3.size
                    clear hb3 hbel2 hown2
                    go_wp2_with fail
                    refine (HT2.out _).mono ?_
                    rintro e w4 ⟨rfl, hw⟩
                    obtain rfl := hw.symm
                    go_wp2_with fail
                    refine (HW1.out _).mono ?_
                    rintro e w4 ⟨rfl, hw⟩
                    obtain rfl := hw.symm
                    go_wp2_with fail
                    refine (HTk.out _).mono ?_
                    rintro e w4 ⟨rfl, hw⟩
                    obtain rfl := hw.symm
                    have hbelW := hbel3.alloc hbel3.size (.cells #[.string L, .int .i64 W] 48)
                    have hownW := hown3b.alloc (.cells #[.string L, .int .i64 W] 48)
                    go_wp2_with (at_builtin; refine wpList_append_choice _ rfl _ _ rfl w1.heap.size _ acc (by rfl) hownW L W 1 (by first | rfl | (rw [World.size_alloc]; rfl)) ?q3 hbelW.size w1.heap.size (Nat.le_refl _) w1 hbelW ?_)
                    case q3 => omega
                    intro v' w5 hown' hbel'
                    go_wp2_with fail
                    go_roundw
                    case rel => exact ⟨k + 1, _, by go_num, by omega, by simp; omega, hown', hbel', HN⟩
                    case measure => simp [intOf]; omega
                  · have HN : Hid (V = none) := hnn (by rw [HVx]; exact if_neg (show ¬ (true = true ∧ 0 ≤ W) from fun h => h0 h.2))
                    have hdw : decide (W < 0) = true := decide_eq_true (by omega)
                    clear HVx hnn hss hsh hp
                    go_wp2_with fail
                    refine (HC1.out _).mono ?_
                    rintro e w2 ⟨rfl, hb2⟩
                    have hbel2 := hbel.trans (hb2.mono hbel.size)
                    have hown2 := hown.below hb2
                    clear hb2 hbel hown hx
                    go_wp2_with fail
                    refine (HT1.out _).mono ?_
                    rintro e w3 ⟨rfl, hw⟩
                    obtain rfl := hw.symm
                    go_wp2_with fail
                    refine (HLo.out _).mono ?_
                    rintro e w3 ⟨rfl, hb3⟩
                    have hbel3 := (hbel2.trans (hb3.mono hbel2.size))
                    have hbel3a := hbel3.alloc hbel3.size (.cells #[.string L, .int .i64 1000] 48)
                    have hown3b := hown2.below hb3
                    have hown3 := hown3b.alloc (.cells #[.string L, .int .i64 1000] 48)
                    have hsz3 := hbel3.size
                    clear hb3 hbel2 hown2
                    go_wp2_with fail
                    refine (HT2.out _).mono ?_
                    rintro e w4 ⟨rfl, hw⟩
                    obtain rfl := hw.symm
                    go_wp2_with fail
                    refine (HW1.out _).mono ?_
                    rintro e w4 ⟨rfl, hw⟩
                    obtain rfl := hw.symm
                    go_wp2_with fail
                    refine (HTk.out _).mono ?_
                    rintro e w4 ⟨rfl, hw⟩
                    obtain rfl := hw.symm
                    have hbelW := hbel3.alloc hbel3.size (.cells #[.string L, .int .i64 W] 48)
                    have hownW := hown3b.alloc (.cells #[.string L, .int .i64 W] 48)
                    go_wp2_with fail
                    go_ret2
                    exact ⟨by rw [HN.out]; rfl, hb1.trans (hbelW.mono hb1.size)⟩
        · have HN : Hid (V = some acc) := by
            show _ = _
            rw [HK.out, List.drop_eq_nil_of_le (by omega)]; rfl
          have hform := hown.base hb1.size
          go_wp2_with fail
          go_ret2
          exact ⟨by rw [HN.out]; exact ⟨_, rfl, hform⟩, hb1.trans (hbel.mono hb1.size)⟩

end Go.Proofs.YtaplkbkpgdpbaaaDoor.Och
