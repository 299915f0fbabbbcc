/-
  Walk: the law FnChunks.
-/
import Derived.Test.YtimfcbjgoilnpaaDoorFkp
import Derived.Test.YtimfcbjgoilnpaaDoorCkj
import Derived.Test.YtimfcbjgoilnpaaDoorCks
import Derived.Test.YtimfcbjgoilnpaaDoorDch
import Derived.Test.YtimfcbjgoilnpaaDoorNof
namespace Go.Proofs.YtimfcbjgoilnpaaDoor.Fkw
open Go.RowKit
open Go.Proofs.YtimfcbjgoilnpaaDoor.Hex
open Go.Proofs.YtimfcbjgoilnpaaDoor.Cur
open Go.Proofs.YtimfcbjgoilnpaaDoor.Mrk (TV RowT)
open Go.Proofs.YtimfcbjgoilnpaaDoor.Ckm (pcs ckS pcs_parts sumS sumS_take sumS_le implChunk_any specChunk_any)
open Go.Proofs.YtimfcbjgoilnpaaDoor.Fkp
open Go.Proofs.YtimfcbjgoilnpaaDoor.Cqs (rcS rcQ rcC implRead_any)

theorem row_of {w : World} {a : Option Addr} {l : List ByteArray} {lo hi : Nat} (h : TV w a l lo hi) (h0 : l ≠ []) : ∃ g, a = some ⟨g, 0, none⟩ ∧ RowT w g l := by
  rcases h with h | ⟨g, h1, _, _, h4⟩
  · exact absurd h h0
  · exact ⟨g, h1, h4⟩

set_option maxRecDepth 20000 in
set_option maxHeartbeats 6400000 in
theorem walk (u v : Value) (n k : Nat) (w : World) (hU : CodeArg w u n) (hV : CodeArg w v k) (hn : n ≤ 140737488355328) (hk : k ≤ 140737488355328) (hT : Tab w) (hC : w.cell? ⟨3, 15, none⟩ = some (.int .u8 4)) :
    Calls Tryd.prog 10 #[u, v] w fun e w' => e = .returned (.bool true) ∧ Below w.heap.size w w' := by
  have hgt := hT.lt
  have hlt0 := World.block_lt_of_cell? w _ hC
  have HTab : Hid (Tab w) := hT
  have HC : Hid (w.cell? ⟨3, 15, none⟩ = some (.int .u8 4)) := hC
  obtain ⟨o, cap, rfl⟩ := hU.form
  obtain ⟨o2, cap2, rfl⟩ := hV.form
  have HU : Hid (CodeArg w (.slice o n cap) n) := hU
  have HV : Hid (CodeArg w (.slice o2 k cap2) k) := hV
  clear hU hV hT hC
  by_cases hz : 1048576 < n + k
  · have hd : decide (1048576 < (n : Int) + (k : Int)) = true := decide_eq_true (by omega)
    go_enter Tryd.func10, Tryd.ntmps10
    go_wp2_with fail
    go_ret
    exact ⟨rfl, Below.refl _ _⟩
  have hd : decide (1048576 < (n : Int) + (k : Int)) = false := decide_eq_false (by omega)
  go_enter Tryd.func10, Tryd.ntmps10
  go_wp2_with fail
  refine (drawChunk_any _ n _ HU.out (by omega)).mono ?_
  rintro e w1 ⟨a, ca, l, rfl, hl62, hl20, hTV, hb1⟩
  have Hb1 : Hid (Below w.heap.size w w1) := hb1
  have HV1 : Hid (TV w1 a l w.heap.size w1.heap.size) := hTV
  have HI : Hid _ := fun wx lo hi hv hx => implChunk_any a ca l wx lo hi (fun x hx => Nat.le_trans (hl20 x hx) (by decide)) hv hx
  have HS : Hid _ := fun wx lo hi hv => specChunk_any a ca l wx lo hi (by omega) (fun x hx => Nat.le_trans (hl20 x hx) (by decide)) hv
  clear hb1 hTV
  go_wp2_with fail
  refine (HI.out _ _ _ HV1.out ((Hb1.out.cell (p := ⟨3, 15, none⟩) hlt0).trans HC.out)).mono ?_
  rintro e w2 ⟨rfl, hb2⟩
  have Hb2 : Hid (Below w.heap.size w w2) := Hb1.out.trans (hb2.mono Hb1.out.size)
  have HV2 : Hid (TV w2 a l w.heap.size w1.heap.size) := HV1.out.below hb2
  clear hb2 Hb1 HV1
  go_wp2_with fail
  refine (HS.out _ _ _ HV2.out).mono ?_
  rintro e w3 ⟨rfl, hb3⟩
  have Hb3 : Hid (Below w.heap.size w w3) := Hb2.out.trans (hb3.mono Hb2.out.size)
  have HV3 : Hid (TV w3 a l w.heap.size w1.heap.size) := HV2.out.below hb3
  clear hb3 Hb2 HV2 HI HS
  cases hp : pcs l
  · have HB3 : Hid (Below w.heap.size w w3) := Hb3.out
    generalize ckS l = S
    clear HV3 Hb3 hp hl20 hl62
    go_wp2_with fail
    refine (drawHexText_any _ k _ (CodeArg.below HV.out (Nat.le_refl _) HB3.out) (by omega)).mono ?_
    rintro e v1 ⟨x, rfl, hx0, hx1, hv1'⟩
    have hv1 : Hid (Below w.heap.size w v1) := HB3.out.trans (hv1'.mono HB3.out.size)
    clear hv1'
    have HI0 := fun wx hx => Hxu.implHexText_any x wx hx
    have HS0 := fun wx => Hxw.specHexText_any x wx
    cases hq : Hxu.htB x
    · rw [hq, Hxu.ht_no hq] at HI0 HS0
      have HI : Hid _ := HI0
      have HS : Hid _ := HS0
      clear HI0 HS0 hq
      go_wp2_with (first
        | (go_at_call 29; refine (HI.out _ ((hv1.out.cell (p := ⟨3, 15, none⟩) hlt0).trans HC.out)).mono ?_; rintro e v2 ⟨rfl, hv2⟩)
        | (go_at_call 28; refine (HS.out _).mono ?_; rintro e v3 ⟨rfl, hv3⟩))
      go_ret
      exact ⟨rfl, hv1.out.trans ((hv2.mono hv1.out.size).trans (hv3.mono (by have := hv1.out.size; have := hv2.size; omega)))⟩
    · obtain ⟨y, rfl⟩ : ∃ y : Nat, x = (y : Int) := ⟨x.toNat, by unfold Hxu.htB at hq; rw [Bool.and_eq_true, decide_eq_true_eq] at hq; omega⟩
      have hy : y < 65536 := by unfold Hxu.htB at hq; rw [Bool.and_eq_true, decide_eq_true_eq, decide_eq_true_eq] at hq; omega
      have hzs : (Hxu.htS (y : Int)).size ≤ 4 := by
        rw [(Hxu.ht_yes hy).2]
        have := Hxt.hexT_len 3 y (by omega)
        show (List.toArray _).size ≤ 4
        rw [List.size_toArray]
        exact this
      have HB0 := fun wx hx => Hxr.implReadHex_any (Hxu.htS (y : Int)) wx hx (by omega)
      rw [hex_back y hy] at HB0
      rw [hq] at HI0 HS0
      have HI : Hid _ := HI0
      have HS : Hid _ := HS0
      have HBk : Hid _ := HB0
      clear HI0 HS0 HB0 hq hzs
      generalize Hxu.htS (y : Int) = h at *
      go_wp2_with (first
        | (go_at_call 29; refine (HI.out _ ((hv1.out.cell (p := ⟨3, 15, none⟩) hlt0).trans HC.out)).mono ?_; rintro e v2 ⟨rfl, hv2⟩; have Hv2 : Hid (Below w.heap.size w v2) := hv1.out.trans (hv2.mono hv1.out.size))
        | (go_at_call 28; refine (HS.out _).mono ?_; rintro e v3 ⟨rfl, hv3⟩; have Hv3 : Hid (Below w.heap.size w v3) := Hv2.out.trans (hv3.mono Hv2.out.size))
        | (go_at_call 31; refine (HBk.out _ (HTab.out.below Hv3.out hgt)).mono ?_; rintro e v4 ⟨rfl, hv4⟩; obtain rfl := hv4.symm))
      go_ret
      exact ⟨rfl, Hv3.out⟩
  · obtain ⟨p1, p2, p3⟩ := pcs_parts hp
    obtain ⟨q1, q2, q3⟩ := again l hp
    have hb8 := ck_bound hp
    have hcs := ck_size hp
    have HR0 := fun wx hx => implRead_any (ckS l ++ ⟨#[109, 111, 114, 101]⟩) wx hx (by rw [ByteArray.size_append]; show _ + 4 ≤ _; omega)
    rw [q1, q2, q3] at HR0
    have HK0 := fun i wx hx => implRead_any ((ckS l).extract 0 i) wx hx (by rw [ByteArray.size_extract]; omega)
    have HK1 : ∀ i, i < (ckS l).size → ∀ wx, Tab wx → Calls Tryd.prog 18 #[.string ((ckS l).extract 0 i)] wx fun e w' => e = .returned (.tuple #[.string ⟨#[]⟩, .int .i64 0, .int .i64 1]) ∧ Below wx.heap.size wx w' := by
      intro i hi wx hx
      obtain ⟨c1, c2, c3⟩ := cut l hp i hi
      have := HK0 i wx hx
      rw [c1, c2, c3] at this
      exact this
    clear q1 q2 q3 HK0
    have hs1 : 1 ≤ (ckS l).size := by omega
    have HAll : Hid (allT l = allT (l.take l.length)) := by show _ = _; rw [List.take_length]
    have HA0 : Hid (∀ i, i < l.length → ∀ h : i < l.length, allT (l.take i) ++ l[i] = allT (l.take (i + 1)) ∧ (allT (l.take i)).size ≤ 300 ∧ l[i].size ≤ 20) := by
      intro i _ h
      refine ⟨allT_take l i h, ?_, hl20 _ (List.getElem_mem h)⟩
      rw [allT_size]
      have := sumS_le l i
      omega
    generalize ckS l = S at *
    have HR : Hid _ := HR0
    have HK : Hid _ := HK1
    clear HR0 HK1 hp p2 p3 hl20 hcs
    go_wp2_with fail
    go_loopw [10, 55] (fun b c wr => ∃ i : Nat, i ≤ l.length ∧ b = .string (allT (l.take i)) ∧ c = .int .i64 i ∧ wr = w3) (fun _ c _ => l.length - (intOf c).toNat)
    case atStart => exact ⟨0, by omega, rfl, rfl, rfl⟩
    case round =>
      obtain ⟨i, hi, rfl, rfl, rfl⟩ := hrel
      by_cases hlt : i < l.length
      · obtain ⟨g, rfl, hrow⟩ := row_of HV3.out (fun e => by rw [e] at hlt; simp at hlt)
        have hc := hrow.2.2 i l[i] (List.getElem?_eq_getElem hlt)
        obtain ⟨a1, a2, a3⟩ := HA0.out i hlt hlt
        have HA1 : Hid _ := a1
        have ha1 : allT (l.take i) ++ l[i] = allT (l.take (i + 1)) := a1
        clear hrow a1
        go_wp2_with fail
        refine ⟨⟨i + 1, by omega, by first | rfl | rw [HA1.out], by go_num, by first | trivial | rfl⟩, ?_⟩
        simp [intOf]; omega
      · obtain rfl : i = l.length := by omega
        rw [← HAll.out]
        have HB3 : Hid (Below w.heap.size w wr) := Hb3.out
        clear Hb3 HV3 HA0 HAll
        generalize allT l = Z at *
        go_wp2_with fail
        refine (HR.out _ (HTab.out.below HB3.out hgt)).mono ?_
        rintro e w4 ⟨rfl, hb4⟩
        have HB4 : Hid (Below w.heap.size w w4) := HB3.out.trans (hb4.mono HB3.out.size)
        clear hb4 HB3 HR
        go_wp2_with fail
        refine (numberOf_any _ k _ (CodeArg.below HV.out (Nat.le_refl _) HB4.out) (by omega)).mono ?_
        rintro e w5 ⟨x, rfl, hx, hb5⟩
        have HB5 : Hid (Below w.heap.size w w5) := HB4.out.trans (hb5.mono HB4.out.size)
        have hm : (x : Int).tmod (S.size : Int) = ((x % S.size : Nat) : Int) := by rw [Int.tmod_eq_emod_of_nonneg (by omega)]; omega
        have hml : x % S.size < S.size := Nat.mod_lt _ (by omega)
        have HKx : Hid _ := HK.out (x % S.size) hml
        clear hb5 HB4 HK
        go_wp2_with fail
        refine (HKx.out _ (HTab.out.below HB5.out hgt)).mono ?_
        rintro e w6 ⟨rfl, hb6⟩
        have HB6 : Hid (Below w.heap.size w w6) := HB5.out.trans (hb6.mono HB5.out.size)
        clear hb6 HB5 HKx hm hml hx
        go_wp2_with fail
        refine (drawHexText_any _ k _ (CodeArg.below HV.out (Nat.le_refl _) HB6.out) (by omega)).mono ?_
        rintro e v1 ⟨x, rfl, hx0, hx1, hv1'⟩
        have hv1 : Hid (Below w.heap.size w v1) := HB6.out.trans (hv1'.mono HB6.out.size)
        clear hv1'
        have HI0 := fun wx hx => Hxu.implHexText_any x wx hx
        have HS0 := fun wx => Hxw.specHexText_any x wx
        cases hq : Hxu.htB x
        · rw [hq, Hxu.ht_no hq] at HI0 HS0
          have HI : Hid _ := HI0
          have HS : Hid _ := HS0
          clear HI0 HS0 hq
          go_wp2_with (first
            | (go_at_call 29; refine (HI.out _ ((hv1.out.cell (p := ⟨3, 15, none⟩) hlt0).trans HC.out)).mono ?_; rintro e v2 ⟨rfl, hv2⟩)
            | (go_at_call 28; refine (HS.out _).mono ?_; rintro e v3 ⟨rfl, hv3⟩))
          go_ret
          exact ⟨rfl, hv1.out.trans ((hv2.mono hv1.out.size).trans (hv3.mono (by have := hv1.out.size; have := hv2.size; omega)))⟩
        · obtain ⟨y, rfl⟩ : ∃ y : Nat, x = (y : Int) := ⟨x.toNat, by unfold Hxu.htB at hq; rw [Bool.and_eq_true, decide_eq_true_eq] at hq; omega⟩
          have hy : y < 65536 := by unfold Hxu.htB at hq; rw [Bool.and_eq_true, decide_eq_true_eq, decide_eq_true_eq] at hq; omega
          have hzs : (Hxu.htS (y : Int)).size ≤ 4 := by
            rw [(Hxu.ht_yes hy).2]
            have := Hxt.hexT_len 3 y (by omega)
            show (List.toArray _).size ≤ 4
            rw [List.size_toArray]
            exact this
          have HB0 := fun wx hx => Hxr.implReadHex_any (Hxu.htS (y : Int)) wx hx (by omega)
          rw [hex_back y hy] at HB0
          rw [hq] at HI0 HS0
          have HI : Hid _ := HI0
          have HS : Hid _ := HS0
          have HBk : Hid _ := HB0
          clear HI0 HS0 HB0 hq hzs
          generalize Hxu.htS (y : Int) = h at *
          go_wp2_with (first
            | (go_at_call 29; refine (HI.out _ ((hv1.out.cell (p := ⟨3, 15, none⟩) hlt0).trans HC.out)).mono ?_; rintro e v2 ⟨rfl, hv2⟩; have Hv2 : Hid (Below w.heap.size w v2) := hv1.out.trans (hv2.mono hv1.out.size))
            | (go_at_call 28; refine (HS.out _).mono ?_; rintro e v3 ⟨rfl, hv3⟩; have Hv3 : Hid (Below w.heap.size w v3) := Hv2.out.trans (hv3.mono Hv2.out.size))
            | (go_at_call 31; refine (HBk.out _ (HTab.out.below Hv3.out hgt)).mono ?_; rintro e v4 ⟨rfl, hv4⟩; obtain rfl := hv4.symm))
          go_ret
          exact ⟨rfl, Hv3.out⟩

end Go.Proofs.YtimfcbjgoilnpaaDoor.Fkw
