/-
  Walks: spec.l2Number at a place; spec.l2Month.
  Walk: impl.readMonth.
  Walk: spec.l2Month.
  Walks: a date that is read: impl.readMonth, withClock, dateTold.
-/
import Derived.Test.YtgidmoncocbfiaaGreatDoorMg7
import Derived.Test.YtgidmoncocbfiaaGreatDoorDts
import Derived.Test.YtgidmoncocbfiaaGreatDoorMg10
import Derived.Deep.MidRow
import Derived.DeepKeys
import Derived.Laws.StructEq
namespace Go.Proofs.YtgidmoncocbfiaaGreatDoor.Dua
open Go.RowKit
open Go.Proofs.YtgidmoncocbfiaaGreatDoor.Fbs
open Go.Proofs.YtgidmoncocbfiaaGreatDoor.Byt
open Go.Proofs.YtgidmoncocbfiaaGreatDoor.Fch (l1Digit_any)
open Go.Proofs.YtgidmoncocbfiaaGreatDoor.Wgt (rdL RdTo drop_at dig_bd ret_i)
open Go.Proofs.YtgidmoncocbfiaaGreatDoor.Nam

theorem ext_at (s : ByteArray) (a n k : Nat) (hk : k < n) (h : a + n ≤ s.size) : (s.extract a (a + n))[k]'(by rw [ByteArray.size_extract]; omega) = s[a + k] := by
  simp [ByteArray.getElem_extract]

/-- Digits at a place, as they are read. -/
def numAt (s : ByteArray) (a n : Nat) : Int := if a + n ≤ s.size then rdL (s.extract a (a + n)).data.toList 0 else -1

set_option maxHeartbeats 1600000 in
theorem l2Num_at (s : ByteArray) (a n : Nat) (w : World) (hn : n ≤ 9) (ha : a ≤ 1000) (hs : s.size ≤ 2000000) :
    Calls Tryz.prog 96 #[.string s, .int .i64 a, .int .i64 n] w fun e w' => e = .returned (.int .i64 (numAt s a n)) ∧ w' = w := by
  by_cases hz : a + n ≤ s.size
  rotate_left
  · have HN : Hid (numAt s a n = -1) := by show _ = _; unfold numAt; rw [if_neg hz]
    have hd : decide ((s.size : Int) < (a : Int) + n) = true := decide_eq_true (by omega)
    have hw : IntKind.i64.wrap ((a : Int) + n) = (a : Int) + n := by rw [IntKind.wrap_i64]; omega
    go_enter Tryz.func96, Tryz.ntmps96
    go_wp2_with fail
    go_ret
    exact ⟨ret_i HN.out.symm, rfl⟩
  have HN : Hid (numAt s a n = rdL (s.extract a (a + n)).data.toList 0) := by show _ = _; unfold numAt; rw [if_pos hz]
  have hEx : ∀ k, (hk : k < n) → (s.extract a (a + n))[k]'(by rw [ByteArray.size_extract]; omega) = s[a + k] := fun k hk => ext_at s a n k hk hz
  have hES : (s.extract a (a + n)).size = n := by rw [ByteArray.size_extract]; omega
  obtain ⟨E, hE⟩ : ∃ E, E = s.extract a (a + n) := ⟨_, rfl⟩
  rw [← hE] at HN hES
  have HX : Hid (∀ k, (hk : k < n) → E[k]'(by rw [hES]; exact hk) = s[a + k]) := by intro k hk; subst hE; exact hEx k hk
  clear hEx hE
  have hd : decide ((s.size : Int) < (a : Int) + n) = false := decide_eq_false (by omega)
  have hw : IntKind.i64.wrap ((a : Int) + n) = (a : Int) + n := by rw [IntKind.wrap_i64]; omega
  go_enter Tryz.func96, Tryz.ntmps96
  go_wp2_with fail
  go_loop [7, 8] (fun n i => ∃ (k v : Nat), n = .int .i64 v ∧ i = .int .i64 ((a : Int) + k) ∧ Hid (RdTo E k v)) (fun _ i => s.size - (intOf i).toNat)
  case atStart => exact ⟨0, 0, rfl, by simp, by omega, by decide, rfl⟩
  case round =>
    obtain ⟨k, v, rfl, rfl, HK⟩ := hrel
    obtain ⟨hk, hv, hE⟩ := HK.out
    by_cases hlt : k < n
    · have hlt2 : k < E.size := by omega
      rw [drop_at hlt2, HX.out k hlt] at hE
      have hb := byte_bd s[a + k]
      have hp : 10 ^ k ≤ 10 ^ 8 := Nat.pow_le_pow_right (by omega) (by omega)
      have hp8 : (10 : Nat) ^ 8 = 100000000 := by decide
      have hc1 : decide ((a : Int) + k < (a : Int) + n) = true := decide_eq_true (by omega)
      have hix : ((a : Int) + k).toNat = a + k := by omega
      have hi0 : (0 : Int) ≤ (a : Int) + k := by omega
      have hi1 : (a : Int) + k < (s.size : Int) := by omega
      obtain ⟨c, hc⟩ : ∃ c, c = s[a + k] := ⟨_, rfl⟩
      have HC : Hid _ := fun w => l1Digit_any (s[a + k].toNat : Int) w
      cases hd2 : digitB (s[a + k].toNat : Int)
      · have HE : Hid (rdL E.data.toList 0 = -1) := by show _ = _; rw [hE, rdL, hd2]; rfl
        rw [hd2] at HC
        clear hE HK hd2 hp hp8 hv
        go_wp2_with (go_at_call 83; refine (HC.out _).mono ?_; rintro e w' ⟨rfl, hw⟩; obtain rfl := hw.symm)
        go_ret
        exact ⟨ret_i (HN.out.trans HE.out).symm, rfl⟩
      · have hbd := dig_bd hd2
        have HE : Hid (RdTo E (k + 1) (10 * v + (s[a + k].toNat - 48))) := by
          refine ⟨by omega, by rw [Nat.pow_succ]; omega, ?_⟩
          rw [hE, rdL, hd2, if_pos rfl]
          congr 1; omega
        rw [hd2] at HC
        have w1 : IntKind.i64.wrap (10 * (v : Int)) = 10 * (v : Int) := by rw [IntKind.wrap_i64]; omega
        have w2 : IntKind.u8.wrap ((s[a + k].toNat : Int) - 48) = (s[a + k].toNat : Int) - 48 := by rw [IntKind.wrap_u8]; omega
        have w3 : IntKind.i64.wrap ((s[a + k].toNat : Int) - 48) = (s[a + k].toNat : Int) - 48 := by rw [IntKind.wrap_i64]; omega
        have w4 : IntKind.i64.wrap (10 * (v : Int) + ((s[a + k].toNat : Int) - 48)) = 10 * (v : Int) + ((s[a + k].toNat : Int) - 48) := by rw [IntKind.wrap_i64]; omega
        clear hE HK hd2
        go_wp2_with (go_at_call 83; refine (HC.out _).mono ?_; rintro e w' ⟨rfl, hw⟩; obtain rfl := hw.symm)
        go_round
        case rel => exact ⟨k + 1, _, by congr 1; omega, by first | (go_num; done) | (congr 1; omega), HE⟩
        case measure => simp [intOf]; omega
    · have HE : Hid (rdL E.data.toList 0 = v) := by
        show _ = _
        rw [hE, List.drop_eq_nil_of_le (by simp; omega)]; rfl
      have hc1 : decide ((a : Int) + k < (a : Int) + n) = false := decide_eq_false (by omega)
      clear hE HK
      go_wp2_with fail
      go_ret
      exact ⟨ret_i (HN.out.trans HE.out).symm, rfl⟩

end Go.Proofs.YtgidmoncocbfiaaGreatDoor.Dua

namespace Go.Proofs.YtgidmoncocbfiaaGreatDoor.Dua
open Go.RowKit
open Go.Proofs.YtgidmoncocbfiaaGreatDoor.Nam

theorem mname3 (m : Int) (h1 : 1 ≤ m) (h2 : m ≤ 12) : ∃ a b c : UInt8, mname m = ⟨#[a, b, c]⟩ ∧ mbytes.getD (3 * (m.toNat - 1)) 0 = (a.toNat : Int) ∧ mbytes.getD (3 * (m.toNat - 1) + 1) 0 = (b.toNat : Int) ∧ mbytes.getD (3 * (m.toNat - 1) + 2) 0 = (c.toNat : Int) := by
  have : m = 1 ∨ m = 2 ∨ m = 3 ∨ m = 4 ∨ m = 5 ∨ m = 6 ∨ m = 7 ∨ m = 8 ∨ m = 9 ∨ m = 10 ∨ m = 11 ∨ m = 12 := by omega
  rcases this with rfl | rfl | rfl | rfl | rfl | rfl | rfl | rfl | rfl | rfl | rfl | rfl <;> exact ⟨_, _, _, rfl, by decide, by decide, by decide⟩


def mcells : List Value := [.int .u8 74, .int .u8 97, .int .u8 110, .int .u8 70, .int .u8 101, .int .u8 98, .int .u8 77, .int .u8 97, .int .u8 114, .int .u8 65, .int .u8 112, .int .u8 114, .int .u8 77, .int .u8 97, .int .u8 121, .int .u8 74, .int .u8 117, .int .u8 110, .int .u8 74, .int .u8 117, .int .u8 108, .int .u8 65, .int .u8 117, .int .u8 103, .int .u8 83, .int .u8 101, .int .u8 112, .int .u8 79, .int .u8 99, .int .u8 116, .int .u8 78, .int .u8 111, .int .u8 118, .int .u8 68, .int .u8 101, .int .u8 99]
theorem months_range {w : World} (hN : TabN w) : w.rangeAt 2 0 mcells := by
  intro j v hj
  have hl : j < 36 := by
    have := (List.getElem?_eq_some_iff.1 hj).1
    simpa [mcells] using this
  rw [Nat.zero_add, hN j hl]
  congr 1
  have key : ∀ j, j < 36 → mcells[j]? = some (.int .u8 (mbytes.getD j 0)) := by
    intro j hj
    have hk : mcells = mbytes.map (fun z => Value.int .u8 z) := rfl
    have hl : j < mbytes.length := hj
    rw [hk, List.getElem?_map, List.getElem?_eq_getElem hl, List.getD_eq_getElem?_getD, List.getElem?_eq_getElem hl]
    rfl
  rw [key j hl] at hj
  exact Option.some.inj hj

theorem month_at (i : Nat) (h : i < 12) (wx : World) : (Instr.index 172 (.agg mcells.toArray) (.int .i64 i)).run Tryz.prog wx = .ok (.agg #[.int .u8 (mbytes.getD (3 * i) 0), .int .u8 (mbytes.getD (3 * i + 1) 0), .int .u8 (mbytes.getD (3 * i + 2) 0)]) wx := by
  have hu := Tryz.underlying172
  have hi : (0 : Int) ≤ i ∧ (i : Int) < 12 := by omega
  simp [Instr.index, go_sem, hi]
  rw [if_pos h]
  have : i = 0 ∨ i = 1 ∨ i = 2 ∨ i = 3 ∨ i = 4 ∨ i = 5 ∨ i = 6 ∨ i = 7 ∨ i = 8 ∨ i = 9 ∨ i = 10 ∨ i = 11 := by omega
  rcases this with rfl | rfl | rfl | rfl | rfl | rfl | rfl | rfl | rfl | rfl | rfl | rfl <;> rfl
set_option maxRecDepth 20000 in
theorem eq_three (p0 p1 p2 a b c : Int) (hp0 : 0 ≤ p0 ∧ p0 ≤ 255) (hp1 : 0 ≤ p1 ∧ p1 ≤ 255) (hp2 : 0 ≤ p2 ∧ p2 ≤ 255) (ha : 0 ≤ a ∧ a ≤ 255) (hb : 0 ≤ b ∧ b ≤ 255) (hc : 0 ≤ c ∧ c ≤ 255) (wx : World) : (Op.equalIn 10000 171 (.agg #[.int .u8 p0, .int .u8 p1, .int .u8 p2]) (.agg #[.int .u8 a, .int .u8 b, .int .u8 c])).run Tryz.prog wx = .ok (p0 == a && (p1 == b && p2 == c)) wx := by
  have key : ∀ q0 q1 q2 : Int, 0 ≤ q0 ∧ q0 ≤ 255 → 0 ≤ q1 ∧ q1 ≤ 255 → 0 ≤ q2 ∧ q2 ≤ 255 → Tryz.prog.keyLits 2 171 (Value.agg #[.int .u8 q0, .int .u8 q1, .int .u8 q2]).cells.toList = some [.int .u8 q0, .int .u8 q1, .int .u8 q2] := by
    intro q0 q1 q2 h0 h1 h2
    have hc3 : Tryz.prog.cellsOf 171 = 3 := by kernel_rfl
    have hc1 : Tryz.prog.cellsOf 5 = 1 := by kernel_rfl
    simp [Program.keyLits, Value.cells, Tryz.underlying171, Tryz.underlying5, hc3, hc1, List.range_succ, Lit.wf]
    have m0 : IntKind.u8.min = 0 := rfl
    have m1 : IntKind.u8.max = 255 := rfl
    simp [m0, m1, h0, h1, h2]
  obtain ⟨r, hr, hiff⟩ := run_equalIn_deep (P := Tryz.prog) 9998 2 171 (by kernel_rfl) wx 2 2 (.agg #[.int .u8 p0, .int .u8 p1, .int .u8 p2]) (.agg #[.int .u8 a, .int .u8 b, .int .u8 c]) _ _ rfl rfl (key _ _ _ hp0 hp1 hp2) (key _ _ _ ha hb hc)
  rw [hr]
  congr 1
  rw [Bool.eq_iff_iff, hiff]
  simp
theorem month_byte : ∀ i, i < 12 → (0 ≤ mbytes.getD (3 * i) 0 ∧ mbytes.getD (3 * i) 0 ≤ 255) ∧ (0 ≤ mbytes.getD (3 * i + 1) 0 ∧ mbytes.getD (3 * i + 1) 0 ≤ 255) ∧ (0 ≤ mbytes.getD (3 * i + 2) 0 ∧ mbytes.getD (3 * i + 2) 0 ≤ 255) := by decide +kernel
set_option maxRecDepth 20000 in
theorem month_is (i : Nat) (hi : i < 12) (m : Int) (h1 : 1 ≤ m) (h2 : m ≤ 12) {a b c : Int} (e0 : mbytes.getD (3 * (m.toNat - 1)) 0 = a) (e1 : mbytes.getD (3 * (m.toNat - 1) + 1) 0 = b) (e2 : mbytes.getD (3 * (m.toNat - 1) + 2) 0 = c) :
    (mbytes.getD (3 * i) 0 == a && (mbytes.getD (3 * i + 1) 0 == b && mbytes.getD (3 * i + 2) 0 == c)) = decide ((i : Int) + 1 = m) := by
  subst e0 e1 e2
  obtain ⟨k, rfl⟩ : ∃ k : Nat, m = (k : Int) + 1 := ⟨(m - 1).toNat, by omega⟩
  have hk : k < 12 := by omega
  have key : ∀ i, i < 12 → ∀ k, k < 12 → (mbytes.getD (3 * i) 0 == mbytes.getD (3 * k) 0 && (mbytes.getD (3 * i + 1) 0 == mbytes.getD (3 * k + 1) 0 && mbytes.getD (3 * i + 2) 0 == mbytes.getD (3 * k + 2) 0)) = decide (i = k) := by decide +kernel
  rw [show ((k : Int) + 1).toNat - 1 = k from by omega, key i hi k hk]
  exact decide_eq_decide.2 (by omega)

set_option maxRecDepth 20000 in
set_option maxHeartbeats 1600000 in
theorem readMonth_any (m : Int) (w : World) (hN : TabN w) (h1 : 1 ≤ m) (h2 : m ≤ 12) :
    Calls Tryz.prog 145 #[.string (mname m)] w fun e w' => e = .returned (.int .i64 m) ∧ Below w.heap.size w w' := by
  obtain ⟨a, b, c, hm, e0, e1, e2⟩ := mname3 m h1 h2
  rw [hm]
  have g0 : (⟨#[a, b, c]⟩ : ByteArray)[0]'(by show 0 < 3; omega) = a := rfl
  have g1 : (⟨#[a, b, c]⟩ : ByteArray)[1]'(by show 1 < 3; omega) = b := rfl
  have g2 : (⟨#[a, b, c]⟩ : ByteArray)[2]'(by show 2 < 3; omega) = c := rfl
  have hlt := hN.lt
  have HR : Hid (∀ wx, Below w.heap.size w wx → wx.rangeAt 2 0 mcells) := fun wx hb => months_range (hN.below hb hlt)
  clear hN hm
  go_enter Tryz.func145, Tryz.ntmps145
  go_wp2_with fail
  go_region
  all_goals
    go_wp2_with (refine wpList_load_mid rfl 172 _ rfl 2 0 rfl mcells _ (HR.out _ (by repeat (first | exact Below.refl _ _ | apply Below.drew | refine Below.alloc ?_ (by simp <;> omega) _))) Tryz.underlying172 rfl (by kernel_rfl) ?_)
  clear g0 g1 g2 HR
  obtain ⟨W, hW⟩ : ∃ W, W = (w.alloc (.cells #[.int .u8 (a.toNat : Int), .int .u8 (b.toNat : Int), .int .u8 (c.toNat : Int)] 171)).drew := ⟨_, rfl⟩
  have hn : w.heap.size < W.heap.size := by rw [hW]; simp
  have HB : Hid (Below w.heap.size w W) := by show Below _ _ _; rw [hW]; exact ((Below.refl _ _).alloc (Nat.le_refl _) _).drew
  have x0 : W.cell? ⟨w.heap.size, 0, none⟩ = some (.int .u8 (a.toNat : Int)) := by rw [hW]; simp [go_sem]
  have x1 : W.cell? ⟨w.heap.size, 1, none⟩ = some (.int .u8 (b.toNat : Int)) := by rw [hW]; simp [go_sem]
  have x2 : W.cell? ⟨w.heap.size, 2, none⟩ = some (.int .u8 (c.toNat : Int)) := by rw [hW]; simp [go_sem]
  rw [← hW]
  clear hW
  go_loopw [14] (fun cv wr => ∃ i : Nat, cv = .int .i64 i ∧ (i : Int) < m ∧ Hid (Below W.heap.size W wr)) (fun cv _ => 12 - (intOf cv).toNat)
  case atStart => exact ⟨0, rfl, by omega, Below.refl _ _⟩
  case round =>
    obtain ⟨i, rfl, hi, HW⟩ := hrel
    have y0 := (HW.out.cell (p := ⟨w.heap.size, 0, none⟩) hn).trans x0
    have y1 := (HW.out.cell (p := ⟨w.heap.size, 1, none⟩) hn).trans x1
    have y2 := (HW.out.cell (p := ⟨w.heap.size, 2, none⟩) hn).trans x2
    have HZ : Hid (Below w.heap.size w wr) := HB.out.trans (HW.out.mono HB.out.size)
    clear x0 x1 x2 HB
    have hi12 : i < 12 := by omega
    have HI := month_at i hi12
    have HQ := month_is i hi12 m h1 h2 e0 e1 e2
    obtain ⟨hp0, hp1, hp2⟩ := month_byte i hi12
    generalize mbytes.getD (3 * i) 0 = p0 at HI HQ hp0
    generalize mbytes.getD (3 * i + 1) 0 = p1 at HI HQ hp1
    generalize mbytes.getD (3 * i + 2) 0 = p2 at HI HQ hp2
    have HE := eq_three p0 p1 p2 (a.toNat : Int) (b.toNat : Int) (c.toNat : Int) hp0 hp1 hp2 (by have := a.toNat_lt; omega) (by have := b.toNat_lt; omega) (by have := c.toNat_lt; omega)
    rw [HQ] at HE
    have d12 : decide ((i : Int) < 12) = true := decide_eq_true (by omega)
    have hn2 : w.heap.size < wr.heap.size := Nat.lt_of_lt_of_le hn HW.out.size
    clear HQ e0 e1 e2 hp0 hp1 hp2
    by_cases hm : (i : Int) + 1 = m
    · rw [decide_eq_true hm] at HE
      have HF : Hid (Below w.heap.size w (wr.alloc (.cells #[.int .u8 p0, .int .u8 p1, .int .u8 p2] 171))) := HZ.out.alloc HZ.out.size _
      have hw : IntKind.i64.wrap ((i : Int) + 1) = (i : Int) + 1 := by rw [IntKind.wrap_i64]; omega
      have HM : Hid ((i : Int) + 1 = m) := hm
      clear hm HZ HW
      go_wp2_with fail
      go_ret
      exact ⟨Wgt.ret_i HM.out, HF.out⟩
    · rw [decide_eq_false hm] at HE
      have HW2 : Hid (Below W.heap.size W (wr.alloc (.cells #[.int .u8 p0, .int .u8 p1, .int .u8 p2] 171))) := HW.out.alloc HW.out.size _
      have hlt2 : (i : Int) + 1 < m := by omega
      clear hm HZ HW
      go_wp2_with fail
      refine ⟨⟨i + 1, by go_num, by omega, HW2⟩, ?_⟩
      simp [intOf]; omega

end Go.Proofs.YtgidmoncocbfiaaGreatDoor.Dua

namespace Go.Proofs.YtgidmoncocbfiaaGreatDoor.Dua
open Go.RowKit
open Go.Proofs.YtgidmoncocbfiaaGreatDoor.Fbs
open Go.Proofs.YtgidmoncocbfiaaGreatDoor.Wgt (ret_i)
open Go.Proofs.YtgidmoncocbfiaaGreatDoor.Nam

theorem month_text : ∀ j, 1 ≤ j → j ≤ 12 → ∀ k : Nat, 1 ≤ k → k ≤ 12 → ((smonths.extract (3 * j - 3) (3 * j)).toList == (mname (k : Int)).toList) = decide (j = k) := by
  have key : ∀ j, j < 13 → ∀ k : Nat, k < 13 → 1 ≤ j → 1 ≤ k → ((smonths.extract (3 * j - 3) (3 * j)).data.toList == (mname (k : Int)).data.toList) = decide (j = k) := by decide +kernel
  intro j h1 h2 k h3 h4
  rw [ByteArray.toList_eq, ByteArray.toList_eq]
  exact key j (by omega) k (by omega) h1 h3

set_option maxRecDepth 20000 in
set_option maxHeartbeats 3200000 in
/-- A month's name at a place. -/
theorem l2Month_is (U : ByteArray) (a : Nat) (m : Nat) (w : World) (h1 : 1 ≤ m) (h2 : m ≤ 12) (ha : a ≤ 1000) (hz : a + 3 ≤ U.size) (hm : U.extract a (a + 3) = mname (m : Int)) :
    Calls Tryz.prog 97 #[.string U, .int .i64 a] w fun e w' => e = .returned (.int .i64 m) ∧ Below w.heap.size w w' := by
  have hd : decide ((a : Int) + 3 ≤ (U.size : Int)) = true := decide_eq_true (by omega)
  have hw : IntKind.i64.wrap ((a : Int) + 3) = (a : Int) + 3 := by rw [IntKind.wrap_i64]; omega
  have hM : smonths.size = 36 := rfl
  go_enter Tryz.func97, Tryz.ntmps97
  go_wp2_with fail
  go_loopw [5] (fun cv wr => ∃ j : Nat, cv = .int .i64 j ∧ 1 ≤ j ∧ j ≤ m ∧ Hid (Below w.heap.size w wr)) (fun cv _ => 13 - (intOf cv).toNat)
  case atStart => exact ⟨1, rfl, by omega, h1, Below.refl _ _⟩
  case round =>
    obtain ⟨j, rfl, hj1, hj2, HW⟩ := hrel
    have hq := month_text j hj1 (by omega) m h1 h2
    rw [← hm] at hq
    have d12 : decide ((j : Int) ≤ 12) = true := decide_eq_true (by omega)
    have e0 : (3 * (j : Int) - 3).toNat = 3 * j - 3 := by omega
    have e1 : (3 * (j : Int)).toNat = 3 * j := by omega
    have e2 : ((a : Int) + 3).toNat = a + 3 := by omega
    have b0 : 0 ≤ 3 * (j : Int) - 3 := by omega
    have b1 : 3 * (j : Int) - 3 ≤ 3 * (j : Int) := by omega
    have b2 : 3 * (j : Int) ≤ 36 := by omega
    have b3 : (a : Int) ≤ (a : Int) + 3 := by omega
    have b4 : (a : Int) + 3 ≤ (U.size : Int) := by omega
    unfold smonths at hq
    clear hm
    by_cases hjm : j = m
    · rw [decide_eq_true hjm] at hq
      subst hjm
      go_wp2_with fail
      go_quiet (fail)
      go_wp2_with fail
      go_ret
      exact ⟨rfl, HW.out.trans ((Ctf.below_drewN _ _).mono HW.out.size)⟩
    · rw [decide_eq_false hjm] at hq
      have hlt : j < m := by omega
      clear hjm
      go_wp2_with fail
      go_quiet (fail)
      go_wp2_with fail
      refine ⟨⟨j + 1, by go_num, by omega, by omega, HW.out.trans ((Ctf.below_drewN _ _).mono HW.out.size)⟩, ?_⟩
      simp [intOf]; omega

set_option maxRecDepth 20000 in
set_option maxHeartbeats 3200000 in
theorem l2Month_any (U : ByteArray) (a : Nat) (w : World) (ha : a ≤ 1000) :
    Calls Tryz.prog 97 #[.string U, .int .i64 a] w fun e w' => (∃ m : Nat, e = .returned (.int .i64 m)) ∧ Below w.heap.size w w' := by
  have hw : IntKind.i64.wrap ((a : Int) + 3) = (a : Int) + 3 := by rw [IntKind.wrap_i64]; omega
  by_cases hz : a + 3 ≤ U.size
  rotate_left
  · have hd : decide ((a : Int) + 3 ≤ (U.size : Int)) = false := decide_eq_false (by omega)
    go_enter Tryz.func97, Tryz.ntmps97
    go_wp2_with fail
    go_loopw [5] (fun cv wr => cv = .int .i64 1 ∧ Hid (Below w.heap.size w wr)) (fun _ _ => 0)
    case atStart => exact ⟨rfl, Below.refl _ _⟩
    case round =>
      obtain ⟨rfl, HW⟩ := hrel
      go_wp2_with fail
      go_ret
      exact ⟨⟨0, rfl⟩, HW.out⟩
  have hd : decide ((a : Int) + 3 ≤ (U.size : Int)) = true := decide_eq_true (by omega)
  have hM : smonths.size = 36 := rfl
  go_enter Tryz.func97, Tryz.ntmps97
  go_wp2_with fail
  go_loopw [5] (fun cv wr => ∃ j : Nat, cv = .int .i64 j ∧ 1 ≤ j ∧ j ≤ 13 ∧ Hid (Below w.heap.size w wr)) (fun cv _ => 13 - (intOf cv).toNat)
  case atStart => exact ⟨1, rfl, by omega, by omega, Below.refl _ _⟩
  case round =>
    obtain ⟨j, rfl, hj1, hj2, HW⟩ := hrel
    by_cases h12 : j ≤ 12
    rotate_left
    · have d12 : decide ((j : Int) ≤ 12) = false := decide_eq_false (by omega)
      go_wp2_with fail
      go_ret
      exact ⟨⟨0, rfl⟩, HW.out⟩
    have d12 : decide ((j : Int) ≤ 12) = true := decide_eq_true (by omega)
    have e0 : (3 * (j : Int) - 3).toNat = 3 * j - 3 := by omega
    have e1 : (3 * (j : Int)).toNat = 3 * j := by omega
    have e2 : ((a : Int) + 3).toNat = a + 3 := by omega
    have b0 : 0 ≤ 3 * (j : Int) - 3 := by omega
    have b1 : 3 * (j : Int) - 3 ≤ 3 * (j : Int) := by omega
    have b2 : 3 * (j : Int) ≤ 36 := by omega
    have b3 : (a : Int) ≤ (a : Int) + 3 := by omega
    have b4 : (a : Int) + 3 ≤ (U.size : Int) := by omega
    obtain ⟨q, hq⟩ : ∃ q, ((smonths.extract (3 * j - 3) (3 * j)).toList == (U.extract a (a + 3)).toList) = q := ⟨_, rfl⟩
    unfold smonths at hq
    have HZ : Hid (∀ n, Below w.heap.size w (wr.drewN n)) := fun n => HW.out.trans ((Ctf.below_drewN _ _).mono HW.out.size)
    cases q
    · go_wp2_with fail
      go_quiet (fail)
      go_wp2_with fail
      refine ⟨⟨j + 1, by go_num, by omega, by omega, HZ.out _⟩, ?_⟩
      simp [intOf]; omega
    · go_wp2_with fail
      go_quiet (fail)
      go_wp2_with fail
      go_ret
      exact ⟨⟨j, rfl⟩, HZ.out _⟩

end Go.Proofs.YtgidmoncocbfiaaGreatDoor.Dua

namespace Go.Proofs.YtgidmoncocbfiaaGreatDoor.Dua
open Go.RowKit
open Go.Proofs.YtgidmoncocbfiaaGreatDoor.Num (num two clockB)
open Go.Proofs.YtgidmoncocbfiaaGreatDoor.Nam
open Go.Proofs.YtgidmoncocbfiaaGreatDoor.Wgt (rdL readDigits_any)

set_option maxRecDepth 20000 in
set_option maxHeartbeats 1600000 in
theorem withClock_any (y m d x0 x1 x2 : Int) (h i s : Nat) (w : World) (hT : Fch.Tab w) (hh : h < 100) (hi : i < 100) (hs : s < 100) :
    Calls Tryz.prog 143 #[.agg #[.int .i64 y, .int .i64 m, .int .i64 d, .int .i64 x0, .int .i64 x1, .int .i64 x2], .string (clockB h i s)] w fun e w' => e = .returned (.agg #[.int .i64 y, .int .i64 m, .int .i64 d, .int .i64 h, .int .i64 i, .int .i64 s]) ∧ Below w.heap.size w w' := by
  go_enter Tryz.func143, Tryz.ntmps143
  go_wp2_with fail
  have HP := clock_pieces h i s hh hi hs
  obtain ⟨p1, p2, p3, p4⟩ := HP
  have HA : Hid _ := fun w hT => readDigits_any (two h) w hT (by rw [two_size2 hh]; decide)
  have HB : Hid _ := fun w hT => readDigits_any (two i) w hT (by rw [two_size2 hi]; decide)
  have HC : Hid _ := fun w hT => readDigits_any (two s) w hT (by rw [two_size2 hs]; decide)
  rw [rd_two hh] at HA
  rw [rd_two hi] at HB
  rw [rd_two hs] at HC
  generalize clockB h i s = K at *
  generalize two h = K1 at *
  generalize two i = K2 at *
  generalize two s = K3 at *
  have HTw : Hid (∀ wx, Below w.heap.size w wx → Fch.Tab wx) := fun wx hb => hT.below hb hT.lt
  clear hT
  go_region_with (first
    | (go_at_call 144; with_reducible refine Calls.mono (HA.out _ (HTw.out _ (by repeat (first | exact Below.refl _ _ | apply Below.drew | refine Below.alloc ?_ (by simp <;> omega) _ | refine Below.setCell ?_ (by simp <;> omega) _)))) ?_; rintro e w' ⟨rfl, hw⟩; obtain rfl := hw.symm)
    | (go_at_call 144; with_reducible refine Calls.mono (HB.out _ (HTw.out _ (by repeat (first | exact Below.refl _ _ | apply Below.drew | refine Below.alloc ?_ (by simp <;> omega) _ | refine Below.setCell ?_ (by simp <;> omega) _)))) ?_; rintro e w' ⟨rfl, hw⟩; obtain rfl := hw.symm)
    | (go_at_call 144; with_reducible refine Calls.mono (HC.out _ (HTw.out _ (by repeat (first | exact Below.refl _ _ | apply Below.drew | refine Below.alloc ?_ (by simp <;> omega) _ | refine Below.setCell ?_ (by simp <;> omega) _)))) ?_; rintro e w' ⟨rfl, hw⟩; obtain rfl := hw.symm))
  all_goals
    go_wp2_with fail
    exact bodyPost_ret (v := .agg #[.int .i64 y, .int .i64 m, .int .i64 d, .int .i64 h, .int .i64 i, .int .i64 s]) (by simp [results, Tryz.results143, go_sem]) rfl ⟨rfl, by repeat (first | exact Below.refl _ _ | apply Below.drew | refine Below.alloc ?_ (by simp <;> omega) _ | refine Below.setCell ?_ (by simp <;> omega) _)⟩


end Go.Proofs.YtgidmoncocbfiaaGreatDoor.Dua

