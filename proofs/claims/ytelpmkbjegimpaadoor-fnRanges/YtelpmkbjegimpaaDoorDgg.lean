/-
  Walks: draws: (*l1Cur).spoilt with what it keeps; spec.DrawRangeText, DrawReadRange.
-/
import Derived.Test.YtelpmkbjegimpaaDoorDfc
import Derived.Test.YtelpmkbjegimpaaDoorDsp
import Derived.Test.YtelpmkbjegimpaaDoorRgc
namespace Go.Proofs.YtelpmkbjegimpaaDoor.Cur
open Go.RowKit
open Go.Proofs.YtelpmkbjegimpaaDoor.Own
open Go.Proofs.YtelpmkbjegimpaaDoor.Spb
open Go.Proofs.YtelpmkbjegimpaaDoor.Rga
open Go.Proofs.YtelpmkbjegimpaaDoor.Num (num num_any num_size_le)

/-- A byte of x more, a byte less, or another one of x. -/
def EdB (x T T' : ByteArray) : Prop := ∃ a p q b : List UInt8, p.length ≤ 1 ∧ q.length ≤ 1 ∧ (∀ c ∈ q, c ∈ x.data.toList) ∧ T.data.toList = a ++ p ++ b ∧ T'.data.toList = a ++ q ++ b
theorem ext_list (T : ByteArray) (i : Nat) : (T.extract 0 i).data.toList = T.data.toList.take i ∧ (T.extract i T.size).data.toList = T.data.toList.drop i := by
  have hl : T.data.toList.length = T.size := by simp
  refine ⟨?_, ?_⟩
  · rw [ByteArray.data_extract, Array.toList_extract]; simp
  · rw [ByteArray.data_extract, Array.toList_extract, List.extract_eq_take_drop, List.take_of_length_le (by rw [List.length_drop, hl]; exact Nat.le_refl _)]
theorem app_lists (a b : ByteArray) : (a ++ b).data.toList = a.data.toList ++ b.data.toList := by simp
theorem one_list (c : UInt8) : (⟨#[c]⟩ : ByteArray).data.toList = [c] := rfl
theorem ed_more (x T : ByteArray) (i : Nat) (c : UInt8) (_ : i < T.size) (hc : c ∈ x.data.toList) : EdB x T (T.extract 0 i ++ ⟨#[c]⟩ ++ T.extract i T.size) := by
  refine ⟨T.data.toList.take i, [], [c], T.data.toList.drop i, by simp, by simp, fun d hd => ?_, by simp, ?_⟩
  · have : d = c := by simpa using hd
    rw [this]; exact hc
  · rw [app_lists, app_lists, (ext_list T i).1, (ext_list T i).2, one_list]
theorem at_split (T : ByteArray) (i : Nat) (hi : i < T.size) : ∃ d : UInt8, T.data.toList = T.data.toList.take i ++ [d] ++ T.data.toList.drop (i + 1) := by
  have hl : T.data.toList.length = T.size := by simp
  refine ⟨T.data.toList[i]'(by omega), ?_⟩
  rw [List.append_assoc, List.singleton_append, List.getElem_cons_drop, List.take_append_drop]
theorem ed_other (x T : ByteArray) (i : Nat) (c : UInt8) (hi : i < T.size) (hc : c ∈ x.data.toList) : EdB x T (T.extract 0 i ++ ⟨#[c]⟩ ++ T.extract (i + 1) T.size) := by
  obtain ⟨d, hd⟩ := at_split T i hi
  refine ⟨T.data.toList.take i, [d], [c], T.data.toList.drop (i + 1), by simp, by simp, fun d hd => ?_, hd, ?_⟩
  · have : d = c := by simpa using hd
    rw [this]; exact hc
  · rw [app_lists, app_lists, (ext_list T i).1, (ext_list T (i + 1)).2, one_list]
theorem ed_less (x T : ByteArray) (i : Nat) (hi : i < T.size) : EdB x T (T.extract 0 i ++ T.extract (i + 1) T.size) := by
  obtain ⟨d, hd⟩ := at_split T i hi
  refine ⟨T.data.toList.take i, [d], [], T.data.toList.drop (i + 1), by simp, by simp, fun d hd => (by cases hd), hd, ?_⟩
  rw [app_lists, (ext_list T i).1, (ext_list T (i + 1)).2, List.append_nil]
theorem mem_at (x : ByteArray) (j : Nat) (hj : j < x.size) : x[j] ∈ x.data.toList := by
  have hl : x.data.toList.length = x.size := by simp
  have e : x[j] = x.data.toList[j]'(by omega) := by simp; rfl
  rw [e]; exact List.getElem_mem _

set_option maxHeartbeats 1600000 in
theorem spoilt_keeps (Q : Nat → ByteArray → Prop) (x : ByteArray) (hQ : ∀ j T T', Q j T → EdB x T T' → Q (j + 1) T') (cb : Nat) (v : Value) (n N : Nat) (w : World) (t : ByteArray) (hQ0 : Q 0 t) (hC : Cursor w cb v n N) (hN : N ≤ 800000000) (ht : t.size ≤ 100000) (hx1 : 1 ≤ x.size) (hx2 : x.size ≤ 1000) :
    Calls Tryd.prog 33 #[.pointer (some ⟨cb, 0, none⟩), .string t, .string x] w fun e w' => ∃ (T : ByteArray) (k : Nat), e = .returned (.string T) ∧ T.size ≤ t.size + 2 ∧ (k ≤ 2 ∧ Q k T) ∧ Cursor w' cb v n (N + 20) ∧ But cb w w' := by
  have hcb : cb < w.heap.size := hC.2.2.1
  have HC0 : Hid _ := hC
  have HQ0 : Hid (Q 0 t) := hQ0
  have HQ : Hid (∀ j T T', Q j T → EdB x T T' → Q (j + 1) T') := hQ
  clear hC hQ0 hQ
  go_enter Tryd.func33, Tryd.ntmps33
  go_wp2_with fail
  refine (pick_at 3 _ rfl cb v n _ _ HC0.out (by omega) (by omega) (by omega)).mono ?_
  rintro e w1 ⟨x1, rfl, hx1', hC1, hb1⟩
  have HC1 : Hid _ := hC1
  have Hb1 : Hid _ := hb1
  clear hC1 hb1 HC0
  go_wp2_with fail
  go_loopw [1, 7] (fun tv nv wr => ∃ (m : Nat) (T : ByteArray), tv = .string T ∧ nv = .int .i64 m ∧ m ≤ x1 ∧ T.size + m ≤ t.size + x1 ∧ Hid (Q (x1 - m) T) ∧ Hid (Cursor wr cb v n (N + 2 + 6 * (x1 - m))) ∧ Hid (But cb w wr)) (fun _ nv _ => (intOf nv).toNat)
  case atStart => exact ⟨x1, t, rfl, rfl, by omega, by omega, by show Q (x1 - x1) t; rw [Nat.sub_self]; exact HQ0.out, Cursor.mono HC1.out (by omega), Hb1⟩
  case round =>
    obtain ⟨m, T, rfl, rfl, hm, hsz, HQm, HC, HB⟩ := hrel
    have hxm : 0 < m → x1 - (m - 1) = x1 - m + 1 := fun h => by omega
    clear HC1 Hb1
    by_cases h0 : 0 < m
    · by_cases hT : 0 < T.size
      · go_wp2_with fail
        refine (pick_at T.size _ rfl cb v n _ _ HC.out (by omega) (by omega) (by omega)).mono ?_
        rintro e w2 ⟨i, rfl, hi, hC2, hb2⟩
        have HC2 : Hid _ := hC2
        have HB2 : Hid _ := But.trans HB.out hb2
        have E0 : Hid (∀ c : UInt8, c ∈ x.data.toList → EdB x T (T.extract 0 i ++ ⟨#[c]⟩ ++ T.extract i T.size)) := fun c hc => ed_more x T i c hi hc
        have E1 : Hid (∀ c : UInt8, c ∈ x.data.toList → EdB x T (T.extract 0 i ++ ⟨#[c]⟩ ++ T.extract (i + 1) T.size)) := fun c hc => ed_other x T i c hi hc
        have E2 : Hid (EdB x T (T.extract 0 i ++ T.extract (i + 1) T.size)) := ed_less x T i hi
        have Hxm : Hid (x1 - (m - 1) = x1 - m + 1) := hxm h0
        clear HC HB hC2 hb2 hxm
        go_wp2_with fail
        refine (pick_at x.size _ rfl cb v n _ _ HC2.out (by omega) (by omega) (by omega)).mono ?_
        rintro e w3 ⟨j, rfl, hj, hC3, hb3⟩
        have HC3 : Hid _ := Cursor.below hC3 ((Below.refl _ _).alloc (Nat.le_refl _) (.cells #[.int .u8 (x[j].toNat : Int)] 5))
        have HB3 : Hid _ := But.then (But.trans HB2.out hb3) ((Below.refl w.heap.size w3).alloc (But.trans HB2.out hb3).2.2.2.1 (.cells #[.int .u8 (x[j].toNat : Int)] 5))
        have Hxj : Hid (x[j] ∈ x.data.toList) := mem_at x j hj
        have hcv := Mrk.text_one w3 x[j] (x[j].toNat : Int) rfl
        have e1 : T.extract 0 i = T.extract 0 i := rfl
        clear HC2 HB2 hC3 hb3 e1
        go_wp2_with fail
        refine (pick_at 3 _ rfl cb v n _ _ HC3.out (by omega) (by omega) (by omega)).mono ?_
        rintro e w4 ⟨k, rfl, hk, hC4, hb4⟩
        have HC4 : Hid _ := hC4
        have HB4 : Hid _ := But.trans HB3.out hb4
        have z1 : (T.extract 0 i).size = i := by rw [ByteArray.size_extract]; omega
        have z2 : (T.extract i T.size).size = T.size - i := by rw [ByteArray.size_extract]; omega
        have z3 : (T.extract (i + 1) T.size).size = T.size - (i + 1) := by rw [ByteArray.size_extract]; omega
        have z4 : (⟨#[x[j]]⟩ : ByteArray).size = 1 := rfl
        clear HC3 HB3 hC4 hb4 hcv
        rcases (show k = 0 ∨ k = 1 ∨ k = 2 by omega) with rfl | rfl | rfl
        · go_wp2_with fail
          go_quiet (fail)
          go_wp2_with fail
          go_roundw
          case rel => exact ⟨m - 1, _, rfl, by go_num, by omega, by simp only [ByteArray.size_append]; omega, by show Q (x1 - (m - 1)) _; rw [Hxm.out]; exact HQ.out _ _ _ HQm.out (E0.out _ Hxj.out), Cursor.mono (Cursor.below HC4.out (Mrk.below_drewN _ _)) (by omega), HB4⟩
          case measure => simp [intOf]; omega
        · go_wp2_with fail
          go_quiet (fail)
          go_wp2_with fail
          go_roundw
          case rel => exact ⟨m - 1, _, rfl, by go_num, by omega, by simp only [ByteArray.size_append]; omega, by show Q (x1 - (m - 1)) _; rw [Hxm.out]; exact HQ.out _ _ _ HQm.out (E1.out _ Hxj.out), Cursor.mono (Cursor.below HC4.out (Mrk.below_drewN _ _)) (by omega), HB4⟩
          case measure => simp [intOf]; omega
        · go_wp2_with fail
          go_quiet (fail)
          go_wp2_with fail
          go_roundw
          case rel => exact ⟨m - 1, _, rfl, by go_num, by omega, by simp only [ByteArray.size_append]; omega, by show Q (x1 - (m - 1)) _; rw [Hxm.out]; exact HQ.out _ _ _ HQm.out (E2.out), Cursor.mono (Cursor.below HC4.out (Mrk.below_drewN _ _)) (by omega), HB4⟩
          case measure => simp [intOf]; omega
      · go_wp2_with fail
        go_ret
        exact ⟨T, x1 - m, rfl, by omega, ⟨by omega, HQm.out⟩, Cursor.mono HC.out (by omega), HB.out⟩
    · go_wp2_with fail
      go_ret
      exact ⟨T, x1 - m, rfl, by omega, ⟨by omega, HQm.out⟩, Cursor.mono HC.out (by omega), HB.out⟩


/-- Bytes of 32 to 126, none a quote. -/
def Pl (l : List UInt8) : Prop := ∀ c ∈ l, 32 ≤ c.toNat ∧ c.toNat ≤ 126 ∧ c.toNat ≠ 34
theorem Pl.app {a b : List UInt8} (ha : Pl a) (hb : Pl b) : Pl (a ++ b) := fun c hc => (List.mem_append.1 hc).elim (ha c) (hb c)
def Qs (j : Nat) (T : ByteArray) : Prop := MS (2 + 3 * j) T.data.toList ∧ Pl T.data.toList
theorem qs_step (x : ByteArray) (hx : Pl x.data.toList) (j : Nat) (T T' : ByteArray) (h : Qs j T) (he : EdB x T T') : Qs (j + 1) T' := by
  obtain ⟨a, p, q, b, hp, hq, hqx, h1, h2⟩ := he
  refine ⟨?_, ?_⟩
  · have := MS.edit h.1 ⟨a, p, q, b, hp, hq, h1, h2⟩
    intro i k hik
    have := this i k hik
    have e : ((j + 1 : Nat) : Int) = (j : Int) + 1 := by omega
    rw [e]; omega
  · have hT := h.2
    rw [h1] at hT
    rw [h2]
    intro c hc
    rw [List.append_assoc, List.mem_append, List.mem_append] at hc
    rcases hc with hc | hc | hc
    · exact hT c (by simp [hc])
    · exact hx c (hqx c hc)
    · exact hT c (by simp [hc])
/-- What is drawn of one range. -/
def Px (x : ByteArray) : Prop := x.size ≤ 8 ∧ Gd (x.data.toList ++ [44]) ∧ Pl x.data.toList
theorem num_facts {a : Nat} (h : a < 100) : (num a).size ≤ 2 ∧ (num a).data.toList.length ≤ 2 ∧ Pl (num a).data.toList := by
  have h1 := num_size_le 1 a (by omega)
  have hl : (num a).data.toList.length = (num a).size := by simp
  obtain ⟨d1, _, _⟩ := num_told 1 a (by omega)
  refine ⟨h1, by omega, fun c hc => ?_⟩
  have := isD_iff.1 (d1 c hc)
  omega
theorem px_all {a b : Nat} (ha : a < 100) (hb : b < 100) : Px (num a ++ ⟨#[45]⟩ ++ num b) ∧ Px (num a ++ ⟨#[45]⟩) ∧ Px ((⟨#[45]⟩ : ByteArray) ++ num a) ∧ Px ((⟨#[32]⟩ : ByteArray) ++ num a ++ ⟨#[45, 57, 57, 32]⟩) ∧ Px ⟨#[]⟩ := by
  obtain ⟨a1, a2, a3⟩ := num_facts ha
  obtain ⟨b1, b2, b3⟩ := num_facts hb
  have z1 : (⟨#[45]⟩ : ByteArray).size = 1 := rfl
  have z2 : (⟨#[32]⟩ : ByteArray).size = 1 := rfl
  have z3 : (⟨#[45, 57, 57, 32]⟩ : ByteArray).size = 4 := rfl
  have p45 : Pl [45] := fun c hc => by have : c = 45 := by simpa using hc
                                       rw [this]; decide
  have p32 : Pl [32] := fun c hc => by have : c = 32 := by simpa using hc
                                       rw [this]; decide
  have p4 : Pl [45, 57, 57, 32] := by intro c hc; simp at hc; rcases hc with rfl | rfl | rfl | rfl <;> decide
  have wA := fun c hc => gd_word (d := (num a).data.toList) (c := c) a2 hc
  have wB := fun c hc => gd_word (d := (num b).data.toList) (c := c) b2 hc
  have w0 := fun c hc => gd_word (d := []) (c := c) (by simp) hc
  refine ⟨⟨?_, ?_, ?_⟩, ⟨?_, ?_, ?_⟩, ⟨?_, ?_, ?_⟩, ⟨?_, ?_, ?_⟩, ⟨by decide, ?_, fun c hc => (by cases hc)⟩⟩
  · rw [ByteArray.size_append, ByteArray.size_append]; omega
  · rw [app_lists, app_lists, one_list, List.append_assoc]
    exact (wA 45 (by decide)).app (wB 44 (by decide))
  · rw [app_lists, app_lists, one_list]; exact (a3.app p45).app b3
  · rw [ByteArray.size_append]; omega
  · rw [app_lists, one_list]
    exact (wA 45 (by decide)).app (w0 44 (by decide))
  · rw [app_lists, one_list]; exact a3.app p45
  · rw [ByteArray.size_append]; omega
  · rw [app_lists, one_list, List.append_assoc]
    exact (w0 45 (by decide)).app (wA 44 (by decide))
  · rw [app_lists, one_list]; exact p45.app a3
  · rw [ByteArray.size_append, ByteArray.size_append]; omega
  · rw [app_lists, app_lists, one_list]
    have h1 := ((w0 32 (by decide)).app (wA 45 (by decide))).app ((gd_word (d := [57, 57]) (c := 32) (by simp) (by decide)).app (w0 44 (by decide)))
    simpa using h1
  · rw [app_lists, app_lists, one_list]; exact (p32.app a3).app p4
  · exact w0 44 (by decide)
theorem bytes_gd : Gd [98, 121, 116, 101, 115, 61] := by
  have w0 := fun c hc => gd_word (d := []) (c := c) (by simp) hc
  exact ((((((w0 98 (by decide)).app (w0 121 (by decide))).app (w0 116 (by decide))).app (w0 101 (by decide))).app (w0 115 (by decide))).app (w0 61 (by decide)))
theorem bytes_pl : Pl [98, 121, 116, 101, 115, 61] := by intro c hc; simp at hc; rcases hc with rfl | rfl | rfl | rfl | rfl | rfl <;> decide
theorem with_pl : Pl (⟨#[45, 44, 48, 98, 61]⟩ : ByteArray).data.toList := by intro c hc; simp at hc; rcases hc with rfl | rfl | rfl | rfl | rfl <;> decide

set_option maxRecDepth 20000 in
set_option maxHeartbeats 1600000 in
theorem drawText_any (v : Value) (n : Nat) (w : World) (hA : CodeArg w v n) (hn : n ≤ 2000000) :
    Calls Tryd.prog 6 #[v] w fun e w' => ∃ (a : Option Addr) (ca : Nat) (l : List (Int × Int)), e = .returned (.slice a l.length ca) ∧ l.length ≤ 13 ∧ PV w' a l w.heap.size w'.heap.size ∧ Below w.heap.size w w' := by
  obtain ⟨o, cap, rfl⟩ := hA.form
  have HC0 : Hid _ := start hA hn 45
  have HB0 : Hid _ := (Below.refl w.heap.size w).alloc (Nat.le_refl _) (.cells #[.slice o n cap, .int .i64 0, .int .u64 0] 45)
  have hs0 : (w.alloc (.cells #[.slice o n cap, .int .i64 0, .int .u64 0] 45)).heap.size = w.heap.size + 1 := by simp
  clear hA
  go_enter Tryd.func6, Tryd.ntmps6
  go_wp2_with fail
  refine (spans_any 30 (by omega) (by omega) _ _ n _ _ HC0.out (by omega)).mono ?_
  rintro e w1 ⟨r, l, rfl, hl, hown, hC1, hb1⟩
  obtain ⟨a, ca, rfl, hPV⟩ := pv_of hown
  have hP2 : PV w1 a l w.heap.size w1.heap.size := hPV.wide (by omega) (Nat.le_refl _)
  have hB2 : Below w.heap.size w w1 := HB0.out.trans (hb1.below (Nat.le_refl _) (by omega))
  clear HC0 HB0 hC1 hb1 hPV hown
  go_wp2_with fail
  go_ret
  exact ⟨a, ca, l, rfl, hl, hP2, hB2⟩

end Go.Proofs.YtelpmkbjegimpaaDoor.Cur
