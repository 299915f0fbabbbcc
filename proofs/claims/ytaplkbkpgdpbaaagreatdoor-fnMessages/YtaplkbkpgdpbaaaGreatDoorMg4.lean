/-
  Walks: impl.ValuesOf.
  Walk: spec.l1Cut: a text cut at the first of a byte; where the library cuts it (for the texts on fields).
-/
import Derived.Test.YtaplkbkpgdpbaaaGreatDoorMg3
import Derived.Test.YtaplkbkpgdpbaaaGreatDoorLit
import Derived.Test.YtaplkbkpgdpbaaaGreatDoorMg1
import Derived.Below
import Derived.Deep.QuietTactic
import Derived.BigQuiet
import Derived.Deep.RegionLaw
import Derived.WalkKit
import Derived.WalkLawsBesides
import Derived.WalkSpells
import Derived.Lib.IndexLaws
import Derived.Lib.CutLaws
namespace Go.Proofs.YtaplkbkpgdpbaaaGreatDoor.Vof
open Go.RowKit Go.Maps Go.WideMaps
open Go.Proofs.YtaplkbkpgdpbaaaGreatDoor.Fbs
open Go.Proofs.YtaplkbkpgdpbaaaGreatDoor.Fch
open Go.Proofs.YtaplkbkpgdpbaaaGreatDoor.Ows
open Go.Proofs.YtaplkbkpgdpbaaaGreatDoor.Fdb
open Go.Proofs.YtaplkbkpgdpbaaaGreatDoor.Fvs
open Go.Proofs.YtaplkbkpgdpbaaaGreatDoor.Fpl
open Go.Proofs.YtaplkbkpgdpbaaaGreatDoor.Lof (lowB lowS specLow_any implLow_any lowS_size)
open Go.Proofs.YtaplkbkpgdpbaaaGreatDoor.Kls (skey zeroI kl kl_ne)

theorem valO_bad {l : List (ByteArray × ByteArray)} {n : ByteArray} (h : goodL l = false) : valO l n = none := by unfold valO; rw [if_neg (by simp [h])]
theorem valO_name {l : List (ByteArray × ByteArray)} {n : ByteArray} (h : tokenB n.data.toList = false) : valO l n = none := by unfold valO; rw [if_neg (by simp [h])]
theorem valO_is {l : List (ByteArray × ByteArray)} {n : ByteArray} (h : goodL l = true) (h2 : tokenB n.data.toList = true) : valO l n = some (valsOf n l) := by unfold valO; rw [if_pos ⟨h, h2⟩]
theorem vals_none {n : ByteArray} {l : List (ByteArray × ByteArray)} (h : hasL (lowS n) l = false) : valsOf n l = [] := by
  unfold valsOf
  rw [List.map_eq_nil_iff, List.filter_eq_nil_iff]
  intro c hc
  unfold hasL at h
  rw [List.any_eq_false] at h
  exact h c hc
theorem vals_before {n : ByteArray} {l : List (ByteArray × ByteArray)} : valsOf n (l.take (idxL (lowS n) l)) = [] := by
  unfold valsOf
  rw [List.map_eq_nil_iff, List.filter_eq_nil_iff]
  intro c hc
  obtain ⟨j, hj, rfl⟩ := List.getElem_of_mem hc
  rw [List.length_take] at hj
  rw [List.getElem_take]
  have := idx_not (x := lowS n) (l := l) (j := j) (by omega) (by omega)
  unfold isN
  simpa using this
theorem pos_same {n : ByteArray} {l : List (ByteArray × ByteArray)} {j : Nat} (hj : j < l.length) (hn : hasL (lowS n) l = true) : (posL (lowS l[j].1) l == (idxL (lowS n) l : Int)) = isN n l[j] := by
  have hh : hasL (lowS l[j].1) l = true := by
    unfold hasL
    rw [List.any_eq_true]
    exact ⟨l[j], List.getElem_mem hj, by simp⟩
  unfold posL isN
  rw [if_pos hh]
  by_cases h : lowS l[j].1 = lowS n
  · rw [h, decide_eq_true rfl]; simp
  · rw [decide_eq_false h, beq_eq_false_iff_ne]
    intro e
    have e' : idxL (lowS l[j].1) l = idxL (lowS n) l := by omega
    have h1 := idx_low (has_idx hh)
    have h2 := idx_low (has_idx hn)
    apply h
    rw [← h1, ← h2]
    simp only [e']
theorem has_mem {l : List (ByteArray × ByteArray)} {j : Nat} (hj : j < l.length) : hasL (lowS l[j].1) l = true := by
  unfold hasL
  rw [List.any_eq_true]
  exact ⟨l[j], List.getElem_mem hj, by simp⟩

theorem texts_made (w : World) (B : Nat) (h : B ≤ w.heap.size) : textsIn (w.alloc (.cells #[] 9)) B (.slice (some ⟨w.heap.size, 0, none⟩) 0 0) [] :=
  ⟨rfl, .inr ⟨w.heap.size, 0, #[], rfl, h, by show (w.heap.push _)[w.heap.size]? = _; simp, Nat.le_refl _, by decide, rfl, rfl⟩⟩
theorem tbase {w : World} {B B' : Nat} {v : Value} {l : List ByteArray} (h : textsIn w B v l) (hB : B' ≤ B) : textsIn w B' v l := by
  refine ⟨h.1, ?_⟩
  rcases h.2 with hn | ⟨g, cap, cur, rfl, hbg, rest⟩
  · exact .inl hn
  · exact .inr ⟨g, cap, cur, rfl, Nat.le_trans hB hbg, rest⟩

set_option maxRecDepth 20000 in
set_option maxHeartbeats 3200000 in
theorem implVals_any (a : Option Addr) (ca : Nat) (l : List (ByteArray × ByteArray)) (n : ByteArray) (w : World) (lo hi : Nat) (hT : Tab w) (hn : n.size ≤ 2000000) (hz : SzF l) (hca : l.length ≤ ca) (ha : FV w a l lo hi) :
    Calls Tryz.prog 78 #[.slice a l.length ca, .string n] w fun e w' => Lsp.Told w' w.heap.size e (valO l n) ∧ Below w.heap.size w w' := by
  have hgt := hT.lt
  have HA : Hid _ := fun w t f => areFields_any a ca l w lo hi t hz f
  cases hg : goodL l
  · rw [hg] at HA
    rw [valO_bad hg]
    go_enter Tryz.func78, Tryz.ntmps78
    go_wp2_with fail
    refine (HA.out _ hT ha).mono ?_
    rintro e w1 ⟨rfl, hb1⟩
    go_wp2_with fail
    go_ret2
    exact ⟨rfl, hb1⟩
  rw [hg] at HA
  have HTk : Hid _ := fun w t => isToken_any n w t
  cases ht : tokenB n.data.toList
  · rw [ht] at HTk
    rw [valO_name ht]
    go_enter Tryz.func78, Tryz.ntmps78
    go_wp2_with fail
    refine (HA.out _ hT ha).mono ?_
    rintro e w1 ⟨rfl, hb1⟩
    go_wp2_with fail
    refine (HTk.out _ (hT.below hb1 hgt)).mono ?_
    rintro e w2 ⟨rfl, hw⟩
    obtain rfl := hw.symm
    go_wp2_with fail
    go_ret2
    exact ⟨rfl, hb1⟩
  rw [ht] at HTk
  obtain ⟨h40, hgf⟩ := goodL_all hg
  have HV : Hid (valO l n = some (valsOf n l)) := valO_is hg ht
  have HP : Hid _ := fun w f => firstPlaces_any a ca l w lo hi (by omega) hz f
  have HL : Hid _ := fun w => implLow_any n w hn
  have hksz : (lowS n).size ≤ maxLen := by rw [lowS_size]; unfold maxLen; omega
  have hkey : keyOf Tryz.prog 9 (.string (lowS n)) = some (kl (lowS n)) := keyOf_string_mk Tryz.underlying9 hksz
  clear hg ht hgf hksz
  go_enter Tryz.func78, Tryz.ntmps78
  go_wp2_with fail
  refine (HA.out _ hT ha).mono ?_
  rintro e w1 ⟨rfl, hb1⟩
  have ha1 := ha.below hb1
  go_wp2_with fail
  refine (HTk.out _ (hT.below hb1 hgt)).mono ?_
  rintro e w2 ⟨rfl, hw⟩
  obtain rfl := hw.symm
  go_wp2_with fail
  refine (HP.out _ ha1).mono ?_
  rintro e w3 ⟨b, D, rfl, hbb, hown, hMP, hb3⟩
  have HMP : Hid _ := hMP
  have hb13 := hb1.trans (hb3.mono hb1.size)
  have ha3 := ha1.below hb3
  clear hMP
  go_wp2_with fail
  refine (HL.out _).mono ?_
  rintro e w4 ⟨rfl, hb4⟩
  have hb14 := hb13.trans (hb4.mono hb13.size)
  have ha4 := ha3.below hb4
  have hown4 := hown.kept (Mrk.grown_of none hb4) (by simp)
  clear hown ha3 ha1 ha
  obtain ⟨v, ps, hrun, hv⟩ := hown4.look_ok skey Tryz.underlying138 (zeroI _) (plainElem_int Tryz.underlying3 (by decide)) hkey
  obtain ⟨cc, rfl, hcc, _⟩ := plainElem_int_inv Tryz.underlying3 hv
  have e1 := (congrArg Prod.fst hcc).symm.trans (HMP.out.2 (lowS n)).1
  injection e1 with e1; injection e1 with _ e1
  rw [(HMP.out.2 (lowS n)).2] at hrun
  clear hv hcc hkey
  cases hh : hasL (lowS n) l
  · rw [hh] at hrun
    have HR : Hid (valO l n = some []) := HV.out.trans (by rw [vals_none hh])
    clear hh e1
    go_wp2_with fail
    go_ret2
    exact ⟨by rw [HR.out]; exact ⟨_, rfl, rfl, .inl ⟨rfl, rfl⟩⟩, hb14⟩
  · rw [hh] at hrun
    have hpos : posL (lowS n) l = (idxL (lowS n) l : Int) := if_pos hh
    have hlt0 := has_idx hh
    rw [hpos] at e1
    subst e1
    have HPS : Hid (∀ j, (hj : j < l.length) → (posL (lowS l[j].1) l == (idxL (lowS n) l : Int)) = isN n l[j]) := fun j hj => pos_same hj hh
    have HB0 : Hid (valsOf n (l.take (idxL (lowS n) l)) = []) := vals_before
    clear hh hpos
    generalize idxL (lowS n) l = p at *
    have h0 : l ≠ [] := fun e => by subst e; simp at hlt0
    rcases ha4 with ha4 | ⟨g, rfl, _, _, ga⟩
    · exact absurd ha4 h0
    have GA : Hid (RowF w4 g l) := ga
    have HOW : Hid (w4.ownsMap Tryz.prog 9 (plainElem Tryz.prog 3) b l.length D) := hown4
    clear ga hown4 HTk HL
    go_wp2_with fail
    go_loopw [9, 36] (fun v i wr => ∃ j : Nat, j ≤ l.length - p ∧ i = .int .i64 j ∧ textsIn wr w4.heap.size v (valsOf n (l.take (p + j))) ∧ Below w4.heap.size w4 wr) (fun _ i _ => l.length - p - (intOf i).toNat)
    case atStart => exact ⟨0, Nat.zero_le _, rfl, by rw [Nat.add_zero, HB0.out]; exact texts_made w4 _ (Nat.le_refl _), (Below.refl _ _).alloc (Nat.le_refl _) _⟩
    case round =>
      obtain ⟨j, hj, rfl, hown, hbel⟩ := hrel
      by_cases hlt : j < l.length - p
      · have hpj : p + j < l.length := by omega
        obtain ⟨k1, k2⟩ := (GA.out.below hbel).2.2 (p + j) l[p + j] (List.getElem?_eq_getElem hpj)
        rw [Nat.add_mul] at k1 k2
        obtain ⟨hs1, hs2⟩ := hz l[p + j] (List.getElem_mem hpj)
        have htk : l.take (p + (j + 1)) = l.take (p + j) ++ [l[p + j]] := by rw [← Nat.add_assoc]; exact List.take_succ_eq_append_getElem hpj
        have hps := HPS.out (p + j) hpj
        have hlen : (valsOf n (l.take (p + j))).length ≤ 40 := Nat.le_trans (valsOf_len n _) (by rw [List.length_take]; omega)
        generalize l[p + j] = c at *
        obtain ⟨X, Y⟩ := c
        dsimp only at k1 k2 hs1 hs2 hps
        have HLow : Hid _ := fun w => implLow_any X w hs1
        have hown1 := hown.alloc (.cells #[.string X, .string Y] 102)
        have hbel1 := hbel.alloc hbel.size (.cells #[.string X, .string Y] 102)
        have hksz : (lowS X).size ≤ maxLen := by rw [lowS_size]; unfold maxLen; omega
        have hkey : keyOf Tryz.prog 9 (.string (lowS X)) = some (kl (lowS X)) := keyOf_string_mk Tryz.underlying9 hksz
        clear hown hbel
        go_wp2_with fail
        refine (HLow.out _).mono ?_
        rintro e w5 ⟨rfl, hb5⟩
        have hown5 := hown1.below hb5
        have hbel5 := hbel1.trans (hb5.mono hbel1.size)
        have hc5 : w5.cell? ⟨wr.heap.size, 1, none⟩ = some (.string Y) := (hb5.cell (p := ⟨wr.heap.size, 1, none⟩) (by simp)).trans (by simp [go_sem])
        obtain ⟨c2, hrun2, hat2, _⟩ := (World.ownsMap.kept HOW.out (Mrk.grown_of none hbel5) (by simp)).lookup_int skey Tryz.underlying138 Tryz.underlying3 (zeroI _) hkey
        have e2 := hat2.symm.trans (HMP.out.2 (lowS X)).1
        injection e2 with e2; injection e2 with _ e2
        rw [← e2] at hps
        have hB5 := hbel5.size
        clear e2 hat2 hb5 hown1 hbel1 k1 k2 hkey
        cases hi : isN n (X, Y)
        · rw [hi] at hps
          have HV : Hid (valsOf n (l.take (p + (j + 1))) = valsOf n (l.take (p + j))) := by show _ = _; rw [htk, valsOf_no hi]
          clear hi htk
          go_wp2_with fail
          go_roundw
          case rel => exact ⟨j + 1, by omega, by go_num, by rw [HV.out]; exact hown5, hbel5⟩
          case measure => simp [intOf]; omega
        · rw [hi] at hps
          have HV : Hid (valsOf n (l.take (p + (j + 1))) = valsOf n (l.take (p + j)) ++ [Y]) := by show _ = _; rw [htk, valsOf_yes hi]
          clear hi htk
          generalize valsOf n (l.take (p + j)) = acc at *
          go_wp2_with (at_builtin; refine wpList_append_text w5 rfl _ _ rfl w4.heap.size _ acc (by rfl) hown5 _ _ rfl ?q3 hB5 w4.heap.size (Nat.le_refl _) w4 hbel5 ?_)
          case q3 => omega
          intro v' w6 hown6 hbel6
          clear hown5 hbel5 hB5 hrun2 hc5
          go_wp2_with fail
          go_roundw
          case rel => exact ⟨j + 1, by omega, by go_num, by rw [HV.out]; exact hown6, hbel6⟩
          case measure => simp [intOf]; omega
      · obtain rfl : j = l.length - p := by omega
        rw [show p + (l.length - p) = l.length from by omega, List.take_length] at hown
        have hb15 := hb14.trans (hbel.mono hb14.size)
        go_wp2_with fail
        go_ret2
        exact ⟨by rw [HV.out]; exact ⟨_, rfl, tbase hown hb14.size⟩, hb15⟩

end Go.Proofs.YtaplkbkpgdpbaaaGreatDoor.Vof

namespace Go.Proofs.YtaplkbkpgdpbaaaGreatDoor.Ctf
open Go.RowKit
open Go.Proofs.YtaplkbkpgdpbaaaGreatDoor.Fbs

/-- Where a byte stands first: its place, or none. -/
def firstAt (l : List UInt8) (c : UInt8) : Nat → Nat → Option Nat
  | 0, _ => none
  | f + 1, k => if k < l.length then (if l[k]?.getD 0 = c then some k else firstAt l c f (k + 1)) else none

def cutI (s : ByteArray) (c : UInt8) : Option Nat := firstAt s.data.toList c s.data.toList.length 0
def cutA (s : ByteArray) (c : UInt8) : ByteArray := match cutI s c with | some k => s.extract 0 k | none => s
def cutZ (s : ByteArray) (c : UInt8) : ByteArray := match cutI s c with | some k => s.extract (k + 1) s.size | none => ⟨#[]⟩
def cutB (s : ByteArray) (c : UInt8) : Bool := (cutI s c).isSome

theorem cut_some {s : ByteArray} {c : UInt8} {k : Nat} (h : cutI s c = some k) : cutA s c = s.extract 0 k ∧ cutZ s c = s.extract (k + 1) s.size ∧ cutB s c = true := by
  unfold cutA cutZ cutB; rw [h]; exact ⟨rfl, rfl, rfl⟩
theorem cut_none {s : ByteArray} {c : UInt8} (h : cutI s c = none) : cutA s c = s ∧ cutZ s c = ⟨#[]⟩ ∧ cutB s c = false := by
  unfold cutA cutZ cutB; rw [h]; exact ⟨rfl, rfl, rfl⟩

theorem first_end {l : List UInt8} {c : UInt8} {f k : Nat} (h : l.length ≤ k) : firstAt l c f k = none := by
  cases f with
  | zero => rfl
  | succ f => simp only [firstAt]; rw [if_neg (by omega)]
theorem first_hit {l : List UInt8} {c : UInt8} {f k : Nat} (h : k < l.length) (hc : l[k]?.getD 0 = c) : firstAt l c (f + 1) k = some k := by
  simp only [firstAt]; rw [if_pos h, if_pos hc]
theorem first_miss {l : List UInt8} {c : UInt8} {f k : Nat} (h : k < l.length) (hc : l[k]?.getD 0 ≠ c) : firstAt l c (f + 1) k = firstAt l c f (k + 1) := by
  simp only [firstAt]; rw [if_pos h, if_neg hc]

theorem below_drewN (w : World) (n : Nat) : Below w.heap.size w (w.drewN n) := ⟨rfl, rfl, rfl, Nat.le_refl _, fun _ _ => rfl⟩

theorem ret_three {a b a' b' : ByteArray} {x x' : Bool} (h1 : a = a') (h2 : b = b') (h3 : x = x') : Ending.returned (.tuple #[.string a, .string b, .bool x]) = .returned (.tuple #[.string a', .string b', .bool x']) := by rw [h1, h2, h3]

set_option maxHeartbeats 800000 in
theorem l1Cut_any (s : ByteArray) (c : UInt8) (w : World) (hs : s.size ≤ 2000000) :
    Calls Tryz.prog 61 #[.string s, .int .u8 (c.toNat : Int)] w fun e w' => e = .returned (.tuple #[.string (cutA s c), .string (cutZ s c), .bool (cutB s c)]) ∧ Below w.heap.size w w' := by
  go_enter Tryz.func61, Tryz.ntmps61
  go_wp2
  go_loop [7] (fun i => ∃ k f : Nat, k ≤ s.size ∧ s.size ≤ k + f ∧ i = .int .i64 k ∧ Hid (cutI s c = firstAt s.data.toList c f k)) (fun i => s.size - (intOf i).toNat)
  case atStart => exact ⟨0, s.data.toList.length, by omega, by rw [len_list]; omega, rfl, rfl⟩
  case round =>
    obtain ⟨k, f, hk, hf, rfl, HD⟩ := hrel
    by_cases hlt : k < s.size
    · have e0 := at_list s k hlt
      obtain ⟨f', rfl⟩ : ∃ f', f = f' + 1 := ⟨f - 1, by omega⟩
      by_cases hc : s[k] = c
      · have HR := cut_some (s := s) (c := c) (k := k) (by rw [HD.out]; exact first_hit (by rw [len_list]; exact hlt) (by rw [e0]; exact hc))
        have HR' : Hid (cutA s c = s.extract 0 k ∧ cutZ s c = s.extract (k + 1) s.size ∧ cutB s c = true) := HR
        have hc' : ((s[k].toNat : Int) == (c.toNat : Int)) = true := by rw [hc]; simp
        clear HD HR e0 hc
        go_wp2
        go_quiet (fail)
        go_wp2
        go_ret3
        exact ⟨ret_three HR'.out.1.symm HR'.out.2.1.symm HR'.out.2.2.symm, below_drewN w _⟩
      · have HD' : Hid (cutI s c = firstAt s.data.toList c f' (k + 1)) := by
          show _ = _; rw [HD.out]; exact first_miss (by rw [len_list]; exact hlt) (by rw [e0]; exact hc)
        have hc' : ((s[k].toNat : Int) == (c.toNat : Int)) = false := by
          rw [beq_eq_false_iff_ne]; intro e; exact hc (UInt8.toNat_inj.1 (by omega))
        clear HD e0 hc
        go_wp2
        go_round
        case rel => exact ⟨k + 1, f', by omega, by omega, by go_num, HD'⟩
        case measure => simp [intOf]; omega
    · have HR := cut_none (s := s) (c := c) (by rw [HD.out]; exact first_end (by rw [len_list]; omega))
      have HR' : Hid (cutA s c = s ∧ cutZ s c = ⟨#[]⟩ ∧ cutB s c = false) := HR
      clear HD HR
      go_wp2
      go_ret3
      exact ⟨ret_three HR'.out.1.symm HR'.out.2.1.symm HR'.out.2.2.symm, Below.refl _ _⟩

theorem first_spec {l : List UInt8} {c : UInt8} : ∀ (f k r : Nat), firstAt l c f k = some r → k ≤ r ∧ r < l.length ∧ l[r]?.getD 0 = c ∧ ∀ j, k ≤ j → j < r → l[j]?.getD 0 ≠ c
  | 0, k, r, h => by simp [firstAt] at h
  | f + 1, k, r, h => by
    by_cases h1 : k < l.length
    · by_cases h2 : l[k]?.getD 0 = c
      · rw [first_hit h1 h2] at h
        obtain rfl := Option.some.inj h
        exact ⟨Nat.le_refl _, h1, h2, fun j a b => by omega⟩
      · rw [first_miss h1 h2] at h
        obtain ⟨a, b, d, e⟩ := first_spec f (k + 1) r h
        refine ⟨by omega, b, d, fun j x y => ?_⟩
        by_cases e1 : j = k
        · rw [e1]; exact h2
        · exact e j (by omega) y
    · rw [first_end (by omega)] at h; cases h
theorem first_no {l : List UInt8} {c : UInt8} : ∀ (f k : Nat), l.length ≤ k + f → firstAt l c f k = none → ∀ j, k ≤ j → j < l.length → l[j]?.getD 0 ≠ c
  | 0, k, hf, h, j, a, b => by omega
  | f + 1, k, hf, h, j, a, b => by
    by_cases h1 : k < l.length
    · by_cases h2 : l[k]?.getD 0 = c
      · rw [first_hit h1 h2] at h; cases h
      · rw [first_miss h1 h2] at h
        by_cases e1 : j = k
        · rw [e1]; exact h2
        · exact first_no f (k + 1) (by omega) h j (by omega) b
    · omega

theorem occ_one (l : List UInt8) (c : UInt8) (j : Nat) (h : j < l.length) : Lib.occAt l [c] j = (l[j]?.getD 0 == c) := by
  unfold Lib.occAt
  rw [List.drop_eq_getElem_cons h]
  simp [List.isPrefixOf, h]
  exact Bool.eq_iff_iff.2 ⟨fun e => by simp at e ⊢; exact e.symm, fun e => by simp at e ⊢; exact e.symm⟩

theorem cut_is (s : ByteArray) (c : UInt8) :
    (⟨(Lib.cut s.data.toList [c]).1.toArray⟩ : ByteArray) = cutA s c ∧ (⟨(Lib.cut s.data.toList [c]).2.1.toArray⟩ : ByteArray) = cutZ s c ∧ (Lib.cut s.data.toList [c]).2.2 = cutB s c := by
  have hl : s.data.toList.length = s.size := by simp
  cases h : cutI s c with
  | some k =>
    obtain ⟨a, b, d, e⟩ := first_spec _ _ _ h
    have hi : Lib.indexB s ⟨#[c]⟩ = k := by
      refine Lib.index_hit (sub := [c]) (fun j hj => ?_) (by omega) ?_
      · rw [occ_one _ _ _ (by omega)]
        have := e j (Nat.zero_le _) hj
        simpa using this
      · rw [occ_one _ _ _ b, d]; simp
    have := Lib.cutB_hit s ⟨#[c]⟩ k hi
    obtain ⟨q1, q2, q3⟩ := cut_some h
    rw [q1, q2, q3]
    exact this
  | none =>
    have e := first_no _ _ (by omega) h
    have hi : Lib.indexB s ⟨#[c]⟩ = -1 := by
      refine Lib.index_past (s := s.data.toList) (sub := [c]) (i := s.data.toList.length) (by simp) (fun j hj => ?_) (by simp)
      rw [occ_one _ _ _ hj]
      have := e j (Nat.zero_le _) hj
      simpa using this
    have := Lib.cutB_miss s ⟨#[c]⟩ hi
    obtain ⟨q1, q2, q3⟩ := cut_none h
    rw [q1, q2, q3]
    exact this

end Go.Proofs.YtaplkbkpgdpbaaaGreatDoor.Ctf

