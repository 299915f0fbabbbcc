/-
  Walks: fields by name: what both programs tell; spec.l3Fields, l3Is, l3Values, ValuesOf.
-/
import Derived.Test.YtfgcgnhffljiaaaGreatDoorFdb
import Derived.Test.YtfgcgnhffljiaaaGreatDoorKls
namespace Go.Proofs.YtfgcgnhffljiaaaGreatDoor.Fvs
open Go.RowKit
open Go.Proofs.YtfgcgnhffljiaaaGreatDoor.Fbs
open Go.Proofs.YtfgcgnhffljiaaaGreatDoor.Fch
open Go.Proofs.YtfgcgnhffljiaaaGreatDoor.Ows
open Go.Proofs.YtfgcgnhffljiaaaGreatDoor.Fgd (goodF implGoodF_any specGoodF_any)
open Go.Proofs.YtfgcgnhffljiaaaGreatDoor.Lof (lowB lowS specLow_any implLow_any lowS_size)
open Go.Proofs.YtfgcgnhffljiaaaGreatDoor.Kls (text_cmp)
open Go.Proofs.YtfgcgnhffljiaaaGreatDoor.Fdb

/-- Whether fields are good, and not too many. -/
def goodL (l : List (ByteArray × ByteArray)) : Bool := decide (l.length ≤ 40) && l.all fun c => goodF c.1 c.2
theorem goodL_no {l : List (ByteArray × ByteArray)} {k : Nat} (h : k < l.length) (ht : goodF l[k].1 l[k].2 = false) : goodL l = false := by
  unfold goodL
  rw [Bool.and_eq_false_iff]
  right
  rw [List.all_eq_false]
  exact ⟨l[k], List.getElem_mem h, by rw [ht]; exact Bool.false_ne_true⟩
theorem goodL_yes {l : List (ByteArray × ByteArray)} (ht : ∀ k, (hk : k < l.length) → goodF l[k].1 l[k].2 = true) : goodL l = decide (l.length ≤ 40) := by
  unfold goodL
  have : (l.all fun c => goodF c.1 c.2) = true := by
    rw [List.all_eq_true]
    intro o ho
    obtain ⟨k, hk, rfl⟩ := List.getElem_of_mem ho
    exact ht k hk
  rw [this, Bool.and_true]
theorem goodL_all {l : List (ByteArray × ByteArray)} (h : goodL l = true) : l.length ≤ 40 ∧ ∀ c ∈ l, goodF c.1 c.2 = true := by
  unfold goodL at h
  rw [Bool.and_eq_true, List.all_eq_true] at h
  exact ⟨of_decide_eq_true h.1, h.2⟩
/-- The sizes of texts among an argument's. -/
def SzF (l : List (ByteArray × ByteArray)) : Prop := ∀ c ∈ l, c.1.size ≤ 2000000 ∧ c.2.size ≤ 2000000

/-- The values of a name. -/
def isN (n : ByteArray) (c : ByteArray × ByteArray) : Bool := decide (lowS c.1 = lowS n)
def valsOf (n : ByteArray) (l : List (ByteArray × ByteArray)) : List ByteArray := (l.filter (isN n)).map (·.2)
theorem valsOf_yes {n : ByteArray} {l : List (ByteArray × ByteArray)} {c : ByteArray × ByteArray} (h : isN n c = true) : valsOf n (l ++ [c]) = valsOf n l ++ [c.2] := by
  simp [valsOf, h]
theorem valsOf_no {n : ByteArray} {l : List (ByteArray × ByteArray)} {c : ByteArray × ByteArray} (h : isN n c = false) : valsOf n (l ++ [c]) = valsOf n l := by
  simp [valsOf, h]
theorem valsOf_len (n : ByteArray) (l : List (ByteArray × ByteArray)) : (valsOf n l).length ≤ l.length := by
  unfold valsOf
  rw [List.length_map]
  exact List.length_filter_le _ _
def valO (l : List (ByteArray × ByteArray)) (n : ByteArray) : Option (List ByteArray) := if goodL l = true ∧ tokenB n.data.toList = true then some (valsOf n l) else none

set_option maxHeartbeats 800000 in
theorem l3Fields_any (a : Option Addr) (ca : Nat) (l : List (ByteArray × ByteArray)) (w : World) (lo hi : Nat) (hl : l.length ≤ 2000000) (hz : SzF l) (ha : FV w a l lo hi) :
    Calls Tryz.prog 72 #[.slice a l.length ca] w fun e w' => e = .returned (.bool (goodL l)) ∧ Below w.heap.size w w' := by
  by_cases h0 : l = []
  · subst h0
    go_enter Tryz.func72, Tryz.ntmps72
    go_wp2_with fail
    go_loop [7] (fun i => i = .int .i64 0) (fun _ => 0)
    case atStart => rfl
    case round =>
      obtain rfl := hrel
      go_wp2_with fail
      go_ret
      exact ⟨rfl, Below.refl _ _⟩
  rcases ha with ha | ⟨g, rfl, _, _, ga⟩
  · exact absurd ha h0
  have GA : Hid (RowF w g l) := ga
  clear ga
  go_enter Tryz.func72, Tryz.ntmps72
  go_wp2_with fail
  go_loopw [7] (fun i wr => ∃ k : Nat, k ≤ l.length ∧ i = .int .i64 k ∧ Below w.heap.size w wr ∧ Hid (∀ j, (hj : j < l.length) → j < k → goodF l[j].1 l[j].2 = true)) (fun i _ => l.length - (intOf i).toNat)
  case atStart => exact ⟨0, by omega, rfl, Below.refl _ _, fun j _ h => absurd h (by omega)⟩
  case round =>
    obtain ⟨k, hk, rfl, hbel, HT⟩ := hrel
    by_cases hlt : k < l.length
    · obtain ⟨k1, k2⟩ := (GA.out.below hbel).2.2 k l[k] (List.getElem?_eq_getElem hlt)
      obtain ⟨hs1, hs2⟩ := hz l[k] (List.getElem_mem hlt)
      have HG := fun w => specGoodF_any l[k].1 l[k].2 w hs1 hs2
      clear hs1 hs2
      cases ht : goodF l[k].1 l[k].2
      · rw [ht] at HG
        have HG1 : Hid _ := HG
        have HR : Hid (goodL l = false) := goodL_no hlt ht
        clear HG ht
        go_wp2_with fail
        refine (HG1.out _).mono ?_
        rintro e w2 ⟨rfl, hb2⟩
        go_wp2_with fail
        go_ret
        exact ⟨ret_bool HR.out.symm, hbel.trans ((((Below.refl _ _).alloc (Nat.le_refl _) _).trans (hb2.mono (by simp))).mono hbel.size)⟩
      · rw [ht] at HG
        have HG1 : Hid _ := HG
        have HT' : Hid (∀ j, (hj : j < l.length) → j < k + 1 → goodF l[j].1 l[j].2 = true) := by
          intro j hj h
          by_cases e : j = k
          · subst e; exact ht
          · exact HT.out j hj (by omega)
        clear HG ht HT
        go_wp2_with fail
        refine (HG1.out _).mono ?_
        rintro e w2 ⟨rfl, hb2⟩
        go_wp2_with fail
        go_roundw
        case rel => exact ⟨k + 1, by omega, by go_num, hbel.trans ((((Below.refl _ _).alloc (Nat.le_refl _) _).trans (hb2.mono (by simp))).mono hbel.size), HT'⟩
        case measure => simp [intOf]; omega
    · have HR : Hid (goodL l = decide ((l.length : Int) ≤ 40)) := by
        show _ = _
        rw [goodL_yes (fun j hj => HT.out j hj (by omega)), Bool.eq_iff_iff, decide_eq_true_iff, decide_eq_true_iff]; omega
      go_wp2_with fail
      go_ret
      exact ⟨ret_bool HR.out.symm, hbel⟩

set_option maxHeartbeats 800000 in
theorem areFields_any (a : Option Addr) (ca : Nat) (l : List (ByteArray × ByteArray)) (w : World) (lo hi : Nat) (hT : Tab w) (hz : SzF l) (ha : FV w a l lo hi) :
    Calls Tryz.prog 96 #[.slice a l.length ca] w fun e w' => e = .returned (.bool (goodL l)) ∧ Below w.heap.size w w' := by
  have hgt := hT.lt
  by_cases h40 : 40 < l.length
  · have HR : Hid (goodL l = false) := by show _ = _; unfold goodL; rw [decide_eq_false (by omega)]; rfl
    have hd : decide (40 < (l.length : Int)) = true := decide_eq_true (by omega)
    go_enter Tryz.func96, Tryz.ntmps96
    go_wp2
    go_ret
    exact ⟨ret_bool HR.out.symm, Below.refl _ _⟩
  have hd : decide (40 < (l.length : Int)) = false := decide_eq_false (by omega)
  by_cases h0 : l = []
  · subst h0
    go_enter Tryz.func96, Tryz.ntmps96
    go_wp2_with fail
    go_loop [10] (fun i => i = .int .i64 0) (fun _ => 0)
    case atStart => rfl
    case round =>
      obtain rfl := hrel
      go_wp2_with fail
      go_ret
      exact ⟨rfl, Below.refl _ _⟩
  rcases ha with ha | ⟨g, rfl, _, _, ga⟩
  · exact absurd ha h0
  have GA : Hid (RowF w g l) := ga
  clear ga
  go_enter Tryz.func96, Tryz.ntmps96
  go_wp2_with fail
  go_loopw [10] (fun i wr => ∃ k : Nat, k ≤ l.length ∧ i = .int .i64 k ∧ Below w.heap.size w wr ∧ Hid (∀ j, (hj : j < l.length) → j < k → goodF l[j].1 l[j].2 = true)) (fun i _ => l.length - (intOf i).toNat)
  case atStart => exact ⟨0, by omega, rfl, Below.refl _ _, fun j _ h => absurd h (by omega)⟩
  case round =>
    obtain ⟨k, hk, rfl, hbel, HT⟩ := hrel
    by_cases hlt : k < l.length
    · obtain ⟨k1, k2⟩ := (GA.out.below hbel).2.2 k l[k] (List.getElem?_eq_getElem hlt)
      obtain ⟨hs1, hs2⟩ := hz l[k] (List.getElem_mem hlt)
      have HG := fun w h => implGoodF_any l[k].1 l[k].2 w h hs2
      clear hs1 hs2
      cases ht : goodF l[k].1 l[k].2
      · rw [ht] at HG
        have HG1 : Hid _ := HG
        have HR : Hid (goodL l = false) := goodL_no hlt ht
        clear HG ht
        go_wp2_with fail
        refine (HG1.out _ ((hT.below hbel hgt).alloc _)).mono ?_
        rintro e w2 ⟨rfl, hb2⟩
        go_wp2_with fail
        go_ret
        exact ⟨ret_bool HR.out.symm, hbel.trans ((((Below.refl _ _).alloc (Nat.le_refl _) _).trans (hb2.mono (by simp))).mono hbel.size)⟩
      · rw [ht] at HG
        have HG1 : Hid _ := HG
        have HT' : Hid (∀ j, (hj : j < l.length) → j < k + 1 → goodF l[j].1 l[j].2 = true) := by
          intro j hj h
          by_cases e : j = k
          · subst e; exact ht
          · exact HT.out j hj (by omega)
        clear HG ht HT
        go_wp2_with fail
        refine (HG1.out _ ((hT.below hbel hgt).alloc _)).mono ?_
        rintro e w2 ⟨rfl, hb2⟩
        go_wp2_with fail
        go_roundw
        case rel => exact ⟨k + 1, by omega, by go_num, hbel.trans ((((Below.refl _ _).alloc (Nat.le_refl _) _).trans (hb2.mono (by simp))).mono hbel.size), HT'⟩
        case measure => simp [intOf]; omega
    · have HR : Hid (goodL l = true) := by
        show _ = _
        rw [goodL_yes (fun j hj => HT.out j hj (by omega)), decide_eq_true_iff]; omega
      go_wp2_with fail
      go_ret
      exact ⟨ret_bool HR.out.symm, hbel⟩

end Go.Proofs.YtfgcgnhffljiaaaGreatDoor.Fvs
