/-
  Walks: impl.firstPlaces: a map by name in small letters: where the first field of a name stands.
-/
import Derived.Test.YtfgcgnhffljiaaaGreatDoorFvs
import Derived.Test.YtfgcgnhffljiaaaGreatDoorKls
namespace Go.Proofs.YtfgcgnhffljiaaaGreatDoor.Fpl
open Go.RowKit Go.Maps Go.WideMaps
open Go.Proofs.YtfgcgnhffljiaaaGreatDoor.Fbs
open Go.Proofs.YtfgcgnhffljiaaaGreatDoor.Fdb
open Go.Proofs.YtfgcgnhffljiaaaGreatDoor.Fvs
open Go.Proofs.YtfgcgnhffljiaaaGreatDoor.Lof (lowB lowS specLow_any implLow_any lowS_size)
open Go.Proofs.YtfgcgnhffljiaaaGreatDoor.Kls (skey zeroI kl kl_ne)

/-- Whether a field of some has a name in small letters, and where the first one stands. -/
def hasL (x : ByteArray) (l : List (ByteArray × ByteArray)) : Bool := l.any fun c => decide (lowS c.1 = x)
def idxL (x : ByteArray) (l : List (ByteArray × ByteArray)) : Nat := l.findIdx fun c => decide (lowS c.1 = x)
def posL (x : ByteArray) (l : List (ByteArray × ByteArray)) : Int := if hasL x l = true then (idxL x l : Int) else 0
theorem has_idx {x : ByteArray} {l : List (ByteArray × ByteArray)} (h : hasL x l = true) : idxL x l < l.length := by
  unfold hasL at h
  unfold idxL
  rw [List.any_eq_true] at h
  exact List.findIdx_lt_length_of_exists h
theorem idx_low {x : ByteArray} {l : List (ByteArray × ByteArray)} (h : idxL x l < l.length) : lowS l[idxL x l].1 = x := by
  have := List.findIdx_getElem (p := fun c : ByteArray × ByteArray => decide (lowS c.1 = x)) (xs := l) (w := h)
  exact of_decide_eq_true this
theorem idx_not {x : ByteArray} {l : List (ByteArray × ByteArray)} {j : Nat} (h : j < idxL x l) (hj : j < l.length) : lowS l[j].1 ≠ x := by
  have := List.not_of_lt_findIdx (p := fun c : ByteArray × ByteArray => decide (lowS c.1 = x)) (xs := l) h
  simpa using this
theorem not_idx {x : ByteArray} {l : List (ByteArray × ByteArray)} (h : hasL x l = false) : idxL x l = l.length := by
  unfold hasL at h
  unfold idxL
  rw [List.findIdx_eq_length]
  rw [List.any_eq_false] at h
  intro c hc
  simpa using h c hc
theorem hasL_snoc (x : ByteArray) (l : List (ByteArray × ByteArray)) (c : ByteArray × ByteArray) : hasL x (l ++ [c]) = (hasL x l || decide (lowS c.1 = x)) := by simp [hasL]
theorem idxL_snoc (x : ByteArray) (l : List (ByteArray × ByteArray)) (c : ByteArray × ByteArray) : idxL x (l ++ [c]) = if idxL x l < l.length then idxL x l else (if lowS c.1 = x then 0 else 1) + l.length := by
  unfold idxL
  rw [List.findIdx_append]
  congr 1
  rw [List.findIdx_cons]
  by_cases h : lowS c.1 = x <;> simp [h]
theorem posL_old {x : ByteArray} {l : List (ByteArray × ByteArray)} {c : ByteArray × ByteArray} (h : hasL x l = true) : posL x (l ++ [c]) = posL x l := by
  unfold posL
  rw [hasL_snoc, h, Bool.true_or, idxL_snoc, if_pos (has_idx h)]
theorem posL_new {x : ByteArray} {l : List (ByteArray × ByteArray)} {c : ByteArray × ByteArray} (h : hasL x l = false) : posL x (l ++ [c]) = if lowS c.1 = x then (l.length : Int) else 0 := by
  unfold posL
  rw [hasL_snoc, h, Bool.false_or, idxL_snoc, not_idx h, if_neg (Nat.lt_irrefl _)]
  by_cases hc : lowS c.1 = x
  · rw [if_pos hc, decide_eq_true hc, if_pos rfl, if_pos hc]; omega
  · rw [if_neg hc, decide_eq_false hc, if_neg Bool.false_ne_true, if_neg hc]
theorem posL_not {x : ByteArray} {l : List (ByteArray × ByteArray)} (h : hasL x l = false) : posL x l = 0 := by unfold posL; rw [h]; rfl

/-- The map holds where the first field of each name stands. -/
def MP (D : DataW Unit) (l : List (ByteArray × ByteArray)) : Prop := IsMap D ∧ ∀ x : ByteArray, D.atKey (kl x) (.lit (.int .i64 0)) = .lit (.int .i64 (posL x l)) ∧ has D (kl x) = hasL x l
theorem MP.old {D : DataW Unit} {l : List (ByteArray × ByteArray)} {c : ByteArray × ByteArray} (h : MP D l) (hc : hasL (lowS c.1) l = true) : MP D (l ++ [c]) := by
  refine ⟨h.1, fun x => ?_⟩
  obtain ⟨h1, h2⟩ := h.2 x
  rw [hasL_snoc, h1, h2]
  by_cases e : lowS c.1 = x
  · subst e
    rw [posL_old hc, hc]
    exact ⟨rfl, by simp⟩
  · rw [decide_eq_false e, Bool.or_false]
    refine ⟨?_, rfl⟩
    cases hx : hasL x l
    · rw [posL_new hx, if_neg e, posL_not hx]
    · rw [posL_old hx]
theorem MP.new {D : DataW Unit} {l : List (ByteArray × ByteArray)} {c : ByteArray × ByteArray} (h : MP D l) (hk : WideAt.IsKeyLit (kl (lowS c.1))) (hc : hasL (lowS c.1) l = false) : MP (D.put (kl (lowS c.1)) (.lit (.int .i64 l.length))) (l ++ [c]) := by
  refine ⟨h.1.put _ _, fun x => ?_⟩
  obtain ⟨h1, h2⟩ := h.2 x
  rw [hasL_snoc]
  by_cases e : lowS c.1 = x
  · subst e
    rw [posL_new hc, if_pos rfl, atKey_put_same h.1 hk, has_put_same h.1 hk]
    exact ⟨rfl, by simp⟩
  · rw [decide_eq_false e, atKey_put_other (kl_ne (fun h => e h.symm)), has_put_other (kl_ne (fun h => e h.symm)), h1, h2, Bool.or_false]
    refine ⟨?_, rfl⟩
    cases hx : hasL x l
    · rw [posL_new hx, if_neg e, posL_not hx]
    · rw [posL_old hx]
theorem MP.made : MP (.map []) [] := ⟨isMap_empty, fun _ => ⟨rfl, rfl⟩⟩

set_option maxHeartbeats 1600000 in
theorem firstPlaces_any (a : Option Addr) (ca : Nat) (l : List (ByteArray × ByteArray)) (w : World) (lo hi : Nat) (hl : l.length ≤ 1000) (hz : SzF l) (ha : FV w a l lo hi) :
    Calls Tryz.prog 113 #[.slice a l.length ca] w fun e w' => ∃ (b : Nat) (D : DataW Unit), e = .returned (.map (some b)) ∧ w.heap.size ≤ b ∧ w'.ownsMap Tryz.prog 9 (plainElem Tryz.prog 3) b l.length D ∧ MP D l ∧ Below w.heap.size w w' := by
  have hmm := @run_makeMap Tryz.prog
  by_cases h0 : l = []
  · subst h0
    go_enter Tryz.func113, Tryz.ntmps113
    go_wp2_with fail
    go_loop [12] (fun i => i = .int .i64 0) (fun _ => 0)
    case atStart => rfl
    case round =>
      obtain rfl := hrel
      go_wp2_with fail
      go_ret
      exact ⟨w.heap.size, rfl, Nat.le_refl _, DataW.map [], World.ownsMap_made _ _ _ _, MP.made, (Below.refl _ _).alloc (Nat.le_refl _) _⟩
  rcases ha with ha | ⟨g, rfl, _, _, ga⟩
  · exact absurd ha h0
  have GA : Hid (RowF w g l) := ga
  clear ga
  go_enter Tryz.func113, Tryz.ntmps113
  go_wp2_with fail
  go_loopw [12] (fun i wr => ∃ (k : Nat) (D : DataW Unit), i = .int .i64 k ∧ k ≤ l.length ∧ wr.ownsMap Tryz.prog 9 (plainElem Tryz.prog 3) w.heap.size k D ∧ Hid (MP D (l.take k)) ∧ Below w.heap.size w wr ∧ w.heap.size < wr.heap.size) (fun i _ => l.length - (intOf i).toNat)
  case atStart => exact ⟨0, .map [], rfl, Nat.zero_le _, World.ownsMap_made _ _ _ _, MP.made, (Below.refl _ _).alloc (Nat.le_refl _) _, by simp⟩
  case round =>
    obtain ⟨k, D, rfl, hk, hown, HD, hbel, hsz0⟩ := hrel
    by_cases hlt : k < l.length
    · obtain ⟨k1, k2⟩ := (GA.out.below hbel).2.2 k l[k] (List.getElem?_eq_getElem hlt)
      obtain ⟨hs1, hs2⟩ := hz l[k] (List.getElem_mem hlt)
      have htk : l.take (k + 1) = l.take k ++ [l[k]] := List.take_succ_eq_append_getElem hlt
      have hlen : (l.take k).length = k := by rw [List.length_take]; omega
      have hD := HD.out
      have hh := (hD.2 (lowS l[k].1)).2
      generalize l[k] = c at *
      obtain ⟨X, Y⟩ := c
      dsimp only at k1 k2 hs1 hs2 hh
      have hown1 := hown.alloc (.cells #[.string X, .string Y] 108)
      have hbel1 := hbel.alloc hbel.size (.cells #[.string X, .string Y] 108)
      have HLow : Hid _ := fun w => implLow_any X w hs1
      have hksz : (lowS X).size ≤ maxLen := by rw [lowS_size]; unfold maxLen; omega
      have hkey : keyOf Tryz.prog 9 (.string (lowS X)) = some (kl (lowS X)) := keyOf_string_mk Tryz.underlying9 hksz
      have hval : plainElem (H := Unit) Tryz.prog 3 (.int .i64 (k : Int)) = some (.lit (.int .i64 (k : Int)), []) := plainElem_int Tryz.underlying3 (by simp [Lit.wf, IntKind.min, IntKind.max, IntKind.bits, IntKind.signed]; omega)
      go_wp2_with fail
      refine (HLow.out _).mono ?_
      rintro e w2 ⟨rfl, hb2⟩
      have hown2 := hown1.kept (Mrk.grown_of none hb2) (by simp)
      have hbel2 := hbel1.trans (hb2.mono hbel1.size)
      obtain ⟨v, ps, hrun, hv⟩ := hown2.look_ok skey Tryz.underlying142 (zeroI _) (plainElem_int Tryz.underlying3 (by decide)) hkey
      obtain ⟨cc, rfl, _, _⟩ := plainElem_int_inv Tryz.underlying3 hv
      rw [hh] at hrun
      clear hv hD hown hown1
      cases hb : hasL (lowS X) (l.take k)
      · rw [hb] at hrun
        have HD' : Hid (MP (D.put (kl (lowS X)) (.lit (.int .i64 (k : Int)))) (l.take (k + 1))) := by
          have := HD.out.new (c := (X, Y)) trivial hb
          rw [hlen] at this
          show MP _ _; rw [htk]; exact this
        obtain ⟨w3, hrun2, hown3, hgrow⟩ := hown2.update skey Tryz.underlying142 (by unfold maxLen; omega) hkey hval
        have hbel3 := hbel2.grown hgrow hbel2.size (fun j hj => by cases hj; exact Nat.le_refl _)
        have hsz3 : w.heap.size < w3.heap.size := by have := hgrow.size; have := hb2.size; simp at this; omega
        clear hb hh htk HD hgrow hbel1 hkey hval
        go_wp2_with fail
        go_roundw
        case rel => exact ⟨k + 1, _, by go_num, by omega, hown3, HD', hbel3, hsz3⟩
        case measure => simp [intOf]; omega
      · rw [hb] at hrun
        have HD' : Hid (MP D (l.take (k + 1))) := by
          show MP _ _; rw [htk]; exact HD.out.old (c := (X, Y)) hb
        have hsz2 : w.heap.size < w2.heap.size := by have := hb2.size; simp at this; omega
        clear hb hh htk HD hkey hval
        go_wp2_with fail
        go_roundw
        case rel => exact ⟨k + 1, _, by go_num, by omega, hown2.mono (Nat.le_succ _), HD', hbel2, hsz2⟩
        case measure => simp [intOf]; omega
    · obtain rfl : k = l.length := by omega
      have hD := HD.out
      rw [List.take_length] at hD
      go_wp2_with fail
      go_ret
      exact ⟨_, _, rfl, Nat.le_refl _, hown, hD, hbel⟩

end Go.Proofs.YtfgcgnhffljiaaaGreatDoor.Fpl
