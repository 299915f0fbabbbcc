/-
  Walks: impl.firstWeights: a map by name.
-/
import Derived.Test.YtaplkbkpgdpbaaaDoorBst
import Derived.Maps.OwnSet
namespace Go.Proofs.YtaplkbkpgdpbaaaDoor.Bst
open Go.RowKit Go.Maps Go.WideMaps
open Go.Proofs.YtaplkbkpgdpbaaaDoor.Fbs
open Go.Proofs.YtaplkbkpgdpbaaaDoor.Och
open Go.Proofs.YtaplkbkpgdpbaaaDoor.Mrc

theorem skey : Keyed Tryd.prog 9 := string_keyed Tryd.underlying9
theorem zeroI (w : World) : (zeroValue 3).run Tryd.prog w = .ok (.int .i64 0) w := by kernel_rfl
def kl (x : ByteArray) : Lit := .string x.data.toList
theorem kl_ne {x y : ByteArray} (h : x ≠ y) : kl x ≠ kl y := by
  intro e
  apply h
  have : x.data.toList = y.data.toList := Lit.string.inj e
  exact ByteArray.ext (Array.toList_inj.1 this)

/-- Whether a choice of some has a name. -/
def hasN (x : ByteArray) (l : List (ByteArray × Int)) : Bool := l.any fun c => decide (c.1 = x)
/-- The map holds the weight of the first choice of each name. -/
def MD (D : DataW Unit) (l : List (ByteArray × Int)) : Prop := IsMap D ∧ ∀ x : ByteArray, D.atKey (kl x) (.lit (.int .i64 0)) = .lit (.int .i64 (wAt x 0 l)) ∧ has D (kl x) = hasN x l
theorem wAt_not {x : ByteArray} {d : Int} : ∀ {l : List (ByteArray × Int)}, hasN x l = false → wAt x d l = d
  | [], _ => rfl
  | c :: r, h => by
    unfold hasN at h
    rw [List.any_cons, Bool.or_eq_false_iff] at h
    have := of_decide_eq_false h.1
    rw [wAt, if_neg this]
    exact wAt_not h.2
theorem wAt_has {x : ByteArray} {d d' : Int} : ∀ {l : List (ByteArray × Int)}, hasN x l = true → wAt x d l = wAt x d' l
  | [], h => by cases h
  | c :: r, h => by
    unfold hasN at h
    rw [List.any_cons, Bool.or_eq_true] at h
    rw [wAt, wAt]
    by_cases hc : c.1 = x
    · rw [if_pos hc, if_pos hc]
    · rw [if_neg hc, if_neg hc]
      rcases h with h | h
      · exact absurd (of_decide_eq_true h) hc
      · exact wAt_has h
theorem hasN_snoc (x : ByteArray) (l : List (ByteArray × Int)) (c : ByteArray × Int) : hasN x (l ++ [c]) = (hasN x l || decide (c.1 = x)) := by simp [hasN]
theorem MD.old {D : DataW Unit} {l : List (ByteArray × Int)} {c : ByteArray × Int} (h : MD D l) (hc : hasN c.1 l = true) : MD D (l ++ [c]) := by
  refine ⟨h.1, fun x => ?_⟩
  obtain ⟨h1, h2⟩ := h.2 x
  rw [wAt_snoc, hasN_snoc, h1, h2]
  by_cases e : c.1 = x
  · subst e
    rw [if_pos rfl, hc]
    refine ⟨?_, by simp⟩
    rw [wAt_has (d := 0) (d' := c.2) hc]
  · rw [if_neg e, decide_eq_false e]
    exact ⟨rfl, by simp⟩
theorem MD.new {D : DataW Unit} {l : List (ByteArray × Int)} {c : ByteArray × Int} (h : MD D l) (hk : WideAt.IsKeyLit (kl c.1)) (hc : hasN c.1 l = false) : MD (D.put (kl c.1) (.lit (.int .i64 c.2))) (l ++ [c]) := by
  refine ⟨h.1.put _ _, fun x => ?_⟩
  obtain ⟨h1, h2⟩ := h.2 x
  rw [wAt_snoc, hasN_snoc]
  by_cases e : c.1 = x
  · subst e
    rw [if_pos rfl, atKey_put_same h.1 hk, has_put_same h.1 hk, wAt_not hc]
    exact ⟨rfl, by simp⟩
  · rw [if_neg e, decide_eq_false e, atKey_put_other (kl_ne (fun h => e h.symm)), has_put_other (kl_ne (fun h => e h.symm)), h1, h2]
    exact ⟨rfl, by simp⟩
theorem MD.made : MD (.map []) [] := ⟨isMap_empty, fun _ => ⟨rfl, rfl⟩⟩

set_option maxHeartbeats 1600000 in
theorem firstWeights_any (a : Option Addr) (ca : Nat) (l : List (ByteArray × Int)) (w : World) (lo hi : Nat) (hl : l.length ≤ 1000) (hg : ∀ c ∈ l, c.1.size ≤ maxLen ∧ (Lit.int .i64 c.2).wf = true) (ha : CV w a l lo hi) :
    Calls Tryd.prog 65 #[.slice a l.length ca] w fun e w' => ∃ (b : Nat) (D : DataW Unit), e = .returned (.map (some b)) ∧ w.heap.size ≤ b ∧ w'.ownsMap Tryd.prog 9 (plainElem Tryd.prog 3) b l.length D ∧ MD D l ∧ Below w.heap.size w w' := by
  have hmm := @run_makeMap Tryd.prog
  by_cases h0 : l = []
  · subst h0
    go_enter Tryd.func65, Tryd.ntmps65
    go_wp2_with fail
    go_loop [11] (fun i => i = .int .i64 0) (fun _ => 0)
    case atStart => rfl
    case round =>
      obtain rfl := hrel
      go_wp2_with fail
      go_ret
      exact ⟨w.heap.size, rfl, Nat.le_refl _, DataW.map [], World.ownsMap_made _ _ _ _, MD.made, (Below.refl _ _).alloc (Nat.le_refl _) _⟩
  rcases ha with ha | ⟨g, rfl, _, _, ga⟩
  · exact absurd ha h0
  have GA : Hid (RowC w g l) := ga
  clear ga
  go_enter Tryd.func65, Tryd.ntmps65
  go_wp2_with fail
  go_loopw [11] (fun i wr => ∃ (k : Nat) (D : DataW Unit), i = .int .i64 k ∧ k ≤ l.length ∧ wr.ownsMap Tryd.prog 9 (plainElem Tryd.prog 3) w.heap.size k D ∧ Hid (MD D (l.take k)) ∧ Below w.heap.size w wr) (fun i _ => l.length - (intOf i).toNat)
  case atStart => exact ⟨0, .map [], rfl, Nat.zero_le _, World.ownsMap_made _ _ _ _, MD.made, (Below.refl _ _).alloc (Nat.le_refl _) _⟩
  case round =>
    obtain ⟨k, D, rfl, hk, hown, HD, hbel⟩ := hrel
    by_cases hlt : k < l.length
    · obtain ⟨k1, k2⟩ := (GA.out.below hbel).2.2 k l[k] (List.getElem?_eq_getElem hlt)
      obtain ⟨hsz, hwf⟩ := hg l[k] (List.getElem_mem hlt)
      have htk : l.take (k + 1) = l.take k ++ [l[k]] := List.take_succ_eq_append_getElem hlt
      have hD := HD.out
      have hh := (hD.2 l[k].1).2
      generalize l[k] = c at *
      obtain ⟨X, z⟩ := c
      dsimp only at k1 k2 hsz hwf hh
      have hown1 := hown.alloc (.cells #[.string X, .int .i64 z] 48)
      have hbel1 := hbel.alloc hbel.size (.cells #[.string X, .int .i64 z] 48)
      have hkey : keyOf Tryd.prog 9 (.string X) = some (kl X) := keyOf_string_mk Tryd.underlying9 hsz
      have hval : plainElem (H := Unit) Tryd.prog 3 (.int .i64 z) = some (.lit (.int .i64 z), []) := plainElem_int Tryd.underlying3 hwf
      obtain ⟨v, ps, hrun, hv⟩ := hown1.look_ok skey Tryd.underlying74 (zeroI _) (plainElem_int Tryd.underlying3 (by decide)) hkey
      obtain ⟨cc, rfl, _, _⟩ := plainElem_int_inv Tryd.underlying3 hv
      rw [hh] at hrun
      clear hv hD hown
      cases hb : hasN X (l.take k)
      · rw [hb] at hrun
        have HD' : Hid (MD (D.put (kl X) (.lit (.int .i64 z))) (l.take (k + 1))) := by
          show MD _ _; rw [htk]; exact HD.out.new (c := (X, z)) trivial hb
        obtain ⟨w2, hrun2, hown2, hgrow⟩ := hown1.update skey Tryd.underlying74 (by unfold maxLen; omega) hkey hval
        have hbel2 := hbel1.grown hgrow hbel1.size (fun j hj => by cases hj; exact Nat.le_refl _)
        clear hb hh htk HD hown1 hgrow hbel1 hkey hval
        go_wp2_with fail
        go_roundw
        case rel => exact ⟨k + 1, _, by go_num, by omega, hown2, HD', hbel2⟩
        case measure => simp [intOf]; omega
      · rw [hb] at hrun
        have HD' : Hid (MD D (l.take (k + 1))) := by
          show MD _ _; rw [htk]; exact HD.out.old (c := (X, z)) hb
        clear hb hh htk HD hkey hval
        go_wp2_with fail
        go_roundw
        case rel => exact ⟨k + 1, _, by go_num, by omega, hown1.mono (Nat.le_succ _), HD', hbel1⟩
        case measure => simp [intOf]; omega
    · obtain rfl : k = l.length := by omega
      have hD := HD.out
      rw [List.take_length] at hD
      go_wp2_with fail
      go_ret
      exact ⟨_, _, rfl, Nat.le_refl _, hown, hD, hbel⟩

end Go.Proofs.YtaplkbkpgdpbaaaDoor.Bst
