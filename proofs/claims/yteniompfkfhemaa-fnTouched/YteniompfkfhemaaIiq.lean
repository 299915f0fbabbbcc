/-
  Walks: WorkingSet of impl and of spec.
-/
import Derived.Test.YteniompfkfhemaaIik
namespace Go.Proofs.Yteniompfkfhemaa.Iia
open Go.RowKit

def wkB (l : List Int) (N : Int) : Bool := refsB l && btB 1 N 200
def wkL (l : List Int) (N : Int) : List Int := if wkB l N = true then wsL l N.toNat else []
theorem wk_no {l : List Int} {N : Int} (h : wkB l N = false) : wkL l N = [] := by unfold wkL; rw [h]; rfl
theorem wk_yes {l : List Int} {N : Int} (h : wkB l N = true) : wkL l N = wsL l N.toNat := by unfold wkL; rw [h]; rfl
theorem bt_iff {lo n hi : Int} : btB lo n hi = true ↔ lo ≤ n ∧ n ≤ hi := by simp [btB]

set_option maxRecDepth 20000 in
set_option maxHeartbeats 1000000 in
theorem implWork_any (a : Option Addr) (ca : Nat) (l : List Int) (N : Int) (w : World) (lo hi : Nat) (hl : l.length ≤ 1048576) (hca : l.length ≤ ca) (ha : IL w a l lo hi) :
    Calls Try.prog 29 #[.slice a l.length ca, .int .i64 N] w fun e w' => (∃ r, e = .returned (.tuple #[r, .bool (wkB l N)]) ∧ intsIn w' w.heap.size r (wkL l N)) ∧ Below w.heap.size w w' := by
  have HA : Hid (IL w a l lo hi) := ha
  have HG : Hid _ := goodI_any a ca l w lo hi (by omega) ha
  have HZ : Hid (∀ w, Calls Try.prog 59 #[.int .i64 1, .int .i64 N, .int .i64 200] w fun e w' => e = .returned (.bool (btB 1 N 200)) ∧ w' = w) := fun w => isBetween_any 1 N 200 w
  clear ha
  cases hg : refsB l
  · have hB : wkB l N = false := by unfold wkB; rw [hg]; rfl
    rw [hB, wk_no hB]
    rw [hg] at HG
    clear hg hB
    go_enter Try.func29, Try.ntmps29
    go_wp2_with (go_at_call 24; refine Calls.mono HG.out ?_; rintro e w' ⟨rfl, hw⟩; obtain rfl := hw.symm)
    go_ret2
    exact ⟨⟨_, rfl, intsIn.nil _ _⟩, Below.refl _ _⟩
  cases hz : btB 1 N 200
  · have hB : wkB l N = false := by unfold wkB; rw [hg, hz]; rfl
    rw [hB, wk_no hB]
    rw [hg] at HG
    rw [hz] at HZ
    clear hg hB hz
    go_enter Try.func29, Try.ntmps29
    go_wp2_with (first
      | (go_at_call 24; refine Calls.mono HG.out ?_; rintro e w' ⟨rfl, hw⟩; obtain rfl := hw.symm)
      | (go_at_call 59; refine Calls.mono (HZ.out _) ?_; rintro e w' ⟨rfl, hw⟩; obtain rfl := hw.symm))
    go_ret2
    exact ⟨⟨_, rfl, intsIn.nil _ _⟩, Below.refl _ _⟩
  have hB : wkB l N = true := by unfold wkB; rw [hg, hz]; rfl
  rw [hB, wk_yes hB]
  obtain ⟨z0, z1⟩ := bt_iff.1 hz
  obtain ⟨n, hn⟩ := Int.eq_ofNat_of_zero_le (show 0 ≤ N by omega)
  subst hn
  have hn1 : 1 ≤ n := by omega
  have hn2 : n ≤ 200 := by omega
  rw [Int.toNat_natCast]
  obtain ⟨_, hpg⟩ := refs_parts hg
  rw [hg] at HG
  rw [hz] at HZ
  have HU : Hid (∀ (ad : Addr) q i (wx : World), a = some ad → q < i → i ≤ l.length → Below w.heap.size w wx → Calls Try.prog 60 #[.slice (some (ad.add q)) (i - q) (ca - q)] wx fun e w' => e = .returned (.int .i64 (unlN ((l.take i).drop q) : Int)) ∧ Below wx.heap.size wx w') := by
    intro ad q i wx hade hq hil hb
    subst hade
    have hlen : ((l.take i).drop q).length = i - q := by rw [List.length_drop, List.length_take]; omega
    have := unlikeI_any (some (ad.add q)) (ca - q) ((l.take i).drop q) wx lo hi (by omega) (fun x hx => hpg x (List.mem_of_mem_take (List.mem_of_mem_drop hx))) (((HA.out.below hb).take i).drop q)
    rw [hlen] at this
    exact this
  have HU0 : Hid (∀ i (wx : World), i ≤ l.length → Below w.heap.size w wx → Calls Try.prog 60 #[.slice a i ca] wx fun e w' => e = .returned (.int .i64 (unlN ((l.take i).drop 0) : Int)) ∧ Below wx.heap.size wx w') := by
    intro i wx hil hb
    have hlen : (l.take i).length = i := by rw [List.length_take]; omega
    have := unlikeI_any a ca (l.take i) wx lo hi (by omega) (fun x hx => hpg x (List.mem_of_mem_take hx)) ((HA.out.below hb).take i)
    rw [hlen] at this
    exact this
  have HO0 : Hid (intsIn (w.alloc (.cells #[] 3)) w.heap.size (.slice (some ⟨w.heap.size, 0, none⟩) 0 0) ((wsL l n).take 0)) := by
    have := intsIn.made w w.heap.size (Nat.le_refl _)
    show intsIn _ _ _ _
    rw [List.take_zero]; exact this
  have HB0 : Hid (Below w.heap.size w (w.alloc (.cells #[] 3))) := (Below.refl _ _).alloc (Nat.le_refl _) _
  clear hg hB hz z0 z1 hpg
  go_enter Try.func29, Try.ntmps29
  go_wp2_with (first
    | (go_at_call 24; refine Calls.mono HG.out ?_; rintro e w' ⟨rfl, hw⟩; obtain rfl := hw.symm)
    | (go_at_call 59; refine Calls.mono (HZ.out _) ?_; rintro e w' ⟨rfl, hw⟩; obtain rfl := hw.symm))
  go_loopw [6, 19] (fun v i wr => ∃ k : Nat, k ≤ l.length ∧ i = .int .i64 k ∧ Hid (intsIn wr w.heap.size v ((wsL l n).take k)) ∧ Hid (Below w.heap.size w wr)) (fun _ i _ => l.length - (intOf i).toNat)
  case atStart => exact ⟨0, Nat.zero_le _, rfl, HO0, HB0⟩
  case round =>
    obtain ⟨k, hk, rfl, HD, HB⟩ := hrel
    by_cases hlt : k < l.length
    · obtain ⟨ad, hade, _⟩ := (HA.out.below HB.out).cell hlt
      subst hade
      have HT : Hid ((wsL l n).take (k + 1) = (wsL l n).take k ++ [(unlN ((l.take (k + 1)).drop (k + 1 - n)) : Int)]) := wsL_take l n k hlt
      have hdl : ((wsL l n).take k).length + 1 ≤ 4000000 := by rw [List.length_take, wsL_len]; omega
      have HDl : Hid _ := hdl
      obtain ⟨q, hq⟩ : ∃ q, q = k + 1 - n := ⟨_, rfl⟩
      have hul := unl_le ((l.take (k + 1)).drop q)
      rw [List.length_drop, List.length_take] at hul
      have hqk : q < k + 1 := by omega
      have HUq : Hid _ := HU.out ad q (k + 1) wr rfl hqk (by omega) HB.out
      have HU0k : Hid (q = 0 → Calls Try.prog 60 #[.slice (some ad) (k + 1) ca] wr fun e w' => e = .returned (.int .i64 (unlN ((l.take (k + 1)).drop q) : Int)) ∧ Below wr.heap.size wr w') := fun h => by rw [h]; exact HU0.out (k + 1) wr (by omega) HB.out
      rw [← hq] at HT
      generalize unlN ((l.take (k + 1)).drop q) = u at *
      by_cases hpos : n < k + 1
      · have hqe : (k : Int) + 1 - (n : Int) = (q : Int) := by omega
        have hm : max (0 : Int) (q : Int) = (q : Int) := by omega
        have hne : ¬ (ca - q = 0) := by omega
        have hne2 : ¬ (ca = q) := by omega
        have hq0 : 0 < q := by omega
        clear HU0k
        clear HU HU0 hdl hq
        go_wp2_with (first
          | (go_at_call 60; refine Calls.mono HUq.out ?_; rintro e w2 ⟨rfl, hb2⟩; have hB2 := HB.out.trans (hb2.mono HB.out.size))
          | (at_builtin; refine wpList_append_int w2 rfl _ _ rfl w.heap.size _ _ (by rfl) (HD.out.below hb2) (u : Int) _ rfl HDl.out hB2.size w.heap.size (Nat.le_refl _) w hB2 ?_))
        intro v3 w3 hd3 hb3
        have HD3 : Hid (intsIn w3 w.heap.size v3 ((wsL l n).take (k + 1))) := by show intsIn _ _ _ _; rw [HT.out]; exact hd3
        have HB3 : Hid _ := hb3
        clear hd3 hb3 hB2 hb2 HD HB HT HUq
        go_wp2_with fail
        go_roundw
        case rel => exact ⟨k + 1, by omega, by go_num, HD3, HB3⟩
        case measure => simp [intOf]; omega
      · have hq0 : q = 0 := by omega
        have HU0z : Hid _ := HU0k.out hq0
        clear HU0k
        have HU0k := HU0z
        clear HU0z
        subst hq0
        by_cases heq : n = k + 1
        · have hqe : (k : Int) + 1 - (n : Int) = 0 := by omega
          clear HUq hpos hqk heq
          clear HU HU0 hdl hq
          go_wp2_with (first
            | (go_at_call 60; refine Calls.mono HU0k.out ?_; rintro e w2 ⟨rfl, hb2⟩; have hB2 := HB.out.trans (hb2.mono HB.out.size))
            | (at_builtin; refine wpList_append_int w2 rfl _ _ rfl w.heap.size _ _ (by rfl) (HD.out.below hb2) (u : Int) _ rfl HDl.out hB2.size w.heap.size (Nat.le_refl _) w hB2 ?_))
          intro v3 w3 hd3 hb3
          have HD3 : Hid (intsIn w3 w.heap.size v3 ((wsL l n).take (k + 1))) := by show intsIn _ _ _ _; rw [HT.out]; exact hd3
          have HB3 : Hid _ := hb3
          clear hd3 hb3 hB2 hb2 HD HB HT HU0k
          go_wp2_with fail
          go_roundw
          case rel => exact ⟨k + 1, by omega, by go_num, HD3, HB3⟩
          case measure => simp [intOf]; omega
        · have hm : max (0 : Int) ((k : Int) + 1 - (n : Int)) = 0 := by omega
          have hqe : (k : Int) + 1 - (n : Int) < 0 := by omega
          clear HUq hpos hqk
          clear HU HU0 hdl hq
          go_wp2_with (first
            | (go_at_call 60; refine Calls.mono HU0k.out ?_; rintro e w2 ⟨rfl, hb2⟩; have hB2 := HB.out.trans (hb2.mono HB.out.size))
            | (at_builtin; refine wpList_append_int w2 rfl _ _ rfl w.heap.size _ _ (by rfl) (HD.out.below hb2) (u : Int) _ rfl HDl.out hB2.size w.heap.size (Nat.le_refl _) w hB2 ?_))
          intro v3 w3 hd3 hb3
          have HD3 : Hid (intsIn w3 w.heap.size v3 ((wsL l n).take (k + 1))) := by show intsIn _ _ _ _; rw [HT.out]; exact hd3
          have HB3 : Hid _ := hb3
          clear hd3 hb3 hB2 hb2 HD HB HT HU0k
          go_wp2_with fail
          go_roundw
          case rel => exact ⟨k + 1, by omega, by go_num, HD3, HB3⟩
          case measure => simp [intOf]; omega
    · obtain rfl : k = l.length := by omega
      have HE : Hid (intsIn wr w.heap.size u6 (wsL l n)) := by
        have h1 : (wsL l n).take l.length = wsL l n := List.take_of_length_le (by rw [wsL_len]; exact Nat.le_refl _)
        have h2 := HD.out
        rw [h1] at h2
        exact h2
      clear HD HU HU0
      go_wp2_with fail
      go_ret2
      exact ⟨⟨_, rfl, HE.out⟩, HB.out⟩

set_option maxRecDepth 20000 in
set_option maxHeartbeats 1000000 in
theorem specWork_any (a : Option Addr) (ca : Nat) (l : List Int) (N : Int) (w : World) (lo hi : Nat) (hl : l.length ≤ 1048576) (hca : l.length ≤ ca) (ha : IL w a l lo hi) :
    Calls Try.prog 30 #[.slice a l.length ca, .int .i64 N] w fun e w' => (∃ r, e = .returned (.tuple #[r, .bool (wkB l N)]) ∧ intsIn w' w.heap.size r (wkL l N)) ∧ Below w.heap.size w w' := by
  have HA : Hid (IL w a l lo hi) := ha
  have HG : Hid _ := goodS_any a ca l w lo hi (by omega) ha
  have HZ : Hid (∀ w, Calls Try.prog 42 #[.int .i64 N, .int .i64 1, .int .i64 200] w fun e w' => e = .returned (.bool (btB 1 N 200)) ∧ w' = w) := fun w => l1In_any N 1 200 w
  clear ha
  cases hg : refsB l
  · have hB : wkB l N = false := by unfold wkB; rw [hg]; rfl
    rw [hB, wk_no hB]
    rw [hg] at HG
    clear hg hB
    go_enter Try.func30, Try.ntmps30
    go_wp2_with (go_at_call 31; refine Calls.mono HG.out ?_; rintro e w' ⟨rfl, hw⟩; obtain rfl := hw.symm)
    go_ret2
    exact ⟨⟨_, rfl, intsIn.nil _ _⟩, Below.refl _ _⟩
  cases hz : btB 1 N 200
  · have hB : wkB l N = false := by unfold wkB; rw [hg, hz]; rfl
    rw [hB, wk_no hB]
    rw [hg] at HG
    rw [hz] at HZ
    clear hg hB hz
    go_enter Try.func30, Try.ntmps30
    go_wp2_with (first
      | (go_at_call 31; refine Calls.mono HG.out ?_; rintro e w' ⟨rfl, hw⟩; obtain rfl := hw.symm)
      | (go_at_call 42; refine Calls.mono (HZ.out _) ?_; rintro e w' ⟨rfl, hw⟩; obtain rfl := hw.symm))
    go_ret2
    exact ⟨⟨_, rfl, intsIn.nil _ _⟩, Below.refl _ _⟩
  have hB : wkB l N = true := by unfold wkB; rw [hg, hz]; rfl
  rw [hB, wk_yes hB]
  obtain ⟨z0, z1⟩ := bt_iff.1 hz
  obtain ⟨n, hn⟩ := Int.eq_ofNat_of_zero_le (show 0 ≤ N by omega)
  subst hn
  have hn1 : 1 ≤ n := by omega
  have hn2 : n ≤ 200 := by omega
  rw [Int.toNat_natCast]
  rw [hg] at HG
  rw [hz] at HZ
  have HU : Hid (∀ (ad : Addr) q i (wx : World), a = some ad → q < i → i ≤ l.length → Below w.heap.size w wx → Calls Try.prog 48 #[.slice (some (ad.add q)) (i - q) (ca - q)] wx fun e w' => e = .returned (.int .i64 (unlN ((l.take i).drop q) : Int)) ∧ w' = wx) := by
    intro ad q i wx hade hq hil hb
    subst hade
    have hlen : ((l.take i).drop q).length = i - q := by rw [List.length_drop, List.length_take]; omega
    have := unlikeS_any (some (ad.add q)) (ca - q) ((l.take i).drop q) wx lo hi (by omega) (by omega) (((HA.out.below hb).take i).drop q)
    rw [hlen] at this
    exact this
  have HU0 : Hid (∀ i (wx : World), i ≤ l.length → Below w.heap.size w wx → Calls Try.prog 48 #[.slice a i ca] wx fun e w' => e = .returned (.int .i64 (unlN ((l.take i).drop 0) : Int)) ∧ w' = wx) := by
    intro i wx hil hb
    have hlen : (l.take i).length = i := by rw [List.length_take]; omega
    have := unlikeS_any a ca (l.take i) wx lo hi (by omega) (by omega) ((HA.out.below hb).take i)
    rw [hlen] at this
    exact this
  clear hg hB hz z0 z1
  go_enter Try.func30, Try.ntmps30
  go_wp2_with (first
    | (go_at_call 31; refine Calls.mono HG.out ?_; rintro e w' ⟨rfl, hw⟩; obtain rfl := hw.symm)
    | (go_at_call 42; refine Calls.mono (HZ.out _) ?_; rintro e w' ⟨rfl, hw⟩; obtain rfl := hw.symm))
  go_loopw [6, 19] (fun v i wr => ∃ k : Nat, k ≤ l.length ∧ i = .int .i64 k ∧ Hid (intsIn wr w.heap.size v ((wsL l n).take k)) ∧ Hid (Below w.heap.size w wr)) (fun _ i _ => l.length - (intOf i).toNat)
  case atStart => exact ⟨0, Nat.zero_le _, rfl, by rw [List.take_zero]; exact intsIn.nil _ _, Below.refl _ _⟩
  case round =>
    obtain ⟨k, hk, rfl, HD, HB⟩ := hrel
    by_cases hlt : k < l.length
    · obtain ⟨ad, hade, _⟩ := (HA.out.below HB.out).cell hlt
      subst hade
      have HT : Hid ((wsL l n).take (k + 1) = (wsL l n).take k ++ [(unlN ((l.take (k + 1)).drop (k + 1 - n)) : Int)]) := wsL_take l n k hlt
      have hdl : ((wsL l n).take k).length + 1 ≤ 4000000 := by rw [List.length_take, wsL_len]; omega
      have HDl : Hid _ := hdl
      obtain ⟨q, hq⟩ : ∃ q, q = k + 1 - n := ⟨_, rfl⟩
      have hul := unl_le ((l.take (k + 1)).drop q)
      rw [List.length_drop, List.length_take] at hul
      have hqk : q < k + 1 := by omega
      have HUq : Hid _ := HU.out ad q (k + 1) wr rfl hqk (by omega) HB.out
      have HU0k : Hid (q = 0 → Calls Try.prog 48 #[.slice (some ad) (k + 1) ca] wr fun e w' => e = .returned (.int .i64 (unlN ((l.take (k + 1)).drop q) : Int)) ∧ w' = wr) := fun h => by rw [h]; exact HU0.out (k + 1) wr (by omega) HB.out
      rw [← hq] at HT
      generalize unlN ((l.take (k + 1)).drop q) = u at *
      by_cases hpos : n < k + 1
      · have hqe : (k : Int) + 1 - (n : Int) = (q : Int) := by omega
        have hne : ¬ (ca - q = 0) := by omega
        have hne2 : ¬ (ca = q) := by omega
        have hq0 : 0 < q := by omega
        have hqn : ¬ ((q : Int) < 0) := by omega
        clear HU0k HU HU0 hdl hq
        go_wp2_with (first
          | (go_at_call 48; refine Calls.mono HUq.out ?_; rintro e w' ⟨rfl, hw⟩; obtain rfl := hw.symm)
          | (at_builtin; refine wpList_append_int wr rfl _ _ rfl w.heap.size _ _ (by rfl) HD.out (u : Int) _ rfl HDl.out HB.out.size w.heap.size (Nat.le_refl _) w HB.out ?_))
        intro v3 w3 hd3 hb3
        have HD3 : Hid (intsIn w3 w.heap.size v3 ((wsL l n).take (k + 1))) := by show intsIn _ _ _ _; rw [HT.out]; exact hd3
        have HB3 : Hid _ := hb3
        clear hd3 hb3 HD HB HT HUq
        go_wp2_with fail
        go_roundw
        case rel => exact ⟨k + 1, by omega, by go_num, HD3, HB3⟩
        case measure => simp [intOf]; omega
      · have hq0 : q = 0 := by omega
        have HU0z : Hid _ := HU0k.out hq0
        clear HU0k
        subst hq0
        by_cases heq : n = k + 1
        · have hqe : (k : Int) + 1 - (n : Int) = 0 := by omega
          clear HUq hpos hqk heq HU HU0 hdl hq
          go_wp2_with (first
            | (go_at_call 48; refine Calls.mono HU0z.out ?_; rintro e w' ⟨rfl, hw⟩; obtain rfl := hw.symm)
            | (at_builtin; refine wpList_append_int wr rfl _ _ rfl w.heap.size _ _ (by rfl) HD.out (u : Int) _ rfl HDl.out HB.out.size w.heap.size (Nat.le_refl _) w HB.out ?_))
          intro v3 w3 hd3 hb3
          have HD3 : Hid (intsIn w3 w.heap.size v3 ((wsL l n).take (k + 1))) := by show intsIn _ _ _ _; rw [HT.out]; exact hd3
          have HB3 : Hid _ := hb3
          clear hd3 hb3 HD HB HT HU0z
          go_wp2_with fail
          go_roundw
          case rel => exact ⟨k + 1, by omega, by go_num, HD3, HB3⟩
          case measure => simp [intOf]; omega
        · have hqe : (k : Int) + 1 - (n : Int) < 0 := by omega
          clear HUq hpos hqk HU HU0 hdl hq
          go_wp2_with (first
            | (go_at_call 48; refine Calls.mono HU0z.out ?_; rintro e w' ⟨rfl, hw⟩; obtain rfl := hw.symm)
            | (at_builtin; refine wpList_append_int wr rfl _ _ rfl w.heap.size _ _ (by rfl) HD.out (u : Int) _ rfl HDl.out HB.out.size w.heap.size (Nat.le_refl _) w HB.out ?_))
          intro v3 w3 hd3 hb3
          have HD3 : Hid (intsIn w3 w.heap.size v3 ((wsL l n).take (k + 1))) := by show intsIn _ _ _ _; rw [HT.out]; exact hd3
          have HB3 : Hid _ := hb3
          clear hd3 hb3 HD HB HT HU0z
          go_wp2_with fail
          go_roundw
          case rel => exact ⟨k + 1, by omega, by go_num, HD3, HB3⟩
          case measure => simp [intOf]; omega
    · obtain rfl : k = l.length := by omega
      have HE : Hid (intsIn wr w.heap.size u6 (wsL l n)) := by
        have h1 : (wsL l n).take l.length = wsL l n := List.take_of_length_le (by rw [wsL_len]; exact Nat.le_refl _)
        have h2 := HD.out
        rw [h1] at h2
        exact h2
      clear HD HU HU0
      go_wp2_with fail
      go_ret2
      exact ⟨⟨_, rfl, HE.out⟩, HB.out⟩

end Go.Proofs.Yteniompfkfhemaa.Iia
