/-
  Walks: impl.playPages, PlayLru, PlayFifo, StackAfter.
-/
import Derived.Test.YteniompfkfhemaaIii
namespace Go.Proofs.Yteniompfkfhemaa.Iia
open Go.RowKit

def plB (l : List Int) (N : Int) : Bool := refsB l && szB N
def plL (mv : Bool) (l : List Int) (N : Int) : List Int := if plB l N = true then (runM mv N.toNat l).1 else []
def plH (mv : Bool) (l : List Int) (N : Int) : Int := if plB l N = true then ((runM mv N.toNat l).2 : Int) else 0
theorem pl_no {mv : Bool} {l : List Int} {N : Int} (h : plB l N = false) : plL mv l N = [] ∧ plH mv l N = 0 := by unfold plL plH; rw [h]; exact ⟨rfl, rfl⟩
theorem pl_yes {mv : Bool} {l : List Int} {N : Int} (h : plB l N = true) : plL mv l N = (runM mv N.toNat l).1 ∧ plH mv l N = ((runM mv N.toNat l).2 : Int) := by unfold plL plH; rw [h]; exact ⟨rfl, rfl⟩
theorem pile_cells {w : World} {b B : Nat} {l : List Int} {n : Nat} (h : PileAt w b B l n) : ∃ g cap, w.cell? ⟨b, 0, none⟩ = some (.slice (some ⟨g, 0, none⟩) l.length cap) ∧ w.cell? ⟨b, 1, none⟩ = some (.int .i64 n) ∧ IL w (some ⟨g, 0, none⟩) l B w.heap.size ∧ intsIn w B (.slice (some ⟨g, 0, none⟩) l.length cap) l := by
  obtain ⟨g, cap, h1, _, h3⟩ := h
  refine ⟨g, cap, by rw [World.cell?, h1]; rfl, by rw [World.cell?, h1]; rfl, ?_, h3⟩
  obtain ⟨a, c, e, hh⟩ := iw_of h3
  injection e with e1 _ _
  rw [e1]
  exact hh.il
theorem pile_new {w : World} {B g cap n : Nat} {l : List Int} (h : intsIn w B (.slice (some ⟨g, 0, none⟩) l.length cap) l) (hB : B ≤ w.heap.size) : PileAt (w.alloc (.cells #[.slice (some ⟨g, 0, none⟩) l.length cap, .int .i64 n] 54)) w.heap.size B l n :=
  ⟨g, cap, by show (w.heap.push _)[w.heap.size]? = _; simp, hB, h.alloc _⟩

set_option maxRecDepth 20000 in
set_option maxHeartbeats 3200000 in
theorem playPages_any (a : Option Addr) (ca : Nat) (l : List Int) (N : Int) (mv : Bool) (w : World) (lo hi : Nat) (hl : l.length ≤ 2000000) (ha : IL w a l lo hi) :
    Calls Try.prog 41 #[.slice a l.length ca, .int .i64 N, .bool mv] w fun e w' => (∃ r, e = .returned (.tuple #[r, .int .i64 (plH mv l N), .bool (plB l N)]) ∧ intsIn w' w.heap.size r (plL mv l N)) ∧ Below w.heap.size w w' := by
  have HA : Hid (IL w a l lo hi) := ha
  have HG : Hid _ := goodI_any a ca l w lo hi hl ha
  have HZ : Hid (∀ w, Calls Try.prog 54 #[.int .i64 N] w fun e w' => e = .returned (.bool (szB N)) ∧ w' = w) := fun w => isCacheSize_any N w
  clear ha
  cases hg : refsB l
  · have hB : plB l N = false := by unfold plB; rw [hg]; rfl
    rw [hB, (pl_no hB).1, (pl_no hB).2]
    rw [hg] at HG
    clear hg hB
    go_enter Try.func41, Try.ntmps41
    go_wp2_with (go_at_call 24; refine Calls.mono HG.out ?_; rintro e w' ⟨rfl, hw⟩; obtain rfl := hw.symm)
    go_ret3
    exact ⟨⟨_, rfl, intsIn.nil _ _⟩, Below.refl _ _⟩
  cases hz : szB N
  · have hB : plB l N = false := by unfold plB; rw [hg, hz]; rfl
    rw [hB, (pl_no hB).1, (pl_no hB).2]
    rw [hg] at HG
    rw [hz] at HZ
    clear hg hB hz
    go_enter Try.func41, Try.ntmps41
    go_wp2_with (first
      | (go_at_call 24; refine Calls.mono HG.out ?_; rintro e w' ⟨rfl, hw⟩; obtain rfl := hw.symm)
      | (go_at_call 54; refine Calls.mono (HZ.out _) ?_; rintro e w' ⟨rfl, hw⟩; obtain rfl := hw.symm))
    go_ret3
    exact ⟨⟨_, rfl, intsIn.nil _ _⟩, Below.refl _ _⟩
  have hB : plB l N = true := by unfold plB; rw [hg, hz]; rfl
  rw [hB, (pl_yes hB).1, (pl_yes hB).2]
  obtain ⟨z0, z1⟩ := sz_iff.1 hz
  obtain ⟨n, hn⟩ := Int.eq_ofNat_of_zero_le z0
  subst hn
  have hn40 : n ≤ 40 := by omega
  rw [Int.toNat_natCast]
  rw [hg] at HG
  rw [hz] at HZ
  clear hg hB hz z0 z1
  have HPo : Hid (∀ w, Calls Try.prog 45 #[.slice none 0 0, .int .i64 n] w fun e w' => (∃ g cap, e = .returned (.agg #[.slice (some ⟨g, 0, none⟩) 0 cap, .int .i64 n]) ∧ intsIn w' w.heap.size (.slice (some ⟨g, 0, none⟩) 0 cap) []) ∧ Below w.heap.size w w') :=
    fun w => pileOf_any (.slice none 0 0) [] n w (by omega) (Nat.zero_le _) (fun _ _ => .inl ⟨rfl, rfl⟩)
  have HHas : Hid (∀ k g cap (w : World) lo hi y, IL w (some ⟨g, 0, none⟩) (runM mv n (l.take k)).1 lo hi → Calls Try.prog 55 #[.agg #[.slice (some ⟨g, 0, none⟩) (runM mv n (l.take k)).1.length cap, .int .i64 n], .int .i64 y] w fun e w' => e = .returned (.bool ((runM mv n (l.take k)).1.contains y)) ∧ Below w.heap.size w w') :=
    fun k g cap w lo hi y h => has_any _ _ _ _ _ w lo hi (by have := (run_inv mv n (l.take k)).2; omega) h
  have HMv : Hid (∀ k b (w1 : World) y, w.heap.size ≤ w1.heap.size → PileAt w1 b w.heap.size (runM mv n (l.take k)).1 n → Calls Try.prog 47 #[.pointer (some ⟨b, 0, none⟩), .int .i64 y] w1 fun e w' => e = .returned (.tuple #[]) ∧ PileAt w' b w.heap.size (tchN n (runM mv n (l.take k)).1 y) n ∧ Below w.heap.size w1 w') :=
    fun k b w1 y h1 h2 => moveAhead_any b w.heap.size _ n y w1 (by omega) (run_inv mv n (l.take k)).2 (run_inv mv n (l.take k)).1 h1 h2
  go_enter Try.func41, Try.ntmps41
  go_wp2_with (first
    | (go_at_call 24; refine Calls.mono HG.out ?_; rintro e w' ⟨rfl, hw⟩; obtain rfl := hw.symm)
    | (go_at_call 54; refine Calls.mono (HZ.out _) ?_; rintro e w' ⟨rfl, hw⟩; obtain rfl := hw.symm)
    | (go_at_call 45; refine Calls.mono (HPo.out _) ?_; rintro e w1 ⟨⟨g, cap, rfl, ho1⟩, hb1⟩))
  have HP0 : Hid (PileAt (w1.alloc (.cells #[.slice (some ⟨g, 0, none⟩) 0 cap, .int .i64 n] 54)) w1.heap.size w.heap.size (runM mv n (l.take 0)).1 n) := pile_new (l := []) ho1 hb1.size
  have HB0 : Hid (Below w.heap.size w (w1.alloc (.cells #[.slice (some ⟨g, 0, none⟩) 0 cap, .int .i64 n] 54))) := hb1.alloc hb1.size _
  obtain ⟨b, hb⟩ : ∃ b, b = w1.heap.size := ⟨_, rfl⟩
  rw [← hb] at HP0
  rw [← hb]
  obtain ⟨W0, hW0⟩ : ∃ W, W = w1.alloc (.cells #[.slice (some ⟨g, 0, none⟩) 0 cap, .int .i64 n] 54) := ⟨_, rfl⟩
  rw [← hW0] at HP0 HB0
  rw [← hW0]
  clear hW0 hb ho1 hb1 HPo HG HZ
  go_loopw [10, 26] (fun h i wr => ∃ k : Nat, k ≤ l.length ∧ i = .int .i64 k ∧ h = .int .i64 ((runM mv n (l.take k)).2 : Int) ∧ Hid (PileAt wr b w.heap.size (runM mv n (l.take k)).1 n) ∧ Hid (Below w.heap.size w wr)) (fun _ i _ => l.length - (intOf i).toNat)
  case atStart => exact ⟨0, Nat.zero_le _, rfl, rfl, HP0, HB0⟩
  case round =>
    obtain ⟨k, hk, rfl, rfl, HP, HB⟩ := hrel
    have hhl := hits_le mv n l k hk
    by_cases hlt : k < l.length
    · obtain ⟨ad, rfl, hc⟩ := (HA.out.below HB.out).cell hlt
      have HT : Hid (runM mv n (l.take (k + 1)) = (stepM mv n (runM mv n (l.take k)).1 l[k], (runM mv n (l.take k)).2 + (if (runM mv n (l.take k)).1.contains l[k] = true then 1 else 0))) := run_take mv n l k hlt
      have HHk : Hid _ := HHas.out k
      have HMk : Hid _ := HMv.out k b
      obtain ⟨g, cap, c0, c1, hIL, _⟩ := pile_cells HP.out
      have hst : ∀ s : List Int, stepM mv n s l[k] = if (s.contains l[k] && !mv) = true then s else tchN n s l[k] := fun s => rfl
      generalize l[k] = x at *
      generalize (runM mv n (l.take k)).1 = s at *
      generalize (runM mv n (l.take k)).2 = h at *
      have HX : Hid _ := HHk.out g cap wr _ _ x hIL
      have HMx : Hid (∀ w1, Below wr.heap.size wr w1 → Calls Try.prog 47 #[.pointer (some ⟨b, 0, none⟩), .int .i64 x] w1 fun e w' => e = .returned (.tuple #[]) ∧ PileAt w' b w.heap.size (tchN n s x) n ∧ Below w.heap.size w1 w') :=
        fun w1 hb => HMk.out w1 x (Nat.le_trans HB.out.size hb.size) (HP.out.below hb)
      have hstx := hst s
      clear hst hIL HHk HMk
      cases hin : s.contains x
      · rw [hin] at HX hstx
        have HT1 : Hid ((runM mv n (l.take (k + 1))).1 = tchN n s x) := by show _ = _; rw [HT.out]; exact hstx
        have HT2 : Hid ((runM mv n (l.take (k + 1))).2 = h) := by show _ = _; rw [HT.out, hin]; rfl
        clear HT hstx hin
        go_wp2_with (first
          | (go_at_call 55; refine Calls.mono HX.out ?_; rintro e w2 ⟨rfl, hb2⟩)
          | (go_at_call 47; refine Calls.mono (HMx.out _ hb2) ?_; rintro e w3 ⟨rfl, hp3, hb3⟩))
        have HP3 : Hid (PileAt w3 b w.heap.size (runM mv n (l.take (k + 1))).1 n) := by show PileAt _ _ _ _ _; rw [HT1.out]; exact hp3
        have HB3 : Hid (Below w.heap.size w w3) := (HB.out.trans (hb2.mono HB.out.size)).trans hb3
        clear hp3 hb3 hb2 HX HMx HT1
        go_roundw
        case rel => exact ⟨k + 1, by omega, by go_num, by rw [HT2.out], HP3, HB3⟩
        case measure => simp [intOf]; omega
      · rw [hin] at HX hstx
        have HT2 : Hid ((runM mv n (l.take (k + 1))).2 = h + 1) := by show _ = _; rw [HT.out, hin]; rfl
        cases mv
        · have HT1 : Hid ((runM false n (l.take (k + 1))).1 = s) := by show _ = _; rw [HT.out]; exact hstx
          clear HT hstx hin
          go_wp2_with (first
            | (go_at_call 55; refine Calls.mono HX.out ?_; rintro e w2 ⟨rfl, hb2⟩))
          have HP3 : Hid (PileAt w2 b w.heap.size (runM false n (l.take (k + 1))).1 n) := by show PileAt _ _ _ _ _; rw [HT1.out]; exact HP.out.below hb2
          have HB3 : Hid (Below w.heap.size w w2) := (HB.out.trans (hb2.mono HB.out.size))
          clear hb2 HX HMx HT1
          go_roundw
          case rel => exact ⟨k + 1, by omega, by go_num, by rw [HT2.out]; go_num, HP3, HB3⟩
          case measure => simp [intOf]; omega
        · have HT1 : Hid ((runM true n (l.take (k + 1))).1 = tchN n s x) := by show _ = _; rw [HT.out]; exact hstx
          clear HT hstx hin
          go_wp2_with (first
            | (go_at_call 55; refine Calls.mono HX.out ?_; rintro e w2 ⟨rfl, hb2⟩)
            | (go_at_call 47; refine Calls.mono (HMx.out _ hb2) ?_; rintro e w3 ⟨rfl, hp3, hb3⟩))
          have HP3 : Hid (PileAt w3 b w.heap.size (runM true n (l.take (k + 1))).1 n) := by show PileAt _ _ _ _ _; rw [HT1.out]; exact hp3
          have HB3 : Hid (Below w.heap.size w w3) := (HB.out.trans (hb2.mono HB.out.size)).trans hb3
          clear hp3 hb3 hb2 HX HMx HT1
          go_roundw
          case rel => exact ⟨k + 1, by omega, by go_num, by rw [HT2.out]; go_num, HP3, HB3⟩
          case measure => simp [intOf]; omega
    · obtain rfl : k = l.length := by omega
      have HE : Hid (runM mv n (l.take l.length) = runM mv n l) := by show _ = _; rw [List.take_length]
      obtain ⟨g, cap, c0, c1, _, ho⟩ := pile_cells HP.out
      rw [HE.out] at c0 ho
      have HO : Hid _ := ho
      clear ho HHas HMv
      rw [HE.out]
      obtain ⟨R, hR⟩ : ∃ R, R = runM mv n l := ⟨_, rfl⟩
      have HR : Hid (R = runM mv n l) := hR
      rw [← hR] at c0 HO ⊢
      clear hR
      go_wp2_with fail
      go_ret3
      refine ⟨⟨.slice (some ⟨g, 0, none⟩) R.1.length cap, ?_, ?_⟩, HB.out⟩
      · rw [← HR.out]; rfl
      · rw [← HR.out]; exact HO.out

theorem playLru_any (a : Option Addr) (ca : Nat) (l : List Int) (N : Int) (w : World) (lo hi : Nat) (hl : l.length ≤ 2000000) (ha : IL w a l lo hi) :
    Calls Try.prog 15 #[.slice a l.length ca, .int .i64 N] w fun e w' => (∃ r, e = .returned (.tuple #[r, .int .i64 (plH true l N), .bool (plB l N)]) ∧ intsIn w' w.heap.size r (plL true l N)) ∧ Below w.heap.size w w' := by
  have HC : Hid _ := playPages_any a ca l N true w lo hi hl ha
  clear ha
  generalize plL true l N = L at *
  generalize plH true l N = H at *
  generalize plB l N = b at *
  go_enter Try.func15, Try.ntmps15
  go_wp2_with (go_at_call 41; refine Calls.mono HC.out ?_; rintro e w2 ⟨⟨r, rfl, hr⟩, hb2⟩)
  go_ret3
  exact ⟨⟨_, rfl, hr⟩, hb2⟩
theorem playFifo_any (a : Option Addr) (ca : Nat) (l : List Int) (N : Int) (w : World) (lo hi : Nat) (hl : l.length ≤ 2000000) (ha : IL w a l lo hi) :
    Calls Try.prog 37 #[.slice a l.length ca, .int .i64 N] w fun e w' => (∃ r, e = .returned (.tuple #[r, .int .i64 (plH false l N), .bool (plB l N)]) ∧ intsIn w' w.heap.size r (plL false l N)) ∧ Below w.heap.size w w' := by
  have HC : Hid _ := playPages_any a ca l N false w lo hi hl ha
  clear ha
  generalize plL false l N = L at *
  generalize plH false l N = H at *
  generalize plB l N = b at *
  go_enter Try.func37, Try.ntmps37
  go_wp2_with (go_at_call 41; refine Calls.mono HC.out ?_; rintro e w2 ⟨⟨r, rfl, hr⟩, hb2⟩)
  go_ret3
  exact ⟨⟨_, rfl, hr⟩, hb2⟩
theorem stackAfter_any (a : Option Addr) (ca : Nat) (l : List Int) (w : World) (lo hi : Nat) (hl : l.length ≤ 2000000) (ha : IL w a l lo hi) :
    Calls Try.prog 18 #[.slice a l.length ca] w fun e w' => (∃ r, e = .returned (.tuple #[r, .bool (plB l 40)]) ∧ intsIn w' w.heap.size r (plL true l 40)) ∧ Below w.heap.size w w' := by
  have HC : Hid _ := playLru_any a ca l 40 w lo hi hl ha
  clear ha
  generalize plL true l 40 = L at *
  generalize plH true l 40 = H at *
  generalize plB l 40 = b at *
  go_enter Try.func18, Try.ntmps18
  go_wp2_with (go_at_call 15; refine Calls.mono HC.out ?_; rintro e w2 ⟨⟨r, rfl, hr⟩, hb2⟩)
  go_ret2
  exact ⟨⟨_, rfl, hr⟩, hb2⟩

end Go.Proofs.Yteniompfkfhemaa.Iia
