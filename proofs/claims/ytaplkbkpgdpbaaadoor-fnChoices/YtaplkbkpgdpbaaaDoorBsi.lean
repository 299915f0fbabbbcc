/-
  Walks: impl.BestChoice.
-/
import Derived.Test.YtaplkbkpgdpbaaaDoorFwt
import Derived.Test.YtaplkbkpgdpbaaaDoorBsp
namespace Go.Proofs.YtaplkbkpgdpbaaaDoor.Bst
open Go.RowKit Go.Maps Go.WideMaps
open Go.Proofs.YtaplkbkpgdpbaaaDoor.Fbs
open Go.Proofs.YtaplkbkpgdpbaaaDoor.Fch
open Go.Proofs.YtaplkbkpgdpbaaaDoor.Wgt (wS wF wG wS_cons)
open Go.Proofs.YtaplkbkpgdpbaaaDoor.Chc
open Go.Proofs.YtaplkbkpgdpbaaaDoor.Tri
open Go.Proofs.YtaplkbkpgdpbaaaDoor.Ctf
open Go.Proofs.YtaplkbkpgdpbaaaDoor.Och
open Go.Proofs.YtaplkbkpgdpbaaaDoor.Mrc
open Go.Proofs.YtaplkbkpgdpbaaaDoor.Mrk (TV RowT)
open Go.Proofs.YtaplkbkpgdpbaaaDoor.Lof (lowB lowS implLow_any lowS_size)

theorem wF_hi : ∀ (l : List UInt8) (n b : Int), wF l n b ≤ 1000
  | [], n, b => by
    show (if 1000 < n then -1 else n) ≤ 1000
    split <;> omega
  | c :: r, n, b => by
    rw [wF]
    split
    · exact wF_hi r _ _
    · decide
theorem wS_hi (l : List UInt8) : wS l ≤ 1000 := by
  cases l with
  | nil => decide
  | cons a r =>
    rw [wS_cons]
    split
    · split
      · cases r with
        | nil => exact wF_hi [] _ 100
        | cons d r =>
          rw [wG]
          split
          · exact wF_hi r _ _
          · decide
      · decide
    · decide
theorem chR_wf {x : ByteArray} {c : ByteArray × Int} (h : chR x = some c) : 0 ≤ c.2 ∧ c.2 ≤ 1000 ∧ c.1.size ≤ x.size := by
  have hz : (lowS (trimS (cutA x 59))).size ≤ x.size := by
    rw [lowS_size]
    exact Nat.le_trans (trimS_size _) (cut_sizes x 59).1
  unfold chR at h
  split at h
  · split at h
    · split at h
      · rename_i hh
        cases h
        exact ⟨hh.2, wS_hi _, hz⟩
      · cases h
    · cases h
      exact ⟨show (0 : Int) ≤ 1000 by decide, show (1000 : Int) ≤ 1000 by decide, hz⟩
  · cases h
theorem chF_wf : ∀ (l : List ByteArray) (acc r : List (ByteArray × Int)) (_hl : ∀ x ∈ l, x.size ≤ 2000000) (_ha : ∀ c ∈ acc, 0 ≤ c.2 ∧ c.2 ≤ 1000 ∧ c.1.size ≤ 2000000), chF l acc = some r → ∀ c ∈ r, 0 ≤ c.2 ∧ c.2 ≤ 1000 ∧ c.1.size ≤ 2000000
  | [], acc, r, _, ha, h => by
    have : acc = r := Option.some.inj h
    subst this; exact ha
  | x :: l, acc, r, hl, ha, h => by
    cases hc : chR x with
    | none => rw [chF_none hc] at h; cases h
    | some c =>
      rw [chF_some hc] at h
      refine chF_wf l _ r (fun y hy => hl y (by simp [hy])) (fun d hd => ?_) h
      rcases List.mem_append.1 hd with hd | hd
      · exact ha d hd
      · have : d = c := by simpa using hd
        subst this
        obtain ⟨w1, w2, w3⟩ := chR_wf hc
        exact ⟨w1, w2, Nat.le_trans w3 (hl x (by simp))⟩
theorem choO_wf {s : ByteArray} {r : List (ByteArray × Int)} (h : choO s = some r) : ∀ c ∈ r, 0 ≤ c.2 ∧ c.2 ≤ 1000 ∧ c.1.size ≤ 2000000 := by
  unfold choO at h
  cases hl : Lsp.listO s with
  | none => rw [hl] at h; cases h
  | some l =>
    rw [hl] at h
    have h' : (if 20 < l.length then none else chF l []) = some r := h
    by_cases h20 : 20 < l.length
    · rw [if_pos h20] at h'; cases h'
    · rw [if_neg h20] at h'
      exact chF_wf l [] r (fun x hx => (list_cl hl x hx).2) (fun c hc => by cases hc) h'
theorem wAt_ge {x : ByteArray} {d : Int} : ∀ {l : List (ByteArray × Int)}, (∀ c ∈ l, 0 ≤ c.2) → hasN x l = true → 0 ≤ wAt x d l
  | [], _, h => by cases h
  | c :: r, hg, h => by
    rw [wAt]
    by_cases hc : c.1 = x
    · rw [if_pos hc]; exact hg c (by simp)
    · rw [if_neg hc]
      unfold hasN at h
      rw [List.any_cons, decide_eq_false hc, Bool.false_or] at h
      exact wAt_ge (fun c hc => hg c (by simp [hc])) h
/-- The weight as the map tells it. -/
theorem wOf_map {l : List (ByteArray × Int)} (hg : ∀ c ∈ l, 0 ≤ c.2) (o : ByteArray) : wOf l o = if hasN (lowS o) l = true then wAt (lowS o) 0 l else wAt star 0 l := by
  unfold wOf
  cases h : hasN (lowS o) l
  · rw [wAt_not h]; rfl
  · have := wAt_ge (d := -1) hg h
    rw [if_neg (by omega), wAt_has (d := -1) (d' := 0) h]; rfl

set_option maxRecDepth 20000 in
set_option maxHeartbeats 1600000 in
theorem implBest_any (s : ByteArray) (a : Option Addr) (ca : Nat) (l : List ByteArray) (m : Int) (w : World) (lo hi : Nat) (hT : Tab w) (hs : s.size ≤ 2000000) (hm : w.cell? ⟨2, 0, none⟩ = some (.int .i64 m)) (ha : TV w a l lo hi) (hl : ∀ x ∈ l, x.size ≤ 2000000) :
    Calls Tryd.prog 23 #[.string s, .slice a l.length ca] w fun e w' => e = .returned (.tuple #[.string (bestB (choO s) l).1, .bool (bestB (choO s) l).2]) ∧ Below w.heap.size w w' := by
  have HS : Hid _ := (implChoices_any s m w hT hs hm).mono fun e w' ⟨h, hb⟩ => And.intro (told_cv h) hb
  have hlen := choO_len s
  have hwf := @choO_wf s
  have hgt := hT.lt
  generalize choO s = o at HS hlen hwf ⊢
  cases o with
  | none =>
    go_enter Tryd.func23, Tryd.ntmps23
    go_wp2_with fail
    refine (Calls.mono HS.out ?_)
    rintro e w1 ⟨⟨a0, c0, rfl, C0⟩, hb1⟩
    go_wp2_with fail
    go_ret2
    exact ⟨rfl, hb1⟩
  | some cs =>
    have hwf := hwf rfl
    have hn : cs.length ≤ 20 := hlen
    cases hare : areB l
    · have HR : Hid (bestB (some cs) l = (⟨#[]⟩, false)) := by show _ = _; unfold bestB; rw [hare]; rfl
      have HA : Hid (∀ w, Tab w → TV w a l lo hi → Calls Tryd.prog 64 #[.slice a l.length ca] w fun e w' => e = .returned (.bool false) ∧ Below w.heap.size w w') := by
        intro w h1 h2
        have := areOffered_any a ca l w lo hi h1 h2
        rwa [hare] at this
      clear hare
      go_enter Tryd.func23, Tryd.ntmps23
      go_wp2_with fail
      refine (Calls.mono HS.out ?_)
      rintro e w1 ⟨⟨a0, c0, rfl, C0⟩, hb1⟩
      go_wp2_with fail
      refine (HA.out _ (hT.below hb1 hgt) (ha.below hb1)).mono ?_
      rintro e w2 ⟨rfl, hb2⟩
      have hb12 := hb1.trans (hb2.mono hb1.size)
      go_wp2_with fail
      go_ret2
      exact ⟨ret_best HR.out, hb12⟩
    · have HR : Hid (bestB (some cs) l = ((bestF cs l ⟨#[]⟩ 0).1, decide (0 < (bestF cs l ⟨#[]⟩ 0).2))) := by show _ = _; unfold bestB; rw [hare]; rfl
      have HA : Hid (∀ w, Tab w → TV w a l lo hi → Calls Tryd.prog 64 #[.slice a l.length ca] w fun e w' => e = .returned (.bool true) ∧ Below w.heap.size w w') := by
        intro w h1 h2
        have := areOffered_any a ca l w lo hi h1 h2
        rwa [hare] at this
      have hl20 : l.length ≤ 20 := by
        unfold areB at hare
        rw [Bool.and_eq_true] at hare
        exact of_decide_eq_true hare.1
      clear hare
      go_enter Tryd.func23, Tryd.ntmps23
      go_wp2_with fail
      refine (Calls.mono HS.out ?_)
      rintro e w1 ⟨⟨a0, c0, rfl, C0⟩, hb1⟩
      go_wp2_with fail
      refine (HA.out _ (hT.below hb1 hgt) (ha.below hb1)).mono ?_
      rintro e w2 ⟨rfl, hb2⟩
      have C2 : CV w2 a0 cs w.heap.size w1.heap.size := C0.below hb2
      have hb12 := hb1.trans (hb2.mono hb1.size)
      go_wp2_with fail
      refine (firstWeights_any a0 c0 cs w2 _ _ (by omega) (fun c hc => ⟨Nat.le_trans (hwf c hc).2.2 (by decide), by have := hwf c hc; simp [Lit.wf, IntKind.min, IntKind.max, IntKind.bits, IntKind.signed]; omega⟩) C2).mono ?_
      rintro e w3 ⟨b, D, rfl, hbb, hown, hD, hb3⟩
      have hb13 := hb12.trans (hb3.mono hb12.size)
      clear C0 C2 hb1 hb2 hb3
      go_wp2_with fail
      have hge : ∀ c ∈ cs, 0 ≤ c.2 := fun c hc => (hwf c hc).1
      have HWO : Hid (∀ o, wOf cs o = if hasN (lowS o) cs = true then wAt (lowS o) 0 cs else wAt star 0 cs) := fun o => wOf_map hge o
      clear hge hwf
      by_cases h0 : l = []
      · subst h0
        have HR : Hid (bestB (some cs) [] = (⟨#[]⟩, false)) := HR.out
        go_loop [9, 10, 31] (fun bv mv i => bv = .string ⟨#[]⟩ ∧ mv = .int .i64 0 ∧ i = .int .i64 0) (fun _ _ _ => 0)
        case atStart => exact ⟨rfl, rfl, rfl⟩
        case round =>
          obtain ⟨rfl, rfl, rfl⟩ := hrel
          go_wp2_with fail
          go_ret2
          exact ⟨ret_best HR.out, hb13⟩
      rcases ha with ha | ⟨g, rfl, _, _, ga⟩
      · exact absurd ha h0
      have GA : Hid (RowT w g l) := ga
      have HDD : Hid (MD D cs) := hD
      clear ga hD
      go_loopw [9, 10, 31] (fun bv mv i wr => ∃ (k : Nat) (B : ByteArray) (M : Int), i = .int .i64 k ∧ k ≤ l.length ∧ bv = .string B ∧ mv = .int .i64 M ∧ wr.ownsMap Tryd.prog 9 (plainElem Tryd.prog 3) b cs.length D ∧ Below w.heap.size w wr ∧ Hid (bestF cs l ⟨#[]⟩ 0 = bestF cs (l.drop k) B M)) (fun _ _ i _ => l.length - (intOf i).toNat)
      case atStart => exact ⟨0, ⟨#[]⟩, 0, rfl, by omega, rfl, rfl, hown, hb13, rfl⟩
      case round =>
        clear hown hb13
        obtain ⟨k, B, M, rfl, hk, rfl, rfl, hown, hbel, HB⟩ := hrel
        by_cases hlt : k < l.length
        · have hc := (GA.out.below hbel).2.2 k l[k] (List.getElem?_eq_getElem hlt)
          have hsz := hl _ (List.getElem_mem hlt)
          have HL : Hid _ := fun w => implLow_any l[k] w hsz
          have hlo := lowS_size l[k]
          have hwo := HWO.out l[k]
          have HB' : Hid (bestF cs l ⟨#[]⟩ 0 = if M < wOf cs l[k] then bestF cs (l.drop (k + 1)) l[k] (wOf cs l[k]) else bestF cs (l.drop (k + 1)) B M) := by
            show _ = _
            rw [HB.out, List.drop_eq_getElem_cons hlt]; rfl
          clear HB
          generalize wOf cs l[k] = WO at HB' hwo
          generalize lowS l[k] = L at *
          have hkey : keyOf Tryd.prog 9 (.string L) = some (kl L) := keyOf_string_mk Tryd.underlying9 (Nat.le_trans (by omega : L.size ≤ 2000000) (by decide))
          have hkey2 : keyOf Tryd.prog 9 (.string ⟨#[42]⟩) = some (kl star) := keyOf_string_mk Tryd.underlying9 (by decide)
          go_wp2_with fail
          refine (HL.out _).mono ?_
          rintro e w4 ⟨rfl, hb4⟩
          have hown4 := hown.kept (Mrk.grown_of none hb4) (by simp)
          have hbel4 := hbel.trans (hb4.mono hbel.size)
          clear hown hb4 hbel
          obtain ⟨v, ps, hrun, hv⟩ := hown4.look_ok skey Tryd.underlying74 (zeroI _) (plainElem_int Tryd.underlying3 (by decide)) hkey
          obtain ⟨cc, rfl, hcc, _⟩ := plainElem_int_inv Tryd.underlying3 hv
          have e1 := (congrArg Prod.fst hcc).symm.trans (HDD.out.2 L).1
          obtain ⟨c2, hrun2, hat2, _⟩ := hown4.lookup_int skey Tryd.underlying74 Tryd.underlying3 (zeroI _) hkey2
          have e2 := hat2.symm.trans (HDD.out.2 star).1
          injection e1 with e1; injection e1 with _ e1
          injection e2 with e2; injection e2 with _ e2
          rw [(HDD.out.2 L).2] at hrun
          rw [← e1, ← e2] at hwo
          clear hv hcc hat2 e1 e2 hkey hkey2 hlo hsz hc
          cases hh : hasN L cs
          · rw [hh] at hrun hwo
            have hwo2 : WO = c2 := hwo
            clear hwo
            subst hwo2
            by_cases mg : M < WO
            · have HBn : Hid (bestF cs l ⟨#[]⟩ 0 = bestF cs (l.drop (k + 1)) l[k] WO) := HB'.out.trans (if_pos mg)
              clear HB' hh
              go_wp2_with fail
              go_roundw
              case rel => exact ⟨k + 1, _, _, by go_num, by omega, rfl, rfl, hown4, hbel4, HBn⟩
              case measure => simp [intOf]; omega
            · have HBn : Hid (bestF cs l ⟨#[]⟩ 0 = bestF cs (l.drop (k + 1)) B M) := HB'.out.trans (if_neg mg)
              clear HB' hh
              go_wp2_with fail
              go_roundw
              case rel => exact ⟨k + 1, _, _, by go_num, by omega, rfl, rfl, hown4, hbel4, HBn⟩
              case measure => simp [intOf]; omega
          · rw [hh] at hrun hwo
            have hwo2 : WO = cc := hwo
            clear hwo
            subst hwo2
            by_cases mg : M < WO
            · have HBn : Hid (bestF cs l ⟨#[]⟩ 0 = bestF cs (l.drop (k + 1)) l[k] WO) := HB'.out.trans (if_pos mg)
              clear HB' hh hrun2
              go_wp2_with fail
              go_roundw
              case rel => exact ⟨k + 1, _, _, by go_num, by omega, rfl, rfl, hown4, hbel4, HBn⟩
              case measure => simp [intOf]; omega
            · have HBn : Hid (bestF cs l ⟨#[]⟩ 0 = bestF cs (l.drop (k + 1)) B M) := HB'.out.trans (if_neg mg)
              clear HB' hh hrun2
              go_wp2_with fail
              go_roundw
              case rel => exact ⟨k + 1, _, _, by go_num, by omega, rfl, rfl, hown4, hbel4, HBn⟩
              case measure => simp [intOf]; omega
        · have HR' : Hid (bestB (some cs) l = (B, decide (0 < M))) := by
            show _ = _
            rw [HR.out, HB.out, List.drop_eq_nil_of_le (by omega)]; rfl
          go_wp2_with fail
          go_ret2
          exact ⟨ret_best HR'.out, hbel⟩

end Go.Proofs.YtaplkbkpgdpbaaaDoor.Bst
