/-
  Walk: spec.l6Join.
-/
import Derived.Test.YtelpmkbjegimpaaSpj
import Derived.Deep.QuietTactic
import Derived.BigQuiet
namespace Go.Proofs.Ytelpmkbjegimpaa.Spb
open Go.RowKit
open Go.Proofs.Ytelpmkbjegimpaa.Spp (row_at goodL goodL_parts)

theorem spans_drew {w : World} {B : Nat} {v : Value} {l : List (Int × Int)} (h : spansIn w B v l) (m : Nat) : spansIn (w.drewN m) B v l := by
  refine ⟨h.1, ?_⟩
  rcases h.2 with hn | ⟨g, cap, cur, rfl, hbg, hg, rest⟩
  · exact .inl hn
  · exact .inr ⟨g, cap, cur, rfl, hbg, hg, rest⟩
theorem mstep_nil (gap : Int) (s : Int × Int) : mstep gap [] s = [s] := rfl
theorem mstep_more (gap : Int) (D : List (Int × Int)) (t s : Int × Int) : mstep gap (D ++ [t]) s = if s.1 ≤ t.2 + gap then (if t.2 < s.2 then D ++ [(t.1, s.2)] else D ++ [t]) else D ++ [t] ++ [s] := by
  unfold mstep
  rw [List.getLast?_append]
  simp
theorem fold_bd {gap : Int} {l : List (Int × Int)} (h : ∀ c ∈ l, 0 ≤ c.1 ∧ c.1 < c.2 ∧ c.2 ≤ 1000000) : ∀ i, i ≤ l.length → ∀ c ∈ (l.take i).foldl (mstep gap) [], 0 ≤ c.2 ∧ c.2 ≤ 1000000
  | 0, _, c, hc => by simp at hc
  | i + 1, hi, c, hc => by
    rw [join_take l gap i hi] at hc
    have ih := fold_bd (gap := gap) h i (by omega)
    have hs := h l[i] (List.getElem_mem _)
    rcases List.eq_nil_or_concat ((l.take i).foldl (mstep gap) []) with e | ⟨D, t, e⟩
    · rw [e, mstep_nil] at hc
      have : c = l[i] := by simpa using hc
      rw [this]; omega
    · rw [List.concat_eq_append] at e
      rw [e] at ih
      rw [e, mstep_more] at hc
      have hD : ∀ x ∈ D, 0 ≤ x.2 ∧ x.2 ≤ 1000000 := fun x hx => ih x (by simp [hx])
      have ht := ih t (by simp)
      split at hc
      · split at hc
        · rw [List.mem_append] at hc
          rcases hc with hc | hc
          · exact hD c hc
          · have : c = (t.1, l[i].2) := by simpa using hc
            rw [this]; exact ⟨by show 0 ≤ l[i].2; omega, by show l[i].2 ≤ _; omega⟩
        · rw [List.mem_append] at hc
          rcases hc with hc | hc
          · exact hD c hc
          · have : c = t := by simpa using hc
            rw [this]; exact ht
      · rw [List.mem_append, List.mem_append] at hc
        rcases hc with (hc | hc) | hc
        · exact hD c hc
        · have : c = t := by simpa using hc
          rw [this]; exact ht
        · have : c = l[i] := by simpa using hc
          rw [this]; omega
theorem fold_len {gap : Int} {l : List (Int × Int)} : ∀ i, i ≤ l.length → ((l.take i).foldl (mstep gap) []).length ≤ i
  | 0, _ => by simp
  | i + 1, hi => by
    rw [join_take l gap i hi]
    have ih := fold_len (gap := gap) (l := l) i (by omega)
    rcases List.eq_nil_or_concat ((l.take i).foldl (mstep gap) []) with e | ⟨D, t, e⟩
    · rw [e, mstep_nil]; simp
    · rw [List.concat_eq_append] at e
      rw [e] at ih ⊢
      rw [mstep_more]
      rw [List.length_append] at ih
      split
      · split <;> (rw [List.length_append]; simp at ih ⊢; omega)
      · rw [List.length_append, List.length_append]; simp at ih ⊢; omega
theorem spans_set {w : World} {B g n cap : Nat} {D : List (Int × Int)} {F T : Int} (h : spansIn w B (.slice (some ⟨g, 0, none⟩) n cap) (D ++ [(F, T)])) (T' : Int) : spansIn (w.setCell ⟨g, D.length * 2 + 1, none⟩ (.int .i64 T')) B (.slice (some ⟨g, 0, none⟩) n cap) (D ++ [(F, T')]) := by
  unfold spansIn at h ⊢
  have hn : n = (D ++ [(F, T)]).length := by
    rcases h.2 with ⟨h', _⟩ | ⟨_, _, _, h', _⟩
    · cases h'
    · injection h'
  rw [← hn] at h
  have := (World.ownsRow.stored h (D.length * 2 + 1) (.int .i64 T')).1
  rw [show (D ++ [(F, T')]).length = n by rw [hn]; simp]
  rw [flat_snoc, List.set_append_right _ _ (by rw [flat_len]; omega), flat_len, show D.length * 2 + 1 - D.length * 2 = 1 by omega] at this
  rw [flat_snoc]
  exact this
theorem src_none {l : List (Int × Int)} {k : Nat} (w : World) (ad : Addr) (m c : Nat) (hk : l.length ≤ k) (hm : m = l.length - k) : SrcP w (.slice (some ad) m c) (l.drop k) :=
  .inr ⟨ad, c, by rw [List.length_drop, hm], fun j u hj => by rw [List.drop_eq_nil_of_le hk] at hj; simp [flatP] at hj⟩
theorem bdrewN {R : Nat} {W w : World} (h : Below R W w) (n : Nat) : Below R W (w.drewN n) := ⟨h.os, h.tape, h.output, h.size, h.block⟩
/-- What a list of the call's own looks like. -/
theorem spans_form {w : World} {B : Nat} {v : Value} {l : List (Int × Int)} (h : spansIn w B v l) : (v = .slice none 0 0 ∧ l = []) ∨ ∃ g cap, v = .slice (some ⟨g, 0, none⟩) l.length cap ∧ B ≤ g ∧ g < w.heap.size ∧ l.length ≤ cap ∧ ∀ i, (hi : i < l.length) → w.cell? ⟨g, i * 2, none⟩ = some (.int .i64 l[i].1) ∧ w.cell? ⟨g, i * 2 + 1, none⟩ = some (.int .i64 l[i].2) := by
  have hh := h
  rcases h.2 with ⟨rfl, h0⟩ | ⟨g, cap, cur, rfl, hbg, hg, hnc, _⟩
  · exact .inl ⟨rfl, by simpa using h0⟩
  · refine .inr ⟨g, cap, rfl, hbg, (Array.getElem?_eq_some_iff.1 hg).1, hnc, fun i hi => ?_⟩
    obtain ⟨f1, f2⟩ := flat_at l i l[i] (List.getElem?_eq_getElem hi)
    have e1 := World.ownsRow.cells hh (g := g) rfl (i * 2) _ f1
    have e2 := World.ownsRow.cells hh (g := g) rfl (i * 2 + 1) _ f2
    rw [Addr.add_lit, Nat.zero_add] at e1 e2
    exact ⟨e1, e2⟩

set_option maxRecDepth 20000 in
set_option maxHeartbeats 6400000 in
theorem l6Join_any (a : Option Addr) (ca : Nat) (l : List (Int × Int)) (gap : Int) (w : World) (lo hi : Nat) (hl : l.length ≤ 12) (hgood : ∀ c ∈ l, 0 ≤ c.1 ∧ c.1 < c.2 ∧ c.2 ≤ 1000000) (hg0 : 0 ≤ gap) (hg1 : gap ≤ 1000) (ha : PV w a l lo hi) :
    Calls Try.prog 37 #[.slice a l.length ca, .int .i64 gap] w fun e w' => (∃ r, e = .returned r ∧ spansIn w' w.heap.size r (joinS l gap)) ∧ Below w.heap.size w w' := by
  have HV : Hid (PV w a l lo hi) := ha
  have HGd : Hid (∀ c ∈ l, 0 ≤ c.1 ∧ c.1 < c.2 ∧ c.2 ≤ 1000000) := hgood
  clear ha hgood
  go_enter Try.func37, Try.ntmps37
  go_wp2_with fail
  go_loopw [5, 16] (fun sv c wr => ∃ i : Nat, i ≤ l.length ∧ c = .int .i64 i ∧ Hid (spansIn wr w.heap.size sv (sortS (l.take i))) ∧ Hid (Below w.heap.size w wr)) (fun _ c _ => l.length - (intOf c).toNat)
  case atStart => exact ⟨0, by omega, rfl, spansIn.nil _ _, Below.refl _ _⟩
  case round =>
    obtain ⟨i, hi, rfl, HS, HB⟩ := hrel
    obtain ⟨W0, hW0⟩ : ∃ W0, W0 = wr := ⟨_, rfl⟩
    subst hW0
    by_cases hlt : i < l.length
    · obtain ⟨g, rfl, _, hc, hd⟩ := row_at (HV.out.below HB.out) hlt
      have HN : Hid (sortS (l.take (i + 1)) = insS (sortS (l.take i)) l[i]) := sort_take l i hlt
      have hlen := sort_len l i hi
      obtain ⟨S, hSe⟩ : ∃ S, S = sortS (l.take i) := ⟨_, rfl⟩
      rw [← hSe] at HS HN hlen
      clear hSe
      obtain ⟨F, T, hFT⟩ : ∃ F T, l[i] = (F, T) := ⟨_, _, rfl⟩
      rw [hFT] at hc hd HN
      clear hFT
      obtain ⟨w1, hw1⟩ : ∃ w1, w1 = W0.alloc (.cells #[.int .i64 F, .int .i64 T] 32) := ⟨_, rfl⟩
      have hs1 : w1.heap.size = W0.heap.size + 1 := by rw [hw1]; simp
      have k0 : w1.cell? ⟨W0.heap.size, 0, none⟩ = some (.int .i64 F) := by rw [hw1]; simp [go_sem]
      have k1 : w1.cell? ⟨W0.heap.size, 1, none⟩ = some (.int .i64 T) := by rw [hw1]; simp [go_sem]
      have HS1 : Hid (spansIn w1 w.heap.size u5 S) := by rw [hw1]; exact spansIn.alloc HS.out _
      have HB1 : Hid (Below w.heap.size w w1) := by rw [hw1]; exact HB.out.alloc HB.out.size _
      have hbs : w.heap.size ≤ W0.heap.size := HB.out.size
      clear HS HB
      go_wp2_with fail
      rw [← hw1]
      clear hw1
      rcases spans_form HS1.out with ⟨rfl, hS0⟩ | ⟨gs, cap, rfl, hgs, hgl, hcap, hcells⟩
      · have H0 : Hid (S = []) := hS0
        have hl12 : S.length ≤ 12 := by omega
        clear hlen hS0
        go_loopw [8] (fun kv wx => kv = .int .i64 0 ∧ wx = w1) (fun _ _ => 0)
        case atStart => exact ⟨rfl, rfl⟩
        case round =>
          obtain ⟨rfl, hwe⟩ := hrel
          obtain rfl := hwe.symm
          go_wp2_with fail
          go_quiet (fail)
          obtain ⟨wx, hwx⟩ : ∃ wx, wx = w1.drewN nq := ⟨_, rfl⟩
          have HSx : Hid (spansIn wx w.heap.size (.slice none 0 0) S) := by rw [hwx]; exact (by rw [H0.out]; exact spansIn.nil _ _)
          have HBx : Hid (Below w.heap.size w wx) := by rw [hwx]; exact bdrewN HB1.out _
          have x0 : wx.cell? ⟨W0.heap.size, 0, none⟩ = some (.int .i64 F) := by rw [hwx]; exact k0
          have x1 : wx.cell? ⟨W0.heap.size, 1, none⟩ = some (.int .i64 T) := by rw [hwx]; exact k1
          have Hxs : Hid (wx.heap.size = W0.heap.size + 1) := by rw [hwx]; exact hs1
          have HE : Hid (sortS (l.take (i + 1)) = S.take 0 ++ (F, T) :: S.drop 0) := by show _ = _; rw [HN.out]; exact (by rw [H0.out]; rfl)
          rw [← hwx]
          clear hwx k0 k1 hs1 HN HS1 HB1
          go_wp2_with (at_builtin; refine wpList_append_src wx rfl _ _ rfl wx.heap.size _ [] (by rfl) (spansIn.nil _ _) _ (S.take 0) (by rfl) (.inl ⟨rfl, rfl⟩) (by rw [List.length_nil, List.length_take]; omega) (Nat.le_refl _) wx (Below.refl _ _) ?_)
          intro v2 w2 hown2 hb2
          try rw [List.nil_append] at hown2
          have y0 := (hb2.cell (p := ⟨W0.heap.size, 0, none⟩) (by have := Hxs.out; show W0.heap.size < _; omega)).trans x0
          have y1 := (hb2.cell (p := ⟨W0.heap.size, 1, none⟩) (by have := Hxs.out; show W0.heap.size < _; omega)).trans x1
          have Hb2 : Hid (Below wx.heap.size wx w2) := hb2
          have hz2 := hb2.size
          clear hb2 x0 x1
          go_wp2_with (at_builtin; refine wpList_append_span w2 rfl _ _ rfl wx.heap.size _ (S.take 0) (by rfl) hown2 F T _ rfl (by rw [List.length_take]; omega) hz2 wx.heap.size (Nat.le_refl _) w2 (Below.refl _ _) ?_)
          intro v3 w3 hown3 hb3
          have Hb3 : Hid (Below wx.heap.size wx w3) := Hb2.out.trans hb3
          have hz3 := Hb3.out.size
          clear hb3 y0 y1 hown2 Hb2 hz2
          go_wp2_with (at_builtin; refine wpList_append_src w3 rfl _ _ rfl wx.heap.size _ (S.take 0 ++ [(F, T)]) (by rfl) hown3 _ (S.drop 0) (by rfl) (.inl ⟨rfl, by rw [H0.out]; rfl⟩) (by rw [List.length_append, List.length_take, List.length_drop]; simp; omega) hz3 w3 (Below.refl _ _) ?_)
          all_goals
            intro v4 w4 hown4 hb4
            have HS4 : Hid (spansIn w4 w.heap.size v4 (sortS (l.take (i + 1)))) := by
              have hown5 : spansIn w4 wx.heap.size v4 (S.take 0 ++ (F, T) :: S.drop 0) := by first | exact hown4 | simpa using hown4
              unfold Hid
              rw [HE.out]
              exact hown5.base HBx.out.size
            have HB4 : Hid (Below w.heap.size w w4) := HBx.out.trans ((Hb3.out.trans hb4).mono HBx.out.size)
            clear hb4 hown4 hown3 Hb3 HSx HBx HE hz3
            go_wp2_with fail
            go_roundw
            case rel => exact ⟨i + 1, by omega, by go_num, HS4, HB4⟩
            case measure => simp [intOf]; omega
      · have hcs : Hid (∀ i, (hi : i < S.length) → w1.cell? ⟨gs, i * 2, none⟩ = some (.int .i64 S[i].1) ∧ w1.cell? ⟨gs, i * 2 + 1, none⟩ = some (.int .i64 S[i].2)) := hcells
        have hl12 : S.length ≤ 12 := by omega
        clear hcells hlen
        go_loopw [8] (fun kv wx => ∃ k m : Nat, kv = .int .i64 k ∧ k ≤ S.length ∧ wx = w1.drewN m ∧ Hid (∀ j, (hj : j < S.length) → j < k → S[j].1 ≤ F)) (fun kv _ => S.length - (intOf kv).toNat)
        case atStart => exact ⟨0, 0, rfl, by omega, rfl, fun j _ h => absurd h (by omega)⟩
        case round =>
          obtain ⟨k, m, rfl, hk, hwe, HA⟩ := hrel
          subst hwe
          by_cases hkl : k < S.length
          · obtain ⟨c0, _⟩ := hcs.out k hkl
            by_cases hle : S[k].1 ≤ F
            · have HA' : Hid (∀ j, (hj : j < S.length) → j < k + 1 → S[j].1 ≤ F) := by
                intro j hj h
                by_cases e : j = k
                · subst e; exact hle
                · exact HA.out j hj (by omega)
              clear HA HN
              go_wp2_with fail
              go_quiet (fail)
              go_wp2_with fail
              go_roundw
              case rel => exact ⟨k + 1, m + nq, by go_num, by omega, by first | rfl | rw [World.drewN_drewN], HA'⟩
              case measure => simp [intOf]; omega
            · have hdec : decide (S[k].1 ≤ F) = false := decide_eq_false hle
              have hins : insS S (F, T) = S.take k ++ (F, T) :: S.drop k := ins_at hk HA.out (fun _ => by show F < _; omega)
              have HI : Hid _ := hins
              clear HA hins
              go_wp2_with fail
              go_quiet (fail)
              obtain ⟨wx, hwx⟩ : ∃ wx, wx = (w1.drewN m).drewN nq := ⟨_, rfl⟩
              have HSx : Hid (spansIn wx w.heap.size (.slice (some ⟨gs, 0, none⟩) S.length cap) S) := by rw [hwx]; exact spans_drew (spans_drew HS1.out _) _
              have HBx : Hid (Below w.heap.size w wx) := by rw [hwx]; exact bdrewN (bdrewN HB1.out _) _
              have x0 : wx.cell? ⟨W0.heap.size, 0, none⟩ = some (.int .i64 F) := by rw [hwx]; exact k0
              have x1 : wx.cell? ⟨W0.heap.size, 1, none⟩ = some (.int .i64 T) := by rw [hwx]; exact k1
              have Hxs : Hid (wx.heap.size = W0.heap.size + 1) := by rw [hwx]; exact hs1
              have HE : Hid (sortS (l.take (i + 1)) = S.take k ++ (F, T) :: S.drop k) := by show _ = _; rw [HN.out]; exact HI.out
              rw [← hwx]
              clear hwx k0 k1 hs1 HN HS1 HB1
              go_wp2_with (at_builtin; refine wpList_append_src wx rfl _ _ rfl wx.heap.size _ [] (by rfl) (spansIn.nil _ _) _ (S.take k) (by rfl) (src_take HSx.out k hk _) (by rw [List.length_nil, List.length_take]; omega) (Nat.le_refl _) wx (Below.refl _ _) ?_)
              intro v2 w2 hown2 hb2
              try rw [List.nil_append] at hown2
              have y0 := (hb2.cell (p := ⟨W0.heap.size, 0, none⟩) (by have := Hxs.out; show W0.heap.size < _; omega)).trans x0
              have y1 := (hb2.cell (p := ⟨W0.heap.size, 1, none⟩) (by have := Hxs.out; show W0.heap.size < _; omega)).trans x1
              have Hb2 : Hid (Below wx.heap.size wx w2) := hb2
              have hz2 := hb2.size
              clear hb2 x0 x1
              go_wp2_with (at_builtin; refine wpList_append_span w2 rfl _ _ rfl wx.heap.size _ (S.take k) (by rfl) hown2 F T _ rfl (by rw [List.length_take]; omega) hz2 wx.heap.size (Nat.le_refl _) w2 (Below.refl _ _) ?_)
              intro v3 w3 hown3 hb3
              have Hb3 : Hid (Below wx.heap.size wx w3) := Hb2.out.trans hb3
              have hz3 := Hb3.out.size
              clear hb3 y0 y1 hown2 Hb2 hz2
              go_wp2_with (at_builtin; refine wpList_append_src w3 rfl _ _ rfl wx.heap.size _ (S.take k ++ [(F, T)]) (by rfl) hown3 _ (S.drop k) (by rfl) (src_drop (HSx.out.below (Hb3.out.mono (Nat.le_refl _))) k hk _ _ (by omega)) (by rw [List.length_append, List.length_take, List.length_drop]; simp; omega) hz3 w3 (Below.refl _ _) ?_)
              all_goals
                intro v4 w4 hown4 hb4
                have HS4 : Hid (spansIn w4 w.heap.size v4 (sortS (l.take (i + 1)))) := by
                  have hown5 : spansIn w4 wx.heap.size v4 (S.take k ++ (F, T) :: S.drop k) := by first | exact hown4 | simpa using hown4
                  unfold Hid
                  rw [HE.out]
                  exact hown5.base HBx.out.size
                have HB4 : Hid (Below w.heap.size w w4) := HBx.out.trans ((Hb3.out.trans hb4).mono HBx.out.size)
                clear hb4 hown4 hown3 Hb3 HSx HBx HE hz3
                go_wp2_with fail
                go_roundw
                case rel => exact ⟨i + 1, by omega, by go_num, HS4, HB4⟩
                case measure => simp [intOf]; omega
          · have hins : insS S (F, T) = S.take k ++ (F, T) :: S.drop k := ins_at hk HA.out (fun h => absurd h hkl)
            have HI : Hid _ := hins
            have hdec : decide ((k : Int) < (S.length : Int)) = false := decide_eq_false (by omega)
            clear HA hins
            by_cases hck : cap = k
            · subst hck
              go_wp2_with fail
              go_quiet (fail)
              obtain ⟨wx, hwx⟩ : ∃ wx, wx = (w1.drewN m).drewN nq := ⟨_, rfl⟩
              have HSx : Hid (spansIn wx w.heap.size (.slice (some ⟨gs, 0, none⟩) S.length cap) S) := by rw [hwx]; exact spans_drew (spans_drew HS1.out _) _
              have HBx : Hid (Below w.heap.size w wx) := by rw [hwx]; exact bdrewN (bdrewN HB1.out _) _
              have x0 : wx.cell? ⟨W0.heap.size, 0, none⟩ = some (.int .i64 F) := by rw [hwx]; exact k0
              have x1 : wx.cell? ⟨W0.heap.size, 1, none⟩ = some (.int .i64 T) := by rw [hwx]; exact k1
              have Hxs : Hid (wx.heap.size = W0.heap.size + 1) := by rw [hwx]; exact hs1
              have HE : Hid (sortS (l.take (i + 1)) = S.take cap ++ (F, T) :: S.drop cap) := by show _ = _; rw [HN.out]; exact HI.out
              rw [← hwx]
              clear hwx k0 k1 hs1 HN HS1 HB1
              go_wp2_with (at_builtin; refine wpList_append_src wx rfl _ _ rfl wx.heap.size _ [] (by rfl) (spansIn.nil _ _) _ (S.take cap) (by rfl) (src_take HSx.out cap hk _) (by rw [List.length_nil, List.length_take]; omega) (Nat.le_refl _) wx (Below.refl _ _) ?_)
              intro v2 w2 hown2 hb2
              try rw [List.nil_append] at hown2
              have y0 := (hb2.cell (p := ⟨W0.heap.size, 0, none⟩) (by have := Hxs.out; show W0.heap.size < _; omega)).trans x0
              have y1 := (hb2.cell (p := ⟨W0.heap.size, 1, none⟩) (by have := Hxs.out; show W0.heap.size < _; omega)).trans x1
              have Hb2 : Hid (Below wx.heap.size wx w2) := hb2
              have hz2 := hb2.size
              clear hb2 x0 x1
              go_wp2_with (at_builtin; refine wpList_append_span w2 rfl _ _ rfl wx.heap.size _ (S.take cap) (by rfl) hown2 F T _ rfl (by rw [List.length_take]; omega) hz2 wx.heap.size (Nat.le_refl _) w2 (Below.refl _ _) ?_)
              intro v3 w3 hown3 hb3
              have Hb3 : Hid (Below wx.heap.size wx w3) := Hb2.out.trans hb3
              have hz3 := Hb3.out.size
              clear hb3 y0 y1 hown2 Hb2 hz2
              go_wp2_with (at_builtin; refine wpList_append_src w3 rfl _ _ rfl wx.heap.size _ (S.take cap ++ [(F, T)]) (by rfl) hown3 _ (S.drop cap) (by rfl) (src_none _ _ _ _ (by omega) (by omega)) (by rw [List.length_append, List.length_take, List.length_drop]; simp; omega) hz3 w3 (Below.refl _ _) ?_)
              all_goals
                intro v4 w4 hown4 hb4
                have HS4 : Hid (spansIn w4 w.heap.size v4 (sortS (l.take (i + 1)))) := by
                  have hown5 : spansIn w4 wx.heap.size v4 (S.take cap ++ (F, T) :: S.drop cap) := by first | exact hown4 | simpa using hown4
                  unfold Hid
                  rw [HE.out]
                  exact hown5.base HBx.out.size
                have HB4 : Hid (Below w.heap.size w w4) := HBx.out.trans ((Hb3.out.trans hb4).mono HBx.out.size)
                clear hb4 hown4 hown3 Hb3 HSx HBx HE hz3
                go_wp2_with fail
                go_roundw
                case rel => exact ⟨i + 1, by omega, by go_num, HS4, HB4⟩
                case measure => simp [intOf]; omega
            · have hcn : k < cap := by omega
              go_wp2_with fail
              go_quiet (fail)
              obtain ⟨wx, hwx⟩ : ∃ wx, wx = (w1.drewN m).drewN nq := ⟨_, rfl⟩
              have HSx : Hid (spansIn wx w.heap.size (.slice (some ⟨gs, 0, none⟩) S.length cap) S) := by rw [hwx]; exact spans_drew (spans_drew HS1.out _) _
              have HBx : Hid (Below w.heap.size w wx) := by rw [hwx]; exact bdrewN (bdrewN HB1.out _) _
              have x0 : wx.cell? ⟨W0.heap.size, 0, none⟩ = some (.int .i64 F) := by rw [hwx]; exact k0
              have x1 : wx.cell? ⟨W0.heap.size, 1, none⟩ = some (.int .i64 T) := by rw [hwx]; exact k1
              have Hxs : Hid (wx.heap.size = W0.heap.size + 1) := by rw [hwx]; exact hs1
              have HE : Hid (sortS (l.take (i + 1)) = S.take k ++ (F, T) :: S.drop k) := by show _ = _; rw [HN.out]; exact HI.out
              rw [← hwx]
              clear hwx k0 k1 hs1 HN HS1 HB1
              go_wp2_with (at_builtin; refine wpList_append_src wx rfl _ _ rfl wx.heap.size _ [] (by rfl) (spansIn.nil _ _) _ (S.take k) (by rfl) (src_take HSx.out k hk _) (by rw [List.length_nil, List.length_take]; omega) (Nat.le_refl _) wx (Below.refl _ _) ?_)
              intro v2 w2 hown2 hb2
              try rw [List.nil_append] at hown2
              have y0 := (hb2.cell (p := ⟨W0.heap.size, 0, none⟩) (by have := Hxs.out; show W0.heap.size < _; omega)).trans x0
              have y1 := (hb2.cell (p := ⟨W0.heap.size, 1, none⟩) (by have := Hxs.out; show W0.heap.size < _; omega)).trans x1
              have Hb2 : Hid (Below wx.heap.size wx w2) := hb2
              have hz2 := hb2.size
              clear hb2 x0 x1
              go_wp2_with (at_builtin; refine wpList_append_span w2 rfl _ _ rfl wx.heap.size _ (S.take k) (by rfl) hown2 F T _ rfl (by rw [List.length_take]; omega) hz2 wx.heap.size (Nat.le_refl _) w2 (Below.refl _ _) ?_)
              intro v3 w3 hown3 hb3
              have Hb3 : Hid (Below wx.heap.size wx w3) := Hb2.out.trans hb3
              have hz3 := Hb3.out.size
              clear hb3 y0 y1 hown2 Hb2 hz2
              go_wp2_with (at_builtin; refine wpList_append_src w3 rfl _ _ rfl wx.heap.size _ (S.take k ++ [(F, T)]) (by rfl) hown3 _ (S.drop k) (by rfl) (src_drop (HSx.out.below (Hb3.out.mono (Nat.le_refl _))) k hk _ _ (by omega)) (by rw [List.length_append, List.length_take, List.length_drop]; simp; omega) hz3 w3 (Below.refl _ _) ?_)
              all_goals
                intro v4 w4 hown4 hb4
                have HS4 : Hid (spansIn w4 w.heap.size v4 (sortS (l.take (i + 1)))) := by
                  have hown5 : spansIn w4 wx.heap.size v4 (S.take k ++ (F, T) :: S.drop k) := by first | exact hown4 | simpa using hown4
                  unfold Hid
                  rw [HE.out]
                  exact hown5.base HBx.out.size
                have HB4 : Hid (Below w.heap.size w w4) := HBx.out.trans ((Hb3.out.trans hb4).mono HBx.out.size)
                clear hb4 hown4 hown3 Hb3 HSx HBx HE hz3
                go_wp2_with fail
                go_roundw
                case rel => exact ⟨i + 1, by omega, by go_num, HS4, HB4⟩
                case measure => simp [intOf]; omega
    · obtain rfl : i = l.length := by omega
      rw [List.take_length] at HS
      obtain ⟨S, hSe⟩ : ∃ S, S = sortS l := ⟨_, rfl⟩
      have hSl : S.length ≤ 12 := by
        have := sort_len l l.length (Nat.le_refl _)
        rw [List.take_length] at this
        rw [hSe]; omega
      have HBd : Hid (∀ c ∈ S, 0 ≤ c.1 ∧ c.1 < c.2 ∧ c.2 ≤ 1000000) := by
        intro c hc
        rw [hSe, ← List.take_length (l := l)] at hc
        exact HGd.out c (sort_mem l _ (Nat.le_refl _) c hc)
      have HJ : Hid (joinS l gap = (S.take S.length).foldl (mstep gap) []) := by
        show _ = _
        rw [List.take_length, hSe]; rfl
      rw [← hSe] at HS
      clear hSe
      obtain ⟨cv, hcv⟩ : ∃ sv c, u5 = .slice sv S.length c := by
        rcases spans_form HS.out with ⟨h, h0⟩ | ⟨gs, cap, h, _⟩
        · exact ⟨none, 0, by rw [h, h0]; rfl⟩
        · exact ⟨_, _, h⟩
      obtain ⟨cw, rfl⟩ := hcv
      go_wp2_with fail
      go_loopw [10, 53] (fun ov c wr => ∃ i : Nat, i ≤ S.length ∧ c = .int .i64 i ∧ Hid (spansIn wr W0.heap.size ov ((S.take i).foldl (mstep gap) [])) ∧ Hid (Below W0.heap.size W0 wr)) (fun _ c _ => S.length - (intOf c).toNat)
      case atStart => exact ⟨0, by omega, rfl, spansIn.nil _ _, Below.refl _ _⟩
      case round =>
        obtain ⟨i, hi, rfl, HO, HC⟩ := hrel
        obtain ⟨W1, hW1⟩ : ∃ W1, W1 = wr := ⟨_, rfl⟩
        subst hW1
        by_cases hlt2 : i < S.length
        · obtain ⟨gs, cap, hv, hgs, hgl, _, hcells⟩ : ∃ gs cap, Value.slice cv S.length cw = .slice (some ⟨gs, 0, none⟩) S.length cap ∧ w.heap.size ≤ gs ∧ gs < W0.heap.size ∧ S.length ≤ cap ∧ ∀ i, (hi : i < S.length) → W0.cell? ⟨gs, i * 2, none⟩ = some (.int .i64 S[i].1) ∧ W0.cell? ⟨gs, i * 2 + 1, none⟩ = some (.int .i64 S[i].2) := by
            rcases spans_form HS.out with ⟨h, h0⟩ | h
            · rw [h0] at hlt2; simp at hlt2
            · exact h
          injection hv with hv1 _ hv2
          subst hv1 hv2
          obtain ⟨c0', c1'⟩ := hcells i hlt2
          have c0 := (HC.out.cell (p := ⟨gs, i * 2, none⟩) hgl).trans c0'
          have c1 := (HC.out.cell (p := ⟨gs, i * 2 + 1, none⟩) hgl).trans c1'
          have hN := join_take S gap i hlt2
          obtain ⟨n1, n2, n3⟩ := HBd.out _ (List.getElem_mem hlt2)
          have hOl := fold_len (gap := gap) (l := S) i hi
          have hOb := fold_bd (gap := gap) HBd.out i hi
          obtain ⟨F, T, hFT⟩ : ∃ F T, S[i] = (F, T) := ⟨_, _, rfl⟩
          rw [hFT] at c0 c1 hN n1 n2 n3
          obtain ⟨O, hO⟩ : ∃ O, O = (S.take i).foldl (mstep gap) [] := ⟨_, rfl⟩
          rw [← hO] at HO hN hOl hOb
          have HN : Hid ((S.take (i + 1)).foldl (mstep gap) [] = mstep gap O (F, T)) := hN
          dsimp only at c0 c1 n1 n2 n3
          clear hO hFT hN c0' c1' hcells
          have hs1 : (W1.alloc (.cells #[.int .i64 F, .int .i64 T] 32)).heap.size = W1.heap.size + 1 := by simp
          have HO1 : Hid (spansIn (W1.alloc (.cells #[.int .i64 F, .int .i64 T] 32)) W0.heap.size u10 O) := spansIn.alloc HO.out _
          have HC1 : Hid (Below W0.heap.size W0 (W1.alloc (.cells #[.int .i64 F, .int .i64 T] 32))) := HC.out.alloc HC.out.size _
          have hform := spans_form HO1.out
          rcases hform with ⟨hu, hOe⟩ | ⟨go, cap, hu, hgo, hgol, hcapo, hco⟩
          · subst hu hOe
            go_wp2_with fail
            go_quiet (fail)
            obtain ⟨wx, hwx⟩ : ∃ wx, wx = (W1.alloc (.cells #[.int .i64 F, .int .i64 T] 32)).drewN nq := ⟨_, rfl⟩
            have hown : spansIn wx W0.heap.size (.slice none 0 0) [] := by rw [hwx]; exact spans_drew HO1.out _
            have HCx : Hid (Below W0.heap.size W0 wx) := by rw [hwx]; exact bdrewN HC1.out _
            have x0 : wx.cell? ⟨W1.heap.size, 0, none⟩ = some (.int .i64 F) := by rw [hwx]; show (W1.alloc _).cell? _ = _; simp [go_sem]
            have x1 : wx.cell? ⟨W1.heap.size, 1, none⟩ = some (.int .i64 T) := by rw [hwx]; show (W1.alloc _).cell? _ = _; simp [go_sem]
            have hbx := HCx.out.size
            rw [← hwx]
            clear hwx HO1 HC1 hs1
            go_wp2_with (at_builtin; refine wpList_append_span wx rfl _ _ rfl W0.heap.size _ [] (by rfl) hown F T _ rfl (by first | omega | (simp; omega)) hbx W0.heap.size (Nat.le_refl _) wx (Below.refl _ _) ?_)
            intro v2 w2 hown2 hb2
            have HO2 : Hid (spansIn w2 W0.heap.size v2 ((S.take (i + 1)).foldl (mstep gap) [])) := by show spansIn _ _ _ _; rw [HN.out, mstep_nil]; first | exact hown2 | simpa using hown2
            have HC2 : Hid (Below W0.heap.size W0 w2) := HCx.out.trans hb2
            clear hown2 hb2 hown HCx x0 x1 hbx
            go_wp2_with fail
            refine ⟨⟨i + 1, by omega, by go_num, HO2, HC2⟩, ?_⟩
            simp [intOf]; omega
          · rcases List.eq_nil_or_concat O with hOe | ⟨D, t, hOe⟩
            · subst hOe
              have hu2 : u10 = .slice (some ⟨go, 0, none⟩) 0 cap := hu
              subst hu2
              clear hu hco
              go_wp2_with fail
              go_quiet (fail)
              obtain ⟨wx, hwx⟩ : ∃ wx, wx = (W1.alloc (.cells #[.int .i64 F, .int .i64 T] 32)).drewN nq := ⟨_, rfl⟩
              have hown : spansIn wx W0.heap.size (.slice (some ⟨go, 0, none⟩) 0 cap) [] := by rw [hwx]; exact spans_drew HO1.out _
              have HCx : Hid (Below W0.heap.size W0 wx) := by rw [hwx]; exact bdrewN HC1.out _
              have x0 : wx.cell? ⟨W1.heap.size, 0, none⟩ = some (.int .i64 F) := by rw [hwx]; show (W1.alloc _).cell? _ = _; simp [go_sem]
              have x1 : wx.cell? ⟨W1.heap.size, 1, none⟩ = some (.int .i64 T) := by rw [hwx]; show (W1.alloc _).cell? _ = _; simp [go_sem]
              have hbx := HCx.out.size
              rw [← hwx]
              clear hwx HO1 HC1 hs1
              go_wp2_with (at_builtin; refine wpList_append_span wx rfl _ _ rfl W0.heap.size _ [] (by rfl) hown F T _ rfl (by first | omega | (simp; omega)) hbx W0.heap.size (Nat.le_refl _) wx (Below.refl _ _) ?_)
              intro v2 w2 hown2 hb2
              have HO2 : Hid (spansIn w2 W0.heap.size v2 ((S.take (i + 1)).foldl (mstep gap) [])) := by show spansIn _ _ _ _; rw [HN.out, mstep_nil]; first | exact hown2 | simpa using hown2
              have HC2 : Hid (Below W0.heap.size W0 w2) := HCx.out.trans hb2
              clear hown2 hb2 hown HCx x0 x1 hbx
              go_wp2_with fail
              refine ⟨⟨i + 1, by omega, by go_num, HO2, HC2⟩, ?_⟩
              simp [intOf]; omega
            · rw [List.concat_eq_append] at hOe
              subst hOe
              obtain ⟨F0, T0⟩ := t
              obtain ⟨d, hd⟩ : ∃ d, d = D.length := ⟨_, rfl⟩
              have hdl : (D ++ [(F0, T0)]).length = d + 1 := by rw [List.length_append, hd]; rfl
              have ht := hOb (F0, T0) (by simp)
              have e1 := (hco d (by omega)).2
              have e2 : (D ++ [(F0, T0)])[d]'(by omega) = (F0, T0) := by simp [hd]
              rw [e2] at e1
              rw [hdl] at hu hOl
              subst hu
              dsimp only at ht e1
              have hfz : ∀ i, (W1.alloc (.cells #[.int .i64 F, .int .i64 T] 32)).frozen? ⟨go, i, none⟩ = false := fun i => World.ownsRow.frozenAt (n := (D ++ [(F0, T0)]).length) (cap := cap) (by have := HO1.out; rw [← hdl] at this; exact this) i
              have hgo1 : go < W1.heap.size := by
                rcases spans_form HO.out with ⟨h, _⟩ | ⟨g', _, h, _, h', _⟩
                · cases h
                · injection h with h _ _; injection h with h; injection h with h; rw [h]; exact h'
              clear hco e2 hOb HO
              have hMs := mstep_more gap D (F0, T0) (F, T)
              dsimp only at hMs
              have Hd : Hid (d = D.length) := hd
              have HM := Hd
              clear hd hdl hcapo
              by_cases hle : F ≤ T0 + gap
              · by_cases hlt3 : T0 < T
                · have hM2 : mstep gap (D ++ [(F0, T0)]) (F, T) = D ++ [(F0, T)] := by rw [hMs, if_pos hle, if_pos hlt3]
                  clear hMs
                  have HN2 : Hid ((S.take (i + 1)).foldl (mstep gap) [] = D ++ [(F0, T)]) := by show _ = _; rw [HN.out, hM2]
                  clear hM2 HN
                  go_wp2_with fail
                  go_quiet (fail)
                  go_wp2_with fail
                  go_quiet (fail)
                  go_wp2_with fail
                  refine ⟨⟨i + 1, by omega, by go_num, (?_ : spansIn _ _ _ _), (?_ : Below _ _ _)⟩, ?_⟩
                  · rw [HN2.out, Hd.out]
                    have := HO1.out
                    rw [Hd.out] at this
                    exact spans_set (spans_drew this _) T
                  · exact (bdrewN HC1.out _).setCell (p := ⟨go, _, none⟩) hgo _
                  · simp [intOf]; omega
                · have hM2 : mstep gap (D ++ [(F0, T0)]) (F, T) = D ++ [(F0, T0)] := by rw [hMs, if_pos hle, if_neg hlt3]
                  clear hMs
                  have HN2 : Hid ((S.take (i + 1)).foldl (mstep gap) [] = D ++ [(F0, T0)]) := by show _ = _; rw [HN.out, hM2]
                  clear hM2 HN
                  go_wp2_with fail
                  go_quiet (fail)
                  go_wp2_with fail
                  go_quiet (fail)
                  go_wp2_with fail
                  refine ⟨⟨i + 1, by omega, by go_num, (?_ : spansIn _ _ _ _), (?_ : Below _ _ _)⟩, ?_⟩
                  · rw [HN2.out]
                    exact spans_drew HO1.out _
                  · exact bdrewN HC1.out _
                  · simp [intOf]; omega
              · have hM2 : mstep gap (D ++ [(F0, T0)]) (F, T) = D ++ [(F0, T0)] ++ [(F, T)] := by rw [hMs, if_neg hle]
                clear hMs
                have HN2 : Hid ((S.take (i + 1)).foldl (mstep gap) [] = D ++ [(F0, T0)] ++ [(F, T)]) := by show _ = _; rw [HN.out, hM2]
                clear hM2 HN
                go_wp2_with fail
                go_quiet (fail)
                obtain ⟨wx, hwx⟩ : ∃ wx, wx = (W1.alloc (.cells #[.int .i64 F, .int .i64 T] 32)).drewN nq := ⟨_, rfl⟩
                have hown : spansIn wx W0.heap.size (.slice (some ⟨go, 0, none⟩) (d + 1) cap) (D ++ [(F0, T0)]) := by rw [hwx]; exact spans_drew HO1.out _
                have HCx : Hid (Below W0.heap.size W0 wx) := by rw [hwx]; exact bdrewN HC1.out _
                have x0 : wx.cell? ⟨W1.heap.size, 0, none⟩ = some (.int .i64 F) := by rw [hwx]; show (W1.alloc _).cell? _ = _; simp [go_sem]
                have x1 : wx.cell? ⟨W1.heap.size, 1, none⟩ = some (.int .i64 T) := by rw [hwx]; show (W1.alloc _).cell? _ = _; simp [go_sem]
                have hbx := HCx.out.size
                rw [← hwx]
                clear hwx HO1 HC1 hs1 e1 hfz hgol
                go_wp2_with (at_builtin; refine wpList_append_span wx rfl _ _ rfl W0.heap.size _ (D ++ [(F0, T0)]) (by rfl) hown F T _ rfl (by rw [List.length_append, ← Hd.out]; simp; omega) hbx W0.heap.size (Nat.le_refl _) wx (Below.refl _ _) ?_)
                intro v2 w2 hown2 hb2
                have HO2 : Hid (spansIn w2 W0.heap.size v2 ((S.take (i + 1)).foldl (mstep gap) [])) := by show spansIn _ _ _ _; rw [HN2.out]; first | exact hown2 | simpa using hown2
                have HC2 : Hid (Below W0.heap.size W0 w2) := HCx.out.trans hb2
                clear hown2 hb2 hown HCx x0 x1 hbx
                go_wp2_with fail
                refine ⟨⟨i + 1, by omega, by go_num, HO2, HC2⟩, ?_⟩
                simp [intOf]; omega
        · obtain rfl : i = S.length := by omega
          go_wp2_with fail
          go_ret
          refine ⟨⟨_, rfl, ?_⟩, ?_⟩
          · rw [HJ.out]
            exact HO.out.base HB.out.size
          · exact HB.out.trans (HC.out.mono HB.out.size)

end Go.Proofs.Ytelpmkbjegimpaa.Spb
