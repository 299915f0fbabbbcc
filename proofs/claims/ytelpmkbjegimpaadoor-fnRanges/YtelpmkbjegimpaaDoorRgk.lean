/-
  Walk: spec.ReadRange, of texts without quotes.
-/
import Derived.Test.YtelpmkbjegimpaaDoorRgh
import Derived.Test.YtelpmkbjegimpaaDoorRgj
namespace Go.Proofs.YtelpmkbjegimpaaDoor.Rgb
open Go.RowKit
open Go.Proofs.YtelpmkbjegimpaaDoor.Rga
open Go.Proofs.YtelpmkbjegimpaaDoor.Spb
open Go.Proofs.YtelpmkbjegimpaaDoor.Lsp (listL l3List_any Half)
open Go.Proofs.YtelpmkbjegimpaaDoor.Ows
open Go.Proofs.YtelpmkbjegimpaaDoor.Fbs (plainB)
open Go.Proofs.YtelpmkbjegimpaaDoor.Mrk (TV RowT tv_of)

theorem in_yes (n lo hi : Int) (w : World) (h1 : lo ≤ n) (h2 : n ≤ hi) : Calls Tryd.prog 35 #[.int .i64 n, .int .i64 lo, .int .i64 hi] w fun e w' => e = .returned (.bool true) ∧ w' = w := by
  go_enter Tryd.func35, Tryd.ntmps35
  go_wp2
  go_ret
  exact ⟨Spp.ret_b (by first | rfl | exact decide_eq_true h2), rfl⟩
theorem in_no (n lo hi : Int) (w : World) (h1 : n < lo ∨ hi < n) : Calls Tryd.prog 35 #[.int .i64 n, .int .i64 lo, .int .i64 hi] w fun e w' => e = .returned (.bool false) ∧ w' = w := by
  by_cases h2 : n < lo
  · clear h1
    go_enter Tryd.func35, Tryd.ntmps35
    go_wp2
    go_ret
    exact ⟨rfl, rfl⟩
  · have h3 : hi < n := by omega
    clear h1
    go_enter Tryd.func35, Tryd.ntmps35
    go_wp2
    go_ret
    exact ⟨Spp.ret_b (by first | rfl | exact decide_eq_false (by omega)), rfl⟩

theorem told_is (s : ByteArray) : s.extract 6 s.size = toldB s := by
  apply ByteArray.ext
  apply Array.ext'
  rw [ByteArray.data_extract, Array.toList_extract]
  unfold toldB
  have hl : s.data.toList.length = s.size := by simp
  rw [List.extract_eq_take_drop, List.take_of_length_le (by rw [List.length_drop, hl]; exact Nat.le_refl _)]
theorem head_is (s : ByteArray) : (s.extract 0 6).data.toList = s.data.toList.take 6 := by
  rw [ByteArray.data_extract, Array.toList_extract]
  simp
theorem pre_iff (s : ByteArray) : Lib.hasPrefix s.data.toList PB = (s.data.toList.take 6 == PB) := by
  unfold Lib.hasPrefix
  rw [Bool.eq_iff_iff, List.isPrefixOf_iff_prefix, beq_iff_eq]
  constructor
  · intro hp; exact (List.prefix_iff_eq_take.1 hp).symm
  · intro e; rw [← e]; exact List.take_prefix _ _
theorem pre_cmp (s : ByteArray) : ((s.extract 0 6).toList == [98, 121, 116, 101, 115, 61]) = Lib.hasPrefix s.data.toList PB := by
  have e : (s.extract 0 6).toList = (s.extract 0 6).data.toList := by simp [ByteArray.toList_eq]
  rw [e, head_is, pre_iff]; rfl
theorem pre_short (s : ByteArray) (h : s.size < 6) : Lib.hasPrefix s.data.toList PB = false := by
  have hl : s.data.toList.length = s.size := by simp
  rw [Bool.eq_false_iff]
  intro hp
  unfold Lib.hasPrefix at hp
  rw [List.isPrefixOf_iff_prefix] at hp
  have := hp.length_le
  rw [show PB.length = 6 from rfl] at this
  omega

set_option maxRecDepth 20000 in
set_option maxHeartbeats 6400000 in
theorem specRead_any (s : ByteArray) (size : Int) (w : World) (hs : s.size ≤ 1000000) (hpl : plainB s.data.toList = true) (hq : ∀ c ∈ s.data.toList, c.toNat ≠ 34) :
    Calls Tryd.prog 12 #[.string s, .int .i64 size] w fun e w' => (∃ r, e = .returned (.tuple #[r, .int .i64 (readF numQ s size).2]) ∧ spansIn w' w.heap.size r (readF numQ s size).1) ∧ Below w.heap.size w w' := by
  by_cases hsz : 0 ≤ size ∧ size ≤ 1000000
  rotate_left
  · have hR := readF_bad (nm := numQ) (s := s) (size := size) (by
      unfold startB
      by_cases h0 : 0 ≤ size
      · rw [decide_eq_true h0, decide_eq_false (by omega)]; simp
      · rw [decide_eq_false h0]; simp)
    rw [hR]
    have HI : Hid (size < 0 ∨ 1000000 < size) := by show _ ∨ _; omega
    clear hR hsz hpl hq
    go_enter Tryd.func12, Tryd.ntmps12
    go_wp2_with (go_at_call 35; refine (in_no _ _ _ _ HI.out).mono ?_; rintro e w' ⟨rfl, hw⟩; obtain rfl := hw.symm)
    go_ret2
    exact ⟨⟨_, rfl, spansIn.nil _ _⟩, Below.refl _ _⟩
  have HI : Hid (0 ≤ size ∧ size ≤ 1000000) := hsz
  by_cases h6 : s.size < 6
  · have hR := readF_bad (nm := numQ) (s := s) (size := size) (by unfold startB; rw [pre_short s h6]; rfl)
    rw [hR]
    have hd : decide ((s.size : Int) < 6) = true := decide_eq_true (by omega)
    clear hR hsz hpl hq h6
    go_enter Tryd.func12, Tryd.ntmps12
    go_wp2_with (go_at_call 35; refine (in_yes _ _ _ _ HI.out.1 HI.out.2).mono ?_; rintro e w' ⟨rfl, hw⟩; obtain rfl := hw.symm)
    go_ret2
    exact ⟨⟨_, rfl, spansIn.nil _ _⟩, Below.refl _ _⟩
  have hd : decide ((s.size : Int) < 6) = false := decide_eq_false (by omega)
  have h6' : 6 ≤ s.size := by omega
  have hcmp := pre_cmp s
  cases hp : Lib.hasPrefix s.data.toList PB
  · have hR := readF_bad (nm := numQ) (s := s) (size := size) (by unfold startB; rw [hp]; rfl)
    rw [hR]
    rw [hp] at hcmp
    clear hR hsz hpl hq hp
    go_enter Tryd.func12, Tryd.ntmps12
    go_wp2_with (go_at_call 35; refine (in_yes _ _ _ _ HI.out.1 HI.out.2).mono ?_; rintro e w' ⟨rfl, hw⟩; obtain rfl := hw.symm)
    go_ret2
    exact ⟨⟨_, rfl, spansIn.nil _ _⟩, Below.refl _ _⟩
  have hst : startB s size = true := by unfold startB; rw [hp, decide_eq_true hsz.1, decide_eq_true hsz.2]; rfl
  obtain ⟨l, hl⟩ := list_plain (s := toldB s) (fun c hc => hq c (by
    have : c ∈ s.data.toList.drop 6 := by unfold toldB at hc; simpa using hc
    exact List.mem_of_mem_drop this))
  have HPr : Hid _ := fun wx => Fbs.l3Printed_any s wx (by omega)
  rw [hpl] at HPr
  have htz : (toldB s).size ≤ 2000000 := by
    have := within_len (drop_within s)
    have e1 : (toldB s).data.toList.length = (toldB s).size := by simp
    have e2 : s.data.toList.length = s.size := by simp
    omega
  have HLs : Hid _ := fun wx => l3List_any (toldB s) wx htz
  rw [hl] at HLs
  have hti := told_is s
  have hxs : s.extract 6 s.size = toldB s := hti
  rw [hp] at hcmp
  rw [readF_some hst hl]
  have HPs : Hid (∀ x ∈ l, x.size ≤ s.size) := part_size hl
  have HSz : Hid (s.size ≤ 1000000) := hs
  generalize toldB s = TB at *
  clear hst hsz hp hl htz hs hpl hq hti
  by_cases hn : 1 ≤ l.length ∧ l.length ≤ 12
  rotate_left
  · rw [readL_bad (fun h => hn ⟨h.1, h.2.1⟩)]
    have HN : Hid ((l.length : Int) < 1 ∨ 12 < (l.length : Int)) := by show _ ∨ _; omega
    clear hn
    go_enter Tryd.func12, Tryd.ntmps12
    go_wp2_with (first
      | (go_at_call 35; with_reducible refine (in_yes size 0 1000000 _ HI.out.1 HI.out.2).mono ?_; rintro e w' ⟨rfl, hw⟩; obtain rfl := hw.symm)
      | (go_at_call 36; refine (HPr.out _).mono ?_; rintro e w' ⟨rfl, hw⟩; obtain rfl := hw.symm)
      | (go_at_call 37; refine (HLs.out _).mono ?_; rintro e w2 ⟨⟨v, ok, rfl, hto⟩, hb2⟩; obtain ⟨rfl, hown⟩ := (show ok = true ∧ textsIn w2 _ v l from hto); obtain ⟨aP, cP, rfl, hTV⟩ := tv_of hown)
      | (go_at_call 35; refine (in_no _ _ _ _ HN.out).mono ?_; rintro e w' ⟨rfl, hw⟩; obtain rfl := hw.symm))
    go_ret2
    exact ⟨⟨_, rfl, spansIn.nil _ _⟩, hb2⟩
  have HN : Hid (1 ≤ (l.length : Int) ∧ (l.length : Int) ≤ 12) := by show _ ∧ _; omega
  obtain ⟨hn1, hn2⟩ := hn
  go_enter Tryd.func12, Tryd.ntmps12
  go_wp2_with (first
    | (go_at_call 35; with_reducible refine (in_yes size 0 1000000 _ HI.out.1 HI.out.2).mono ?_; rintro e w' ⟨rfl, hw⟩; obtain rfl := hw.symm)
    | (go_at_call 36; refine (HPr.out _).mono ?_; rintro e w' ⟨rfl, hw⟩; obtain rfl := hw.symm)
    | (go_at_call 37; refine (HLs.out _).mono ?_; rintro e w2 ⟨⟨v, ok, rfl, hto⟩, hb2⟩; obtain ⟨rfl, hown⟩ := (show ok = true ∧ textsIn w2 _ v l from hto); obtain ⟨aP, cP, rfl, hTV⟩ := tv_of hown)
    | (go_at_call 35; refine (in_yes _ _ _ _ HN.out.1 HN.out.2).mono ?_; rintro e w' ⟨rfl, hw⟩; obtain rfl := hw.symm))
  have HB2 : Hid (Below w.heap.size w w2) := hb2
  have HP2 : Hid (TV w2 aP l w.heap.size w2.heap.size) := hTV
  clear hb2 hTV hown hto HLs HPr HN
  go_loopw [8, 43] (fun sv c wr => ∃ i : Nat, i ≤ l.length ∧ c = .int .i64 i ∧ Hid (spansIn wr w2.heap.size sv (outG numQ size (l.take i))) ∧ Hid (Below w2.heap.size w2 wr) ∧ Hid (∀ j, (hj : j < l.length) → j < i → (oneG numQ size l[j]).isSome = true)) (fun _ c _ => l.length - (intOf c).toNat)
  case atStart => exact ⟨0, by omega, rfl, spansIn.nil _ _, Below.refl _ _, fun j _ h => absurd h (by omega)⟩
  case round =>
    obtain ⟨i, hi, rfl, HO, HB, HA⟩ := hrel
    by_cases hlt : i < l.length
    · obtain ⟨g, rfl, hgl, hc0⟩ : ∃ g, aP = some ⟨g, 0, none⟩ ∧ g < w2.heap.size ∧ w2.cell? ⟨g, i, none⟩ = some (.string l[i]) := by
        rcases HP2.out with h | ⟨g, h1, _, _, h4⟩
        · rw [h] at hlt; simp at hlt
        · exact ⟨g, h1, h4.1, h4.2.2 i _ (List.getElem?_eq_getElem hlt)⟩
      have hc := (HB.out.cell (p := ⟨g, i, none⟩) hgl).trans hc0
      have hBw : Below w.heap.size w wr := HB2.out.trans (HB.out.mono HB2.out.size)
      have HR : Hid _ := fun (_ : Unit) => l6One_any l[i] size wr (by have := HPs.out l[i] (List.getElem_mem hlt); have := HSz.out; omega) HI.out.1 HI.out.2
      have hok := @ok_take numQ size l i hlt
      have hon := @out_none numQ size l i hlt
      have hos := @out_some numQ size l i
      have hA2 : (oneG numQ size l[i]).isSome = true → ∀ j, (hj : j < l.length) → j < i + 1 → (oneG numQ size l[j]).isSome = true := by
        intro h j hj hji
        by_cases e : j = i
        · subst e; exact h
        · exact HA.out j hj (by omega)
      have HBw : Hid _ := hBw
      unfold ansQ at HR
      obtain ⟨og, hog⟩ : ∃ og, og = oneG numQ size l[i] := ⟨_, rfl⟩
      rw [← hog] at HR hok hon hA2
      have hos2 := fun p => hos (p := p) hlt
      rw [← hog] at hos2
      obtain ⟨x, hx⟩ : ∃ x, x = l[i] := ⟨_, rfl⟩
      rw [← hx] at HR hc
      have hHs : ∀ wx, Below wr.heap.size wr wx → spansIn wx w2.heap.size u8 (outG numQ size (l.take i)) := fun wx hb => HO.out.below hb
      clear hc0 hBw hos HO
      clear hx hog
      cases og with
      | none =>
        have HBad : Hid (okG numQ size l = false) := hok rfl
        clear hok hon hos2 hA2 HA
        go_wp2_with (go_at_call 38; refine (HR.out ()).mono ?_; rintro e w3 ⟨⟨F, T, c, rfl, hc2⟩, hb3⟩; obtain rfl := (show c = 2 from hc2))
        have hRL : readL numQ size l = ([], 2) := readL_bad (fun h => by have := h.2.2; rw [HBad.out] at this; cases this)
        rw [hRL]
        go_ret2
        have hb4 := HBw.out.trans (hb3.mono HBw.out.size)
        exact ⟨⟨_, rfl, spansIn.nil _ _⟩, hb4.alloc hb4.size _⟩
      | some o =>
        have HA3 : Hid _ := hA2 rfl
        cases o with
        | none =>
          have HOn : Hid _ := hon rfl
          clear hok hon hos2 hA2 HA
          go_wp2_with (go_at_call 38; refine (HR.out ()).mono ?_; rintro e w3 ⟨⟨F, T, c, rfl, hc2⟩, hb3⟩; obtain rfl := (show c = 1 from hc2); have HB3 : Hid _ := HB.out.trans (hb3.mono HB.out.size); have HS3 : Hid _ := hHs w3 hb3)
          refine ⟨⟨i + 1, by omega, by go_num, (?_ : spansIn _ _ _ _), HB3.out.alloc HB3.out.size _, HA3⟩, ?_⟩
          · rw [HOn.out]; exact spansIn.alloc HS3.out _
          · simp [intOf]; omega
        | some p =>
          obtain ⟨f, t⟩ := p
          have HOs : Hid _ := hos2 _ rfl
          clear hok hon hos2 hA2 HA
          have hol : (outG numQ size (l.take i)).length ≤ 12 := by
            have := out_len numQ size (l.take i)
            rw [List.length_take] at this
            omega
          generalize outG numQ size (l.take i) = acc at HOs hHs hol
          go_wp2_with (first
            | (go_at_call 38; refine (HR.out ()).mono ?_; rintro e w3 ⟨⟨F, T, c, rfl, hc2⟩, hb3⟩; obtain ⟨rfl, rfl, rfl⟩ := (show c = 0 ∧ F = f ∧ T = t from hc2); have HB3 : Hid (Below w2.heap.size w2 w3) := HB.out.trans (hb3.mono HB.out.size); have hS4 : spansIn (w3.alloc (.cells #[.int .i64 F, .int .i64 T] 33)) w2.heap.size u8 acc := spansIn.alloc (hHs w3 hb3) _; have HB4 : Hid (Below w2.heap.size w2 (w3.alloc (.cells #[.int .i64 F, .int .i64 T] 33))) := HB3.out.alloc HB3.out.size _; have hz4 : w2.heap.size ≤ (w3.alloc (.cells #[.int .i64 F, .int .i64 T] 33)).heap.size := HB4.out.size; clear hHs hc2)
            | (at_builtin; refine wpList_append_span (w3.alloc (.cells #[.int .i64 F, .int .i64 T] 33)) rfl _ _ rfl w2.heap.size _ acc (by rfl) hS4 F T _ (by first | rfl | (rw [World.size_alloc]; rfl)) ?q3 hz4 w2.heap.size (Nat.le_refl _) (w3.alloc (.cells #[.int .i64 F, .int .i64 T] 33)) (Below.refl _ _) ?_))
          case q3 => omega
          intro v' w5 hown' hb5
          have HS5 : Hid (spansIn w5 w2.heap.size v' (outG numQ size (l.take (i + 1)))) := by show spansIn _ _ _ _; rw [HOs.out]; exact hown'
          have HB5 : Hid (Below w2.heap.size w2 w5) := HB4.out.trans hb5
          clear hown' hb5 hS4 hz4 HB4
          go_wp2_with fail
          refine ⟨⟨i + 1, by omega, by go_num, HS5, HB5, HA3⟩, ?_⟩
          simp [intOf]; omega
    · obtain rfl : i = l.length := by omega
      have hok := ok_all (fun j hj => HA.out j hj hj)
      have hRL := readL_good hn1 hn2 hok
      have hO := HO.out
      rw [List.take_length] at hO
      have HBw : Hid (Below w.heap.size w wr) := HB2.out.trans (HB.out.mono HB2.out.size)
      have HO2 : Hid (spansIn wr w.heap.size u8 (outG numQ size l)) := hO.base HB2.out.size
      clear hok HO HA hO
      generalize outG numQ size l = acc at HO2 hRL
      obtain ⟨aS, cS, hu, hPV⟩ := pv_of HO2.out
      subst hu
      clear hPV
      by_cases h0 : acc.length = 0
      · have hd : ((acc.length : Int) == 0) = true := by rw [h0]; rfl
        have he : acc = [] := List.eq_nil_of_length_eq_zero h0
        rw [if_pos he] at hRL
        have HRL : Hid _ := hRL
        clear h0 he hRL
        go_wp2_with fail
        go_ret2
        rw [HRL.out]
        exact ⟨⟨_, rfl, spansIn.nil _ _⟩, HBw.out⟩
      · have hd : ((acc.length : Int) == 0) = false := by rw [beq_eq_false_iff_ne]; omega
        rw [if_neg (fun e => h0 (by rw [e]; rfl))] at hRL
        have HRL : Hid _ := hRL
        clear h0 hRL
        go_wp2_with fail
        go_ret2
        rw [HRL.out]
        exact ⟨⟨_, rfl, HO2.out⟩, HBw.out⟩

end Go.Proofs.YtelpmkbjegimpaaDoor.Rgb
