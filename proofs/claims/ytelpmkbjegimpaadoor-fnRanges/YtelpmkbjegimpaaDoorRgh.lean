/-
  Walk: impl.ReadRange.
-/
import Derived.Test.YtelpmkbjegimpaaDoorRge
import Derived.Test.YtelpmkbjegimpaaDoorLit
import Derived.Test.YtelpmkbjegimpaaDoorMrk
import Derived.Laws.StructEq
namespace Go.Proofs.YtelpmkbjegimpaaDoor.Rgb
open Go.RowKit
open Go.Proofs.YtelpmkbjegimpaaDoor.Fch (Tab)
open Go.Proofs.YtelpmkbjegimpaaDoor.Rga
open Go.Proofs.YtelpmkbjegimpaaDoor.Spb
open Go.Proofs.YtelpmkbjegimpaaDoor.Lsp (listL)
open Go.Proofs.YtelpmkbjegimpaaDoor.Ows
open Go.Proofs.YtelpmkbjegimpaaDoor.Mrk (TV RowT tv_of)

theorem within_len {a b : List UInt8} (h : Within a b) : a.length ≤ b.length := by
  obtain ⟨u, v, rfl⟩ := h
  simp; omega
theorem part_size {s : ByteArray} {l : List ByteArray} (h : listL (toldB s) = some l) : ∀ x ∈ l, x.size ≤ s.size := by
  intro x hx
  have := within_len ((list_within h x hx).trans (drop_within s))
  have e1 : x.data.toList.length = x.size := by simp
  have e2 : s.data.toList.length = s.size := by simp
  omega
theorem prefix_bytes (s : ByteArray) (w : World) : Calls Tryd.prog 25 #[.string s, .string ⟨#[98, 121, 116, 101, 115, 61]⟩] w fun e w' => (∃ T : ByteArray, e = .returned (.tuple #[.string T, .bool (Lib.hasPrefix s.data.toList PB)]) ∧ (Lib.hasPrefix s.data.toList PB = true → T = toldB s)) ∧ w' = w := by
  refine (Tryd.strings_CutPrefix s ⟨#[98, 121, 116, 101, 115, 61]⟩ w).mono ?_
  rintro e w' ⟨rfl, rfl⟩
  refine ⟨⟨_, rfl, fun h => ?_⟩, rfl⟩
  have h2 : Lib.hasPrefix s.data.toList (⟨#[98, 121, 116, 101, 115, 61]⟩ : ByteArray).data.toList = true := h
  unfold Lib.trimPrefix
  rw [if_pos h2]; rfl
theorem ok_all {nm : ByteArray → Int} {size : Int} {l : List ByteArray} (h : ∀ j, (hj : j < l.length) → (oneG nm size l[j]).isSome = true) : okG nm size l = true := by
  unfold okG
  rw [List.all_eq_true]
  intro x hx
  obtain ⟨j, hj, rfl⟩ := List.getElem_of_mem hx
  exact h j hj
theorem readF_bad {nm : ByteArray → Int} {s : ByteArray} {size : Int} (h : startB s size = false) : readF nm s size = ([], 2) := by unfold readF; rw [h]; rfl
theorem readF_none {nm : ByteArray → Int} {s : ByteArray} {size : Int} (h : startB s size = true) (hl : listL (toldB s) = none) : readF nm s size = ([], 2) := by unfold readF; rw [h, hl]; rfl
theorem readF_some {nm : ByteArray → Int} {s : ByteArray} {size : Int} {l : List ByteArray} (h : startB s size = true) (hl : listL (toldB s) = some l) : readF nm s size = readL nm size l := by unfold readF; rw [h, hl]; rfl
theorem readL_bad {nm : ByteArray → Int} {size : Int} {l : List ByteArray} (h : ¬ (1 ≤ l.length ∧ l.length ≤ 12 ∧ okG nm size l = true)) : readL nm size l = ([], 2) := by unfold readL; rw [if_neg h]
theorem readL_good {nm : ByteArray → Int} {size : Int} {l : List ByteArray} (h1 : 1 ≤ l.length) (h2 : l.length ≤ 12) (h3 : okG nm size l = true) : readL nm size l = if outG nm size l = [] then ([], 1) else (outG nm size l, 0) := by unfold readL; rw [if_pos ⟨h1, h2, h3⟩]

theorem neq_zero (f t : Int) (h : t ≠ 0) (wx : World) : (binOp .neq 33 (.agg #[.int .i64 f, .int .i64 t]) (.agg #[.int .i64 0, .int .i64 0])).run Tryd.prog wx = .ok (.bool true) wx := by
  by_cases hf : f = 0
  · subst hf
    simp [go_sem, h]
  · simp [go_sem, hf]

set_option maxRecDepth 20000 in
set_option maxHeartbeats 6400000 in
theorem implRead_any (s : ByteArray) (size m : Int) (w : World) (hT : Tab w) (hs : s.size ≤ 1000000) (hm : w.cell? ⟨0, 0, none⟩ = some (.int .i64 m)) :
    Calls Tryd.prog 9 #[.string s, .int .i64 size] w fun e w' => (∃ r, e = .returned (.tuple #[r, .int .i64 (readF numP s size).2]) ∧ spansIn w' w.heap.size r (readF numP s size).1) ∧ Below w.heap.size w w' := by
  have hlt := hT.lt
  have hml := World.block_lt_of_cell? _ _ hm
  have HTab : Hid (∀ wx, Below w.heap.size w wx → Tab wx) := fun wx hb => hT.below hb hlt
  have HMax : Hid (∀ wx, Below w.heap.size w wx → wx.cell? ⟨0, 0, none⟩ = some (.int .i64 m)) := fun wx hb => (hb.cell (p := ⟨0, 0, none⟩) hml).trans hm
  have HPre : Hid _ := fun wx => prefix_bytes s wx
  clear hT hm hml hlt
  cases hp : Lib.hasPrefix s.data.toList PB
  · have hR := readF_bad (nm := numP) (s := s) (size := size) (by unfold startB; rw [hp]; rfl)
    rw [hR]
    rw [hp] at HPre
    clear hR hp
    go_enter Tryd.func9, Tryd.ntmps9
    go_wp2_with (go_at_call 25; refine (HPre.out _).mono ?_; rintro e w' ⟨⟨T, rfl, _⟩, hw⟩; obtain rfl := hw.symm)
    go_ret2
    exact ⟨⟨_, rfl, spansIn.nil _ _⟩, Below.refl _ _⟩
  by_cases hsz : 0 ≤ size ∧ size ≤ 1000000
  rotate_left
  · have hR := readF_bad (nm := numP) (s := s) (size := size) (by
      unfold startB
      by_cases h0 : 0 ≤ size
      · rw [hp, decide_eq_true h0, decide_eq_false (by omega)]; rfl
      · rw [hp, decide_eq_false h0]; rfl)
    rw [hR]
    rw [hp] at HPre
    have HI : Hid (size < 0 ∨ 1000000 < size) := by show _ ∨ _; omega
    clear hR hp hsz
    go_enter Tryd.func9, Tryd.ntmps9
    go_wp2_with (first
      | (go_at_call 25; refine (HPre.out _).mono ?_; rintro e w' ⟨⟨T, rfl, _⟩, hw⟩; obtain rfl := hw.symm)
      | (go_at_call 26; refine (between_no _ _ _ _ HI.out).mono ?_; rintro e w' ⟨rfl, hw⟩; obtain rfl := hw.symm))
    go_ret2
    exact ⟨⟨_, rfl, spansIn.nil _ _⟩, Below.refl _ _⟩
  have hst : startB s size = true := by unfold startB; rw [hp, decide_eq_true hsz.1, decide_eq_true hsz.2]; rfl
  have HI : Hid (0 ≤ size ∧ size ≤ 1000000) := hsz
  have htz : (toldB s).size ≤ 2000000 := by
    have := within_len (drop_within s)
    have e1 : (toldB s).data.toList.length = (toldB s).size := by simp
    have e2 : s.data.toList.length = s.size := by simp
    omega
  have HPar : Hid _ := fun wx => Lit.partsOf_any (toldB s) wx htz
  rw [hp] at HPre
  have hps := @part_size s
  cases hl : listL (toldB s) with
  | none =>
    rw [readF_none hst hl]
    rw [hl] at HPar
    clear hst hsz hp hl htz hps
    go_enter Tryd.func9, Tryd.ntmps9
    go_wp2_with (first
      | (go_at_call 25; refine (HPre.out _).mono ?_; rintro e w' ⟨⟨T, rfl, hT2⟩, hw⟩; obtain rfl := hw.symm; obtain rfl := hT2 rfl)
      | (go_at_call 26; refine (between_yes _ _ _ _ HI.out.1 HI.out.2).mono ?_; rintro e w' ⟨rfl, hw⟩; obtain rfl := hw.symm)
      | (go_at_call 27; refine (HPar.out _).mono ?_; rintro e w2 ⟨hto, hb2⟩; obtain rfl := (show e = .returned (.tuple #[.slice none 0 0, .bool false]) from hto)))
    go_ret2
    exact ⟨⟨_, rfl, spansIn.nil _ _⟩, hb2⟩
  | some l =>
    rw [readF_some hst hl]
    rw [hl] at HPar
    have HPs : Hid (∀ x ∈ l, x.size ≤ s.size) := hps hl
    have HSz : Hid (s.size ≤ 1000000) := hs
    clear hst hsz hp hl htz hps hs
    by_cases hn : 1 ≤ l.length ∧ l.length ≤ 12
    rotate_left
    · rw [readL_bad (fun h => hn ⟨h.1, h.2.1⟩)]
      have HN : Hid ((l.length : Int) < 1 ∨ 12 < (l.length : Int)) := by show _ ∨ _; omega
      clear hn
      go_enter Tryd.func9, Tryd.ntmps9
      go_wp2_with (first
        | (go_at_call 25; refine (HPre.out _).mono ?_; rintro e w' ⟨⟨T, rfl, hT2⟩, hw⟩; obtain rfl := hw.symm; obtain rfl := hT2 rfl)
        | (go_at_call 26; with_reducible refine (between_yes 0 size 1000000 _ HI.out.1 HI.out.2).mono ?_; rintro e w' ⟨rfl, hw⟩; obtain rfl := hw.symm)
        | (go_at_call 27; refine (HPar.out _).mono ?_; rintro e w2 ⟨hto, hb2⟩; obtain ⟨v, rfl, hown⟩ := (show ∃ v, e = .returned (.tuple #[v, .bool true]) ∧ textsIn w2 _ v l from hto); obtain ⟨aP, cP, rfl, hTV⟩ := tv_of hown)
        | (go_at_call 26; refine (between_no _ _ _ _ HN.out).mono ?_; rintro e w' ⟨rfl, hw⟩; obtain rfl := hw.symm))
      go_ret2
      exact ⟨⟨_, rfl, spansIn.nil _ _⟩, hb2⟩
    have HN : Hid (1 ≤ (l.length : Int) ∧ (l.length : Int) ≤ 12) := by show _ ∧ _; omega
    obtain ⟨hn1, hn2⟩ := hn
    go_enter Tryd.func9, Tryd.ntmps9
    go_wp2_with (first
      | (go_at_call 25; refine (HPre.out _).mono ?_; rintro e w' ⟨⟨T, rfl, hT2⟩, hw⟩; obtain rfl := hw.symm; obtain rfl := hT2 rfl)
      | (go_at_call 26; with_reducible refine (between_yes 0 size 1000000 _ HI.out.1 HI.out.2).mono ?_; rintro e w' ⟨rfl, hw⟩; obtain rfl := hw.symm)
      | (go_at_call 27; refine (HPar.out _).mono ?_; rintro e w2 ⟨hto, hb2⟩; obtain ⟨v, rfl, hown⟩ := (show ∃ v, e = .returned (.tuple #[v, .bool true]) ∧ textsIn w2 _ v l from hto); obtain ⟨aP, cP, rfl, hTV⟩ := tv_of hown)
      | (go_at_call 26; refine (between_yes _ _ _ _ HN.out.1 HN.out.2).mono ?_; rintro e w' ⟨rfl, hw⟩; obtain rfl := hw.symm))
    have HB2 : Hid (Below w.heap.size w w2) := hb2
    have HP2 : Hid (TV w2 aP l w.heap.size w2.heap.size) := hTV
    have HM0 : Hid (spansIn (w2.alloc (.cells #[] 33)) w2.heap.size (.slice (some ⟨w2.heap.size, 0, none⟩) 0 0) []) := spansIn.made w2 _ (Nat.le_refl _)
    have HMB : Hid (Below w2.heap.size w2 (w2.alloc (.cells #[] 33))) := (Below.refl _ _).alloc (Nat.le_refl _) _
    clear hb2 hTV hown hto HPar HPre HN
    go_loopw [10, 43] (fun sv c wr => ∃ i : Nat, i ≤ l.length ∧ c = .int .i64 i ∧ Hid (spansIn wr w2.heap.size sv (outG numP size (l.take i))) ∧ Hid (Below w2.heap.size w2 wr) ∧ Hid (∀ j, (hj : j < l.length) → j < i → (oneG numP size l[j]).isSome = true)) (fun _ c _ => l.length - (intOf c).toNat)
    case atStart => exact ⟨0, by omega, rfl, HM0, HMB, fun j _ h => absurd h (by omega)⟩
    case round =>
      obtain ⟨i, hi, rfl, HO, HB, HA⟩ := hrel
      clear HM0 HMB
      by_cases hlt : i < l.length
      · obtain ⟨g, rfl, hgl, hc0⟩ : ∃ g, aP = some ⟨g, 0, none⟩ ∧ g < w2.heap.size ∧ w2.cell? ⟨g, i, none⟩ = some (.string l[i]) := by
          rcases HP2.out with h | ⟨g, h1, _, _, h4⟩
          · rw [h] at hlt; simp at hlt
          · exact ⟨g, h1, h4.1, h4.2.2 i _ (List.getElem?_eq_getElem hlt)⟩
        have hc := (HB.out.cell (p := ⟨g, i, none⟩) hgl).trans hc0
        have hBw : Below w.heap.size w wr := HB2.out.trans (HB.out.mono HB2.out.size)
        have HR : Hid _ := fun (_ : Unit) => readRange_any l[i] size m wr (HTab.out wr hBw) (by have := HPs.out l[i] (List.getElem_mem hlt); have := HSz.out; omega) (HMax.out wr hBw) HI.out.1 HI.out.2
        have hok := @ok_take numP size l i hlt
        have hon := @out_none numP size l i hlt
        have hos := @out_some numP size l i
        have hwi : ∀ p, oneG numP size l[i] = some (some p) → 0 ≤ p.1 ∧ p.1 < p.2 ∧ p.2 ≤ size := fun p h => one_within h
        have hA2 : (oneG numP size l[i]).isSome = true → ∀ j, (hj : j < l.length) → j < i + 1 → (oneG numP size l[j]).isSome = true := by
          intro h j hj hji
          by_cases e : j = i
          · subst e; exact h
          · exact HA.out j hj (by omega)
        have HBw : Hid _ := hBw
        unfold ansR at HR
        obtain ⟨og, hog⟩ : ∃ og, og = oneG numP size l[i] := ⟨_, rfl⟩
        rw [← hog] at HR hok hon hwi hA2
        have hos2 := fun p => hos (p := p) hlt
        rw [← hog] at hos2
        obtain ⟨x, hx⟩ : ∃ x, x = l[i] := ⟨_, rfl⟩
        rw [← hx] at HR hc
        have hHs : ∀ wx, Below wr.heap.size wr wx → spansIn wx w2.heap.size u10 (outG numP size (l.take i)) := fun wx hb => HO.out.below hb
        clear hc0 hBw hos HO
        clear hx hog
        cases og with
        | none =>
          have HBad : Hid (okG numP size l = false) := hok rfl
          clear hok hon hos2 hwi hA2 HA
          go_wp2_with (go_at_call 28; refine (HR.out ()).mono ?_; rintro e w3 ⟨⟨F, T, b, rfl, rfl, _⟩, hb3⟩)
          have hRL : readL numP size l = ([], 2) := readL_bad (fun h => by have := h.2.2; rw [HBad.out] at this; cases this)
          rw [hRL]
          go_ret2
          have hb4 := HBw.out.trans (hb3.mono HBw.out.size)
          exact ⟨⟨_, rfl, spansIn.nil _ _⟩, hb4.alloc hb4.size _⟩
        | some o =>
          have HA3 : Hid _ := hA2 rfl
          cases o with
          | none =>
            have HOn : Hid _ := hon rfl
            clear hok hon hos2 hwi hA2 HA
            go_wp2_with (go_at_call 28; refine (HR.out ()).mono ?_; rintro e w3 ⟨⟨F, T, b, rfl, rfl, hFT⟩, hb3⟩; obtain ⟨rfl, rfl⟩ := hFT _ rfl; have HB3 : Hid _ := HB.out.trans (hb3.mono HB.out.size); have HS3 : Hid _ := hHs w3 hb3)
            refine ⟨⟨i + 1, by omega, by go_num, (?_ : spansIn _ _ _ _), HB3.out.alloc HB3.out.size _, HA3⟩, ?_⟩
            · rw [HOn.out]; exact spansIn.alloc HS3.out _
            · simp [intOf]; omega
          | some p =>
            obtain ⟨f, t⟩ := p
            have HOs : Hid _ := hos2 _ rfl
            obtain ⟨p1, p2, p3⟩ := hwi _ rfl
            dsimp only at p1 p2 p3
            have hne := fun wx => neq_zero f t (by omega) wx
            clear hok hon hos2 hwi hA2 HA
            have hol : (outG numP size (l.take i)).length ≤ 12 := by
              have := out_len numP size (l.take i)
              rw [List.length_take] at this
              omega
            generalize outG numP size (l.take i) = acc at HOs hHs hol
            go_wp2_with (first
              | (go_at_call 28; refine (HR.out ()).mono ?_; rintro e w3 ⟨⟨F, T, b, rfl, rfl, hFT⟩, hb3⟩; obtain ⟨rfl, rfl⟩ := (show F = f ∧ T = t from hFT _ rfl); have HB3 : Hid (Below w2.heap.size w2 w3) := HB.out.trans (hb3.mono HB.out.size); have hS4 : spansIn (w3.alloc (.cells #[.int .i64 F, .int .i64 T] 33)) w2.heap.size u10 acc := spansIn.alloc (hHs w3 hb3) _; have HB4 : Hid (Below w2.heap.size w2 (w3.alloc (.cells #[.int .i64 F, .int .i64 T] 33))) := HB3.out.alloc HB3.out.size _; have hz4 : w2.heap.size ≤ (w3.alloc (.cells #[.int .i64 F, .int .i64 T] 33)).heap.size := HB4.out.size; clear hHs hFT)
              | (at_builtin; refine wpList_append_span (w3.alloc (.cells #[.int .i64 F, .int .i64 T] 33)) rfl _ _ rfl w2.heap.size _ acc (by rfl) hS4 F T _ (by first | rfl | (rw [World.size_alloc]; rfl)) ?q3 hz4 w2.heap.size (Nat.le_refl _) (w3.alloc (.cells #[.int .i64 F, .int .i64 T] 33)) (Below.refl _ _) ?_))
            case q3 => omega
            intro v' w5 hown' hb5
            have HS5 : Hid (spansIn w5 w2.heap.size v' (outG numP size (l.take (i + 1)))) := by show spansIn _ _ _ _; rw [HOs.out]; exact hown'
            have HB5 : Hid (Below w2.heap.size w2 w5) := HB4.out.trans hb5
            clear hown' hb5 hS4 hz4 HB4
            go_wp2_with fail
            refine ⟨⟨i + 1, by omega, by go_num, HS5, HB5, HA3⟩, ?_⟩
            simp [intOf]; omega
      · obtain rfl : i = l.length := by omega
        have hok := ok_all (fun j hj => HA.out j hj hj)
        have hRL := readL_good hn1 hn2 hok
        have hO := HO.out
        rw [List.take_length] at hO
        have HBw : Hid (Below w.heap.size w wr) := HB2.out.trans (HB.out.mono HB2.out.size)
        have HO2 : Hid (spansIn wr w.heap.size u10 (outG numP size l)) := hO.base HB2.out.size
        clear hok HO HA hO
        generalize outG numP size l = acc at HO2 hRL
        obtain ⟨aS, cS, hu, hPV⟩ := pv_of HO2.out
        subst hu
        clear hPV
        by_cases h0 : acc.length = 0
        · have hd : ((acc.length : Int) == 0) = true := by rw [h0]; rfl
          have he : acc = [] := List.eq_nil_of_length_eq_zero h0
          rw [if_pos he] at hRL
          have HRL : Hid _ := hRL
          clear h0 he hRL
          go_wp2_with fail
          go_ret2
          rw [HRL.out]
          exact ⟨⟨_, rfl, spansIn.nil _ _⟩, HBw.out⟩
        · have hd : ((acc.length : Int) == 0) = false := by rw [beq_eq_false_iff_ne]; omega
          rw [if_neg (fun e => h0 (by rw [e]; rfl))] at hRL
          have HRL : Hid _ := hRL
          clear h0 hRL
          go_wp2_with fail
          go_ret2
          rw [HRL.out]
          exact ⟨⟨_, rfl, HO2.out⟩, HBw.out⟩

end Go.Proofs.YtelpmkbjegimpaaDoor.Rgb
