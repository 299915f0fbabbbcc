/-
  Walk: spec.TagsOf.
-/
import Derived.Test.YtgidmoncocbfiaaGreatDoorMg2
import Derived.Deep.RegionHeld3
namespace Go.Proofs.YtgidmoncocbfiaaGreatDoor.Tgx
open Go.RowKit
open Go.Proofs.YtgidmoncocbfiaaGreatDoor.Tga Go.Proofs.YtgidmoncocbfiaaGreatDoor.Tgb
open Go.Proofs.YtgidmoncocbfiaaGreatDoor.Lsp (listO specList_any)
open Go.Proofs.YtgidmoncocbfiaaGreatDoor.Ows
open Go.Proofs.YtgidmoncocbfiaaGreatDoor.Mrk (TV RowT tv_of)

set_option maxRecDepth 20000 in
set_option maxHeartbeats 1600000 in
theorem specTags_any (s : ByteArray) (w : World) (hs : s.size ≤ 2000000) :
    Calls Tryz.prog 61 #[.string s] w fun e w' => TagsP w' w.heap.size e (listO s) ∧ Below w.heap.size w w' := by
  have HL : Hid _ := fun wx => specList_any s wx hs
  have HZ : Hid (∀ l, listO s = some l → ∀ x ∈ l, x.size ≤ 2000000) := fun l h => part_le hs h
  generalize listO s = o at HL HZ ⊢
  cases o with
  | none =>
    go_enter Tryz.func61, Tryz.ntmps61
    go_wp2_with (go_at_call 86; refine (HL.out _).mono ?_; rintro e w2 ⟨hto, hb2⟩; obtain rfl := (show e = .returned (.tuple #[.slice none 0 0, .bool false]) from hto))
    exact bodyPost_ret (v := .tuple #[.slice none 0 0, .bool false, .bool false]) (by simp [results, Tryz.results61, go_sem]) rfl ⟨tagsP_zero kind_none, hb2⟩
  | some l =>
    have HPs : Hid (∀ x ∈ l, x.size ≤ 2000000) := HZ.out l rfl
    clear HZ
    by_cases hn : 1 ≤ l.length ∧ l.length ≤ 20
    rotate_left
    · have HN : Hid ((l.length : Int) < 1 ∨ 20 < (l.length : Int)) := by show _ ∨ _; omega
      have HK : Hid _ := kind_len hn
      clear hn
      go_enter Tryz.func61, Tryz.ntmps61
      go_wp2_with (first
        | (go_at_call 86; refine (HL.out _).mono ?_; rintro e w2 ⟨hto, hb2⟩; obtain ⟨v, rfl, hown⟩ := (show ∃ v, e = .returned (.tuple #[v, .bool true]) ∧ textsIn w2 _ v l from hto); obtain ⟨aP, cP, rfl, hTV⟩ := tv_of hown)
        | (go_at_call 29; refine (in_no _ _ _ _ HN.out).mono ?_; rintro e w' ⟨rfl, hw⟩; obtain rfl := hw.symm))
      exact bodyPost_ret (v := .tuple #[.slice none 0 0, .bool false, .bool false]) (by simp [results, Tryz.results61, go_sem]) rfl ⟨tagsP_zero HK.out, hb2⟩
    have HN : Hid (1 ≤ (l.length : Int) ∧ (l.length : Int) ≤ 20) := by show _ ∧ _; omega
    obtain ⟨hn1, hn2⟩ := hn
    cases hst : starB l
    rotate_left
    · -- the star
      have HK : Hid _ := kind_star hn1 hn2 hst
      unfold starB at hst
      rw [Bool.and_eq_true] at hst
      have hl1 : l.length = 1 := of_decide_eq_true hst.1
      obtain ⟨x, rfl⟩ : ∃ x, l = [x] := by
        match l, hl1 with
        | [x], _ => exact ⟨x, rfl⟩
      have hx : (x.toList == [42]) = true := hst.2
      clear hst hn1 hn2 hl1
      go_enter Tryz.func61, Tryz.ntmps61
      go_wp2_with (first
        | (go_at_call 86; refine (HL.out _).mono ?_; rintro e w2 ⟨hto, hb2⟩; obtain ⟨v, rfl, hown⟩ := (show ∃ v, e = .returned (.tuple #[v, .bool true]) ∧ textsIn w2 _ v [x] from hto); obtain ⟨aP, cP, rfl, hTV⟩ := tv_of hown; obtain ⟨g, rfl, hgl, hc⟩ : ∃ g, aP = some ⟨g, 0, none⟩ ∧ g < w2.heap.size ∧ w2.cell? ⟨g, 0, none⟩ = some (.string x) := one_part hTV; clear hown hTV)
        | (go_at_call 29; refine (in_yes _ _ _ _ HN.out.1 HN.out.2).mono ?_; rintro e w' ⟨rfl, hw⟩; obtain rfl := hw.symm))
      exact bodyPost_ret (v := .tuple #[.slice none 0 0, .bool true, .bool true]) (by simp [results, Tryz.results61, go_sem]) rfl ⟨tagsP_star HK.out, hb2⟩
    have HSt : Hid (starB l = false) := hst
    have hs1 := fun h => star_one h hst
    clear hst
    go_enter Tryz.func61, Tryz.ntmps61
    go_wp2_with fail
    refine (HL.out _).mono ?_
    rintro e w2 ⟨hto, hb2⟩
    obtain ⟨v, rfl, hown⟩ := (show ∃ v, e = .returned (.tuple #[v, .bool true]) ∧ textsIn w2 _ v l from hto)
    obtain ⟨aP, cP, rfl, hTV⟩ := tv_of hown
    have HB2 : Hid (Below w.heap.size w w2) := hb2
    have HP2 : Hid (TV w2 aP l w.heap.size w2.heap.size) := hTV
    obtain ⟨g, rfl, hgl, hrow⟩ := parts_row hn1 hTV
    have HG : Hid (∀ j, (h : j < l.length) → w2.cell? ⟨g, j, none⟩ = some (.string l[j])) := fun j h => hrow j h
    have hc0 := hrow 0 (by omega)
    clear hto hown hTV hb2 hrow HL HP2
    by_cases h1 : l.length = 1
    · have hx := hs1 h1
      have h1' : ((l.length : Int) == 1) = true := by rw [h1]; rfl
      clear hs1
      generalize hX : l[0]'(by omega) = X at hx hc0
      clear hX h1
      go_wp2_with (go_at_call 29; with_reducible refine (in_yes _ _ _ _ HN.out.1 HN.out.2).mono ?_; rintro e w' ⟨rfl, hw⟩; obtain rfl := hw.symm)
      clear h1'
      have HM0 : Hid (tagsIn w2 w2.heap.size (.slice none 0 0) []) := tagsIn.nil _ _
      have HMB : Hid (Below w2.heap.size w2 w2) := Below.refl _ _
      go_loopw [7, 36] (fun sv c wr => ∃ i : Nat, i ≤ l.length ∧ c = .int .i64 i ∧ Hid (tagsIn wr w2.heap.size sv (outs (l.take i))) ∧ Hid (Below w2.heap.size w2 wr) ∧ Hid (∀ j, (hj : j < l.length) → j < i → (readT l[j]).isSome = true)) (fun _ c _ => l.length - (intOf c).toNat)
      case atStart => exact ⟨0, by omega, rfl, HM0, HMB, fun j _ h => absurd h (by omega)⟩
      case round =>
        obtain ⟨i, hi, rfl, HO, HB, HA⟩ := hrel
        clear HM0 HMB
        by_cases hlt : i < l.length
        · have hc := (HB.out.cell (p := ⟨g, i, none⟩) hgl).trans (HG.out i hlt)
          have HBw : Hid (Below w.heap.size w wr) := HB2.out.trans (HB.out.mono HB2.out.size)
          have HR : Hid _ := fun wx => l7Read_any l[i] wx (HPs.out l[i] (List.getElem_mem hlt))
          have hnot := @ok_not l i hlt
          have hsome := @outs_some l i hlt
          have hA2 : (readT l[i]).isSome = true → ∀ j, (hj : j < l.length) → j < i + 1 → (readT l[j]).isSome = true := by
            intro h j hj hji
            by_cases e : j = i
            · subst e; exact h
            · exact HA.out j hj (by omega)
          obtain ⟨og, hog⟩ : ∃ og, og = readT l[i] := ⟨_, rfl⟩
          rw [← hog] at HR hnot hA2
          have hsome2 : ∀ c, og = some c → outs (l.take (i + 1)) = outs (l.take i) ++ [c] := fun c h => hsome (by rw [← hog]; exact h)
          obtain ⟨x, hx⟩ : ∃ x, x = l[i] := ⟨_, rfl⟩
          rw [← hx] at HR hc
          have hol : (outs (l.take i)).length ≤ 20 := by
            have := outs_len (l.take i)
            rw [List.length_take] at this
            omega
          have hHs : ∀ wx, Below wr.heap.size wr wx → tagsIn wx w2.heap.size u7 (outs (l.take i)) := fun wx hb => HO.out.below hb
          clear hsome HO HA hx hog
          cases og with
          | none =>
            have HK : Hid (kindR (some l) = 0) := kind_bad HSt.out (hnot rfl)
            clear hnot hsome2 hA2
            go_wp2_with fail
            refine (HR.out _).mono ?_
            rintro e w3 ⟨rfl, hb3⟩
            simp only [tagV]
            go_wp2_with fail
            exact bodyPost_ret (v := .tuple #[.slice none 0 0, .bool false, .bool false]) (by simp [results, Tryz.results61, go_sem]) rfl ⟨tagsP_zero HK.out, (HBw.out.trans (hb3.mono HBw.out.size)).alloc (HBw.out.trans (hb3.mono HBw.out.size)).size _⟩
          | some p =>
            obtain ⟨k, t⟩ := p
            have HA3 : Hid _ := hA2 rfl
            have HOs : Hid _ := hsome2 _ rfl
            clear hnot hsome2 hA2
            generalize outs (l.take i) = acc at HOs hHs hol
            go_wp2_with fail
            refine (HR.out _).mono ?_
            rintro e w3 ⟨rfl, hb3⟩
            simp only [tagV]
            have HB3 : Hid (Below w2.heap.size w2 w3) := HB.out.trans (hb3.mono HB.out.size)
            have hS4 : tagsIn (w3.alloc (.cells #[.bool k, .string t] 25)) w2.heap.size u7 acc := tagsIn.alloc (hHs w3 hb3) _
            have HB4 : Hid (Below w2.heap.size w2 (w3.alloc (.cells #[.bool k, .string t] 25))) := HB3.out.alloc HB3.out.size _
            have hz4 : w2.heap.size ≤ (w3.alloc (.cells #[.bool k, .string t] 25)).heap.size := HB4.out.size
            clear hHs hb3
            go_wp2_with (at_builtin; refine wpList_append_tag (w3.alloc (.cells #[.bool k, .string t] 25)) rfl _ _ rfl w2.heap.size _ acc (by rfl) hS4 k t _ (by first | rfl | (rw [World.size_alloc]; rfl)) ?q3 hz4 w2.heap.size (Nat.le_refl _) (w3.alloc (.cells #[.bool k, .string t] 25)) (Below.refl _ _) ?_)
            case q3 => omega
            intro v' w5 hown' hb5
            have HS5 : Hid (tagsIn w5 w2.heap.size v' (outs (l.take (i + 1)))) := by show tagsIn _ _ _ _; rw [HOs.out]; exact hown'
            have HB5 : Hid (Below w2.heap.size w2 w5) := HB4.out.trans hb5
            clear hown' hb5 hS4 hz4 HB4
            go_wp2_with fail
            refine ⟨⟨i + 1, by omega, by go_num, HS5, HB5, HA3⟩, ?_⟩
            simp [intOf]; omega
        · obtain rfl : i = l.length := by omega
          have HK : Hid _ := kind_tags hn1 hn2 HSt.out (ok_yes (fun j hj => HA.out j hj hj))
          have hO := HO.out
          rw [List.take_length] at hO
          have HBw : Hid (Below w.heap.size w wr) := HB2.out.trans (HB.out.mono HB2.out.size)
          have HO2 : Hid (tagsIn wr w.heap.size u7 (outs l)) := hO.base HB2.out.size
          clear HO HA hO
          generalize u7 = uu at HO2
          go_wp2_with fail
          exact bodyPost_ret (v := .tuple #[uu, .bool false, .bool true]) (by simp [results, Tryz.results61, go_sem]) rfl ⟨tagsP_tags HK.out HO2.out, HBw.out⟩
    · have h1' : ((l.length : Int) == 1) = false := by rw [beq_eq_false_iff_ne]; omega
      clear hs1 hc0 h1
      go_wp2_with (go_at_call 29; with_reducible refine (in_yes _ _ _ _ HN.out.1 HN.out.2).mono ?_; rintro e w' ⟨rfl, hw⟩; obtain rfl := hw.symm)
      clear h1'
      have HM0 : Hid (tagsIn w2 w2.heap.size (.slice none 0 0) []) := tagsIn.nil _ _
      have HMB : Hid (Below w2.heap.size w2 w2) := Below.refl _ _
      go_loopw [7, 36] (fun sv c wr => ∃ i : Nat, i ≤ l.length ∧ c = .int .i64 i ∧ Hid (tagsIn wr w2.heap.size sv (outs (l.take i))) ∧ Hid (Below w2.heap.size w2 wr) ∧ Hid (∀ j, (hj : j < l.length) → j < i → (readT l[j]).isSome = true)) (fun _ c _ => l.length - (intOf c).toNat)
      case atStart => exact ⟨0, by omega, rfl, HM0, HMB, fun j _ h => absurd h (by omega)⟩
      case round =>
        obtain ⟨i, hi, rfl, HO, HB, HA⟩ := hrel
        clear HM0 HMB
        by_cases hlt : i < l.length
        · have hc := (HB.out.cell (p := ⟨g, i, none⟩) hgl).trans (HG.out i hlt)
          have HBw : Hid (Below w.heap.size w wr) := HB2.out.trans (HB.out.mono HB2.out.size)
          have HR : Hid _ := fun wx => l7Read_any l[i] wx (HPs.out l[i] (List.getElem_mem hlt))
          have hnot := @ok_not l i hlt
          have hsome := @outs_some l i hlt
          have hA2 : (readT l[i]).isSome = true → ∀ j, (hj : j < l.length) → j < i + 1 → (readT l[j]).isSome = true := by
            intro h j hj hji
            by_cases e : j = i
            · subst e; exact h
            · exact HA.out j hj (by omega)
          obtain ⟨og, hog⟩ : ∃ og, og = readT l[i] := ⟨_, rfl⟩
          rw [← hog] at HR hnot hA2
          have hsome2 : ∀ c, og = some c → outs (l.take (i + 1)) = outs (l.take i) ++ [c] := fun c h => hsome (by rw [← hog]; exact h)
          obtain ⟨x, hx⟩ : ∃ x, x = l[i] := ⟨_, rfl⟩
          rw [← hx] at HR hc
          have hol : (outs (l.take i)).length ≤ 20 := by
            have := outs_len (l.take i)
            rw [List.length_take] at this
            omega
          have hHs : ∀ wx, Below wr.heap.size wr wx → tagsIn wx w2.heap.size u7 (outs (l.take i)) := fun wx hb => HO.out.below hb
          clear hsome HO HA hx hog
          cases og with
          | none =>
            have HK : Hid (kindR (some l) = 0) := kind_bad HSt.out (hnot rfl)
            clear hnot hsome2 hA2
            go_wp2_with fail
            refine (HR.out _).mono ?_
            rintro e w3 ⟨rfl, hb3⟩
            simp only [tagV]
            go_wp2_with fail
            exact bodyPost_ret (v := .tuple #[.slice none 0 0, .bool false, .bool false]) (by simp [results, Tryz.results61, go_sem]) rfl ⟨tagsP_zero HK.out, (HBw.out.trans (hb3.mono HBw.out.size)).alloc (HBw.out.trans (hb3.mono HBw.out.size)).size _⟩
          | some p =>
            obtain ⟨k, t⟩ := p
            have HA3 : Hid _ := hA2 rfl
            have HOs : Hid _ := hsome2 _ rfl
            clear hnot hsome2 hA2
            generalize outs (l.take i) = acc at HOs hHs hol
            go_wp2_with fail
            refine (HR.out _).mono ?_
            rintro e w3 ⟨rfl, hb3⟩
            simp only [tagV]
            have HB3 : Hid (Below w2.heap.size w2 w3) := HB.out.trans (hb3.mono HB.out.size)
            have hS4 : tagsIn (w3.alloc (.cells #[.bool k, .string t] 25)) w2.heap.size u7 acc := tagsIn.alloc (hHs w3 hb3) _
            have HB4 : Hid (Below w2.heap.size w2 (w3.alloc (.cells #[.bool k, .string t] 25))) := HB3.out.alloc HB3.out.size _
            have hz4 : w2.heap.size ≤ (w3.alloc (.cells #[.bool k, .string t] 25)).heap.size := HB4.out.size
            clear hHs hb3
            go_wp2_with (at_builtin; refine wpList_append_tag (w3.alloc (.cells #[.bool k, .string t] 25)) rfl _ _ rfl w2.heap.size _ acc (by rfl) hS4 k t _ (by first | rfl | (rw [World.size_alloc]; rfl)) ?q3 hz4 w2.heap.size (Nat.le_refl _) (w3.alloc (.cells #[.bool k, .string t] 25)) (Below.refl _ _) ?_)
            case q3 => omega
            intro v' w5 hown' hb5
            have HS5 : Hid (tagsIn w5 w2.heap.size v' (outs (l.take (i + 1)))) := by show tagsIn _ _ _ _; rw [HOs.out]; exact hown'
            have HB5 : Hid (Below w2.heap.size w2 w5) := HB4.out.trans hb5
            clear hown' hb5 hS4 hz4 HB4
            go_wp2_with fail
            refine ⟨⟨i + 1, by omega, by go_num, HS5, HB5, HA3⟩, ?_⟩
            simp [intOf]; omega
        · obtain rfl : i = l.length := by omega
          have HK : Hid _ := kind_tags hn1 hn2 HSt.out (ok_yes (fun j hj => HA.out j hj hj))
          have hO := HO.out
          rw [List.take_length] at hO
          have HBw : Hid (Below w.heap.size w wr) := HB2.out.trans (HB.out.mono HB2.out.size)
          have HO2 : Hid (tagsIn wr w.heap.size u7 (outs l)) := hO.base HB2.out.size
          clear HO HA hO
          generalize u7 = uu at HO2
          go_wp2_with fail
          exact bodyPost_ret (v := .tuple #[uu, .bool false, .bool true]) (by simp [results, Tryz.results61, go_sem]) rfl ⟨tagsP_tags HK.out HO2.out, HBw.out⟩

end Go.Proofs.YtgidmoncocbfiaaGreatDoor.Tgx
