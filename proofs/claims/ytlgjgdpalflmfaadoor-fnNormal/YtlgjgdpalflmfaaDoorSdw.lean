/-
  Walk: spec.l1Dots tells the same as impl.dropDots.
-/
import Derived.Test.YtlgjgdpalflmfaaDoorSdd
namespace Go.Proofs.YtlgjgdpalflmfaaDoor.Idd
open Go.RowKit
open Go.Lib
open Go.Proofs.YtlgjgdpalflmfaaDoor.Dot
open Go.Proofs.YtlgjgdpalflmfaaDoor.Ows
open Go.Proofs.YtlgjgdpalflmfaaDoor.Enc
open Go.Proofs.YtlgjgdpalflmfaaDoor.Cut

theorem l1Cut_slash (s : ByteArray) (w : World) (hs : s.size ≤ 2000000) :
    Calls Tryd.prog 68 #[.string s, .int .u8 47] w fun e w' => e = .returned (.tuple #[.string (cutA s 47), .string (cutZ s 47), .bool (cutB s 47)]) ∧ Below w.heap.size w w' := l1Cut_any s 47 w hs

/-- How many parts are left. -/
def left (v : Value) : Nat := match v with | .string T => (parts T).length | _ => 0

theorem take_told (K : List ByteArray) (j : Nat) (x : ByteArray) (h : K[j]? = some x) : told (K.take (j + 1)) = told (K.take j) ++ (slash ++ x) := by
  rw [List.take_add_one, h]; exact told_snoc _ _

theorem told_bd (K : List ByteArray) (h : ∀ p ∈ K, p.size ≤ 2000000) (hl : K.length ≤ 2000001) (j : Nat) : (told (K.take j)).size ≤ 5000000000000 := by
  have h1 := told_size 2000000 (K.take j) (fun p hp => h p (List.mem_of_mem_take hp))
  have h2 : (K.take j).length * (2000000 + 1) ≤ 2000001 * 2000001 := Nat.mul_le_mul (by rw [List.length_take]; omega) (Nat.le_refl _)
  omega

theorem drop_more {L : List ByteArray} {k : Nat} {T : ByteArray} (h : L.drop k = parts T) (hc : cutB T 47 = true) : L[k]? = some (cutA T 47) ∧ L.drop (k + 1) = parts (cutZ T 47) ∧ k + 1 < L.length := by
  rw [parts_more hc] at h
  have h1 : L.drop (k + 1) = parts (cutZ T 47) := by
    have := congrArg (List.drop 1) h
    rw [List.drop_drop] at this
    exact this
  have h2 : L[k]? = some (cutA T 47) := by
    have := congrArg (fun l => l[0]?) h
    simpa [List.getElem?_drop] using this
  have h3 := congrArg List.length h1
  rw [List.length_drop] at h3
  have := parts_ne (cutZ T 47)
  exact ⟨h2, h1, by omega⟩
theorem drop_one {L : List ByteArray} {k : Nat} {T : ByteArray} (h : L.drop k = parts T) (hc : cutB T 47 = false) : L[k]? = some (cutA T 47) ∧ k + 1 = L.length := by
  obtain ⟨e1, e2⟩ := parts_one hc
  rw [e1] at h
  have h2 : L[k]? = some (cutA T 47) := by
    have := congrArg (fun l => l[0]?) h
    rw [e2]
    simpa [List.getElem?_drop] using this
  have h3 := congrArg List.length h
  rw [List.length_drop] at h3
  simp at h3
  exact ⟨h2, by omega⟩
theorem left_less {T : ByteArray} (hc : cutB T 47 = true) : left (.string (cutZ T 47)) < left (.string T) := by
  show (parts (cutZ T 47)).length < (parts T).length
  rw [parts_more hc]; simp

set_option maxHeartbeats 6400000 in
theorem specDots_core (s : ByteArray) (L : List ByteArray) (w : World) (h1 : 1 ≤ s.size) (hs : s.size ≤ 2000000) (hL0 : 1 ≤ L.length) (hLn : L.length ≤ 2000001) (hLs : ∀ p ∈ L, p.size ≤ 2000000) (hL : parts (s.extract 1 s.size) = L) :
    Calls Tryd.prog 62 #[.string s] w fun e w' => e = .returned (.string (dots L)) ∧ Below w.heap.size w w' := by
  have HLs : Hid (∀ p ∈ L, p.size ≤ 2000000) := hLs
  have HL : Hid (parts (s.extract 1 s.size) = L) := hL
  clear hLs hL
  have hT0 : (s.extract 1 s.size).size ≤ 2000000 := by rw [ByteArray.size_extract]; omega
  go_enter Tryd.func62, Tryd.ntmps62
  go_wp2_with fail
  go_loopw [3, 4, 5] (fun v t _ wr => ∃ (k : Nat) (T : ByteArray), k < L.length ∧ T.size ≤ 2000000 ∧ t = .string T ∧ textsIn wr w.heap.size v (keptTo L k) ∧ Below w.heap.size w wr ∧ Hid (L.drop k = parts T))
    (fun _ t _ _ => left t)
  case atStart => exact ⟨0, _, by omega, hT0, rfl, World.ownsRow_nil _ _ _ _, Below.refl _ _, by show _ = _; rw [List.drop_zero]; exact HL.out.symm⟩
  case round =>
    obtain ⟨k, T, hk, hT, rfl, hown, hbel, HD⟩ := hrel
    have hB := hbel.size
    have hkn := kept_len L k
    by_cases hd1 : dot1 (cutA T 47) = true
    · have D1 : Hid (dot1 (cutA T 47) = true) := hd1
      have f1 : ((cutA T 47).toList == [46]) = true := hd1
      have f2 : ((cutA T 47).toList == [46, 46]) = false := by rw [beq_iff_eq.1 f1]; rfl
      have D2 : Hid (dot2 (cutA T 47) = false) := f2
      clear hd1
      cases hcb : cutB T 47
      · obtain ⟨hx, hkl⟩ := drop_one HD.out hcb
        have hxd : L[k]?.getD none0 = cutA T 47 := by rw [hx]; rfl
        have HXD : Hid (L[k]?.getD none0 = cutA T 47) := hxd
        have HKL : Hid (k + 1 = L.length) := hkl
        clear HD hx hxd hkl
        have HK : Hid (keptTo L L.length = keptTo L k) := by show _ = _; rw [← HKL.out]; exact kept_dot1 (by rw [HXD.out]; exact D1.out)
        rw [← HK.out] at hown hkn
        clear HK
        obtain ⟨a, cap, rfl, hcap, hcm, hgs⟩ := hown.form
        have hall := kept_of L 2000000 HLs.out L.length
        have hKl := kept_len L L.length
        have hbd := told_bd (keptTo L L.length) hall (by omega)
        have HE0 := dots_end (L := L) (by intro e; rw [e] at hL0; simp at hL0)
        rw [show L.length - 1 = k from by have := HKL.out; omega, HXD.out, told_empty] at HE0
        have HE : Hid (dots L = if ((keptTo L L.length).isEmpty || dot1 (cutA T 47) || dot2 (cutA T 47)) = true then told (keptTo L L.length) ++ slash else told (keptTo L L.length)) := HE0
        have HBD : Hid (∀ j, (told ((keptTo L L.length).take j)).size ≤ 5000000000000) := hbd
        have HALL : Hid (∀ p ∈ keptTo L L.length, p.size ≤ 2000000) := hall
        clear hbd hall HE0
        by_cases hK : keptTo L L.length = []
        · have hl0 : (keptTo L L.length).length = 0 := by rw [hK]; rfl
          have hn0 : (((keptTo L L.length).length : Nat) : Int) = 0 := by first | omega | (have := HN.out; omega)
          clear hl0
          have HR : Hid (dots L = slash) := by
            show _ = _
            rw [HE.out, hK]; rfl
          clear hK HE hgs
          go_wp2_with (go_at_call 68; refine (l1Cut_slash T _ hT).mono ?_; rintro e w1 ⟨rfl, hb1⟩; have hown1 := hown.below hb1)
          go_loop [9, 43] (fun o i => i = .int .i64 0 ∧ o = .string ⟨#[]⟩) (fun _ i => 0)
          case atStart => exact ⟨rfl, rfl⟩
          case round =>
            obtain ⟨rfl, rfl⟩ := hrel
            go_wp2
            go_ret
            exact ⟨ret_str HR.out.symm, hbel.trans (hb1.mono hB)⟩
        · have HKE : Hid ((keptTo L L.length).isEmpty = false) := by show _ = _; simpa using hK
          have HR : Hid (dots L = if (false || dot1 (cutA T 47) || dot2 (cutA T 47)) = true then told (keptTo L L.length) ++ slash else told (keptTo L L.length)) := by
            show _ = _; rw [HE.out, HKE.out]
          obtain ⟨g, rfl, hg1, hg2⟩ := hgs hK
          clear HE hK hgs
          go_wp2_with (go_at_call 68; refine (l1Cut_slash T _ hT).mono ?_; rintro e w1 ⟨rfl, hb1⟩; have hown1 := hown.below hb1)
          go_loop [9, 43] (fun o i => ∃ (j : Nat) (A : ByteArray), j ≤ (keptTo L L.length).length ∧ i = .int .i64 j ∧ o = .string A ∧ A.size ≤ 5000000000000 ∧ Hid (A = told ((keptTo L L.length).take j))) (fun _ i => (keptTo L L.length).length - (RowKit.intOf i).toNat)
          case atStart => exact ⟨0, ⟨#[]⟩, by omega, rfl, rfl, by decide, rfl⟩
          case round =>
            obtain ⟨j, A, hj, rfl, rfl, hA, HA⟩ := hrel
            by_cases hjl : j < (keptTo L L.length).length
            · obtain ⟨x, hx⟩ : ∃ x, (keptTo L L.length)[j]? = some x := ⟨_, List.getElem?_eq_getElem (by first | omega | (have := HN.out; omega))⟩
              have hcell := hown1.at j x hx
              have hxs : x.size ≤ 2000000 := HALL.out x (List.mem_of_getElem? hx)
              have HA' : Hid (A ++ ((⟨#[47]⟩ : ByteArray) ++ x) = told ((keptTo L L.length).take (j + 1))) := by
                show _ = _; rw [HA.out, take_told _ _ x hx]; rfl
              have HZ : Hid ((A ++ ((⟨#[47]⟩ : ByteArray) ++ x)).size ≤ 5000000000000) := by show _ ≤ _; rw [HA'.out]; exact HBD.out _
              have hs1 : (⟨#[47]⟩ : ByteArray).size + x.size ≤ 9223372036854775807 := by show 1 + x.size ≤ _; omega
              have hs2 : A.size + ((⟨#[47]⟩ : ByteArray) ++ x).size ≤ 9223372036854775807 := by rw [ByteArray.size_append]; show A.size + (1 + x.size) ≤ _; omega
              clear hx HA
              go_wp2
              go_round
              case rel => exact ⟨j + 1, _, by omega, by go_num, rfl, HZ.out, HA'⟩
              case measure => simp [RowKit.intOf]; omega
            · have HA2 : Hid (A = told (keptTo L L.length)) := by show _ = _; rw [HA.out, List.take_of_length_le (by first | omega | (have := HN.out; omega))]
              have hAe : A.toList.isEmpty = false := by rw [HA2.out, told_empty]; exact HKE.out
              have HR2 : Hid (dots L = A ++ ⟨#[47]⟩) := by show _ = _; rw [HR.out, D1.out, D2.out, ← HA2.out]; rfl
              clear HA
              go_wp2
              go_ret
              exact ⟨ret_str HR2.out.symm, hbel.trans (hb1.mono hB)⟩
      · obtain ⟨hx, hdr, hkl⟩ := drop_more HD.out hcb
        have hxd : L[k]?.getD none0 = cutA T 47 := by rw [hx]; rfl
        have HK : Hid (keptTo L (k + 1) = keptTo L k) := by show _ = _; exact kept_dot1 (by rw [hxd]; exact D1.out)
        have HD2 : Hid (L.drop (k + 1) = parts (cutZ T 47)) := hdr
        have HM := left_less hcb
        have hZ := Nat.le_trans (cutZ_le T 47) hT
        clear HD hx hxd hdr
        go_wp2_with (first
          | (go_at_call 68; refine (l1Cut_slash T _ hT).mono ?_; rintro e w1 ⟨rfl, hb1⟩; have hown1 := hown.below hb1))
        go_roundw
        case rel => exact ⟨k + 1, _, hkl, hZ, rfl, by rw [HK.out]; exact hown1, hbel.trans (hb1.mono hB), HD2⟩
        case measure => exact HM
    · by_cases hd2 : dot2 (cutA T 47) = true
      · have D2 : Hid (dot2 (cutA T 47) = true) := hd2
        have D1 : Hid (dot1 (cutA T 47) = false) := by show _ = _; simpa using hd1
        have f1 : ((cutA T 47).toList == [46]) = false := D1.out
        have f2 : ((cutA T 47).toList == [46, 46]) = true := hd2
        clear hd1 hd2
        by_cases hk0 : keptTo L k = []
        · have HK0 : Hid (keptTo L k = []) := hk0
          cases hcb : cutB T 47
          · obtain ⟨hx, hkl⟩ := drop_one HD.out hcb
            have hxd : L[k]?.getD none0 = cutA T 47 := by rw [hx]; rfl
            have HXD : Hid (L[k]?.getD none0 = cutA T 47) := hxd
            have HKL : Hid (k + 1 = L.length) := hkl
            clear HD hx hxd hkl
            have HK : Hid (keptTo L L.length = keptTo L k) := by show _ = _; rw [← HKL.out]; rw [kept_dot2 (by rw [HXD.out]; exact D1.out) (by rw [HXD.out]; exact D2.out), HK0.out, List.dropLast_nil]
            have hkl0 : ((keptTo L L.length).length : Int) = 0 := by rw [HK.out, hk0]; rfl
            rw [← HK.out] at hown hkn
            clear HK hk0
            obtain ⟨a, cap, rfl, hcap, hcm, hgs⟩ := hown.form
            have hall := kept_of L 2000000 HLs.out L.length
            have hKl := kept_len L L.length
            have hbd := told_bd (keptTo L L.length) hall (by omega)
            have HE0 := dots_end (L := L) (by intro e; rw [e] at hL0; simp at hL0)
            rw [show L.length - 1 = k from by have := HKL.out; omega, HXD.out, told_empty] at HE0
            have HE : Hid (dots L = if ((keptTo L L.length).isEmpty || dot1 (cutA T 47) || dot2 (cutA T 47)) = true then told (keptTo L L.length) ++ slash else told (keptTo L L.length)) := HE0
            have HBD : Hid (∀ j, (told ((keptTo L L.length).take j)).size ≤ 5000000000000) := hbd
            have HALL : Hid (∀ p ∈ keptTo L L.length, p.size ≤ 2000000) := hall
            clear hbd hall HE0
            by_cases hK : keptTo L L.length = []
            · have hl0 : (keptTo L L.length).length = 0 := by rw [hK]; rfl
              have hn0 : (((keptTo L L.length).length : Nat) : Int) = 0 := by first | omega | (have := HN.out; omega)
              clear hl0
              have HR : Hid (dots L = slash) := by
                show _ = _
                rw [HE.out, hK]; rfl
              clear hK HE hgs
              go_wp2_with (go_at_call 68; refine (l1Cut_slash T _ hT).mono ?_; rintro e w1 ⟨rfl, hb1⟩; have hown1 := hown.below hb1)
              go_loop [9, 43] (fun o i => i = .int .i64 0 ∧ o = .string ⟨#[]⟩) (fun _ i => 0)
              case atStart => exact ⟨rfl, rfl⟩
              case round =>
                obtain ⟨rfl, rfl⟩ := hrel
                go_wp2
                go_ret
                exact ⟨ret_str HR.out.symm, hbel.trans (hb1.mono hB)⟩
            · exact absurd (List.eq_nil_of_length_eq_zero (by omega)) hK
          · have hkl0 : ((keptTo L k).length : Int) = 0 := by rw [hk0]; rfl
            clear hk0
            obtain ⟨a, cap, rfl, hcap, hcm, _⟩ := hown.form
            obtain ⟨hx, hdr, hkl⟩ := drop_more HD.out hcb
            have hxd : L[k]?.getD none0 = cutA T 47 := by rw [hx]; rfl
            have HK : Hid (keptTo L (k + 1) = keptTo L k) := by show _ = _; rw [kept_dot2 (by rw [hxd]; exact D1.out) (by rw [hxd]; exact D2.out), HK0.out, List.dropLast_nil]
            have HD2 : Hid (L.drop (k + 1) = parts (cutZ T 47)) := hdr
            have HM := left_less hcb
            have hZ := Nat.le_trans (cutZ_le T 47) hT
            clear HD hx hxd hdr
            go_wp2_with (first
              | (go_at_call 68; refine (l1Cut_slash T _ hT).mono ?_; rintro e w1 ⟨rfl, hb1⟩; have hown1 := hown.below hb1))
            go_roundw
            case rel => exact ⟨k + 1, _, hkl, hZ, rfl, by rw [HK.out]; exact hown1, hbel.trans (hb1.mono hB), HD2⟩
            case measure => exact HM
        · have HK0 : Hid (keptTo L k ≠ []) := hk0
          obtain ⟨a, cap, rfl, hcap, hcm, hgs⟩ := hown.form
          obtain ⟨g, rfl, hg1, hg2⟩ := hgs hk0
          have hpos := List.length_pos_iff.2 hk0
          have hpop := hown.pop hk0
          clear hk0 hgs
          obtain ⟨n', hn'⟩ : ∃ n', (keptTo L k).length = n' + 1 := ⟨(keptTo L k).length - 1, by omega⟩
          rw [hn'] at hown hpop hcap hkn ⊢
          rw [Nat.add_sub_cancel] at hpop
          have HNk : Hid ((keptTo L k).length = n' + 1) := hn'
          clear hn' hpos
          unfold maxLen at hcm
          cases hcb : cutB T 47
          · obtain ⟨hx, hkl⟩ := drop_one HD.out hcb
            have hxd : L[k]?.getD none0 = cutA T 47 := by rw [hx]; rfl
            have HXD : Hid (L[k]?.getD none0 = cutA T 47) := hxd
            have HKL : Hid (k + 1 = L.length) := hkl
            clear HD hx hxd hkl
            have HK : Hid (keptTo L L.length = (keptTo L k).dropLast) := by show _ = _; rw [← HKL.out]; exact kept_dot2 (by rw [HXD.out]; exact D1.out) (by rw [HXD.out]; exact D2.out)
            have HN : Hid (n' = (keptTo L L.length).length) := by show _ = _; rw [HK.out, List.length_dropLast, HNk.out]; omega
            rw [← HK.out] at hpop
            clear HK
            have hall := kept_of L 2000000 HLs.out L.length
            have hKl := kept_len L L.length
            have hbd := told_bd (keptTo L L.length) hall (by omega)
            have HE0 := dots_end (L := L) (by intro e; rw [e] at hL0; simp at hL0)
            rw [show L.length - 1 = k from by have := HKL.out; omega, HXD.out, told_empty] at HE0
            have HE : Hid (dots L = if ((keptTo L L.length).isEmpty || dot1 (cutA T 47) || dot2 (cutA T 47)) = true then told (keptTo L L.length) ++ slash else told (keptTo L L.length)) := HE0
            have HBD : Hid (∀ j, (told ((keptTo L L.length).take j)).size ≤ 5000000000000) := hbd
            have HALL : Hid (∀ p ∈ keptTo L L.length, p.size ≤ 2000000) := hall
            clear hbd hall HE0
            by_cases hK : keptTo L L.length = []
            · have hl0 : (keptTo L L.length).length = 0 := by rw [hK]; rfl
              have hn0 : ((n' : Nat) : Int) = 0 := by first | omega | (have := HN.out; omega)
              clear hl0
              have HR : Hid (dots L = slash) := by
                show _ = _
                rw [HE.out, hK]; rfl
              clear hK HE
              go_wp2_with (go_at_call 68; refine (l1Cut_slash T _ hT).mono ?_; rintro e w1 ⟨rfl, hb1⟩; have hown1 := hpop.below hb1)
              go_loop [9, 43] (fun o i => i = .int .i64 0 ∧ o = .string ⟨#[]⟩) (fun _ i => 0)
              case atStart => exact ⟨rfl, rfl⟩
              case round =>
                obtain ⟨rfl, rfl⟩ := hrel
                go_wp2
                go_ret
                exact ⟨ret_str HR.out.symm, hbel.trans (hb1.mono hB)⟩
            · have HKE : Hid ((keptTo L L.length).isEmpty = false) := by show _ = _; simpa using hK
              have HR : Hid (dots L = if (false || dot1 (cutA T 47) || dot2 (cutA T 47)) = true then told (keptTo L L.length) ++ slash else told (keptTo L L.length)) := by
                show _ = _; rw [HE.out, HKE.out]
              clear HE hK
              go_wp2_with (go_at_call 68; refine (l1Cut_slash T _ hT).mono ?_; rintro e w1 ⟨rfl, hb1⟩; have hown1 := hpop.below hb1)
              go_loop [9, 43] (fun o i => ∃ (j : Nat) (A : ByteArray), j ≤ n' ∧ i = .int .i64 j ∧ o = .string A ∧ A.size ≤ 5000000000000 ∧ Hid (A = told ((keptTo L L.length).take j))) (fun _ i => n' - (RowKit.intOf i).toNat)
              case atStart => exact ⟨0, ⟨#[]⟩, by omega, rfl, rfl, by decide, rfl⟩
              case round =>
                obtain ⟨j, A, hj, rfl, rfl, hA, HA⟩ := hrel
                by_cases hjl : j < n'
                · obtain ⟨x, hx⟩ : ∃ x, (keptTo L L.length)[j]? = some x := ⟨_, List.getElem?_eq_getElem (by first | omega | (have := HN.out; omega))⟩
                  have hcell := hown1.at j x hx
                  have hxs : x.size ≤ 2000000 := HALL.out x (List.mem_of_getElem? hx)
                  have HA' : Hid (A ++ ((⟨#[47]⟩ : ByteArray) ++ x) = told ((keptTo L L.length).take (j + 1))) := by
                    show _ = _; rw [HA.out, take_told _ _ x hx]; rfl
                  have HZ : Hid ((A ++ ((⟨#[47]⟩ : ByteArray) ++ x)).size ≤ 5000000000000) := by show _ ≤ _; rw [HA'.out]; exact HBD.out _
                  have hs1 : (⟨#[47]⟩ : ByteArray).size + x.size ≤ 9223372036854775807 := by show 1 + x.size ≤ _; omega
                  have hs2 : A.size + ((⟨#[47]⟩ : ByteArray) ++ x).size ≤ 9223372036854775807 := by rw [ByteArray.size_append]; show A.size + (1 + x.size) ≤ _; omega
                  clear hx HA
                  go_wp2
                  go_round
                  case rel => exact ⟨j + 1, _, by omega, by go_num, rfl, HZ.out, HA'⟩
                  case measure => simp [RowKit.intOf]; omega
                · have HA2 : Hid (A = told (keptTo L L.length)) := by show _ = _; rw [HA.out, List.take_of_length_le (by first | omega | (have := HN.out; omega))]
                  have hAe : A.toList.isEmpty = false := by rw [HA2.out, told_empty]; exact HKE.out
                  have HR2 : Hid (dots L = A ++ ⟨#[47]⟩) := by show _ = _; rw [HR.out, D1.out, D2.out, ← HA2.out]; rfl
                  clear HA
                  go_wp2
                  go_ret
                  exact ⟨ret_str HR2.out.symm, hbel.trans (hb1.mono hB)⟩
          · obtain ⟨hx, hdr, hkl⟩ := drop_more HD.out hcb
            have hxd : L[k]?.getD none0 = cutA T 47 := by rw [hx]; rfl
            have HK : Hid (keptTo L (k + 1) = (keptTo L k).dropLast) := by show _ = _; exact kept_dot2 (by rw [hxd]; exact D1.out) (by rw [hxd]; exact D2.out)
            have HD2 : Hid (L.drop (k + 1) = parts (cutZ T 47)) := hdr
            have HM := left_less hcb
            have hZ := Nat.le_trans (cutZ_le T 47) hT
            clear HD hx hxd hdr
            go_wp2_with (first
              | (go_at_call 68; refine (l1Cut_slash T _ hT).mono ?_; rintro e w1 ⟨rfl, hb1⟩; have hown1 := hpop.below hb1))
            go_roundw
            case rel => exact ⟨k + 1, _, hkl, hZ, rfl, by rw [HK.out]; exact hown1, hbel.trans (hb1.mono hB), HD2⟩
            case measure => exact HM
      · have D1 : Hid (dot1 (cutA T 47) = false) := by show _ = _; simpa using hd1
        have D2 : Hid (dot2 (cutA T 47) = false) := by show _ = _; simpa using hd2
        have f1 : ((cutA T 47).toList == [46]) = false := D1.out
        have f2 : ((cutA T 47).toList == [46, 46]) = false := D2.out
        clear hd1 hd2
        cases hcb : cutB T 47
        · obtain ⟨hx, hkl⟩ := drop_one HD.out hcb
          have hxd : L[k]?.getD none0 = cutA T 47 := by rw [hx]; rfl
          have HXD : Hid (L[k]?.getD none0 = cutA T 47) := hxd
          have HKL : Hid (k + 1 = L.length) := hkl
          clear HD hx hxd hkl
          have HK : Hid (keptTo L L.length = keptTo L k ++ [cutA T 47]) := by show _ = _; rw [← HKL.out]; rw [kept_part (by rw [HXD.out]; exact D1.out) (by rw [HXD.out]; exact D2.out), HXD.out]
          go_wp2_with (first
            | (go_at_call 68; refine (l1Cut_slash T _ hT).mono ?_; rintro e w1 ⟨rfl, hb1⟩; have hown1 := hown.below hb1)
            | (at_builtin; refine wpList_append_text w1 rfl _ _ rfl w.heap.size _ _ (by rfl) hown1 (cutA T 47) _ rfl ?t1a ?t1b w.heap.size (Nat.le_refl _) w (hbel.trans (hb1.mono hB)) ?_))
          case t1a => omega
          case t1b => exact Nat.le_trans hB hb1.size
          intro v' w2 hown' hbel'
          rw [← HK.out] at hown'
          clear HK
          obtain ⟨a, cap, rfl, hcap, hcm, hgs⟩ := hown'.form
          have hall := kept_of L 2000000 HLs.out L.length
          have hKl := kept_len L L.length
          have hbd := told_bd (keptTo L L.length) hall (by omega)
          have HE0 := dots_end (L := L) (by intro e; rw [e] at hL0; simp at hL0)
          rw [show L.length - 1 = k from by have := HKL.out; omega, HXD.out, told_empty] at HE0
          have HE : Hid (dots L = if ((keptTo L L.length).isEmpty || dot1 (cutA T 47) || dot2 (cutA T 47)) = true then told (keptTo L L.length) ++ slash else told (keptTo L L.length)) := HE0
          have HBD : Hid (∀ j, (told ((keptTo L L.length).take j)).size ≤ 5000000000000) := hbd
          have HALL : Hid (∀ p ∈ keptTo L L.length, p.size ≤ 2000000) := hall
          clear hbd hall HE0
          by_cases hK : keptTo L L.length = []
          · have hl0 : (keptTo L L.length).length = 0 := by rw [hK]; rfl
            have hn0 : (((keptTo L L.length).length : Nat) : Int) = 0 := by first | omega | (have := HN.out; omega)
            clear hl0
            have HR : Hid (dots L = slash) := by
              show _ = _
              rw [HE.out, hK]; rfl
            clear hK HE hgs
            go_wp2
            go_loop [9, 43] (fun o i => i = .int .i64 0 ∧ o = .string ⟨#[]⟩) (fun _ i => 0)
            case atStart => exact ⟨rfl, rfl⟩
            case round =>
              obtain ⟨rfl, rfl⟩ := hrel
              go_wp2
              go_ret
              exact ⟨ret_str HR.out.symm, hbel'⟩
          · have HKE : Hid ((keptTo L L.length).isEmpty = false) := by show _ = _; simpa using hK
            have HR : Hid (dots L = if (false || dot1 (cutA T 47) || dot2 (cutA T 47)) = true then told (keptTo L L.length) ++ slash else told (keptTo L L.length)) := by
              show _ = _; rw [HE.out, HKE.out]
            obtain ⟨g, rfl, hg1, hg2⟩ := hgs hK
            clear HE hK hgs
            go_wp2
            go_loop [9, 43] (fun o i => ∃ (j : Nat) (A : ByteArray), j ≤ (keptTo L L.length).length ∧ i = .int .i64 j ∧ o = .string A ∧ A.size ≤ 5000000000000 ∧ Hid (A = told ((keptTo L L.length).take j))) (fun _ i => (keptTo L L.length).length - (RowKit.intOf i).toNat)
            case atStart => exact ⟨0, ⟨#[]⟩, by omega, rfl, rfl, by decide, rfl⟩
            case round =>
              obtain ⟨j, A, hj, rfl, rfl, hA, HA⟩ := hrel
              by_cases hjl : j < (keptTo L L.length).length
              · obtain ⟨x, hx⟩ : ∃ x, (keptTo L L.length)[j]? = some x := ⟨_, List.getElem?_eq_getElem (by first | omega | (have := HN.out; omega))⟩
                have hcell := hown'.at j x hx
                have hxs : x.size ≤ 2000000 := HALL.out x (List.mem_of_getElem? hx)
                have HA' : Hid (A ++ ((⟨#[47]⟩ : ByteArray) ++ x) = told ((keptTo L L.length).take (j + 1))) := by
                  show _ = _; rw [HA.out, take_told _ _ x hx]; rfl
                have HZ : Hid ((A ++ ((⟨#[47]⟩ : ByteArray) ++ x)).size ≤ 5000000000000) := by show _ ≤ _; rw [HA'.out]; exact HBD.out _
                have hs1 : (⟨#[47]⟩ : ByteArray).size + x.size ≤ 9223372036854775807 := by show 1 + x.size ≤ _; omega
                have hs2 : A.size + ((⟨#[47]⟩ : ByteArray) ++ x).size ≤ 9223372036854775807 := by rw [ByteArray.size_append]; show A.size + (1 + x.size) ≤ _; omega
                clear hx HA
                go_wp2
                go_round
                case rel => exact ⟨j + 1, _, by omega, by go_num, rfl, HZ.out, HA'⟩
                case measure => simp [RowKit.intOf]; omega
              · have HA2 : Hid (A = told (keptTo L L.length)) := by show _ = _; rw [HA.out, List.take_of_length_le (by first | omega | (have := HN.out; omega))]
                have hAe : A.toList.isEmpty = false := by rw [HA2.out, told_empty]; exact HKE.out
                have HR2 : Hid (dots L = A) := by show _ = _; rw [HR.out, D1.out, D2.out, ← HA2.out]; rfl
                clear HA
                go_wp2
                go_ret
                exact ⟨ret_str HR2.out.symm, hbel'⟩
        · obtain ⟨hx, hdr, hkl⟩ := drop_more HD.out hcb
          have hxd : L[k]?.getD none0 = cutA T 47 := by rw [hx]; rfl
          have HK : Hid (keptTo L (k + 1) = keptTo L k ++ [cutA T 47]) := by show _ = _; rw [kept_part (by rw [hxd]; exact D1.out) (by rw [hxd]; exact D2.out), hxd]
          have HD2 : Hid (L.drop (k + 1) = parts (cutZ T 47)) := hdr
          have HM := left_less hcb
          have hZ := Nat.le_trans (cutZ_le T 47) hT
          clear HD hx hxd hdr
          go_wp2_with (first
            | (go_at_call 68; refine (l1Cut_slash T _ hT).mono ?_; rintro e w1 ⟨rfl, hb1⟩; have hown1 := hown.below hb1)
            | (at_builtin; refine wpList_append_text w1 rfl _ _ rfl w.heap.size _ _ (by rfl) hown1 (cutA T 47) _ rfl ?t2a ?t2b w.heap.size (Nat.le_refl _) w (hbel.trans (hb1.mono hB)) ?_))
          case t2a => omega
          case t2b => exact Nat.le_trans hB hb1.size
          intro v' w2 hown' hbel'
          go_wp2
          go_roundw
          case rel => exact ⟨k + 1, _, hkl, hZ, rfl, by rw [HK.out]; exact hown', hbel', HD2⟩
          case measure => exact HM

end Go.Proofs.YtlgjgdpalflmfaaDoor.Idd
