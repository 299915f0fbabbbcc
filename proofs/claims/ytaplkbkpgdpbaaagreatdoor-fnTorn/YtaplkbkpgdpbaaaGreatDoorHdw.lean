/-
  Walks: spec.l4End, spec.l4Lines.
-/
import Derived.Test.YtaplkbkpgdpbaaaGreatDoorMg8
namespace Go.Proofs.YtaplkbkpgdpbaaaGreatDoor.Hdl
open Go.RowKit Go.Lib
open Go.Proofs.YtaplkbkpgdpbaaaGreatDoor.Fbs
open Go.Proofs.YtaplkbkpgdpbaaaGreatDoor.Ows
open Go.Proofs.YtaplkbkpgdpbaaaGreatDoor

theorem occ_iff (s : ByteArray) (k : Nat) (h : k + 1 < s.size) : occAt s.data.toList C k = true ↔ s[k].toNat = 13 ∧ s[k + 1].toNat = 10 := by
  have hl := len_list s
  unfold occAt
  rw [List.isPrefixOf_iff_prefix]
  have e : s.data.toList.drop k = s[k] :: s[k + 1] :: s.data.toList.drop (k + 2) := by
    rw [List.drop_eq_getElem_cons (show k < s.data.toList.length by omega), List.drop_eq_getElem_cons (show k + 1 < s.data.toList.length by omega)]
    rfl
  rw [e]
  constructor
  · rintro ⟨t, ht⟩
    have ht : (13 : UInt8) :: 10 :: t = s[k] :: s[k + 1] :: s.data.toList.drop (k + 2) := ht
    injection ht with h1 h2
    injection h2 with h2 _
    rw [← h1, ← h2]
    exact ⟨rfl, rfl⟩
  · rintro ⟨h1, h2⟩
    have e1 : s[k] = 13 := UInt8.toNat_inj.1 h1
    have e2 : s[k + 1] = 10 := UInt8.toNat_inj.1 h2
    exact ⟨s.data.toList.drop (k + 2), by rw [e1, e2]; rfl⟩
theorem occ_far {s : ByteArray} {k : Nat} (h : s.size ≤ k + 1) : occAt s.data.toList C k = false := by
  cases hc : occAt s.data.toList C k
  · rfl
  · have hl := len_list s
    have h2 : C.length = 2 := rfl
    rcases occAt_room hc with hr | hr
    · omega
    · cases hr

/-- Where a line ends, from 'fr' on. -/
def endI (s : ByteArray) (fr : Nat) : Int := if index (s.data.toList.drop fr) C = -1 then -1 else index (s.data.toList.drop fr) C + fr
theorem end_hit {s : ByteArray} {fr k : Nat} (hfr : fr ≤ k) (hk : k + 1 < s.size) (ho : occAt s.data.toList C k = true) (hn : ∀ j, fr ≤ j → j < k → occAt s.data.toList C j = false) : endI s fr = k := by
  have hl := len_list s
  have h : index (s.data.toList.drop fr) C = ((k - fr : Nat) : Int) := index_first (by rw [List.length_drop]; omega) (by rw [occ_drop, show fr + (k - fr) = k from by omega]; exact ho) (fun j hj => by rw [occ_drop]; exact hn _ (by omega) (by omega))
  unfold endI
  rw [h, if_neg (by omega)]
  omega
theorem end_none {s : ByteArray} {fr : Nat} (hn : ∀ j, fr ≤ j → j + 1 < s.size → occAt s.data.toList C j = false) : endI s fr = -1 := by
  have h : index (s.data.toList.drop fr) C = -1 := index_none (fun j hj => by
    rw [occ_drop]
    by_cases h : fr + j + 1 < s.size
    · exact hn _ (by omega) h
    · exact occ_far (by omega))
  unfold endI
  rw [if_pos h]
theorem ret_i {a b : Int} (h : a = b) : Ending.returned (.int .i64 a) = .returned (.int .i64 b) := by rw [h]

set_option maxHeartbeats 800000 in
theorem l4End_any (s : ByteArray) (fr : Nat) (w : World) (hs : s.size ≤ 2000000) (hfr : fr ≤ s.size) :
    Calls Tryz.prog 102 #[.string s, .int .i64 fr] w fun e w' => e = .returned (.int .i64 (endI s fr)) ∧ w' = w := by
  have HH : Hid (∀ k, fr ≤ k → k + 1 < s.size → occAt s.data.toList C k = true → (∀ j, fr ≤ j → j < k → occAt s.data.toList C j = false) → endI s fr = k) := fun k h1 h2 h3 h4 => end_hit h1 h2 h3 h4
  have HN : Hid ((∀ j, fr ≤ j → j + 1 < s.size → occAt s.data.toList C j = false) → endI s fr = -1) := end_none
  generalize endI s fr = T at HH HN ⊢
  go_enter Tryz.func102, Tryz.ntmps102
  go_wp2_with fail
  go_loop [5] (fun i => ∃ k : Nat, fr ≤ k ∧ k ≤ s.size ∧ i = .int .i64 k ∧ Hid (∀ j, fr ≤ j → j < k → occAt s.data.toList C j = false)) (fun i => s.size - (RowKit.intOf i).toNat)
  case atStart => exact ⟨fr, Nat.le_refl _, hfr, rfl, fun j h1 h2 => absurd h2 (by omega)⟩
  case round =>
    obtain ⟨k, hk0, hk, rfl, HA⟩ := hrel
    by_cases hlt : k + 1 < s.size
    · have hd : decide ((k : Int) + 1 < (s.size : Int)) = true := decide_eq_true (by omega)
      have hiff := occ_iff s k hlt
      cases ho : occAt s.data.toList C k
      · have HA' : Hid (∀ j, fr ≤ j → j < k + 1 → occAt s.data.toList C j = false) := by
          intro j h1 h2
          by_cases e : j = k
          · subst e; exact ho
          · exact HA.out j h1 (by omega)
        rw [ho] at hiff
        by_cases h13 : s[k].toNat = 13
        · have b1 : ((s[k].toNat : Int) == 13) = true := by rw [beq_iff_eq]; omega
          have b2 : ((s[k + 1].toNat : Int) == 10) = false := by
            rw [beq_eq_false_iff_ne]; intro e
            have := hiff.2 ⟨h13, by omega⟩
            cases this
          clear hiff HA ho h13
          go_wp2_with fail
          go_round
          case rel => exact ⟨k + 1, by omega, by omega, by go_num, HA'⟩
          case measure => simp [RowKit.intOf]; omega
        · have b1 : ((s[k].toNat : Int) == 13) = false := by rw [beq_eq_false_iff_ne]; omega
          clear hiff HA ho h13
          go_wp2_with fail
          go_round
          case rel => exact ⟨k + 1, by omega, by omega, by go_num, HA'⟩
          case measure => simp [RowKit.intOf]; omega
      · have HR : Hid (T = k) := HH.out k hk0 hlt ho HA.out
        obtain ⟨h13, h10⟩ := hiff.1 ho
        have b1 : ((s[k].toNat : Int) == 13) = true := by rw [beq_iff_eq]; omega
        have b2 : ((s[k + 1].toNat : Int) == 10) = true := by rw [beq_iff_eq]; omega
        clear hiff HA ho h13 h10
        go_wp2_with fail
        go_ret
        exact ⟨ret_i HR.out.symm, rfl⟩
    · have hd : decide ((k : Int) + 1 < (s.size : Int)) = false := decide_eq_false (by omega)
      have HR : Hid (T = -1) := HN.out (fun j h1 h2 => HA.out j h1 (by omega))
      go_wp2_with fail
      go_ret
      exact ⟨ret_i HR.out.symm, rfl⟩

/-- What is there already, ahead of what the rest of the text tells. -/
def addH (acc : List ByteArray) (at_ : Nat) (x : Option (List (List UInt8) × Nat)) : Option (List ByteArray × Nat) := x.map fun y => (acc ++ y.1.map mkB, at_ + y.2)
/-- The rest of a head, from a place on. -/
def restO (s : ByteArray) (at_ : Nat) (acc : List ByteArray) (f : Nat) : Option (List ByteArray × Nat) := addH acc at_ (headL f (s.data.toList.drop at_) acc.isEmpty)
theorem rest_none {s : ByteArray} {a f : Nat} {acc : List ByteArray} (h : endI s a = -1) : restO s a acc (f + 1) = none := by
  have h2 : index (s.data.toList.drop a) C = -1 := by
    unfold endI at h
    split at h
    · assumption
    · have := index_ge (s.data.toList.drop a) C
      omega
  unfold restO headL
  rw [if_pos h2]; rfl
theorem end_at {s : ByteArray} {a e : Nat} (h : endI s a = e) : a ≤ e ∧ index (s.data.toList.drop a) C = ((e - a : Nat) : Int) ∧ e + 2 ≤ s.size := by
  have hl := len_list s
  unfold endI at h
  split at h
  · omega
  · have := index_ge (s.data.toList.drop a) C
    have hr := index_room (s.data.toList.drop a) C (by omega)
    rw [List.length_drop] at hr
    have h2 : C.length = 2 := rfl
    omega
theorem rest_end {s : ByteArray} {a f : Nat} {acc : List ByteArray} (h : endI s a = a) (h2 : acc ≠ []) : restO s a acc (f + 1) = some (acc, a + 2) := by
  obtain ⟨_, hi, _⟩ := end_at h
  have he : acc.isEmpty = false := by cases acc with | nil => exact absurd rfl h2 | cons _ _ => rfl
  unfold restO headL
  rw [hi, he, if_neg (by omega), if_pos ⟨by omega, rfl⟩]
  show some (acc ++ [], _) = _
  rw [List.append_nil]
theorem rest_more {s : ByteArray} {a e f : Nat} {acc : List ByteArray} (h : endI s a = e) (h2 : ¬ (e = a ∧ acc ≠ [])) : restO s a acc (f + 1) = restO s (e + 2) (acc ++ [s.extract a e]) f := by
  obtain ⟨ha, hi, hr⟩ := end_at h
  have hc : ¬ (index (s.data.toList.drop a) C = 0 ∧ acc.isEmpty = false) := by
    rw [hi]
    rintro ⟨h3, h4⟩
    refine h2 ⟨by omega, fun e => ?_⟩
    rw [e] at h4; cases h4
  have he : (acc ++ [s.extract a e]).isEmpty = false := by cases acc <;> rfl
  unfold restO
  rw [headL, if_neg (by rw [hi]; omega), if_neg hc, hi, Int.toNat_natCast, List.drop_drop, show a + (e - a + 2) = e + 2 from by omega, he]
  cases headL f (s.data.toList.drop (e + 2)) false with
  | none => rfl
  | some x =>
    unfold addH
    rw [Option.map_some, Option.map_some, Option.map_some, mkB_extract]
    simp
    omega
theorem rest_all (s : ByteArray) : restO s 0 [] (s.size + 1) = (headF s.data.toList).map fun y => (y.1.map mkB, y.2) := by
  unfold restO
  rw [List.drop_zero, show ([] : List ByteArray).isEmpty = true from rfl, head_same _ _ (by rw [len_list]; omega)]
  unfold addH
  cases headF s.data.toList with
  | none => rfl
  | some x => simp
theorem cut_rest (s : ByteArray) : cutO s = match restO s 0 [] (s.size + 1) with | none => none | some x => if 2000 < x.2 then none else some x := by
  rw [rest_all]
  unfold headF
  rcases index_spec s.data.toList CC with ⟨h, _⟩ | ⟨p, h, _⟩
  · rw [if_pos h, cut_none h]; rfl
  · rw [if_neg (by omega), h, Int.toNat_natCast]
    by_cases h4 : p + 4 ≤ 2000
    · rw [cut_some h h4]
      show _ = if 2000 < p + 4 then none else _
      rw [if_neg (by omega)]
    · rw [cut_late h (by omega)]
      show _ = if 2000 < p + 4 then none else _
      rw [if_pos (by omega)]

set_option maxRecDepth 20000 in
set_option maxHeartbeats 3200000 in
theorem l4Lines_any (s : ByteArray) (w : World) (hs : s.size ≤ 2000000) :
    Calls Tryz.prog 60 #[.string s] w fun e w' => ToldH w' w.heap.size e (fun c => .int .i64 c) s ∧ Below w.heap.size w w' := by
  have HE : Hid _ := fun fr w h => l4End_any s fr w hs h
  have HT0 : Hid (∀ w' B e, restO s 0 [] (s.size + 1) = none → e = .returned (.tuple #[.slice none 0 0, .int .i64 0, .int .i64 (cdS s)]) → ToldH w' B e (fun c => .int .i64 c) s) := fun w' B e h he => told_none (by rw [cut_rest, h]) he
  have HT1 : Hid (∀ w' B e ls n, restO s 0 [] (s.size + 1) = some (ls, n) → 2000 < n → e = .returned (.tuple #[.slice none 0 0, .int .i64 0, .int .i64 (cdS s)]) → ToldH w' B e (fun c => .int .i64 c) s) := fun w' B e ls n h hn he => told_none (by rw [cut_rest, h]; exact if_pos hn) he
  have HT2 : Hid (∀ w' B ls (n : Nat) x, restO s 0 [] (s.size + 1) = some (ls, n) → ¬ 2000 < n → textsIn w' B x ls → ToldH w' B (.returned (.tuple #[x, .int .i64 n, .int .i64 0])) (fun c => .int .i64 c) s) := fun w' B ls n x h hn ht => told_some (by rw [cut_rest, h]; exact if_neg hn) x rfl ht
  obtain ⟨F, hF⟩ : ∃ F, F = s.size + 1 := ⟨_, rfl⟩
  rw [← hF] at HT0 HT1 HT2
  have hF' : s.size < F := by omega
  have HT : Hid (restO s 0 [] F = restO s 0 [] F) := rfl
  obtain ⟨T, hT⟩ : ∃ T, T = restO s 0 [] F := ⟨_, rfl⟩
  rw [← hT] at HT0 HT1 HT2
  have HTT : Hid (T = restO s 0 [] F) := hT
  clear hT HT hF
  go_enter Tryz.func60, Tryz.ntmps60
  go_wp2_with fail
  go_loopw [5, 6] (fun v a wr => ∃ (k f : Nat) (acc : List ByteArray), k ≤ s.size ∧ a = .int .i64 k ∧ acc.length ≤ k ∧ s.size < f + k ∧ textsIn wr w.heap.size v acc ∧ Below w.heap.size w wr ∧ Hid (T = restO s k acc f)) (fun _ a _ => s.size + 1 - (RowKit.intOf a).toNat)
  case atStart => exact ⟨0, F, [], Nat.zero_le _, rfl, Nat.le_refl _, by omega, ⟨rfl, .inl ⟨rfl, rfl⟩⟩, Below.refl _ _, HTT⟩
  case round =>
    obtain ⟨k, f, acc, hk, rfl, hacc, hf, hown, hbel, HK⟩ := hrel
    obtain ⟨f, rfl⟩ : ∃ g, f = g + 1 := ⟨f - 1, by omega⟩
    have HEk : Hid _ := fun w => HE.out k w hk
    by_cases hm : endI s k = -1
    · have HR : Hid (T = none) := HK.out.trans (rest_none hm)
      rw [hm] at HEk
      clear HK hm HE
      by_cases hz : 2000 < (s.size : Int)
      · have hd : decide (2000 < (s.size : Int)) = true := decide_eq_true hz
        have HC : Hid (cdS s = 5) := if_pos hz
        go_wp2_with fail
        refine (HEk.out _).mono ?_
        rintro e w2 ⟨rfl, hw⟩
        obtain rfl := hw.symm
        go_wp2_with fail
        go_ret3
        exact ⟨HT0.out _ _ _ HR.out (by rw [HC.out]; rfl), hbel⟩
      · have hd : decide (2000 < (s.size : Int)) = false := decide_eq_false hz
        have HC : Hid (cdS s = 1) := if_neg hz
        go_wp2_with fail
        refine (HEk.out _).mono ?_
        rintro e w2 ⟨rfl, hw⟩
        obtain rfl := hw.symm
        go_wp2_with fail
        go_ret3
        exact ⟨HT0.out _ _ _ HR.out (by rw [HC.out]; rfl), hbel⟩
    · obtain ⟨e, he⟩ : ∃ e : Nat, endI s k = e := by
        refine ⟨(endI s k).toNat, ?_⟩
        have : -1 ≤ endI s k := by
          unfold endI
          split
          · omega
          · have := index_ge (s.data.toList.drop k) C; omega
        omega
      obtain ⟨hke, _, hes⟩ := end_at he
      have hxs : (s.extract k e).size = e - k := by rw [ByteArray.size_extract]; omega
      have HEnd : Hid (e = k → acc ≠ [] → T = some (acc, k + 2)) := fun h1 h2 => HK.out.trans (rest_end (by rw [he, h1]) h2)
      have HMore : Hid (¬ (e = k ∧ acc ≠ []) → T = restO s (e + 2) (acc ++ [s.extract k e]) f) := fun h => HK.out.trans (rest_more he h)
      rw [he] at HEk
      clear HK hm HE he
      have hd0 : decide ((e : Int) < 0) = false := decide_eq_false (by omega)
      obtain ⟨L, hL⟩ : ∃ L, L = s.extract k e := ⟨_, rfl⟩
      obtain ⟨a1, c1, rfl, hlc, _, _⟩ := textsIn.form hown
      by_cases hek : e = k
      · subst hek
        have hex : s.extract e e = ByteArray.empty := Fbs.empty_of (by rw [ByteArray.size_extract]; omega)
        by_cases ha : acc = []
        · subst ha
          have HR : Hid (T = restO s (e + 2) ([] ++ [ByteArray.empty]) f) := by
            show _ = _
            rw [← hex]
            exact HMore.out (fun h => h.2 rfl)
          clear HEnd HMore hxs hL hex hke
          go_wp2_with fail
          refine (HEk.out _).mono ?_
          rintro e w2 ⟨rfl, hw⟩
          obtain rfl := hw.symm
          go_wp2_with (at_builtin; go_loud (refine wpList_append_text wr rfl _ _ rfl w.heap.size _ [] (by rfl) hown _ 1 (by rfl) ?q3 hbel.size w.heap.size (Nat.le_refl _) w hbel ?_))
          case q3 => decide
          intro v' w6 hown6 hbel6
          go_wp2_with fail
          go_roundw
          case rel => exact ⟨_, f, _, hes, by first | rfl | go_num, by simp, by omega, hown6, hbel6, HR⟩
          case measure => simp [RowKit.intOf]; omega
        · have hal0 : 0 < acc.length := List.length_pos_iff.2 ha
          have hal : decide (0 < acc.length) = true := decide_eq_true hal0
          have HR : Hid (T = some (acc, e + 2)) := HEnd.out rfl ha
          clear HEnd HMore hxs hL hex hke
          by_cases h2 : 2000 < (e : Int) + 2
          · have hd : decide (2000 < (e : Int) + 2) = true := decide_eq_true h2
            have HC : Hid (cdS s = 5) := if_pos (by omega)
            go_wp2_with fail
            refine (HEk.out _).mono ?_
            rintro e w2 ⟨rfl, hw⟩
            obtain rfl := hw.symm
            go_wp2_with fail
            go_ret3
            exact ⟨HT1.out _ _ _ _ _ HR.out (by omega) (by rw [HC.out]; rfl), hbel⟩
          · have hd : decide (2000 < (e : Int) + 2) = false := decide_eq_false h2
            have HF : Hid (ToldH wr w.heap.size (.returned (.tuple #[.slice a1 acc.length c1, .int .i64 ((e : Int) + 2), .int .i64 0])) (fun c => .int .i64 c) s) := HT2.out wr w.heap.size acc (e + 2) _ HR.out (by omega) hown
            go_wp2_with fail
            refine (HEk.out _).mono ?_
            rintro e w2 ⟨rfl, hw⟩
            obtain rfl := hw.symm
            go_wp2_with fail
            go_ret3
            exact ⟨HF.out, hbel⟩
      · have hemp : ((s.extract k e).toList == []) = false := Wgt.some_cmp (by omega)
        have HR : Hid (T = restO s (e + 2) (acc ++ [s.extract k e]) f) := HMore.out (fun h => hek h.1)
        clear HEnd HMore hxs
        go_wp2_with fail
        refine (HEk.out _).mono ?_
        rintro e w2 ⟨rfl, hw⟩
        obtain rfl := hw.symm
        go_wp2_with (at_builtin; go_loud (refine wpList_append_text wr rfl _ _ rfl w.heap.size _ acc (by rfl) hown _ 1 (by rfl) ?q3 hbel.size w.heap.size (Nat.le_refl _) w hbel ?_))
        case q3 => omega
        intro v' w6 hown6 hbel6
        go_wp2_with fail
        go_roundw
        case rel => exact ⟨_, f, _, by omega, by first | rfl | go_num, by rw [List.length_append]; simp; omega, by omega, hown6, hbel6, HR⟩
        case measure => simp [RowKit.intOf]; omega

end Go.Proofs.YtaplkbkpgdpbaaaGreatDoor.Hdl
