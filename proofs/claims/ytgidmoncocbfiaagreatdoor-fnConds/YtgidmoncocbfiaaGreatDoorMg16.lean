/-
  Walk: strings.Clone.
  Walk: impl.ReadTag.
  Walk: impl.TagsOf.
-/
import Derived.Test.YtgidmoncocbfiaaGreatDoorShelf
import Derived.WalkKit
import Derived.Below
import Derived.Test.YtgidmoncocbfiaaGreatDoorMg2
import Derived.Test.YtgidmoncocbfiaaGreatDoorLit
import Derived.Deep.RegionHeld3
namespace Go.Proofs.YtgidmoncocbfiaaGreatDoor.Spb
open Go.RowKit

theorem clone_any (s : ByteArray) (w : World) (hs : s.size ≤ 2000000) : Calls Tryz.prog 90 #[.string s] w fun e w' => e = .returned (.string s) ∧ Below w.heap.size w w' := by
  have hc := Tryz.stringslite_Clone s w (by omega)
  go_enter Tryz.func90, Tryz.ntmps90
  go_wp2_with (go_at_call 117; refine hc.mono ?_; rintro e w' ⟨rfl, hb⟩)
  go_ret
  exact ⟨rfl, hb⟩

end Go.Proofs.YtgidmoncocbfiaaGreatDoor.Spb

namespace Go.Proofs.YtgidmoncocbfiaaGreatDoor.Tgi
open Go.RowKit
open Go.Proofs.YtgidmoncocbfiaaGreatDoor.Fbs
open Go.Proofs.YtgidmoncocbfiaaGreatDoor.Tga
open Go.Proofs.YtgidmoncocbfiaaGreatDoor.Tgp

theorem pre_le (l p : List UInt8) : (Lib.trimPrefix l p).length ≤ l.length := by
  unfold Lib.trimPrefix
  split
  · simp
  · exact Nat.le_refl _
theorem suf_le (l p : List UInt8) : (Lib.trimSuffix l p).length ≤ l.length := by
  unfold Lib.trimSuffix
  split
  · simp
  · exact Nat.le_refl _

theorem read_parts (s : ByteArray) (hs : s.size ≤ 2000000) : ∃ (r1 r2 x : ByteArray) (k o c : Bool),
    (∀ w, Calls Tryz.prog 88 #[.string s, .string ⟨#[87, 47]⟩] w fun e w' => e = .returned (.tuple #[.string r1, .bool k]) ∧ w' = w) ∧
    (∀ w, Calls Tryz.prog 88 #[.string r1, .string ⟨#[34]⟩] w fun e w' => e = .returned (.tuple #[.string r2, .bool o]) ∧ w' = w) ∧
    (∀ w, Calls Tryz.prog 89 #[.string r2, .string ⟨#[34]⟩] w fun e w' => e = .returned (.tuple #[.string x, .bool c]) ∧ w' = w) ∧
    x.size ≤ 2000000 ∧ readT s = if o = true ∧ c = true ∧ tagB x = true then some (k, x) else none := by
  have h0 : s.data.toList.length = s.size := by simp
  have h1 := pre_le s.data.toList [87, 47]
  have h2 := pre_le (Lib.trimPrefix s.data.toList [87, 47]) [34]
  have h3 := suf_le (Lib.trimPrefix (Lib.trimPrefix s.data.toList [87, 47]) [34]) [34]
  refine ⟨⟨(Lib.trimPrefix s.data.toList [87, 47]).toArray⟩, ⟨(Lib.trimPrefix (Lib.trimPrefix s.data.toList [87, 47]) [34]).toArray⟩, ⟨(Lib.trimSuffix (Lib.trimPrefix (Lib.trimPrefix s.data.toList [87, 47]) [34]) [34]).toArray⟩, _, _, _,
    fun w => Tryz.strings_CutPrefix s ⟨#[87, 47]⟩ w, fun w => Tryz.strings_CutPrefix ⟨(Lib.trimPrefix s.data.toList [87, 47]).toArray⟩ ⟨#[34]⟩ w,
    fun w => Tryz.strings_CutSuffix ⟨(Lib.trimPrefix (Lib.trimPrefix s.data.toList [87, 47]) [34]).toArray⟩ ⟨#[34]⟩ w ?_, ?_, ?_⟩
  · show (Lib.trimPrefix (Lib.trimPrefix s.data.toList [87, 47]) [34]).toArray.size ≤ _
    simp only [List.size_toArray]
    omega
  · show (Lib.trimSuffix (Lib.trimPrefix (Lib.trimPrefix s.data.toList [87, 47]) [34]) [34]).toArray.size ≤ _
    simp only [List.size_toArray]
    omega
  · rw [← readI_same]
    unfold readI midL
    show _ = if Lib.hasPrefix (Lib.trimPrefix s.data.toList [87, 47]) [34] = true ∧ Lib.hasSuffix (Lib.trimPrefix (Lib.trimPrefix s.data.toList [87, 47]) [34]) [34] = true ∧ _ then some (Lib.hasPrefix s.data.toList [87, 47], _) else none
    cases Lib.hasPrefix (Lib.trimPrefix s.data.toList [87, 47]) [34]
    · simp
    · cases Lib.hasSuffix (Lib.trimPrefix (Lib.trimPrefix s.data.toList [87, 47]) [34]) [34]
      · simp
      · simp

set_option maxRecDepth 20000 in
set_option maxHeartbeats 3200000 in
theorem implReadTag_any (s : ByteArray) (w : World) (hs : s.size ≤ 2000000) :
    Calls Tryz.prog 66 #[.string s] w fun e w' => e = .returned (tagV (readT s)) ∧ Below w.heap.size w w' := by
  obtain ⟨r1, r2, x, k, o, c, h1, h2, h3, hx, hr⟩ := read_parts s hs
  have H1 : Hid _ := h1
  have H2 : Hid _ := h2
  have H3 : Hid _ := h3
  have HG : Hid _ := fun wx => isTag_any k x wx hx
  have HC : Hid _ := fun wx => Spb.clone_any x wx hx
  have HR : Hid (readT s = if o = true ∧ c = true ∧ tagB x = true then some (k, x) else none) := hr
  clear h1 h2 h3 hr
  generalize readT s = O at HR ⊢
  have HF : Hid (Below w.heap.size w ((w.alloc (.cells #[.bool false, .string ⟨#[]⟩] 25)).alloc (.cells #[.bool k, .string x] 25))) := ((Below.refl _ _).alloc (Nat.le_refl _) _).alloc (by simp) _
  cases o
  · obtain rfl : O = none := HR.out.trans (by simp)
    clear HR
    go_enter Tryz.func66, Tryz.ntmps66
    go_wp2_with fail
    refine (H1.out _).mono ?_
    rintro e w2 ⟨rfl, rfl⟩
    go_wp2_with fail
    refine (H2.out _).mono ?_
    rintro e w2 ⟨rfl, rfl⟩
    go_wp2_with fail
    refine (H3.out _).mono ?_
    rintro e w2 ⟨rfl, rfl⟩
    go_wp2_with fail
    exact bodyPost_ret (v := .tuple #[.agg #[.bool false, .string ⟨#[]⟩], .bool false]) (by simp [results, Tryz.results66, go_sem]) rfl ⟨rfl, HF.out⟩
  cases c
  · obtain rfl : O = none := HR.out.trans (by simp)
    clear HR
    go_enter Tryz.func66, Tryz.ntmps66
    go_wp2_with fail
    refine (H1.out _).mono ?_
    rintro e w2 ⟨rfl, rfl⟩
    go_wp2_with fail
    refine (H2.out _).mono ?_
    rintro e w2 ⟨rfl, rfl⟩
    go_wp2_with fail
    refine (H3.out _).mono ?_
    rintro e w2 ⟨rfl, rfl⟩
    go_wp2_with fail
    exact bodyPost_ret (v := .tuple #[.agg #[.bool false, .string ⟨#[]⟩], .bool false]) (by simp [results, Tryz.results66, go_sem]) rfl ⟨rfl, HF.out⟩
  obtain ⟨W, hW⟩ : ∃ W, W = (w.alloc (.cells #[.bool false, .string ⟨#[]⟩] 25)).alloc (.cells #[.bool k, .string x] 25) := ⟨_, rfl⟩
  have hsz : W.heap.size = w.heap.size + 2 := by rw [hW]; simp
  have x0 : W.cell? ⟨w.heap.size, 0, none⟩ = some (.bool false) := by rw [hW]; simp [go_sem]
  have x1 : W.cell? ⟨w.heap.size, 1, none⟩ = some (.string ⟨#[]⟩) := by rw [hW]; simp [go_sem]
  have xf : ∀ i, W.frozen? ⟨w.heap.size, i, none⟩ = false := by intro i; rw [hW]; simp [go_sem]
  have z0 : W.cell? ⟨w.heap.size + 1, 0, none⟩ = some (.bool k) := by rw [hW]; simp [go_sem]
  have z1 : W.cell? ⟨w.heap.size + 1, 1, none⟩ = some (.string x) := by rw [hW]; simp [go_sem]
  have zf : ∀ i, W.frozen? ⟨w.heap.size + 1, i, none⟩ = false := by intro i; rw [hW]; simp [go_sem]
  have HB1 : Hid (Below w.heap.size w W) := by rw [hW]; exact HF.out
  clear HF
  cases hB : tagB x
  · obtain rfl : O = none := HR.out.trans (by simp [hB])
    rw [hB] at HG
    clear HR hB
    go_enter Tryz.func66, Tryz.ntmps66
    go_wp2_with fail
    refine (H1.out _).mono ?_
    rintro e w2 ⟨rfl, rfl⟩
    go_wp2_with fail
    refine (H2.out _).mono ?_
    rintro e w2 ⟨rfl, rfl⟩
    go_wp2_with fail
    refine (H3.out _).mono ?_
    rintro e w2 ⟨rfl, rfl⟩
    go_wp2_with fail
    rw [← hW]
    clear hW
    refine (HG.out _).mono ?_
    rintro e w2 ⟨rfl, hb2⟩
    have y0 := (hb2.cell (p := ⟨w.heap.size, 0, none⟩) (by show w.heap.size < _; omega)).trans x0
    have y1 := (hb2.cell (p := ⟨w.heap.size, 1, none⟩) (by show w.heap.size < _; omega)).trans x1
    have yf : ∀ i, w2.frozen? ⟨w.heap.size, i, none⟩ = false := fun i => (hb2.frozen (p := ⟨w.heap.size, i, none⟩) (by show w.heap.size < _; omega)).trans (xf i)
    have v0 := (hb2.cell (p := ⟨w.heap.size + 1, 0, none⟩) (by show w.heap.size + 1 < _; omega)).trans z0
    have v1 := (hb2.cell (p := ⟨w.heap.size + 1, 1, none⟩) (by show w.heap.size + 1 < _; omega)).trans z1
    have vf : ∀ i, w2.frozen? ⟨w.heap.size + 1, i, none⟩ = false := fun i => (hb2.frozen (p := ⟨w.heap.size + 1, i, none⟩) (by show w.heap.size + 1 < _; omega)).trans (zf i)
    have HB3 : Hid (Below w.heap.size w w2) := HB1.out.trans (hb2.mono HB1.out.size)
    have hn2 : w.heap.size + 2 ≤ w2.heap.size := hsz ▸ hb2.size
    clear x0 x1 xf z0 z1 zf hb2 hsz HB1 HG
    go_wp2_with fail
    exact bodyPost_ret (v := .tuple #[.agg #[.bool false, .string ⟨#[]⟩], .bool false]) (by simp [results, Tryz.results66, go_sem, y0, y1]) rfl ⟨rfl, (HB3.out.setCell (p := ⟨w.heap.size, 0, none⟩) (Nat.le_refl _) _).setCell (p := ⟨w.heap.size, 1, none⟩) (Nat.le_refl _) _⟩
  · obtain rfl : O = some (k, x) := HR.out.trans (by simp [hB])
    rw [hB] at HG
    clear HR hB
    go_enter Tryz.func66, Tryz.ntmps66
    go_wp2_with fail
    refine (H1.out _).mono ?_
    rintro e w2 ⟨rfl, rfl⟩
    go_wp2_with fail
    refine (H2.out _).mono ?_
    rintro e w2 ⟨rfl, rfl⟩
    go_wp2_with fail
    refine (H3.out _).mono ?_
    rintro e w2 ⟨rfl, rfl⟩
    go_wp2_with fail
    rw [← hW]
    clear hW
    refine (HG.out _).mono ?_
    rintro e w2 ⟨rfl, hb2⟩
    have y0 := (hb2.cell (p := ⟨w.heap.size, 0, none⟩) (by show w.heap.size < _; omega)).trans x0
    have y1 := (hb2.cell (p := ⟨w.heap.size, 1, none⟩) (by show w.heap.size < _; omega)).trans x1
    have yf : ∀ i, w2.frozen? ⟨w.heap.size, i, none⟩ = false := fun i => (hb2.frozen (p := ⟨w.heap.size, i, none⟩) (by show w.heap.size < _; omega)).trans (xf i)
    have v0 := (hb2.cell (p := ⟨w.heap.size + 1, 0, none⟩) (by show w.heap.size + 1 < _; omega)).trans z0
    have v1 := (hb2.cell (p := ⟨w.heap.size + 1, 1, none⟩) (by show w.heap.size + 1 < _; omega)).trans z1
    have vf : ∀ i, w2.frozen? ⟨w.heap.size + 1, i, none⟩ = false := fun i => (hb2.frozen (p := ⟨w.heap.size + 1, i, none⟩) (by show w.heap.size + 1 < _; omega)).trans (zf i)
    have HB3 : Hid (Below w.heap.size w w2) := HB1.out.trans (hb2.mono HB1.out.size)
    have hn2 : w.heap.size + 2 ≤ w2.heap.size := hsz ▸ hb2.size
    clear x0 x1 xf z0 z1 zf hb2 hsz HB1 HG
    go_wp2_with fail
    refine (HC.out _).mono ?_
    rintro e w3 ⟨rfl, hb3⟩
    have x0 := (hb3.cell (p := ⟨w.heap.size, 0, none⟩) (by show w.heap.size < _; omega)).trans y0
    have x1 := (hb3.cell (p := ⟨w.heap.size, 1, none⟩) (by show w.heap.size < _; omega)).trans y1
    have xf : ∀ i, w3.frozen? ⟨w.heap.size, i, none⟩ = false := fun i => (hb3.frozen (p := ⟨w.heap.size, i, none⟩) (by show w.heap.size < _; omega)).trans (yf i)
    have z0 := (hb3.cell (p := ⟨w.heap.size + 1, 0, none⟩) (by show w.heap.size + 1 < _; omega)).trans v0
    have z1 := (hb3.cell (p := ⟨w.heap.size + 1, 1, none⟩) (by show w.heap.size + 1 < _; omega)).trans v1
    have zf : ∀ i, w3.frozen? ⟨w.heap.size + 1, i, none⟩ = false := fun i => (hb3.frozen (p := ⟨w.heap.size + 1, i, none⟩) (by show w.heap.size + 1 < _; omega)).trans (vf i)
    have HB4 : Hid (Below w.heap.size w w3) := HB3.out.trans (hb3.mono HB3.out.size)
    have hn3 : w.heap.size + 2 ≤ w3.heap.size := Nat.le_trans hn2 hb3.size
    clear y0 y1 yf v0 v1 vf hb3 hn2 HB3
    go_wp2_with fail
    exact bodyPost_ret (v := .tuple #[.agg #[.bool k, .string x], .bool true]) (by simp [results, Tryz.results66, go_sem, x0, x1]) rfl ⟨rfl, ((HB4.out.setCell (p := ⟨w.heap.size + 1, 1, none⟩) (by show w.heap.size ≤ w.heap.size + 1; omega) _).setCell (p := ⟨w.heap.size, 0, none⟩) (Nat.le_refl _) _).setCell (p := ⟨w.heap.size, 1, none⟩) (Nat.le_refl _) _⟩

end Go.Proofs.YtgidmoncocbfiaaGreatDoor.Tgi

namespace Go.Proofs.YtgidmoncocbfiaaGreatDoor.Tgx
open Go.RowKit
open Go.Proofs.YtgidmoncocbfiaaGreatDoor.Tga Go.Proofs.YtgidmoncocbfiaaGreatDoor.Tgb
open Go.Proofs.YtgidmoncocbfiaaGreatDoor.Lsp (listO specList_any)
open Go.Proofs.YtgidmoncocbfiaaGreatDoor.Ows
open Go.Proofs.YtgidmoncocbfiaaGreatDoor.Mrk (TV RowT tv_of)

set_option maxRecDepth 20000 in
set_option maxHeartbeats 1600000 in
theorem implTags_any (s : ByteArray) (w : World) (hs : s.size ≤ 2000000) :
    Calls Tryz.prog 55 #[.string s] w fun e w' => TagsP w' w.heap.size e (listO s) ∧ Below w.heap.size w w' := by
  have HL : Hid _ := fun wx => Lit.implList_any s wx hs
  have HZ : Hid (∀ l, listO s = some l → ∀ x ∈ l, x.size ≤ 2000000) := fun l h => part_le hs h
  generalize listO s = o at HL HZ ⊢
  cases o with
  | none =>
    go_enter Tryz.func55, Tryz.ntmps55
    go_wp2_with (go_at_call 81; refine (HL.out _).mono ?_; rintro e w2 ⟨hto, hb2⟩; obtain rfl := (show e = .returned (.tuple #[.slice none 0 0, .bool false]) from hto))
    exact bodyPost_ret (v := .tuple #[.slice none 0 0, .bool false, .bool false]) (by simp [results, Tryz.results55, go_sem]) rfl ⟨tagsP_zero kind_none, hb2⟩
  | some l =>
    have HPs : Hid (∀ x ∈ l, x.size ≤ 2000000) := HZ.out l rfl
    clear HZ
    by_cases hn : 1 ≤ l.length ∧ l.length ≤ 20
    rotate_left
    · have HN : Hid ((l.length : Int) < 1 ∨ 20 < (l.length : Int)) := by show _ ∨ _; omega
      have HK : Hid _ := kind_len hn
      clear hn
      go_enter Tryz.func55, Tryz.ntmps55
      go_wp2_with (first
        | (go_at_call 81; refine (HL.out _).mono ?_; rintro e w2 ⟨hto, hb2⟩; obtain ⟨v, rfl, hown⟩ := (show ∃ v, e = .returned (.tuple #[v, .bool true]) ∧ textsIn w2 _ v l from hto); obtain ⟨aP, cP, rfl, hTV⟩ := tv_of hown)
        | (go_at_call 49; refine (between_no _ _ _ _ HN.out).mono ?_; rintro e w' ⟨rfl, hw⟩; obtain rfl := hw.symm))
      exact bodyPost_ret (v := .tuple #[.slice none 0 0, .bool false, .bool false]) (by simp [results, Tryz.results55, go_sem]) rfl ⟨tagsP_zero HK.out, hb2⟩
    have HN : Hid (1 ≤ (l.length : Int) ∧ (l.length : Int) ≤ 20) := by show _ ∧ _; omega
    obtain ⟨hn1, hn2⟩ := hn
    cases hst : starB l
    rotate_left
    · -- the star
      have HK : Hid _ := kind_star hn1 hn2 hst
      unfold starB at hst
      rw [Bool.and_eq_true] at hst
      have hl1 : l.length = 1 := of_decide_eq_true hst.1
      obtain ⟨x, rfl⟩ : ∃ x, l = [x] := by
        match l, hl1 with
        | [x], _ => exact ⟨x, rfl⟩
      have hx : (x.toList == [42]) = true := hst.2
      clear hst hn1 hn2 hl1
      go_enter Tryz.func55, Tryz.ntmps55
      go_wp2_with (first
        | (go_at_call 81; refine (HL.out _).mono ?_; rintro e w2 ⟨hto, hb2⟩; obtain ⟨v, rfl, hown⟩ := (show ∃ v, e = .returned (.tuple #[v, .bool true]) ∧ textsIn w2 _ v [x] from hto); obtain ⟨aP, cP, rfl, hTV⟩ := tv_of hown; obtain ⟨g, rfl, hgl, hc⟩ : ∃ g, aP = some ⟨g, 0, none⟩ ∧ g < w2.heap.size ∧ w2.cell? ⟨g, 0, none⟩ = some (.string x) := one_part hTV; clear hown hTV)
        | (go_at_call 49; refine (between_yes _ _ _ _ HN.out.1 HN.out.2).mono ?_; rintro e w' ⟨rfl, hw⟩; obtain rfl := hw.symm))
      exact bodyPost_ret (v := .tuple #[.slice none 0 0, .bool true, .bool true]) (by simp [results, Tryz.results55, go_sem]) rfl ⟨tagsP_star HK.out, hb2⟩
    have HSt : Hid (starB l = false) := hst
    have hs1 := fun h => star_one h hst
    clear hst
    go_enter Tryz.func55, Tryz.ntmps55
    go_wp2_with fail
    refine (HL.out _).mono ?_
    rintro e w2 ⟨hto, hb2⟩
    obtain ⟨v, rfl, hown⟩ := (show ∃ v, e = .returned (.tuple #[v, .bool true]) ∧ textsIn w2 _ v l from hto)
    obtain ⟨aP, cP, rfl, hTV⟩ := tv_of hown
    have HB2 : Hid (Below w.heap.size w w2) := hb2
    have HP2 : Hid (TV w2 aP l w.heap.size w2.heap.size) := hTV
    obtain ⟨g, rfl, hgl, hrow⟩ := parts_row hn1 hTV
    have HG : Hid (∀ j, (h : j < l.length) → w2.cell? ⟨g, j, none⟩ = some (.string l[j])) := fun j h => hrow j h
    have hc0 := hrow 0 (by omega)
    clear hto hown hTV hb2 hrow HL HP2
    by_cases h1 : l.length = 1
    · have hx := hs1 h1
      have h1' : ((l.length : Int) == 1) = true := by rw [h1]; rfl
      clear hs1
      generalize hX : l[0]'(by omega) = X at hx hc0
      clear hX h1
      go_wp2_with (go_at_call 49; with_reducible refine (between_yes _ _ _ _ HN.out.1 HN.out.2).mono ?_; rintro e w' ⟨rfl, hw⟩; obtain rfl := hw.symm)
      clear h1'
      have HM0 : Hid (tagsIn (w2.alloc (.cells #[] 25)) w2.heap.size (.slice (some ⟨w2.heap.size, 0, none⟩) 0 0) []) := tagsIn.made w2 _ (Nat.le_refl _)
      have HMB : Hid (Below w2.heap.size w2 (w2.alloc (.cells #[] 25))) := (Below.refl _ _).alloc (Nat.le_refl _) _
      go_loopw [7, 37] (fun sv c wr => ∃ i : Nat, i ≤ l.length ∧ c = .int .i64 i ∧ Hid (tagsIn wr w2.heap.size sv (outs (l.take i))) ∧ Hid (Below w2.heap.size w2 wr) ∧ Hid (∀ j, (hj : j < l.length) → j < i → (readT l[j]).isSome = true)) (fun _ c _ => l.length - (intOf c).toNat)
      case atStart => exact ⟨0, by omega, rfl, HM0, HMB, fun j _ h => absurd h (by omega)⟩
      case round =>
        obtain ⟨i, hi, rfl, HO, HB, HA⟩ := hrel
        clear HM0 HMB
        by_cases hlt : i < l.length
        · have hc := (HB.out.cell (p := ⟨g, i, none⟩) hgl).trans (HG.out i hlt)
          have HBw : Hid (Below w.heap.size w wr) := HB2.out.trans (HB.out.mono HB2.out.size)
          have HR : Hid _ := fun wx => Tgi.implReadTag_any l[i] wx (HPs.out l[i] (List.getElem_mem hlt))
          have hnot := @ok_not l i hlt
          have hsome := @outs_some l i hlt
          have hA2 : (readT l[i]).isSome = true → ∀ j, (hj : j < l.length) → j < i + 1 → (readT l[j]).isSome = true := by
            intro h j hj hji
            by_cases e : j = i
            · subst e; exact h
            · exact HA.out j hj (by omega)
          obtain ⟨og, hog⟩ : ∃ og, og = readT l[i] := ⟨_, rfl⟩
          rw [← hog] at HR hnot hA2
          have hsome2 : ∀ c, og = some c → outs (l.take (i + 1)) = outs (l.take i) ++ [c] := fun c h => hsome (by rw [← hog]; exact h)
          obtain ⟨x, hx⟩ : ∃ x, x = l[i] := ⟨_, rfl⟩
          rw [← hx] at HR hc
          have hol : (outs (l.take i)).length ≤ 20 := by
            have := outs_len (l.take i)
            rw [List.length_take] at this
            omega
          have hHs : ∀ wx, Below wr.heap.size wr wx → tagsIn wx w2.heap.size u7 (outs (l.take i)) := fun wx hb => HO.out.below hb
          clear hsome HO HA hx hog
          cases og with
          | none =>
            have HK : Hid (kindR (some l) = 0) := kind_bad HSt.out (hnot rfl)
            clear hnot hsome2 hA2
            go_wp2_with fail
            refine (HR.out _).mono ?_
            rintro e w3 ⟨rfl, hb3⟩
            simp only [tagV]
            go_wp2_with fail
            exact bodyPost_ret (v := .tuple #[.slice none 0 0, .bool false, .bool false]) (by simp [results, Tryz.results55, go_sem]) rfl ⟨tagsP_zero HK.out, (HBw.out.trans (hb3.mono HBw.out.size)).alloc (HBw.out.trans (hb3.mono HBw.out.size)).size _⟩
          | some p =>
            obtain ⟨k, t⟩ := p
            have HA3 : Hid _ := hA2 rfl
            have HOs : Hid _ := hsome2 _ rfl
            clear hnot hsome2 hA2
            generalize outs (l.take i) = acc at HOs hHs hol
            go_wp2_with fail
            refine (HR.out _).mono ?_
            rintro e w3 ⟨rfl, hb3⟩
            simp only [tagV]
            have HB3 : Hid (Below w2.heap.size w2 w3) := HB.out.trans (hb3.mono HB.out.size)
            have hS4 : tagsIn (w3.alloc (.cells #[.bool k, .string t] 25)) w2.heap.size u7 acc := tagsIn.alloc (hHs w3 hb3) _
            have HB4 : Hid (Below w2.heap.size w2 (w3.alloc (.cells #[.bool k, .string t] 25))) := HB3.out.alloc HB3.out.size _
            have hz4 : w2.heap.size ≤ (w3.alloc (.cells #[.bool k, .string t] 25)).heap.size := HB4.out.size
            clear hHs hb3
            go_wp2_with (at_builtin; refine wpList_append_tag (w3.alloc (.cells #[.bool k, .string t] 25)) rfl _ _ rfl w2.heap.size _ acc (by rfl) hS4 k t _ (by first | rfl | (rw [World.size_alloc]; rfl)) ?q3 hz4 w2.heap.size (Nat.le_refl _) (w3.alloc (.cells #[.bool k, .string t] 25)) (Below.refl _ _) ?_)
            case q3 => omega
            intro v' w5 hown' hb5
            have HS5 : Hid (tagsIn w5 w2.heap.size v' (outs (l.take (i + 1)))) := by show tagsIn _ _ _ _; rw [HOs.out]; exact hown'
            have HB5 : Hid (Below w2.heap.size w2 w5) := HB4.out.trans hb5
            clear hown' hb5 hS4 hz4 HB4
            go_wp2_with fail
            refine ⟨⟨i + 1, by omega, by go_num, HS5, HB5, HA3⟩, ?_⟩
            simp [intOf]; omega
        · obtain rfl : i = l.length := by omega
          have HK : Hid _ := kind_tags hn1 hn2 HSt.out (ok_yes (fun j hj => HA.out j hj hj))
          have hO := HO.out
          rw [List.take_length] at hO
          have HBw : Hid (Below w.heap.size w wr) := HB2.out.trans (HB.out.mono HB2.out.size)
          have HO2 : Hid (tagsIn wr w.heap.size u7 (outs l)) := hO.base HB2.out.size
          clear HO HA hO
          generalize u7 = uu at HO2
          go_wp2_with fail
          exact bodyPost_ret (v := .tuple #[uu, .bool false, .bool true]) (by simp [results, Tryz.results55, go_sem]) rfl ⟨tagsP_tags HK.out HO2.out, HBw.out⟩
    · have h1' : ((l.length : Int) == 1) = false := by rw [beq_eq_false_iff_ne]; omega
      clear hs1 hc0 h1
      go_wp2_with (go_at_call 49; with_reducible refine (between_yes _ _ _ _ HN.out.1 HN.out.2).mono ?_; rintro e w' ⟨rfl, hw⟩; obtain rfl := hw.symm)
      clear h1'
      have HM0 : Hid (tagsIn (w2.alloc (.cells #[] 25)) w2.heap.size (.slice (some ⟨w2.heap.size, 0, none⟩) 0 0) []) := tagsIn.made w2 _ (Nat.le_refl _)
      have HMB : Hid (Below w2.heap.size w2 (w2.alloc (.cells #[] 25))) := (Below.refl _ _).alloc (Nat.le_refl _) _
      go_loopw [7, 37] (fun sv c wr => ∃ i : Nat, i ≤ l.length ∧ c = .int .i64 i ∧ Hid (tagsIn wr w2.heap.size sv (outs (l.take i))) ∧ Hid (Below w2.heap.size w2 wr) ∧ Hid (∀ j, (hj : j < l.length) → j < i → (readT l[j]).isSome = true)) (fun _ c _ => l.length - (intOf c).toNat)
      case atStart => exact ⟨0, by omega, rfl, HM0, HMB, fun j _ h => absurd h (by omega)⟩
      case round =>
        obtain ⟨i, hi, rfl, HO, HB, HA⟩ := hrel
        clear HM0 HMB
        by_cases hlt : i < l.length
        · have hc := (HB.out.cell (p := ⟨g, i, none⟩) hgl).trans (HG.out i hlt)
          have HBw : Hid (Below w.heap.size w wr) := HB2.out.trans (HB.out.mono HB2.out.size)
          have HR : Hid _ := fun wx => Tgi.implReadTag_any l[i] wx (HPs.out l[i] (List.getElem_mem hlt))
          have hnot := @ok_not l i hlt
          have hsome := @outs_some l i hlt
          have hA2 : (readT l[i]).isSome = true → ∀ j, (hj : j < l.length) → j < i + 1 → (readT l[j]).isSome = true := by
            intro h j hj hji
            by_cases e : j = i
            · subst e; exact h
            · exact HA.out j hj (by omega)
          obtain ⟨og, hog⟩ : ∃ og, og = readT l[i] := ⟨_, rfl⟩
          rw [← hog] at HR hnot hA2
          have hsome2 : ∀ c, og = some c → outs (l.take (i + 1)) = outs (l.take i) ++ [c] := fun c h => hsome (by rw [← hog]; exact h)
          obtain ⟨x, hx⟩ : ∃ x, x = l[i] := ⟨_, rfl⟩
          rw [← hx] at HR hc
          have hol : (outs (l.take i)).length ≤ 20 := by
            have := outs_len (l.take i)
            rw [List.length_take] at this
            omega
          have hHs : ∀ wx, Below wr.heap.size wr wx → tagsIn wx w2.heap.size u7 (outs (l.take i)) := fun wx hb => HO.out.below hb
          clear hsome HO HA hx hog
          cases og with
          | none =>
            have HK : Hid (kindR (some l) = 0) := kind_bad HSt.out (hnot rfl)
            clear hnot hsome2 hA2
            go_wp2_with fail
            refine (HR.out _).mono ?_
            rintro e w3 ⟨rfl, hb3⟩
            simp only [tagV]
            go_wp2_with fail
            exact bodyPost_ret (v := .tuple #[.slice none 0 0, .bool false, .bool false]) (by simp [results, Tryz.results55, go_sem]) rfl ⟨tagsP_zero HK.out, (HBw.out.trans (hb3.mono HBw.out.size)).alloc (HBw.out.trans (hb3.mono HBw.out.size)).size _⟩
          | some p =>
            obtain ⟨k, t⟩ := p
            have HA3 : Hid _ := hA2 rfl
            have HOs : Hid _ := hsome2 _ rfl
            clear hnot hsome2 hA2
            generalize outs (l.take i) = acc at HOs hHs hol
            go_wp2_with fail
            refine (HR.out _).mono ?_
            rintro e w3 ⟨rfl, hb3⟩
            simp only [tagV]
            have HB3 : Hid (Below w2.heap.size w2 w3) := HB.out.trans (hb3.mono HB.out.size)
            have hS4 : tagsIn (w3.alloc (.cells #[.bool k, .string t] 25)) w2.heap.size u7 acc := tagsIn.alloc (hHs w3 hb3) _
            have HB4 : Hid (Below w2.heap.size w2 (w3.alloc (.cells #[.bool k, .string t] 25))) := HB3.out.alloc HB3.out.size _
            have hz4 : w2.heap.size ≤ (w3.alloc (.cells #[.bool k, .string t] 25)).heap.size := HB4.out.size
            clear hHs hb3
            go_wp2_with (at_builtin; refine wpList_append_tag (w3.alloc (.cells #[.bool k, .string t] 25)) rfl _ _ rfl w2.heap.size _ acc (by rfl) hS4 k t _ (by first | rfl | (rw [World.size_alloc]; rfl)) ?q3 hz4 w2.heap.size (Nat.le_refl _) (w3.alloc (.cells #[.bool k, .string t] 25)) (Below.refl _ _) ?_)
            case q3 => omega
            intro v' w5 hown' hb5
            have HS5 : Hid (tagsIn w5 w2.heap.size v' (outs (l.take (i + 1)))) := by show tagsIn _ _ _ _; rw [HOs.out]; exact hown'
            have HB5 : Hid (Below w2.heap.size w2 w5) := HB4.out.trans hb5
            clear hown' hb5 hS4 hz4 HB4
            go_wp2_with fail
            refine ⟨⟨i + 1, by omega, by go_num, HS5, HB5, HA3⟩, ?_⟩
            simp [intOf]; omega
        · obtain rfl : i = l.length := by omega
          have HK : Hid _ := kind_tags hn1 hn2 HSt.out (ok_yes (fun j hj => HA.out j hj hj))
          have hO := HO.out
          rw [List.take_length] at hO
          have HBw : Hid (Below w.heap.size w wr) := HB2.out.trans (HB.out.mono HB2.out.size)
          have HO2 : Hid (tagsIn wr w.heap.size u7 (outs l)) := hO.base HB2.out.size
          clear HO HA hO
          generalize u7 = uu at HO2
          go_wp2_with fail
          exact bodyPost_ret (v := .tuple #[uu, .bool false, .bool true]) (by simp [results, Tryz.results55, go_sem]) rfl ⟨tagsP_tags HK.out HO2.out, HBw.out⟩

end Go.Proofs.YtgidmoncocbfiaaGreatDoor.Tgx

