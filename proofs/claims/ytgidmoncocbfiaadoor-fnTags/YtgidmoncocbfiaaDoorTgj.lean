/-
  Walk: impl.ReadTag.
-/
import Derived.Test.YtgidmoncocbfiaaDoorTgi
import Derived.Test.YtgidmoncocbfiaaDoorSik
namespace Go.Proofs.YtgidmoncocbfiaaDoor.Tgi
open Go.RowKit
open Go.Proofs.YtgidmoncocbfiaaDoor.Fbs
open Go.Proofs.YtgidmoncocbfiaaDoor.Tga
open Go.Proofs.YtgidmoncocbfiaaDoor.Tgp

theorem pre_le (l p : List UInt8) : (Lib.trimPrefix l p).length ≤ l.length := by
  unfold Lib.trimPrefix
  split
  · simp
  · exact Nat.le_refl _
theorem suf_le (l p : List UInt8) : (Lib.trimSuffix l p).length ≤ l.length := by
  unfold Lib.trimSuffix
  split
  · simp
  · exact Nat.le_refl _

theorem read_parts (s : ByteArray) (hs : s.size ≤ 2000000) : ∃ (r1 r2 x : ByteArray) (k o c : Bool),
    (∀ w, Calls Tryd.prog 20 #[.string s, .string ⟨#[87, 47]⟩] w fun e w' => e = .returned (.tuple #[.string r1, .bool k]) ∧ w' = w) ∧
    (∀ w, Calls Tryd.prog 20 #[.string r1, .string ⟨#[34]⟩] w fun e w' => e = .returned (.tuple #[.string r2, .bool o]) ∧ w' = w) ∧
    (∀ w, Calls Tryd.prog 21 #[.string r2, .string ⟨#[34]⟩] w fun e w' => e = .returned (.tuple #[.string x, .bool c]) ∧ w' = w) ∧
    x.size ≤ 2000000 ∧ readT s = if o = true ∧ c = true ∧ tagB x = true then some (k, x) else none := by
  have h0 : s.data.toList.length = s.size := by simp
  have h1 := pre_le s.data.toList [87, 47]
  have h2 := pre_le (Lib.trimPrefix s.data.toList [87, 47]) [34]
  have h3 := suf_le (Lib.trimPrefix (Lib.trimPrefix s.data.toList [87, 47]) [34]) [34]
  refine ⟨⟨(Lib.trimPrefix s.data.toList [87, 47]).toArray⟩, ⟨(Lib.trimPrefix (Lib.trimPrefix s.data.toList [87, 47]) [34]).toArray⟩, ⟨(Lib.trimSuffix (Lib.trimPrefix (Lib.trimPrefix s.data.toList [87, 47]) [34]) [34]).toArray⟩, _, _, _,
    fun w => Tryd.strings_CutPrefix s ⟨#[87, 47]⟩ w, fun w => Tryd.strings_CutPrefix ⟨(Lib.trimPrefix s.data.toList [87, 47]).toArray⟩ ⟨#[34]⟩ w,
    fun w => Tryd.strings_CutSuffix ⟨(Lib.trimPrefix (Lib.trimPrefix s.data.toList [87, 47]) [34]).toArray⟩ ⟨#[34]⟩ w ?_, ?_, ?_⟩
  · show (Lib.trimPrefix (Lib.trimPrefix s.data.toList [87, 47]) [34]).toArray.size ≤ _
    simp only [List.size_toArray]
    omega
  · show (Lib.trimSuffix (Lib.trimPrefix (Lib.trimPrefix s.data.toList [87, 47]) [34]) [34]).toArray.size ≤ _
    simp only [List.size_toArray]
    omega
  · rw [← readI_same]
    unfold readI midL
    show _ = if Lib.hasPrefix (Lib.trimPrefix s.data.toList [87, 47]) [34] = true ∧ Lib.hasSuffix (Lib.trimPrefix (Lib.trimPrefix s.data.toList [87, 47]) [34]) [34] = true ∧ _ then some (Lib.hasPrefix s.data.toList [87, 47], _) else none
    cases Lib.hasPrefix (Lib.trimPrefix s.data.toList [87, 47]) [34]
    · simp
    · cases Lib.hasSuffix (Lib.trimPrefix (Lib.trimPrefix s.data.toList [87, 47]) [34]) [34]
      · simp
      · simp

set_option maxRecDepth 20000 in
set_option maxHeartbeats 3200000 in
theorem implReadTag_any (s : ByteArray) (w : World) (hs : s.size ≤ 2000000) :
    Calls Tryd.prog 11 #[.string s] w fun e w' => e = .returned (tagV (readT s)) ∧ Below w.heap.size w w' := by
  obtain ⟨r1, r2, x, k, o, c, h1, h2, h3, hx, hr⟩ := read_parts s hs
  have H1 : Hid _ := h1
  have H2 : Hid _ := h2
  have H3 : Hid _ := h3
  have HG : Hid _ := fun wx => isTag_any k x wx hx
  have HC : Hid _ := fun wx => Spb.clone_any x wx hx
  have HR : Hid (readT s = if o = true ∧ c = true ∧ tagB x = true then some (k, x) else none) := hr
  clear h1 h2 h3 hr
  generalize readT s = O at HR ⊢
  have HF : Hid (Below w.heap.size w ((w.alloc (.cells #[.bool false, .string ⟨#[]⟩] 24)).alloc (.cells #[.bool k, .string x] 24))) := ((Below.refl _ _).alloc (Nat.le_refl _) _).alloc (by simp) _
  cases o
  · obtain rfl : O = none := HR.out.trans (by simp)
    clear HR
    go_enter Tryd.func11, Tryd.ntmps11
    go_wp2_with fail
    refine (H1.out _).mono ?_
    rintro e w2 ⟨rfl, rfl⟩
    go_wp2_with fail
    refine (H2.out _).mono ?_
    rintro e w2 ⟨rfl, rfl⟩
    go_wp2_with fail
    refine (H3.out _).mono ?_
    rintro e w2 ⟨rfl, rfl⟩
    go_wp2_with fail
    exact bodyPost_ret (v := .tuple #[.agg #[.bool false, .string ⟨#[]⟩], .bool false]) (by simp [results, Tryd.results11, go_sem]) rfl ⟨rfl, HF.out⟩
  cases c
  · obtain rfl : O = none := HR.out.trans (by simp)
    clear HR
    go_enter Tryd.func11, Tryd.ntmps11
    go_wp2_with fail
    refine (H1.out _).mono ?_
    rintro e w2 ⟨rfl, rfl⟩
    go_wp2_with fail
    refine (H2.out _).mono ?_
    rintro e w2 ⟨rfl, rfl⟩
    go_wp2_with fail
    refine (H3.out _).mono ?_
    rintro e w2 ⟨rfl, rfl⟩
    go_wp2_with fail
    exact bodyPost_ret (v := .tuple #[.agg #[.bool false, .string ⟨#[]⟩], .bool false]) (by simp [results, Tryd.results11, go_sem]) rfl ⟨rfl, HF.out⟩
  obtain ⟨W, hW⟩ : ∃ W, W = (w.alloc (.cells #[.bool false, .string ⟨#[]⟩] 24)).alloc (.cells #[.bool k, .string x] 24) := ⟨_, rfl⟩
  have hsz : W.heap.size = w.heap.size + 2 := by rw [hW]; simp
  have x0 : W.cell? ⟨w.heap.size, 0, none⟩ = some (.bool false) := by rw [hW]; simp [go_sem]
  have x1 : W.cell? ⟨w.heap.size, 1, none⟩ = some (.string ⟨#[]⟩) := by rw [hW]; simp [go_sem]
  have xf : ∀ i, W.frozen? ⟨w.heap.size, i, none⟩ = false := by intro i; rw [hW]; simp [go_sem]
  have z0 : W.cell? ⟨w.heap.size + 1, 0, none⟩ = some (.bool k) := by rw [hW]; simp [go_sem]
  have z1 : W.cell? ⟨w.heap.size + 1, 1, none⟩ = some (.string x) := by rw [hW]; simp [go_sem]
  have zf : ∀ i, W.frozen? ⟨w.heap.size + 1, i, none⟩ = false := by intro i; rw [hW]; simp [go_sem]
  have HB1 : Hid (Below w.heap.size w W) := by rw [hW]; exact HF.out
  clear HF
  cases hB : tagB x
  · obtain rfl : O = none := HR.out.trans (by simp [hB])
    rw [hB] at HG
    clear HR hB
    go_enter Tryd.func11, Tryd.ntmps11
    go_wp2_with fail
    refine (H1.out _).mono ?_
    rintro e w2 ⟨rfl, rfl⟩
    go_wp2_with fail
    refine (H2.out _).mono ?_
    rintro e w2 ⟨rfl, rfl⟩
    go_wp2_with fail
    refine (H3.out _).mono ?_
    rintro e w2 ⟨rfl, rfl⟩
    go_wp2_with fail
    rw [← hW]
    clear hW
    refine (HG.out _).mono ?_
    rintro e w2 ⟨rfl, hb2⟩
    have y0 := (hb2.cell (p := ⟨w.heap.size, 0, none⟩) (by show w.heap.size < _; omega)).trans x0
    have y1 := (hb2.cell (p := ⟨w.heap.size, 1, none⟩) (by show w.heap.size < _; omega)).trans x1
    have yf : ∀ i, w2.frozen? ⟨w.heap.size, i, none⟩ = false := fun i => (hb2.frozen (p := ⟨w.heap.size, i, none⟩) (by show w.heap.size < _; omega)).trans (xf i)
    have v0 := (hb2.cell (p := ⟨w.heap.size + 1, 0, none⟩) (by show w.heap.size + 1 < _; omega)).trans z0
    have v1 := (hb2.cell (p := ⟨w.heap.size + 1, 1, none⟩) (by show w.heap.size + 1 < _; omega)).trans z1
    have vf : ∀ i, w2.frozen? ⟨w.heap.size + 1, i, none⟩ = false := fun i => (hb2.frozen (p := ⟨w.heap.size + 1, i, none⟩) (by show w.heap.size + 1 < _; omega)).trans (zf i)
    have HB3 : Hid (Below w.heap.size w w2) := HB1.out.trans (hb2.mono HB1.out.size)
    have hn2 : w.heap.size + 2 ≤ w2.heap.size := hsz ▸ hb2.size
    clear x0 x1 xf z0 z1 zf hb2 hsz HB1 HG
    go_wp2_with fail
    exact bodyPost_ret (v := .tuple #[.agg #[.bool false, .string ⟨#[]⟩], .bool false]) (by simp [results, Tryd.results11, go_sem, y0, y1]) rfl ⟨rfl, (HB3.out.setCell (p := ⟨w.heap.size, 0, none⟩) (Nat.le_refl _) _).setCell (p := ⟨w.heap.size, 1, none⟩) (Nat.le_refl _) _⟩
  · obtain rfl : O = some (k, x) := HR.out.trans (by simp [hB])
    rw [hB] at HG
    clear HR hB
    go_enter Tryd.func11, Tryd.ntmps11
    go_wp2_with fail
    refine (H1.out _).mono ?_
    rintro e w2 ⟨rfl, rfl⟩
    go_wp2_with fail
    refine (H2.out _).mono ?_
    rintro e w2 ⟨rfl, rfl⟩
    go_wp2_with fail
    refine (H3.out _).mono ?_
    rintro e w2 ⟨rfl, rfl⟩
    go_wp2_with fail
    rw [← hW]
    clear hW
    refine (HG.out _).mono ?_
    rintro e w2 ⟨rfl, hb2⟩
    have y0 := (hb2.cell (p := ⟨w.heap.size, 0, none⟩) (by show w.heap.size < _; omega)).trans x0
    have y1 := (hb2.cell (p := ⟨w.heap.size, 1, none⟩) (by show w.heap.size < _; omega)).trans x1
    have yf : ∀ i, w2.frozen? ⟨w.heap.size, i, none⟩ = false := fun i => (hb2.frozen (p := ⟨w.heap.size, i, none⟩) (by show w.heap.size < _; omega)).trans (xf i)
    have v0 := (hb2.cell (p := ⟨w.heap.size + 1, 0, none⟩) (by show w.heap.size + 1 < _; omega)).trans z0
    have v1 := (hb2.cell (p := ⟨w.heap.size + 1, 1, none⟩) (by show w.heap.size + 1 < _; omega)).trans z1
    have vf : ∀ i, w2.frozen? ⟨w.heap.size + 1, i, none⟩ = false := fun i => (hb2.frozen (p := ⟨w.heap.size + 1, i, none⟩) (by show w.heap.size + 1 < _; omega)).trans (zf i)
    have HB3 : Hid (Below w.heap.size w w2) := HB1.out.trans (hb2.mono HB1.out.size)
    have hn2 : w.heap.size + 2 ≤ w2.heap.size := hsz ▸ hb2.size
    clear x0 x1 xf z0 z1 zf hb2 hsz HB1 HG
    go_wp2_with fail
    refine (HC.out _).mono ?_
    rintro e w3 ⟨rfl, hb3⟩
    have x0 := (hb3.cell (p := ⟨w.heap.size, 0, none⟩) (by show w.heap.size < _; omega)).trans y0
    have x1 := (hb3.cell (p := ⟨w.heap.size, 1, none⟩) (by show w.heap.size < _; omega)).trans y1
    have xf : ∀ i, w3.frozen? ⟨w.heap.size, i, none⟩ = false := fun i => (hb3.frozen (p := ⟨w.heap.size, i, none⟩) (by show w.heap.size < _; omega)).trans (yf i)
    have z0 := (hb3.cell (p := ⟨w.heap.size + 1, 0, none⟩) (by show w.heap.size + 1 < _; omega)).trans v0
    have z1 := (hb3.cell (p := ⟨w.heap.size + 1, 1, none⟩) (by show w.heap.size + 1 < _; omega)).trans v1
    have zf : ∀ i, w3.frozen? ⟨w.heap.size + 1, i, none⟩ = false := fun i => (hb3.frozen (p := ⟨w.heap.size + 1, i, none⟩) (by show w.heap.size + 1 < _; omega)).trans (vf i)
    have HB4 : Hid (Below w.heap.size w w3) := HB3.out.trans (hb3.mono HB3.out.size)
    have hn3 : w.heap.size + 2 ≤ w3.heap.size := Nat.le_trans hn2 hb3.size
    clear y0 y1 yf v0 v1 vf hb3 hn2 HB3
    go_wp2_with fail
    exact bodyPost_ret (v := .tuple #[.agg #[.bool k, .string x], .bool true]) (by simp [results, Tryd.results11, go_sem, x0, x1]) rfl ⟨rfl, ((HB4.out.setCell (p := ⟨w.heap.size + 1, 1, none⟩) (by show w.heap.size ≤ w.heap.size + 1; omega) _).setCell (p := ⟨w.heap.size, 0, none⟩) (Nat.le_refl _) _).setCell (p := ⟨w.heap.size, 1, none⟩) (Nat.le_refl _) _⟩

end Go.Proofs.YtgidmoncocbfiaaDoor.Tgi
