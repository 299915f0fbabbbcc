/-
  Walks: impl.FeedUnchunk.
  Walks: impl.FeedUnchunk where it feeds; spec.l5Feed, FeedUnchunk.
-/
import Derived.Test.YtimfcbjgoilnpaaDoorMg1
import Derived.Test.YtimfcbjgoilnpaaDoorJna
namespace Go.Proofs.YtimfcbjgoilnpaaDoor.Unk
open Go.RowKit
open Go.Proofs.YtimfcbjgoilnpaaDoor.Hex
open Go.Proofs.YtimfcbjgoilnpaaDoor.Cqs (rcS rcQ rcC implRead_any l5Chunks_any rc_three)

/-- What is fed: the body, the rest, whether it is done, whether it is wrong. -/
def fB (t : ByteArray) : ByteArray := if rcC t = 0 then rcS t else ⟨#[]⟩
def fR (t : ByteArray) : ByteArray := if rcC t = 0 then t.extract (rcQ t) t.size else if rcC t = 2 then ⟨#[]⟩ else t
def fD (t : ByteArray) : Bool := decide (rcC t = 0)
def fW (t : ByteArray) : Bool := decide (rcC t = 2)
/-- Whether an unchunk may be fed a text. -/
def mayF (B R : ByteArray) (d g : Bool) (s : ByteArray) : Bool := gU B R d g && !d && !g && decide (s.size ≤ 2000)

/-- A block that holds an unchunk. -/
def Bx (w : World) (n : Nat) (B R : ByteArray) (d g : Bool) : Prop :=
  n < w.heap.size ∧ w.cell? ⟨n, 0, none⟩ = some (.string B) ∧ w.cell? ⟨n, 1, none⟩ = some (.string R) ∧ w.cell? ⟨n, 2, none⟩ = some (.bool d) ∧ w.cell? ⟨n, 3, none⟩ = some (.bool g) ∧ ∀ i, w.frozen? ⟨n, i, none⟩ = false
theorem Bx.made (w : World) (B R : ByteArray) (d g : Bool) (o : Nat) : Bx (w.alloc (.cells #[.string B, .string R, .bool d, .bool g] o)) w.heap.size B R d g :=
  ⟨by simp, by simp [go_sem], by simp [go_sem], by simp [go_sem], by simp [go_sem], fun i => by simp [go_sem]⟩
theorem Bx.below {w w' : World} {n : Nat} {B R : ByteArray} {d g : Bool} (h : Bx w n B R d g) (hb : Below w.heap.size w w') : Bx w' n B R d g := by
  obtain ⟨h0, h1, h2, h3, h4, h5⟩ := h
  have e : ∀ i, w'.cell? ⟨n, i, none⟩ = w.cell? ⟨n, i, none⟩ := fun i => hb.cell (p := ⟨n, i, none⟩) h0
  exact ⟨Nat.lt_of_lt_of_le h0 hb.size, (e 0).trans h1, (e 1).trans h2, (e 2).trans h3, (e 3).trans h4, fun i => (hb.frozen (p := ⟨n, i, none⟩) h0).trans (h5 i)⟩
theorem Bx.alloc {w : World} {n : Nat} {B R : ByteArray} {d g : Bool} (h : Bx w n B R d g) (o : Obj) : Bx (w.alloc o) n B R d g := h.below ((Below.refl _ _).alloc (Nat.le_refl _) o)

/-- The world with the argument's box and the answer's. -/
def two (w : World) (B R : ByteArray) (d g : Bool) : World := (w.alloc (.cells #[.string B, .string R, .bool d, .bool g] 36)).alloc (.cells #[.string ⟨#[]⟩, .string ⟨#[]⟩, .bool false, .bool false] 36)
theorem two_facts (w : World) (B R : ByteArray) (d g : Bool) : Below w.heap.size w (two w B R d g) ∧ Bx (two w B R d g) w.heap.size B R d g ∧ Bx (two w B R d g) (w.heap.size + 1) ⟨#[]⟩ ⟨#[]⟩ false false := by
  refine ⟨((Below.refl _ _).alloc (Nat.le_refl _) _).alloc (by simp) _, (Bx.made w B R d g _).alloc _, ?_⟩
  have := Bx.made (w.alloc (.cells #[.string B, .string R, .bool d, .bool g] 36)) ⟨#[]⟩ ⟨#[]⟩ false false 36
  rwa [World.size_alloc] at this
theorem may_no {B R : ByteArray} {d g : Bool} {s : ByteArray} (h : mayF B R d g s = false) : gU B R d g = false ∨ (gU B R d g = true ∧ d = true) ∨ (gU B R d g = true ∧ d = false ∧ g = true) ∨ (gU B R d g = true ∧ d = false ∧ g = false ∧ 2000 < s.size) := by
  unfold mayF at h
  cases h1 : gU B R d g
  · exact .inl rfl
  · cases d
    · cases g
      · rw [h1] at h
        refine .inr (.inr (.inr ⟨rfl, rfl, rfl, ?_⟩))
        have := of_decide_eq_false (show decide (s.size ≤ 2000) = false from h)
        omega
      · exact .inr (.inr (.inl ⟨rfl, rfl, rfl⟩))
    · exact .inr (.inl ⟨rfl, rfl⟩)
theorem may_yes {B R : ByteArray} {d g : Bool} {s : ByteArray} (h : mayF B R d g s = true) : gU B R d g = true ∧ d = false ∧ g = false ∧ s.size ≤ 2000 := by
  unfold mayF at h
  simp only [Bool.and_eq_true, Bool.not_eq_true', decide_eq_true_eq] at h
  exact ⟨h.1.1.1, h.1.1.2, h.1.2, h.2⟩

set_option maxHeartbeats 1600000 in
theorem implFeed_no (B R : ByteArray) (d g : Bool) (s : ByteArray) (w : World) (hT : Tab w) (hR : R.size ≤ 1900000) (hB : B.size ≤ 1900000) (hs : s.size ≤ 1900000) (h : mayF B R d g s = false) :
    Calls Tryd.prog 24 #[.agg #[.string B, .string R, .bool d, .bool g], .string s] w fun e w' => e = .returned (.tuple #[.agg #[.string ⟨#[]⟩, .string ⟨#[]⟩, .bool false, .bool false], .bool false]) ∧ Below w.heap.size w w' := by
  obtain ⟨hB0, hX, hY⟩ := two_facts w B R d g
  have hg := hT.lt
  have HG0 := implGood_any B R d g _ (hT.below hB0 hg) hR hB
  have hcase := may_no h
  have hT2 : Hid (Below w.heap.size w (two w B R d g)) := hB0
  obtain ⟨W, hW⟩ : ∃ W, W = two w B R d g := ⟨_, rfl⟩
  rw [← hW] at HG0 hX hY hT2
  have HX : Hid _ := hX
  have HY : Hid _ := hY
  clear hX hY hT h hB0
  unfold two at hW
  rcases hcase with h | ⟨h, rfl⟩ | ⟨h, rfl, rfl⟩ | ⟨h, rfl, rfl, hl⟩
  all_goals
    rw [h] at HG0
    have HG : Hid _ := HG0
    clear HG0 h
    go_enter Tryd.func24, Tryd.ntmps24
    go_wp2_with fail
    try rw [← hW]
    refine Calls.mono HG.out ?_
    rintro e w2 ⟨rfl, hb2⟩
    obtain ⟨x0, x1, x2, x3, x4, x5⟩ := Bx.below HX.out hb2
    have HY2 : Hid (Bx w2 _ _ _ _ _) := Bx.below HY.out hb2
    obtain ⟨y0, y1, y2, y3, y4, y5⟩ := HY2.out
    have Hb : Hid (Below w.heap.size w w2) := hT2.out.trans (hb2.mono hT2.out.size)
    clear hW hb2 HG HX HY hT2
    go_wp2_with fail
    refine bodyPost_ret (v := .tuple #[.agg #[.string ⟨#[]⟩, .string ⟨#[]⟩, .bool false, .bool false], .bool false]) (by simp [results, Tryd.results24, go_sem, y1, y2, y3, y4]) rfl ⟨rfl, ?_⟩
    repeat (first | exact Hb.out | refine Below.setCell ?_ (by simp) _)

end Go.Proofs.YtimfcbjgoilnpaaDoor.Unk

namespace Go.Proofs.YtimfcbjgoilnpaaDoor.Unk
open Go.RowKit
open Go.Proofs.YtimfcbjgoilnpaaDoor.Hex
open Go.Proofs.YtimfcbjgoilnpaaDoor.Fep (rc_cases rc_more)
open Go.Proofs.YtimfcbjgoilnpaaDoor.Rkb (rcL)
open Go.Proofs.YtimfcbjgoilnpaaDoor.Jna (joinAnew_any)
open Go.Proofs.YtimfcbjgoilnpaaDoor.Cqs (rcS rcQ rcC implRead_any l5Chunks_any rc_three)

theorem feed_0 {t : ByteArray} (h : rcC t = 0) : fB t = rcS t ∧ fR t = t.extract (rcQ t) t.size ∧ fD t = true ∧ fW t = false := by
  unfold fB fR fD fW
  rw [h]
  exact ⟨rfl, rfl, rfl, rfl⟩
theorem feed_1 {t : ByteArray} (h : rcC t = 1) : fB t = ⟨#[]⟩ ∧ fR t = t ∧ fD t = false ∧ fW t = false := by
  unfold fB fR fD fW
  rw [h]
  exact ⟨rfl, rfl, rfl, rfl⟩
theorem feed_2 {t : ByteArray} (h : rcC t = 2) : fB t = ⟨#[]⟩ ∧ fR t = ⟨#[]⟩ ∧ fD t = false ∧ fW t = true := by
  unfold fB fR fD fW
  rw [h]
  exact ⟨rfl, rfl, rfl, rfl⟩
theorem code_3 (t : ByteArray) : (rcC t = 0 ∧ (rcS t).size ≤ 300 ∧ rcQ t ≤ t.size) ∨ (rcC t = 1 ∧ t.size ≤ 788) ∨ rcC t = 2 := by
  rcases rc_cases t with ⟨b, q, h, hb, hq⟩ | h | h
  · refine .inl ⟨by unfold rcC; rw [h], ?_, by unfold rcQ; rw [h]; exact hq⟩
    unfold rcS
    rw [h]
    simpa using hb
  · exact .inr (.inl ⟨by unfold rcC; rw [h], rc_more h⟩)
  · exact .inr (.inr (by unfold rcC; rw [h]))
/-- What is fed is good. -/
theorem feed_good (t : ByteArray) (h : t.size ≤ 4000) : gU (fB t) (fR t) (fD t) (fW t) = true := by
  have he : (⟨#[]⟩ : ByteArray).toList = [] := by rw [ByteArray.toList_eq]
  rcases code_3 t with ⟨h0, hb, hq⟩ | ⟨h1, hl⟩ | h2
  · obtain ⟨e1, e2, e3, e4⟩ := feed_0 h0
    rw [e1, e2, e3, e4, gU_done (by rw [ByteArray.size_extract]; omega)]
    exact decide_eq_true hb
  · obtain ⟨e1, e2, e3, e4⟩ := feed_1 h1
    rw [e1, e2, e3, e4, gU_plain (by omega), h1, he]
    rfl
  · obtain ⟨e1, e2, e3, e4⟩ := feed_2 h2
    rw [e1, e2, e3, e4, gU_wrong (by decide)]
    unfold eqU
    rw [he]
    rfl
theorem plain_rest {B R : ByteArray} (h : gU B R false false = true) : R.size ≤ 788 := by
  have h4 : R.size ≤ 4000 := by
    unfold gU at h
    rw [Bool.and_eq_true] at h
    exact of_decide_eq_true h.1
  rw [gU_plain h4, Bool.and_eq_true] at h
  have h1 : rcC R = 1 := by simpa using h.2
  rcases code_3 R with ⟨h0, _⟩ | ⟨_, hl⟩ | h2
  · omega
  · exact hl
  · omega

set_option maxHeartbeats 3200000 in
theorem implFeed_yes (B R : ByteArray) (s : ByteArray) (w : World) (hT : Tab w) (hB : B.size ≤ 1900000) (hs : s.size ≤ 2000) (h : gU B R false false = true) :
    Calls Tryd.prog 24 #[.agg #[.string B, .string R, .bool false, .bool false], .string s] w fun e w' => e = .returned (.tuple #[.agg #[.string (fB (R ++ s)), .string (fR (R ++ s)), .bool (fD (R ++ s)), .bool (fW (R ++ s))], .bool true]) ∧ Below w.heap.size w w' := by
  have hR := plain_rest h
  obtain ⟨hB0, hX, hY⟩ := two_facts w B R false false
  have hg := hT.lt
  have HG0 := implGood_any B R false false _ (hT.below hB0 hg) (by omega) hB
  rw [h] at HG0
  have HT : Hid (Tab w) := hT
  have hT2 : Hid (Below w.heap.size w (two w B R false false)) := hB0
  obtain ⟨W, hW⟩ : ∃ W, W = two w B R false false := ⟨_, rfl⟩
  rw [← hW] at HG0 hX hY hT2
  have HX : Hid _ := hX
  have HY : Hid _ := hY
  have HG : Hid _ := HG0
  have HJ : Hid _ := fun wx => joinAnew_any R s wx (by omega) (by omega)
  have hts : (R ++ s).size ≤ 2788 := by rw [ByteArray.size_append]; omega
  clear hX hY hT h hB0 HG0
  generalize R ++ s = t at *
  have HR0 := fun wx hx => implRead_any t wx hx (by omega)
  unfold two at hW
  rcases code_3 t with ⟨h0, _, hq⟩ | ⟨h1, _⟩ | h2
  · obtain ⟨e1, e2, e3, e4⟩ := feed_0 h0
    rw [h0] at HR0
    rw [e1, e2, e3, e4]
    have HR : Hid _ := HR0
    clear e1 e2 e3 e4 h0 HR0
    generalize rcS t = Y at *
    generalize rcQ t = q at *
    go_enter Tryd.func24, Tryd.ntmps24
    go_wp2_with fail
    try rw [← hW]
    refine Calls.mono HG.out ?_
    rintro e w2 ⟨rfl, hb2⟩
    have HX2 : Hid (Bx w2 _ _ _ _ _) := Bx.below HX.out hb2
    obtain ⟨x0, x1, x2, x3, x4, x5⟩ := HX2.out
    have HY2 : Hid (Bx w2 _ _ _ _ _) := Bx.below HY.out hb2
    have Hb2 : Hid (Below w.heap.size w w2) := hT2.out.trans (hb2.mono hT2.out.size)
    clear hW hb2 HG HX HY hT2
    go_wp2_with fail
    refine (HJ.out _).mono ?_
    rintro e w3 ⟨rfl, hb3⟩
    have HY3 : Hid (Bx w3 _ _ _ _ _) := Bx.below HY2.out hb3
    have Hb3 : Hid (Below w.heap.size w w3) := Hb2.out.trans (hb3.mono Hb2.out.size)
    clear hb3 HY2 Hb2 HX2 x0 x1 x2 x3 x4 x5
    go_wp2_with fail
    refine (HR.out _ (HT.out.below Hb3.out hg)).mono ?_
    rintro e w4 ⟨rfl, hb4⟩
    have HY4 : Hid (Bx w4 _ _ _ _ _) := Bx.below HY3.out hb4
    have Hb4 : Hid (Below w.heap.size w w4) := Hb3.out.trans (hb4.mono Hb3.out.size)
    obtain ⟨y0, y1, y2, y3, y4, y5⟩ := HY4.out
    clear hb4 HY3 Hb3
    go_wp2_with fail
    refine bodyPost_ret (v := .tuple #[.agg #[.string Y, .string (t.extract q t.size), .bool true, .bool false], .bool true]) (by simp [results, Tryd.results24, go_sem, y1, y2, y3, y4]) rfl ⟨rfl, ?_⟩
    repeat (first | exact Hb4.out | refine Below.setCell ?_ (by simp) _)
  · obtain ⟨e1, e2, e3, e4⟩ := feed_1 h1
    rw [h1] at HR0
    rw [e1, e2, e3, e4]
    have HR : Hid _ := HR0
    clear e1 e2 e3 e4 h1 HR0
    generalize rcS t = Y at *
    generalize rcQ t = q at *
    go_enter Tryd.func24, Tryd.ntmps24
    go_wp2_with fail
    try rw [← hW]
    refine Calls.mono HG.out ?_
    rintro e w2 ⟨rfl, hb2⟩
    have HX2 : Hid (Bx w2 _ _ _ _ _) := Bx.below HX.out hb2
    obtain ⟨x0, x1, x2, x3, x4, x5⟩ := HX2.out
    have HY2 : Hid (Bx w2 _ _ _ _ _) := Bx.below HY.out hb2
    have Hb2 : Hid (Below w.heap.size w w2) := hT2.out.trans (hb2.mono hT2.out.size)
    clear hW hb2 HG HX HY hT2
    go_wp2_with fail
    refine (HJ.out _).mono ?_
    rintro e w3 ⟨rfl, hb3⟩
    have HY3 : Hid (Bx w3 _ _ _ _ _) := Bx.below HY2.out hb3
    have Hb3 : Hid (Below w.heap.size w w3) := Hb2.out.trans (hb3.mono Hb2.out.size)
    clear hb3 HY2 Hb2 HX2 x0 x1 x2 x3 x4 x5
    go_wp2_with fail
    refine (HR.out _ (HT.out.below Hb3.out hg)).mono ?_
    rintro e w4 ⟨rfl, hb4⟩
    have HY4 : Hid (Bx w4 _ _ _ _ _) := Bx.below HY3.out hb4
    have Hb4 : Hid (Below w.heap.size w w4) := Hb3.out.trans (hb4.mono Hb3.out.size)
    obtain ⟨y0, y1, y2, y3, y4, y5⟩ := HY4.out
    clear hb4 HY3 Hb3
    go_wp2_with fail
    refine bodyPost_ret (v := .tuple #[.agg #[.string ⟨#[]⟩, .string t, .bool false, .bool false], .bool true]) (by simp [results, Tryd.results24, go_sem, y1, y2, y3, y4]) rfl ⟨rfl, ?_⟩
    repeat (first | exact Hb4.out | refine Below.setCell ?_ (by simp) _)
  · obtain ⟨e1, e2, e3, e4⟩ := feed_2 h2
    rw [h2] at HR0
    rw [e1, e2, e3, e4]
    have HR : Hid _ := HR0
    clear e1 e2 e3 e4 h2 HR0
    generalize rcS t = Y at *
    generalize rcQ t = q at *
    go_enter Tryd.func24, Tryd.ntmps24
    go_wp2_with fail
    try rw [← hW]
    refine Calls.mono HG.out ?_
    rintro e w2 ⟨rfl, hb2⟩
    have HX2 : Hid (Bx w2 _ _ _ _ _) := Bx.below HX.out hb2
    obtain ⟨x0, x1, x2, x3, x4, x5⟩ := HX2.out
    have HY2 : Hid (Bx w2 _ _ _ _ _) := Bx.below HY.out hb2
    have Hb2 : Hid (Below w.heap.size w w2) := hT2.out.trans (hb2.mono hT2.out.size)
    clear hW hb2 HG HX HY hT2
    go_wp2_with fail
    refine (HJ.out _).mono ?_
    rintro e w3 ⟨rfl, hb3⟩
    have HY3 : Hid (Bx w3 _ _ _ _ _) := Bx.below HY2.out hb3
    have Hb3 : Hid (Below w.heap.size w w3) := Hb2.out.trans (hb3.mono Hb2.out.size)
    clear hb3 HY2 Hb2 HX2 x0 x1 x2 x3 x4 x5
    go_wp2_with fail
    refine (HR.out _ (HT.out.below Hb3.out hg)).mono ?_
    rintro e w4 ⟨rfl, hb4⟩
    have HY4 : Hid (Bx w4 _ _ _ _ _) := Bx.below HY3.out hb4
    have Hb4 : Hid (Below w.heap.size w w4) := Hb3.out.trans (hb4.mono Hb3.out.size)
    obtain ⟨y0, y1, y2, y3, y4, y5⟩ := HY4.out
    clear hb4 HY3 Hb3
    go_wp2_with fail
    refine bodyPost_ret (v := .tuple #[.agg #[.string ⟨#[]⟩, .string ⟨#[]⟩, .bool false, .bool true], .bool true]) (by simp [results, Tryd.results24, go_sem, y1, y2, y3, y4]) rfl ⟨rfl, ?_⟩
    repeat (first | exact Hb4.out | refine Below.setCell ?_ (by simp) _)

set_option maxHeartbeats 3200000 in
theorem l5Feed_any (B R : ByteArray) (d g : Bool) (s : ByteArray) (w : World) (hR : R.size ≤ 800000) (hs : s.size ≤ 800000) :
    Calls Tryd.prog 43 #[.agg #[.string B, .string R, .bool d, .bool g], .string s] w fun e w' => e = .returned (.agg #[.string (fB (R ++ s)), .string (fR (R ++ s)), .bool (fD (R ++ s)), .bool (fW (R ++ s))]) ∧ Below w.heap.size w w' := by
  obtain ⟨hB0, hX, hY⟩ := two_facts w B R d g
  have hT2 : Hid (Below w.heap.size w (two w B R d g)) := hB0
  obtain ⟨W, hW⟩ : ∃ W, W = two w B R d g := ⟨_, rfl⟩
  rw [← hW] at hX hY hT2
  have HX : Hid _ := hX
  have HY : Hid _ := hY
  have hts : (R ++ s).size ≤ 1600000 := by rw [ByteArray.size_append]; omega
  clear hX hY hB0
  obtain ⟨t, ht⟩ : ∃ t, t = R ++ s := ⟨_, rfl⟩
  rw [← ht] at hts ⊢
  have HR0 := fun wx => l5Chunks_any t wx (by omega)
  rw [rc_three] at HR0
  unfold two at hW
  rcases code_3 t with ⟨h0, _, hq⟩ | ⟨h1, _⟩ | h2
  · obtain ⟨e1, e2, e3, e4⟩ := feed_0 h0
    rw [h0] at HR0
    rw [e1, e2, e3, e4]
    have HR : Hid _ := HR0
    clear e1 e2 e3 e4 h0 HR0
    generalize rcS t = Y at *
    generalize rcQ t = q at *
    go_enter Tryd.func43, Tryd.ntmps43
    go_wp2_with fail
    try rw [← hW]
    try rw [← ht]
    refine (HR.out _).mono ?_
    rintro e w2 ⟨rfl, hb2⟩
    have HY2 : Hid (Bx w2 _ _ _ _ _) := Bx.below HY.out hb2
    have Hb2 : Hid (Below w.heap.size w w2) := hT2.out.trans (hb2.mono hT2.out.size)
    obtain ⟨y0, y1, y2, y3, y4, y5⟩ := HY2.out
    clear hW hb2 HX HY hT2 ht
    go_wp2_with fail
    refine bodyPost_ret (v := .agg #[.string Y, .string (t.extract q t.size), .bool true, .bool false]) (by simp [results, Tryd.results43, go_sem, y1, y2, y3, y4]) rfl ⟨rfl, ?_⟩
    repeat (first | exact Hb2.out | refine Below.setCell ?_ (by simp) _)
  · obtain ⟨e1, e2, e3, e4⟩ := feed_1 h1
    rw [h1] at HR0
    rw [e1, e2, e3, e4]
    have HR : Hid _ := HR0
    clear e1 e2 e3 e4 h1 HR0
    generalize rcS t = Y at *
    generalize rcQ t = q at *
    go_enter Tryd.func43, Tryd.ntmps43
    go_wp2_with fail
    try rw [← hW]
    try rw [← ht]
    refine (HR.out _).mono ?_
    rintro e w2 ⟨rfl, hb2⟩
    have HY2 : Hid (Bx w2 _ _ _ _ _) := Bx.below HY.out hb2
    have Hb2 : Hid (Below w.heap.size w w2) := hT2.out.trans (hb2.mono hT2.out.size)
    obtain ⟨y0, y1, y2, y3, y4, y5⟩ := HY2.out
    clear hW hb2 HX HY hT2 ht
    go_wp2_with fail
    refine bodyPost_ret (v := .agg #[.string ⟨#[]⟩, .string t, .bool false, .bool false]) (by simp [results, Tryd.results43, go_sem, y1, y2, y3, y4]) rfl ⟨rfl, ?_⟩
    repeat (first | exact Hb2.out | refine Below.setCell ?_ (by simp) _)
  · obtain ⟨e1, e2, e3, e4⟩ := feed_2 h2
    rw [h2] at HR0
    rw [e1, e2, e3, e4]
    have HR : Hid _ := HR0
    clear e1 e2 e3 e4 h2 HR0
    generalize rcS t = Y at *
    generalize rcQ t = q at *
    go_enter Tryd.func43, Tryd.ntmps43
    go_wp2_with fail
    try rw [← hW]
    try rw [← ht]
    refine (HR.out _).mono ?_
    rintro e w2 ⟨rfl, hb2⟩
    have HY2 : Hid (Bx w2 _ _ _ _ _) := Bx.below HY.out hb2
    have Hb2 : Hid (Below w.heap.size w w2) := hT2.out.trans (hb2.mono hT2.out.size)
    obtain ⟨y0, y1, y2, y3, y4, y5⟩ := HY2.out
    clear hW hb2 HX HY hT2 ht
    go_wp2_with fail
    refine bodyPost_ret (v := .agg #[.string ⟨#[]⟩, .string ⟨#[]⟩, .bool false, .bool true]) (by simp [results, Tryd.results43, go_sem, y1, y2, y3, y4]) rfl ⟨rfl, ?_⟩
    repeat (first | exact Hb2.out | refine Below.setCell ?_ (by simp) _)

set_option maxHeartbeats 1600000 in
theorem specFeed_no (B R : ByteArray) (d g : Bool) (s : ByteArray) (w : World) (hR : R.size ≤ 1900000) (hB : B.size ≤ 1900000) (hs : s.size ≤ 1900000) (h : mayF B R d g s = false) :
    Calls Tryd.prog 23 #[.agg #[.string B, .string R, .bool d, .bool g], .string s] w fun e w' => e = .returned (.tuple #[.agg #[.string ⟨#[]⟩, .string ⟨#[]⟩, .bool false, .bool false], .bool false]) ∧ Below w.heap.size w w' := by
  obtain ⟨hB0, hX, hY⟩ := two_facts w B R d g
  have HG0 := specGood_any B R d g (two w B R d g) hR hB
  have hcase := may_no h
  have hT2 : Hid (Below w.heap.size w (two w B R d g)) := hB0
  obtain ⟨W, hW⟩ : ∃ W, W = two w B R d g := ⟨_, rfl⟩
  rw [← hW] at HG0 hX hY hT2
  have HX : Hid _ := hX
  have HY : Hid _ := hY
  clear hX hY h hB0
  unfold two at hW
  rcases hcase with h | ⟨h, rfl⟩ | ⟨h, rfl, rfl⟩ | ⟨h, rfl, rfl, hl⟩
  all_goals
    rw [h] at HG0
    have HG : Hid _ := HG0
    clear HG0 h
    go_enter Tryd.func23, Tryd.ntmps23
    go_wp2_with fail
    try rw [← hW]
    refine Calls.mono HG.out ?_
    rintro e w2 ⟨rfl, hb2⟩
    obtain ⟨x0, x1, x2, x3, x4, x5⟩ := Bx.below HX.out hb2
    have HY2 : Hid (Bx w2 _ _ _ _ _) := Bx.below HY.out hb2
    obtain ⟨y0, y1, y2, y3, y4, y5⟩ := HY2.out
    have Hb : Hid (Below w.heap.size w w2) := hT2.out.trans (hb2.mono hT2.out.size)
    clear hW hb2 HG HX HY hT2
    go_wp2_with fail
    refine bodyPost_ret (v := .tuple #[.agg #[.string ⟨#[]⟩, .string ⟨#[]⟩, .bool false, .bool false], .bool false]) (by simp [results, Tryd.results23, go_sem, y1, y2, y3, y4]) rfl ⟨rfl, ?_⟩
    repeat (first | exact Hb.out | refine Below.setCell ?_ (by simp) _)

set_option maxHeartbeats 3200000 in
theorem specFeed_yes (B R : ByteArray) (s : ByteArray) (w : World) (hB : B.size ≤ 1900000) (hs : s.size ≤ 2000) (h : gU B R false false = true) :
    Calls Tryd.prog 23 #[.agg #[.string B, .string R, .bool false, .bool false], .string s] w fun e w' => e = .returned (.tuple #[.agg #[.string (fB (R ++ s)), .string (fR (R ++ s)), .bool (fD (R ++ s)), .bool (fW (R ++ s))], .bool true]) ∧ Below w.heap.size w w' := by
  have hR := plain_rest h
  obtain ⟨hB0, hX, hY⟩ := two_facts w B R false false
  have HG0 := specGood_any B R false false (two w B R false false) (by omega) hB
  rw [h] at HG0
  have hT2 : Hid (Below w.heap.size w (two w B R false false)) := hB0
  obtain ⟨W, hW⟩ : ∃ W, W = two w B R false false := ⟨_, rfl⟩
  rw [← hW] at HG0 hX hY hT2
  have HX : Hid _ := hX
  have HY : Hid _ := hY
  have HG : Hid _ := HG0
  have hts : (R ++ s).size ≤ 2788 := by rw [ByteArray.size_append]; omega
  have HF : Hid _ := fun wx => l5Feed_any B R false false s wx (by omega) (by omega)
  have hfg := feed_good (R ++ s) (by omega)
  have hfb : (fB (R ++ s)).size ≤ 300 := by
    unfold fB
    rcases code_3 (R ++ s) with ⟨h0, hb, _⟩ | ⟨h1, _⟩ | h2
    · rw [if_pos h0]; exact hb
    · rw [if_neg (by omega)]; decide
    · rw [if_neg (by omega)]; decide
  have hfr : (fR (R ++ s)).size ≤ 2788 := by
    unfold fR
    split
    · rw [ByteArray.size_extract]; omega
    · split
      · decide
      · exact hts
  clear hX hY h hB0 HG0 hts
  generalize fB (R ++ s) = b at *
  generalize fR (R ++ s) = r at *
  generalize fD (R ++ s) = d at *
  generalize fW (R ++ s) = g at *
  have HK0 := fun wx => specGood_any b r d g wx (by omega) (by omega)
  rw [hfg] at HK0
  have HK : Hid _ := HK0
  clear HK0 hfg
  unfold two at hW
  go_enter Tryd.func23, Tryd.ntmps23
  go_wp2_with fail
  try rw [← hW]
  refine Calls.mono HG.out ?_
  rintro e w2 ⟨rfl, hb2⟩
  have HX2 : Hid (Bx w2 _ _ _ _ _) := Bx.below HX.out hb2
  obtain ⟨x0, x1, x2, x3, x4, x5⟩ := HX2.out
  have HY2 : Hid (Bx w2 _ _ _ _ _) := Bx.below HY.out hb2
  have Hb2 : Hid (Below w.heap.size w w2) := hT2.out.trans (hb2.mono hT2.out.size)
  clear hW hb2 HG HX HY hT2
  go_wp2_with fail
  refine (HF.out _).mono ?_
  rintro e w3 ⟨rfl, hb3⟩
  have HY3 : Hid (Bx w3 _ _ _ _ _) := Bx.below HY2.out hb3
  have Hb3 : Hid (Below w.heap.size w w3) := Hb2.out.trans (hb3.mono Hb2.out.size)
  clear hb3 HY2 Hb2 HX2 x0 x1 x2 x3 x4 x5
  obtain ⟨w4, hw4⟩ : ∃ w4, w4 = w3.alloc (.cells #[.string b, .string r, .bool d, .bool g] 36) := ⟨_, rfl⟩
  have HZ4 : Hid (Bx w4 w3.heap.size b r d g) := by rw [hw4]; exact Bx.made w3 b r d g _
  have hb4 : Below w3.heap.size w3 w4 := by rw [hw4]; exact (Below.refl _ _).alloc (Nat.le_refl _) _
  have HY4 : Hid (Bx w4 _ _ _ _ _) := Bx.below HY3.out hb4
  have Hb4 : Hid (Below w.heap.size w w4) := Hb3.out.trans (hb4.mono Hb3.out.size)
  clear hb4 HY3 Hb3
  go_wp2_with fail
  rw [← hw4]
  refine (HK.out _).mono ?_
  rintro e w5 ⟨rfl, hb5⟩
  have HZ5 : Hid (Bx w5 _ _ _ _ _) := Bx.below HZ4.out hb5
  have HY5 : Hid (Bx w5 _ _ _ _ _) := Bx.below HY4.out hb5
  have Hb5 : Hid (Below w.heap.size w w5) := Hb4.out.trans (hb5.mono Hb4.out.size)
  obtain ⟨y0, y1, y2, y3, y4, y5⟩ := HY5.out
  obtain ⟨z0, z1, z2, z3, z4, z5⟩ := HZ5.out
  clear hb5 HZ4 HY4 Hb4 hw4
  go_wp2_with fail
  refine bodyPost_ret (v := .tuple #[.agg #[.string b, .string r, .bool d, .bool g], .bool true]) (by simp [results, Tryd.results23, go_sem, y1, y2, y3, y4]) rfl ⟨rfl, ?_⟩
  repeat (first | exact Hb5.out | refine Below.setCell ?_ (by simp) _)

end Go.Proofs.YtimfcbjgoilnpaaDoor.Unk

