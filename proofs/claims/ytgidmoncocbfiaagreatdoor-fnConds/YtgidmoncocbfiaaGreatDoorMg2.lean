/-
  Walks: impl.isTag, TagText, WeakSame, StrongSame.
  Lists of tags that the call itself makes: what an append of a tag leaves; how they are read; compared.
  Pure: what TagsOf answers of a list's parts. Small walks: spec.l1In, impl.isBetween.
-/
import Derived.Test.YtgidmoncocbfiaaGreatDoorTgp
import Derived.Test.YtgidmoncocbfiaaGreatDoorShelf
import Derived.Deep.RegionHeld3
import Derived.Test.YtgidmoncocbfiaaGreatDoorMg1
import Derived.WalkKit
import Derived.Test.YtgidmoncocbfiaaGreatDoorTga
namespace Go.Proofs.YtgidmoncocbfiaaGreatDoor.Tgi
open Go.RowKit
open Go.Proofs.YtgidmoncocbfiaaGreatDoor.Fbs
open Go.Proofs.YtgidmoncocbfiaaGreatDoor.Tga
open Go.Proofs.YtgidmoncocbfiaaGreatDoor.Tgp

theorem any_call (t : ByteArray) (w : World) (ht : t.size ≤ 2000000) (hp : plainB t.data.toList = true) :
    Calls Tryz.prog 63 #[.string t, .string ⟨#[32, 34, 92]⟩] w fun e w' => e = .returned (.bool (Lib.containsAny t.data.toList [32, 34, 92])) ∧ Below w.heap.size w w' :=
  Tryz.strings_ContainsAny_laid t ⟨#[32, 34, 92]⟩ w (by omega) (by decide) (plain_ascii hp) (by
    intro j b hb
    have := List.mem_of_getElem? hb
    simp at this
    rcases this with rfl | rfl | rfl <;> decide)

set_option maxRecDepth 20000 in
set_option maxHeartbeats 1600000 in
theorem isTag_any (k : Bool) (t : ByteArray) (w : World) (ht : t.size ≤ 2000000) :
    Calls Tryz.prog 31 #[.agg #[.bool k, .string t]] w fun e w' => e = .returned (.bool (tagB t)) ∧ Below w.heap.size w w' := by
  have HP : Hid _ := fun wx => isPlain_any t wx ht
  have HR : Hid (tagB t = (decide (t.size ≤ 60) && (plainB t.data.toList && !Lib.containsAny t.data.toList [32, 34, 92]))) := tag_told t
  generalize tagB t = R at HR ⊢
  obtain ⟨W, hW⟩ : ∃ W, W = w.alloc (.cells #[.bool k, .string t] 25) := ⟨_, rfl⟩
  have hn : w.heap.size < W.heap.size := by rw [hW]; simp
  have HB : Hid (Below w.heap.size w W) := by rw [hW]; exact (Below.refl _ _).alloc (Nat.le_refl _) _
  have x1 : W.cell? ⟨w.heap.size, 1, none⟩ = some (.string t) := by rw [hW]; simp [go_sem]
  by_cases hz : t.size ≤ 60
  rotate_left
  · have hd : decide ((t.size : Int) ≤ 60) = false := decide_eq_false (by omega)
    obtain rfl : R = false := by rw [HR.out, decide_eq_false hz]; rfl
    clear HR HP
    go_enter Tryz.func31, Tryz.ntmps31
    go_wp2_with fail
    try rw [← hW]
    go_ret
    exact ⟨rfl, HB.out⟩
  have hd : decide ((t.size : Int) ≤ 60) = true := decide_eq_true (by omega)
  cases hp : plainB t.data.toList
  · obtain rfl : R = false := by rw [HR.out, hp]; simp
    rw [hp] at HP
    clear HR hp
    go_enter Tryz.func31, Tryz.ntmps31
    go_wp2_with (go_at_call 62; refine (HP.out _).mono ?_; rintro e w2 ⟨rfl, rfl⟩)
    try rw [← hW]
    go_ret
    exact ⟨rfl, HB.out⟩
  · have HC : Hid _ := fun wx => any_call t wx ht hp
    obtain rfl : R = !Lib.containsAny t.data.toList [32, 34, 92] := by rw [HR.out, hp, decide_eq_true hz]; simp
    rw [hp] at HP
    clear HR hp
    generalize Lib.containsAny t.data.toList [32, 34, 92] = c at HC ⊢
    go_enter Tryz.func31, Tryz.ntmps31
    go_wp2_with fail
    rw [← hW]
    clear hW
    refine (HP.out _).mono ?_
    rintro e w2 ⟨rfl, rfl⟩
    go_wp2_with fail
    refine (HC.out _).mono ?_
    rintro e w3 ⟨rfl, hb3⟩
    go_wp2_with fail
    go_ret
    exact ⟨rfl, HB.out.trans (hb3.mono HB.out.size)⟩

set_option maxHeartbeats 1600000 in
theorem implTagText_any (k : Bool) (t : ByteArray) (w : World) (ht : t.size ≤ 2000000) :
    Calls Tryz.prog 9 #[.agg #[.bool k, .string t]] w fun e w' => e = .returned (.tuple #[.string (tagS k t), .bool (tagB t)]) ∧ Below w.heap.size w w' := by
  have HG : Hid _ := fun wx => isTag_any k t wx ht
  obtain ⟨W, hW⟩ : ∃ W, W = w.alloc (.cells #[.bool k, .string t] 25) := ⟨_, rfl⟩
  have hn : w.heap.size < W.heap.size := by rw [hW]; simp
  have hb1 : Below w.heap.size w W := by rw [hW]; exact (Below.refl _ _).alloc (Nat.le_refl _) _
  have x0 : W.cell? ⟨w.heap.size, 0, none⟩ = some (.bool k) := by rw [hW]; simp [go_sem]
  have x1 : W.cell? ⟨w.heap.size, 1, none⟩ = some (.string t) := by rw [hW]; simp [go_sem]
  have HS : Hid (tagS k t = if tagB t then tagT k t else ⟨#[]⟩) := rfl
  generalize tagS k t = S at HS ⊢
  have c1 : (⟨#[34]⟩ : ByteArray).size = 1 := rfl
  have c2 : (⟨#[87, 47]⟩ : ByteArray).size = 2 := rfl
  have k1 : ¬ 9223372036854775807 < 1 + t.size := by omega
  have k2 : ¬ 9223372036854775807 < 1 + t.size + 1 := by omega
  have k3 : ¬ 9223372036854775807 < 2 + (1 + t.size + 1) := by omega
  cases hB : tagB t
  all_goals
    rw [hB] at HS HG
    clear hB
  · obtain rfl : S = ⟨#[]⟩ := HS.out
    clear HS k1 k2 k3
    go_enter Tryz.func9, Tryz.ntmps9
    go_wp2_with fail
    rw [← hW]
    refine (HG.out _).mono ?_
    rintro e w2 ⟨rfl, hb2⟩
    go_wp2_with fail
    go_ret2
    exact ⟨rfl, hb1.trans (hb2.mono hb1.size)⟩
  · obtain rfl : S = tagT k t := HS.out
    clear HS
    have HT : Hid (tagT k t = if k then (⟨#[87, 47]⟩ : ByteArray) ++ ((⟨#[34]⟩ : ByteArray) ++ t ++ ⟨#[34]⟩) else (⟨#[34]⟩ : ByteArray) ++ t ++ ⟨#[34]⟩) := by
      show _ = _
      unfold tagT
      cases k
      · rfl
      · apply ByteArray.ext; apply Array.ext'; simp
    generalize tagT k t = T at HT ⊢
    cases k
    all_goals
      go_enter Tryz.func9, Tryz.ntmps9
      go_wp2_with fail
      rw [← hW]
      refine (HG.out _).mono ?_
      rintro e w2 ⟨rfl, hb2⟩
      have y0 := (hb2.cell (p := ⟨w.heap.size, 0, none⟩) hn).trans x0
      have y1 := (hb2.cell (p := ⟨w.heap.size, 1, none⟩) hn).trans x1
      have hb3 := hb1.trans (hb2.mono hb1.size)
      clear x0 x1 hb2 hW hn hb1
      go_wp2_with fail
      go_ret2
      exact ⟨by rw [HT.out]; rfl, hb3⟩

set_option maxRecDepth 20000 in
set_option maxHeartbeats 3200000 in
theorem implWeakSame_any (k1 : Bool) (t1 : ByteArray) (k2 : Bool) (t2 : ByteArray) (w : World) (h1 : t1.size ≤ 2000000) (h2 : t2.size ≤ 2000000) :
    Calls Tryz.prog 91 #[.agg #[.bool k1, .string t1], .agg #[.bool k2, .string t2]] w fun e w' => e = .returned (.tuple #[.bool (sameB t1 t2), .bool (tagB t1 && tagB t2)]) ∧ Below w.heap.size w w' := by
  have HG : Hid _ := fun wx => isTag_any k1 t1 wx h1
  have HH : Hid _ := fun wx => isTag_any k2 t2 wx h2
  obtain ⟨W, hW⟩ : ∃ W, W = (w.alloc (.cells #[.bool k1, .string t1] 25)).alloc (.cells #[.bool k2, .string t2] 25) := ⟨_, rfl⟩
  have hs : W.heap.size = w.heap.size + 2 := by rw [hW]; simp
  have hb1 : Below w.heap.size w W := by rw [hW]; exact ((Below.refl _ _).alloc (Nat.le_refl _) _).alloc (by simp) _
  have x0 : W.cell? ⟨w.heap.size, 0, none⟩ = some (.bool k1) := by rw [hW]; simp [go_sem]
  have x1 : W.cell? ⟨w.heap.size, 1, none⟩ = some (.string t1) := by rw [hW]; simp [go_sem]
  have z0 : W.cell? ⟨w.heap.size + 1, 0, none⟩ = some (.bool k2) := by rw [hW]; simp [go_sem]
  have z1 : W.cell? ⟨w.heap.size + 1, 1, none⟩ = some (.string t2) := by rw [hW]; simp [go_sem]
  have HS : Hid ((sameB t1 t2) = (tagB t1 && tagB t2 && (t1.toList == t2.toList))) := by show _ = _; rfl
  generalize sameB t1 t2 = S at HS ⊢
  cases hB : tagB t1
  · rw [hB] at HS HG
    obtain rfl : S = false := HS.out
    clear hB HS HH
    generalize tagB t2 = c2
    go_enter Tryz.func91, Tryz.ntmps91
    go_wp2_with fail
    rw [← hW]
    refine (HG.out _).mono ?_
    rintro e w2 ⟨rfl, hb2⟩
    go_wp2_with fail
    go_ret2
    exact ⟨rfl, hb1.trans (hb2.mono hb1.size)⟩
  cases hC : tagB t2
  all_goals
    rw [hB, hC] at HS
    rw [hB] at HG
    rw [hC] at HH
    clear hB hC
  case' false =>
    obtain rfl : S = false := HS.out
    clear HS
  case' true =>
    obtain rfl : S = (t1.toList == t2.toList) := HS.out
    clear HS
  all_goals
    go_enter Tryz.func91, Tryz.ntmps91
    go_wp2_with fail
    rw [← hW]
    refine (HG.out _).mono ?_
    rintro e w2 ⟨rfl, hb2⟩
    have y0 := (hb2.cell (p := ⟨w.heap.size, 0, none⟩) (by show w.heap.size < _; omega)).trans x0
    have y1 := (hb2.cell (p := ⟨w.heap.size, 1, none⟩) (by show w.heap.size < _; omega)).trans x1
    have v0 := (hb2.cell (p := ⟨w.heap.size + 1, 0, none⟩) (by show w.heap.size + 1 < _; omega)).trans z0
    have v1 := (hb2.cell (p := ⟨w.heap.size + 1, 1, none⟩) (by show w.heap.size + 1 < _; omega)).trans z1
    have hb3 := hb1.trans (hb2.mono hb1.size)
    have hn2 : w.heap.size + 2 ≤ w2.heap.size := hs ▸ hb2.size
    clear x0 x1 z0 z1 hb2 hW hs HG hb1
    go_wp2_with fail
    refine (HH.out _).mono ?_
    rintro e w4 ⟨rfl, hb4⟩
    have u0 := (hb4.cell (p := ⟨w.heap.size, 0, none⟩) (by show w.heap.size < _; omega)).trans y0
    have u1 := (hb4.cell (p := ⟨w.heap.size, 1, none⟩) (by show w.heap.size < _; omega)).trans y1
    have q0 := (hb4.cell (p := ⟨w.heap.size + 1, 0, none⟩) (by show w.heap.size + 1 < _; omega)).trans v0
    have q1 := (hb4.cell (p := ⟨w.heap.size + 1, 1, none⟩) (by show w.heap.size + 1 < _; omega)).trans v1
    have hb5 := hb3.trans (hb4.mono hb3.size)
    have hn4 : w.heap.size + 2 ≤ w4.heap.size := Nat.le_trans hn2 hb4.size
    clear y0 y1 v0 v1 hb4 hb3 hn2 HH
    go_wp2_with fail
    go_ret2
    exact ⟨rfl, hb5⟩

theorem strong_same (k1 : Bool) (t1 : ByteArray) (k2 : Bool) (t2 : ByteArray) : strongB k1 t1 k2 t2 = (sameB t1 t2 && (!k1 && !k2)) := by
  unfold strongB sameB
  cases k1 <;> cases k2 <;> simp

set_option maxRecDepth 20000 in
set_option maxHeartbeats 3200000 in
theorem implStrongSame_any (k1 : Bool) (t1 : ByteArray) (k2 : Bool) (t2 : ByteArray) (w : World) (h1 : t1.size ≤ 2000000) (h2 : t2.size ≤ 2000000) :
    Calls Tryz.prog 67 #[.agg #[.bool k1, .string t1], .agg #[.bool k2, .string t2]] w fun e w' => e = .returned (.tuple #[.bool (strongB k1 t1 k2 t2), .bool (tagB t1 && tagB t2)]) ∧ Below w.heap.size w w' := by
  have HG : Hid _ := fun wx => implWeakSame_any k1 t1 k2 t2 wx h1 h2
  obtain ⟨W, hW⟩ : ∃ W, W = (w.alloc (.cells #[.bool k1, .string t1] 25)).alloc (.cells #[.bool k2, .string t2] 25) := ⟨_, rfl⟩
  have hs : W.heap.size = w.heap.size + 2 := by rw [hW]; simp
  have hb1 : Below w.heap.size w W := by rw [hW]; exact ((Below.refl _ _).alloc (Nat.le_refl _) _).alloc (by simp) _
  have x0 : W.cell? ⟨w.heap.size, 0, none⟩ = some (.bool k1) := by rw [hW]; simp [go_sem]
  have x1 : W.cell? ⟨w.heap.size, 1, none⟩ = some (.string t1) := by rw [hW]; simp [go_sem]
  have z0 : W.cell? ⟨w.heap.size + 1, 0, none⟩ = some (.bool k2) := by rw [hW]; simp [go_sem]
  have z1 : W.cell? ⟨w.heap.size + 1, 1, none⟩ = some (.string t2) := by rw [hW]; simp [go_sem]
  rw [strong_same]
  generalize sameB t1 t2 = S at HG ⊢
  generalize (tagB t1 && tagB t2) = G at HG ⊢
  cases S <;> cases k1 <;> cases k2
  all_goals
    go_enter Tryz.func67, Tryz.ntmps67
    go_wp2_with fail
    rw [← hW]
    refine (HG.out _).mono ?_
    rintro e w2 ⟨rfl, hb2⟩
    have y0 := (hb2.cell (p := ⟨w.heap.size, 0, none⟩) (by show w.heap.size < _; omega)).trans x0
    have y1 := (hb2.cell (p := ⟨w.heap.size, 1, none⟩) (by show w.heap.size < _; omega)).trans x1
    have v0 := (hb2.cell (p := ⟨w.heap.size + 1, 0, none⟩) (by show w.heap.size + 1 < _; omega)).trans z0
    have v1 := (hb2.cell (p := ⟨w.heap.size + 1, 1, none⟩) (by show w.heap.size + 1 < _; omega)).trans z1
    have hb3 := hb1.trans (hb2.mono hb1.size)
    clear x0 x1 z0 z1 hb2 hW hs HG hb1
    go_wp2_with fail
    go_ret2
    exact ⟨rfl, hb3⟩

end Go.Proofs.YtgidmoncocbfiaaGreatDoor.Tgi

namespace Go.Proofs.YtgidmoncocbfiaaGreatDoor.Tgb
open Go.RowKit
open Go.Proofs.YtgidmoncocbfiaaGreatDoor.Mrk (same_text below_drewN grown_below grown_of grown_set below_grown)

theorem infoG : (Tryz.prog.info? 25).map (fun i => (i.zero, i.size, i.bytes)) = some (some (.agg #[.bool false, .string ⟨#[]⟩]), 2, 24) := by kernel_rfl

/-- The cells of a list of tags. -/
def flatG (l : List (Bool × ByteArray)) : List Value := l.flatMap fun c => [.bool c.1, .string c.2]
theorem flat_len (l : List (Bool × ByteArray)) : (flatG l).length = l.length * 2 := by
  induction l with
  | nil => rfl
  | cons c r ih => simp only [flatG, List.flatMap_cons, List.length_append, List.length_cons, List.length_nil] at ih ⊢; omega
theorem flat_snoc (l : List (Bool × ByteArray)) (c : Bool × ByteArray) : flatG (l ++ [c]) = flatG l ++ [.bool c.1, .string c.2] := by simp [flatG]

/-- The value v holds the tags l, in memory of the call's own from block B on. -/
def tagsIn (w : World) (B : Nat) (v : Value) (l : List (Bool × ByteArray)) : Prop := w.ownsRow B 25 2 v l.length (flatG l)

theorem tagsIn.below {w w' : World} {B : Nat} {v : Value} {l : List (Bool × ByteArray)} (h : tagsIn w B v l) (hb : Below w.heap.size w w') : tagsIn w' B v l := by
  refine ⟨h.1, ?_⟩
  rcases h.2 with hn | ⟨g, cap, cur, rfl, hbg, hg, rest⟩
  · exact .inl hn
  · exact .inr ⟨g, cap, cur, rfl, hbg, (hb.block g (Array.getElem?_eq_some_iff.1 hg).1).trans hg, rest⟩
theorem tagsIn.nil (w : World) (B : Nat) : tagsIn w B (.slice none 0 0) [] := ⟨rfl, .inl ⟨rfl, rfl⟩⟩

/-- 'append(v, c)' of one tag, for the walk. -/
theorem wpList_append_tag (wr : World) {ops : Array Oper} {rest : List Oper} {o : Oper} {a : Act} {Q : Exit → Act → World → Prop} (hgd : o.guard = none) (s x : Operand)
    (ho : o.op = .call { callee := .builtin .append, args := #[s, x], argTypes := #[80, 80] })
    (B : Nat) (v : Value) (l : List (Bool × ByteArray)) (hs : a.eval s = v) (hown : tagsIn wr B v l)
    (X : Bool) (z : ByteArray) (cap : Nat) (hx : a.eval x = .slice (some ⟨wr.heap.size, 0, none⟩) 1 cap)
    (hb : l.length + 1 ≤ 1000000) (hbase : B ≤ wr.heap.size) (B0 : Nat) (hB0 : B0 ≤ B) (W : World) (hbel : Below B0 W wr)
    (h : ∀ v' w', tagsIn w' B v' (l ++ [(X, z)]) → Below B0 W w' → wpList Tryz.prog ops Q rest (a.put o.dst v') w') : wpList Tryz.prog ops Q (o :: rest) a (wr.alloc (.cells #[.bool X, .string z] 25)) := by
  obtain ⟨i0, hi, hz0, hz1, hz2⟩ := info_parts infoG
  refine wpList_append_own _ hgd s x 80 ho B 25 i0 (.agg #[.bool false, .string ⟨#[]⟩]) 2 24 Tryz.underlying80 hi hz0 hz1 hz2 rfl (by decide) v l.length _ hs (World.ownsRow.alloc hown _) ⟨wr.heap.size, 0, none⟩ 1 cap [.bool X, .string z] hx rfl ?_ ?_
    (by unfold maxLen; omega) (by omega) (by simp; omega) ?_
  · intro j u hj
    match j, hj with
    | 0, hj => simp at hj; subst hj; simp [Addr.add]
    | 1, hj => simp at hj; subst hj; simp [Addr.add]
  · intro u hu; simp at hu; rcases hu with rfl | rfl <;> rfl
  · intro v' w' hown' hg _
    refine h v' w' ?_ ((hbel.alloc (by omega) _).grown hg (by simp; omega) (fun k hk => Nat.le_trans hB0 (World.ownsRow.lt hown k hk).1))
    unfold tagsIn
    rw [List.length_append, flat_snoc]
    exact hown'

theorem tagsIn.made (w : World) (B : Nat) (h : B ≤ w.heap.size) : tagsIn (w.alloc (.cells #[] 25)) B (.slice (some ⟨w.heap.size, 0, none⟩) 0 0) [] :=
  ⟨rfl, .inr ⟨w.heap.size, 0, #[], rfl, h, by show (w.heap.push _)[w.heap.size]? = _; simp, Nat.le_refl _, by decide, rfl, rfl⟩⟩
theorem tagsIn.alloc {w : World} {B : Nat} {v : Value} {l : List (Bool × ByteArray)} (h : tagsIn w B v l) (o : Obj) : tagsIn (w.alloc o) B v l := World.ownsRow.alloc h o
theorem tagsIn.base {w : World} {B B' : Nat} {v : Value} {l : List (Bool × ByteArray)} (h : tagsIn w B v l) (hB : B' ≤ B) : tagsIn w B' v l := by
  refine ⟨h.1, ?_⟩
  rcases h.2 with hn | ⟨g, cap, cur, rfl, hbg, rest⟩
  · exact .inl hn
  · exact .inr ⟨g, cap, cur, rfl, Nat.le_trans hB hbg, rest⟩

theorem flat_at : ∀ (l : List (Bool × ByteArray)) (i : Nat) (c : Bool × ByteArray), l[i]? = some c → (flatG l)[i * 2]? = some (.bool c.1) ∧ (flatG l)[i * 2 + 1]? = some (.string c.2)
  | [], i, c, h => by simp at h
  | d :: r, 0, c, h => by
    have : d = c := by simpa using h
    subst this
    exact ⟨rfl, rfl⟩
  | d :: r, i + 1, c, h => by
    have := flat_at r i c (by simpa using h)
    have e : flatG (d :: r) = .bool d.1 :: .string d.2 :: flatG r := rfl
    rw [e, show (i + 1) * 2 = i * 2 + 1 + 1 from by omega, show i * 2 + 1 + 1 + 1 = (i * 2 + 1) + 1 + 1 from rfl]
    simpa using this

/-- A row of tags in a block. -/
def RowG (w : World) (g : Nat) (l : List (Bool × ByteArray)) : Prop := g < w.heap.size ∧ (∀ i, w.frozen? ⟨g, i, none⟩ = false) ∧ ∀ i c, l[i]? = some c → w.cell? ⟨g, i * 2, none⟩ = some (.bool c.1) ∧ w.cell? ⟨g, i * 2 + 1, none⟩ = some (.string c.2)
/-- A list of tags: empty, or in a block from lo on and below hi. -/
def GV (w : World) (a : Option Addr) (l : List (Bool × ByteArray)) (lo hi : Nat) : Prop := l = [] ∨ ∃ g, a = some ⟨g, 0, none⟩ ∧ lo ≤ g ∧ g < hi ∧ RowG w g l

theorem RowG.below {w w' : World} {g : Nat} {l : List (Bool × ByteArray)} (h : RowG w g l) (hb : Below w.heap.size w w') : RowG w' g l :=
  ⟨Nat.lt_of_lt_of_le h.1 hb.size, fun i => (hb.frozen (p := ⟨g, i, none⟩) h.1).trans (h.2.1 i), fun i c hc => ⟨(hb.cell (p := ⟨g, i * 2, none⟩) h.1).trans (h.2.2 i c hc).1, (hb.cell (p := ⟨g, i * 2 + 1, none⟩) h.1).trans (h.2.2 i c hc).2⟩⟩
theorem GV.below {w w' : World} {a : Option Addr} {l : List (Bool × ByteArray)} {lo hi : Nat} (h : GV w a l lo hi) (hb : Below w.heap.size w w') : GV w' a l lo hi := by
  rcases h with h | ⟨g, h1, h2, h3, h4⟩
  · exact .inl h
  · exact .inr ⟨g, h1, h2, h3, h4.below hb⟩
theorem gv_of {w : World} {B : Nat} {v : Value} {l : List (Bool × ByteArray)} (h : tagsIn w B v l) : ∃ a cap, v = .slice a l.length cap ∧ GV w a l B w.heap.size := by
  have hh := h
  rcases h.2 with ⟨rfl, h0⟩ | ⟨g, cap, cur, rfl, hbg, hg, hnc, hcm, hcs, htake⟩
  · have hl : l = [] := by simpa using h0
    subst hl
    exact ⟨none, 0, rfl, .inl rfl⟩
  · refine ⟨_, _, rfl, .inr ⟨g, rfl, hbg, (Array.getElem?_eq_some_iff.1 hg).1, (Array.getElem?_eq_some_iff.1 hg).1, fun i => by simp [World.frozen?, hg], fun i c hc => ?_⟩⟩
    obtain ⟨f1, f2⟩ := flat_at l i c hc
    have e1 := World.ownsRow.cells hh (g := g) rfl (i * 2) _ f1
    have e2 := World.ownsRow.cells hh (g := g) rfl (i * 2 + 1) _ f2
    rw [Addr.add_lit, Nat.zero_add] at e1 e2
    exact ⟨e1, e2⟩


theorem GV.kept {w w' : World} {a : Option Addr} {l : List (Bool × ByteArray)} {lo hi : Nat} (h : GV w a l lo hi) {row : Option Nat} (hg : w.grownBy w' row) (hr : ∀ g, row = some g → hi ≤ g) : GV w' a l lo hi := by
  rcases h with h | ⟨g, h1, h2, h3, h4, h5, h6⟩
  · exact .inl h
  · have hb : w'.heap[g]? = w.heap[g]? := hg.block g h4 (fun e => by have := hr g e.symm; omega)
    have hc : ∀ i, w'.cell? ⟨g, i, none⟩ = w.cell? ⟨g, i, none⟩ := fun i => by unfold World.cell?; rw [hb]
    refine .inr ⟨g, h1, h2, h3, Nat.lt_of_lt_of_le h4 hg.size, fun i => ?_, fun i c hi => ⟨(hc _).trans (h6 i c hi).1, (hc _).trans (h6 i c hi).2⟩⟩
    have := h5 i
    unfold World.frozen? at this ⊢
    rwa [hb]
theorem GV.wide {w : World} {a : Option Addr} {l : List (Bool × ByteArray)} {lo hi lo' hi' : Nat} (h : GV w a l lo hi) (h1 : lo' ≤ lo) (h2 : hi ≤ hi') : GV w a l lo' hi' := by
  rcases h with h | ⟨g, e, g1, g2, hr⟩
  · exact .inl h
  · exact .inr ⟨g, e, by omega, by omega, hr⟩

end Go.Proofs.YtgidmoncocbfiaaGreatDoor.Tgb

namespace Go.Proofs.YtgidmoncocbfiaaGreatDoor.Tgx
open Go.RowKit
open Go.Proofs.YtgidmoncocbfiaaGreatDoor.Fbs (ret_bool)
open Go.Proofs.YtgidmoncocbfiaaGreatDoor.Tga Go.Proofs.YtgidmoncocbfiaaGreatDoor.Tgb

theorem in_yes (n lo hi : Int) (w : World) (h1 : lo ≤ n) (h2 : n ≤ hi) : Calls Tryz.prog 29 #[.int .i64 n, .int .i64 lo, .int .i64 hi] w fun e w' => e = .returned (.bool true) ∧ w' = w := by
  go_enter Tryz.func29, Tryz.ntmps29
  go_wp2
  go_ret
  exact ⟨ret_bool (by first | rfl | exact decide_eq_true h2), rfl⟩
theorem in_no (n lo hi : Int) (w : World) (h1 : n < lo ∨ hi < n) : Calls Tryz.prog 29 #[.int .i64 n, .int .i64 lo, .int .i64 hi] w fun e w' => e = .returned (.bool false) ∧ w' = w := by
  by_cases h2 : n < lo
  · clear h1
    go_enter Tryz.func29, Tryz.ntmps29
    go_wp2
    go_ret
    exact ⟨rfl, rfl⟩
  · have h3 : hi < n := by omega
    clear h1
    go_enter Tryz.func29, Tryz.ntmps29
    go_wp2
    go_ret
    exact ⟨ret_bool (by first | rfl | exact decide_eq_false (by omega)), rfl⟩
theorem between_yes (lo n hi : Int) (w : World) (h1 : lo ≤ n) (h2 : n ≤ hi) : Calls Tryz.prog 49 #[.int .i64 lo, .int .i64 n, .int .i64 hi] w fun e w' => e = .returned (.bool true) ∧ w' = w := by
  go_enter Tryz.func49, Tryz.ntmps49
  go_wp2
  go_ret
  exact ⟨ret_bool (by first | rfl | exact decide_eq_true h2), rfl⟩
theorem between_no (lo n hi : Int) (w : World) (h1 : n < lo ∨ hi < n) : Calls Tryz.prog 49 #[.int .i64 lo, .int .i64 n, .int .i64 hi] w fun e w' => e = .returned (.bool false) ∧ w' = w := by
  by_cases h2 : n < lo
  · clear h1
    go_enter Tryz.func49, Tryz.ntmps49
    go_wp2
    go_ret
    exact ⟨rfl, rfl⟩
  · have h3 : hi < n := by omega
    clear h1
    go_enter Tryz.func49, Tryz.ntmps49
    go_wp2
    go_ret
    exact ⟨ret_bool (by first | rfl | exact decide_eq_false (by omega)), rfl⟩

def okAll (l : List ByteArray) : Bool := l.all fun x => (readT x).isSome
def outs (l : List ByteArray) : List (Bool × ByteArray) := l.filterMap readT
/-- The one part that stands for all tags. -/
def starB (l : List ByteArray) : Bool := decide (l.length = 1) && (((l[0]?).getD (⟨#[]⟩ : ByteArray)).toList == [42])
/-- 0: no list of tags; 1: the star; 2: tags. -/
def kindL (l : List ByteArray) : Nat := if 1 ≤ l.length ∧ l.length ≤ 20 then if starB l then 1 else if okAll l then 2 else 0 else 0
def kindR : Option (List ByteArray) → Nat
  | none => 0
  | some l => kindL l
def tagsR (o : Option (List ByteArray)) : List (Bool × ByteArray) := if kindR o = 2 then outs (o.getD []) else []
def oneR (o : Option (List ByteArray)) : Bool := decide (kindR o = 1)
def okR (o : Option (List ByteArray)) : Bool := decide (kindR o ≠ 0)
/-- What TagsOf answers. -/
def TagsP (w : World) (B : Nat) (e : Ending) (o : Option (List ByteArray)) : Prop := ∃ v, e = .returned (.tuple #[v, .bool (oneR o), .bool (okR o)]) ∧ tagsIn w B v (tagsR o)

theorem kind_none : kindR none = 0 := rfl
theorem kind_len {l : List ByteArray} (h : ¬ (1 ≤ l.length ∧ l.length ≤ 20)) : kindR (some l) = 0 := by show kindL l = _; unfold kindL; rw [if_neg h]
theorem kind_star {l : List ByteArray} (h1 : 1 ≤ l.length) (h2 : l.length ≤ 20) (h : starB l = true) : kindR (some l) = 1 := by show kindL l = _; unfold kindL; rw [if_pos ⟨h1, h2⟩, if_pos h]
theorem kind_bad {l : List ByteArray} (h : starB l = false) (hb : okAll l = false) : kindR (some l) = 0 := by
  show kindL l = _
  unfold kindL
  rw [h, hb]
  split <;> rfl
theorem kind_tags {l : List ByteArray} (h1 : 1 ≤ l.length) (h2 : l.length ≤ 20) (h : starB l = false) (hb : okAll l = true) : kindR (some l) = 2 := by
  show kindL l = _
  unfold kindL
  rw [if_pos ⟨h1, h2⟩, h, hb]; rfl
theorem tagsP_zero {w : World} {B : Nat} {o : Option (List ByteArray)} (h : kindR o = 0) : TagsP w B (.returned (.tuple #[.slice none 0 0, .bool false, .bool false])) o := by
  refine ⟨_, by unfold oneR okR; rw [h]; rfl, ?_⟩
  unfold tagsR
  rw [h]
  exact tagsIn.nil _ _
theorem tagsP_star {w : World} {B : Nat} {o : Option (List ByteArray)} (h : kindR o = 1) : TagsP w B (.returned (.tuple #[.slice none 0 0, .bool true, .bool true])) o := by
  refine ⟨_, by unfold oneR okR; rw [h]; rfl, ?_⟩
  unfold tagsR
  rw [h]
  exact tagsIn.nil _ _
theorem tagsP_tags {w : World} {B : Nat} {l : List ByteArray} {v : Value} (h : kindR (some l) = 2) (hv : tagsIn w B v (outs l)) : TagsP w B (.returned (.tuple #[v, .bool false, .bool true])) (some l) := by
  refine ⟨_, by unfold oneR okR; rw [h]; rfl, ?_⟩
  unfold tagsR
  rw [h]
  exact hv
theorem outs_some {l : List ByteArray} {i : Nat} (h : i < l.length) {c : Bool × ByteArray} (hc : readT l[i] = some c) : outs (l.take (i + 1)) = outs (l.take i) ++ [c] := by
  unfold outs
  rw [List.take_succ_eq_append_getElem h, List.filterMap_append]
  simp [hc]
theorem ok_not {l : List ByteArray} {i : Nat} (h : i < l.length) (hc : readT l[i] = none) : okAll l = false := by
  unfold okAll
  rw [List.all_eq_false]
  exact ⟨l[i], List.getElem_mem h, by rw [hc]; simp⟩
theorem ok_yes {l : List ByteArray} (h : ∀ j, (hj : j < l.length) → (readT l[j]).isSome = true) : okAll l = true := by
  unfold okAll
  rw [List.all_eq_true]
  intro x hx
  obtain ⟨j, hj, rfl⟩ := List.getElem_of_mem hx
  exact h j hj
theorem outs_len (l : List ByteArray) : (outs l).length ≤ l.length := List.length_filterMap_le _ _

/-! The parts of a list are no longer than it. -/

theorem dropW_le (p : UInt8 → Bool) : ∀ l : List UInt8, (l.dropWhile p).length ≤ l.length
  | [] => Nat.le_refl _
  | c :: r => by
    rw [List.dropWhile_cons]
    split
    · have := dropW_le p r; simp; omega
    · exact Nat.le_refl _
theorem trim_le (s : ByteArray) : (Tri.trimS s).size ≤ s.size := by
  show ((Lib.trimB s.data.toList 32).toArray).size ≤ _
  rw [List.size_toArray]
  unfold Lib.trimB Lib.trimLeftB Lib.trimRightB
  have h1 := dropW_le (fun x => x == 32) (List.reverse (List.dropWhile (fun x => x == 32) s.data.toList.reverse))
  have h2 := dropW_le (fun x => x == 32) s.data.toList.reverse
  have h3 : s.data.toList.length = s.size := by simp
  simp only [List.length_reverse] at h1 h2
  omega
theorem add_le {n : Nat} {acc : List ByteArray} {x : ByteArray} (h : ∀ y ∈ acc, y.size ≤ n) (hx : x.size ≤ n) : ∀ y ∈ Lsp.addT acc x, y.size ≤ n := by
  intro y hy
  unfold Lsp.addT at hy
  split at hy
  · exact h y hy
  · rcases List.mem_append.1 hy with hy | hy
    · exact h y hy
    · have : y = x := by simpa using hy
      subst this; exact hx
theorem part_trim (s : ByteArray) (a b : Nat) : (Tri.trimS (s.extract a b)).size ≤ s.size := by
  have := trim_le (s.extract a b)
  rw [ByteArray.size_extract] at this
  omega
theorem listF_sz (s : ByteArray) : ∀ (f i fr : Nat) (op : Bool) (acc l : List ByteArray), Lsp.listF s f i fr op acc = some l → (∀ x ∈ acc, x.size ≤ s.size) → ∀ x ∈ l, x.size ≤ s.size
  | 0, _, _, _, _, _, h, _ => by cases h
  | f + 1, i, fr, op, acc, l, h, ha => by
    simp only [Lsp.listF] at h
    split at h
    · split at h
      · exact listF_sz s f _ _ _ _ _ h (add_le ha (part_trim s _ _))
      · split at h
        · exact listF_sz s f _ _ _ _ _ h ha
        · split at h
          · split at h
            · cases h
            · exact listF_sz s f _ _ _ _ _ h ha
          · exact listF_sz s f _ _ _ _ _ h ha
    · split at h
      · cases h
      · cases h
        exact add_le ha (part_trim s _ _)
theorem part_le {s : ByteArray} {l : List ByteArray} (hs : s.size ≤ 2000000) (h : Lsp.listO s = some l) : ∀ x ∈ l, x.size ≤ 2000000 := by
  unfold Lsp.listO at h
  split at h
  · intro x hx
    exact Nat.le_trans (listF_sz s _ _ _ _ _ _ h (fun _ h => by cases h) x hx) hs
  · cases h

open Go.Proofs.YtgidmoncocbfiaaGreatDoor.Mrk (TV RowT tv_of) in
theorem one_part {w : World} {aP : Option Addr} {x : ByteArray} {lo hi : Nat} (hTV : TV w aP [x] lo hi) : ∃ g, aP = some ⟨g, 0, none⟩ ∧ g < w.heap.size ∧ w.cell? ⟨g, 0, none⟩ = some (.string x) := by
  rcases hTV with h | ⟨g, h1, _, _, h4⟩
  · cases h
  · exact ⟨g, h1, h4.1, h4.2.2 0 _ rfl⟩
open Go.Proofs.YtgidmoncocbfiaaGreatDoor.Mrk (TV RowT tv_of) in
theorem parts_row {w : World} {aP : Option Addr} {l : List ByteArray} {lo hi : Nat} (hn : 1 ≤ l.length) (hTV : TV w aP l lo hi) : ∃ g, aP = some ⟨g, 0, none⟩ ∧ g < w.heap.size ∧ ∀ j, (h : j < l.length) → w.cell? ⟨g, j, none⟩ = some (.string l[j]) := by
  rcases hTV with h | ⟨g, h1, _, _, h4⟩
  · subst h; simp at hn
  · exact ⟨g, h1, h4.1, fun j h => h4.2.2 j _ (List.getElem?_eq_getElem h)⟩
theorem star_one {l : List ByteArray} (h : l.length = 1) (hs : starB l = false) : ((l[0]'(by omega)).toList == [42]) = false := by
  unfold starB at hs
  rw [decide_eq_true h, Bool.true_and] at hs
  have e : ((l[0]?).getD (⟨#[]⟩ : ByteArray)) = l[0]'(by omega) := by rw [List.getElem?_eq_getElem (by omega)]; rfl
  rwa [e] at hs

end Go.Proofs.YtgidmoncocbfiaaGreatDoor.Tgx

