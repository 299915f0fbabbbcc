/-
  Walks: draws: (*l1Cur).request.
-/
import Derived.Test.YtaplkbkpgdpbaaaGreatDoorDga
import Derived.Laws.AppendOwnNone
namespace Go.Proofs.YtaplkbkpgdpbaaaGreatDoor.Cur
open Go.RowKit
open Go.Proofs.YtaplkbkpgdpbaaaGreatDoor.Fdb (fieldsIn wpList_append_field FV fv_of RowF flatF flat_len infoF)

theorem flat_app (a b : List (ByteArray × ByteArray)) : flatF (a ++ b) = flatF a ++ flatF b := by simp [flatF]
theorem flat_one (l : List (ByteArray × ByteArray)) : ∀ u ∈ flatF l, u.oneCell' = true := by
  intro u hu
  unfold flatF at hu
  rw [List.mem_flatMap] at hu
  obtain ⟨c, _, hc⟩ := hu
  simp only [List.mem_cons, List.not_mem_nil, or_false] at hc
  rcases hc with rfl | rfl <;> rfl

/-- 'append(v, l...)' of fields, for the walk. -/
theorem wpList_append_fields (wr : World) {ops : Array Oper} {rest : List Oper} {o : Oper} {a : Act} {Q : Exit → Act → World → Prop} (hgd : o.guard = none) (s x : Operand)
    (ho : o.op = .call { callee := .builtin .append, args := #[s, x], argTypes := #[23, 23] })
    (B : Nat) (v : Value) (l : List (ByteArray × ByteArray)) (hs : a.eval s = v) (hown : fieldsIn wr B v l)
    (B1 : Nat) (v1 : Value) (l1 : List (ByteArray × ByteArray)) (hx : a.eval x = v1) (h1 : fieldsIn wr B1 v1 l1)
    (hb : l.length + l1.length ≤ 1000000) (hbase : B ≤ wr.heap.size) (W : World) (hbel : Below B W wr)
    (h : ∀ v' w', fieldsIn w' B v' (l ++ l1) → Below B W w' → wpList Tryz.prog ops Q rest (a.put o.dst v') w') : wpList Tryz.prog ops Q (o :: rest) a wr := by
  obtain ⟨i0, hi, hz0, hz1, hz2⟩ := info_parts infoF
  have hh := h1
  rcases h1.2 with ⟨rfl, h0⟩ | ⟨g, cap, cur, rfl, hbg, hg, hnc, hcm, hcs, htake⟩
  · have hl : l1 = [] := by
      cases l1 with
      | nil => rfl
      | cons c r => simp at h0
    subst hl
    refine wpList_append_own_none hgd s x 23 ho B 102 i0 2 Tryz.underlying23 hi v l.length _ hs hown hx ?_
    exact h v wr (by rw [List.append_nil]; exact hown) hbel
  · refine wpList_append_own _ hgd s x 23 ho B 102 i0 (.agg #[.string ⟨#[]⟩, .string ⟨#[]⟩]) 2 32 Tryz.underlying23 hi hz0 hz1 hz2 rfl (by decide) v l.length _ hs hown ⟨g, 0, none⟩ l1.length cap (flatF l1) hx (flat_len l1)
      (fun j u hj => World.ownsRow.cells hh (g := g) rfl j u hj) (flat_one l1) (by unfold maxLen; omega) (by omega) hbase ?_
    intro v' w' hown' hg' _
    refine h v' w' ?_ (hbel.grown hg' hbase (fun k hk => (World.ownsRow.lt hown k hk).1))
    unfold fieldsIn
    rw [List.length_append, flat_app]
    exact hown'

/-- A block that holds a request, its texts short. -/
def QB (w : World) (b : Nat) (r : Value) : Prop := b < w.heap.size ∧ (∀ i, w.frozen? ⟨b, i, none⟩ = false) ∧ ∃ M T Bd : ByteArray, M.size ≤ 20 ∧ T.size ≤ 20 ∧ Bd.size ≤ 5 ∧ w.cell? ⟨b, 0, none⟩ = some (.string M) ∧ w.cell? ⟨b, 1, none⟩ = some (.string T) ∧ w.cell? ⟨b, 2, none⟩ = some r ∧ w.cell? ⟨b, 3, none⟩ = some (.string Bd)
theorem QB.made (w : World) (M T Bd : ByteArray) (r : Value) (t : TypeId) (h1 : M.size ≤ 20) (h2 : T.size ≤ 20) (h3 : Bd.size ≤ 5) : QB (w.alloc (.cells #[.string M, .string T, r, .string Bd] t)) w.heap.size r :=
  ⟨by simp, fun i => World.frozen?_alloc_at _ t _ i rfl, M, T, Bd, h1, h2, h3, by rw [World.cell?_alloc_mark]; rfl, by rw [World.cell?_alloc_mark]; rfl, by rw [World.cell?_alloc_mark]; rfl, by rw [World.cell?_alloc_mark]; rfl⟩
theorem QB.but {w w' : World} {b cb : Nat} {r : Value} (h : QB w b r) (hb : But cb w w') (hc : b ≠ cb) : QB w' b r := by
  obtain ⟨h1, h2, M, T, Bd, e1, e2, e3, k0, k1, k2, k3⟩ := h
  exact ⟨Nat.lt_of_lt_of_le h1 hb.2.2.2.1, fun i => ((bcells hb).2 b i h1 hc).trans (h2 i), M, T, Bd, e1, e2, e3, ((bcells hb).1 b 0 h1 hc).trans k0, ((bcells hb).1 b 1 h1 hc).trans k1, ((bcells hb).1 b 2 h1 hc).trans k2, ((bcells hb).1 b 3 h1 hc).trans k3⟩
theorem QB.s0 {w : World} {b : Nat} {r : Value} (h : QB w b r) (x : ByteArray) (hx : x.size ≤ 20) : QB (w.setCell ⟨b, 0, none⟩ (.string x)) b r := by
  obtain ⟨h1, h2, M, T, Bd, e1, e2, e3, k0, k1, k2, k3⟩ := h
  exact ⟨by simpa [World.setCell] using h1, fun i => by simp [go_sem, h2], x, T, Bd, hx, e2, e3, by simp [go_sem, k0], by simp [go_sem, k1], by simp [go_sem, k2], by simp [go_sem, k3]⟩
theorem QB.s1 {w : World} {b : Nat} {r : Value} (h : QB w b r) (x : ByteArray) (hx : x.size ≤ 20) : QB (w.setCell ⟨b, 1, none⟩ (.string x)) b r := by
  obtain ⟨h1, h2, M, T, Bd, e1, e2, e3, k0, k1, k2, k3⟩ := h
  exact ⟨by simpa [World.setCell] using h1, fun i => by simp [go_sem, h2], M, x, Bd, e1, hx, e3, by simp [go_sem, k0], by simp [go_sem, k1], by simp [go_sem, k2], by simp [go_sem, k3]⟩
theorem QB.s2 {w : World} {b : Nat} {r : Value} (h : QB w b r) (x : Value) : QB (w.setCell ⟨b, 2, none⟩ x) b x := by
  obtain ⟨h1, h2, M, T, Bd, e1, e2, e3, k0, k1, k2, k3⟩ := h
  exact ⟨by simpa [World.setCell] using h1, fun i => by simp [go_sem, h2], M, T, Bd, e1, e2, e3, by simp [go_sem, k0], by simp [go_sem, k1], World.cell?_setCell_same _ _ _ k2, by simp [go_sem, k3]⟩
theorem QB.other {w : World} {b b' : Nat} {r : Value} (h : QB w b r) (hb : b ≠ b') (j : Nat) (u : Value) : QB (w.setCell ⟨b', j, none⟩ u) b r := by
  obtain ⟨h1, h2, M, T, Bd, e1, e2, e3, k0, k1, k2, k3⟩ := h
  exact ⟨by simpa [World.setCell] using h1, fun i => by simp [go_sem, h2], M, T, Bd, e1, e2, e3, by rw [World.cell?_setCell_other _ _ _ _ (by simp)]; exact k0, by rw [World.cell?_setCell_other _ _ _ _ (by simp)]; exact k1, by rw [World.cell?_setCell_other _ _ _ _ (by simp)]; exact k2, by rw [World.cell?_setCell_other _ _ _ _ (by simp)]; exact k3⟩
/-- A block of a request's type. -/
def TB (w : World) (b : Nat) : Prop := ∃ cs f, w.heap[b]? = some (.cells cs 25 f)
theorem TB.made (w : World) (cs : Array Value) : TB (w.alloc (.cells cs 25)) w.heap.size := ⟨cs, (0, 0), by show (w.heap.push _)[w.heap.size]? = _; simp⟩
theorem TB.lt {w : World} {b : Nat} (h : TB w b) : b < w.heap.size := by
  obtain ⟨cs, f, h⟩ := h
  exact (Array.getElem?_eq_some_iff.1 h).1
theorem TB.but {w w' : World} {b cb : Nat} (h : TB w b) (hb : But cb w w') (hc : b ≠ cb) : TB w' b := by
  have hl := h.lt
  obtain ⟨cs, f, h⟩ := h
  exact ⟨cs, f, (hb.2.2.2.2 b hl hc).trans h⟩
theorem TB.set {w : World} {b : Nat} (h : TB w b) (b' j : Nat) (u : Value) : TB (w.setCell ⟨b', j, none⟩ u) b := by
  obtain ⟨cs, f, h⟩ := h
  by_cases e : b' = b
  · subst e
    exact ⟨cs.setIfInBounds j u, f, by simp [World.setCell, Array.getElem?_modify, h]⟩
  · exact ⟨cs, f, by simp [World.setCell, Array.getElem?_modify, e, h]⟩
theorem fields_set {w : World} {B b : Nat} {v : Value} {l : List (ByteArray × ByteArray)} (h : fieldsIn w B v l) (hb : TB w b) (j : Nat) (u : Value) : fieldsIn (w.setCell ⟨b, j, none⟩ u) B v l := by
  refine ⟨h.1, ?_⟩
  rcases h.2 with hn | ⟨g, cap, cur, rfl, hbg, hg, rest⟩
  · exact .inl hn
  · refine .inr ⟨g, cap, cur, rfl, hbg, ?_, rest⟩
    have hne : b ≠ g := by
      intro e
      subst e
      obtain ⟨cs, f, h⟩ := hb
      rw [h] at hg
      have := Option.some.inj hg
      injection this with _ h2 _
      exact absurd h2 (by decide)
    rw [← hg]
    simp [World.setCell, Array.getElem?_modify, hne]

theorem TB.apart {w : World} {b g n cap : Nat} {B : Nat} {l : List (ByteArray × ByteArray)} (hb : TB w b) (h : fieldsIn w B (.slice (some ⟨g, 0, none⟩) n cap) l) : b ≠ g := by
  rcases h.2 with ⟨he, _⟩ | ⟨g', cap', cur, he, hbg, hg, rest⟩
  · cases he
  · have : g = g' := by injection he with h1 _ _; injection h1 with h2; injection h2
    subst this
    intro e
    subst e
    obtain ⟨cs, f, h⟩ := hb
    rw [h] at hg
    have := Option.some.inj hg
    injection this with _ h2 _
    exact absurd h2 (by decide)

/-- 'append(v, c)' of one field, what else is there staying. -/
theorem wpList_append_field2 (wr : World) {ops : Array Oper} {rest : List Oper} {o : Oper} {a : Act} {Q : Exit → Act → World → Prop} (hgd : o.guard = none) (s x : Operand)
    (ho : o.op = .call { callee := .builtin .append, args := #[s, x], argTypes := #[23, 23] })
    (B : Nat) (v : Value) (l : List (ByteArray × ByteArray)) (hs : a.eval s = v) (hown : fieldsIn wr B v l)
    (X z : ByteArray) (cap : Nat) (hx : a.eval x = .slice (some ⟨wr.heap.size, 0, none⟩) 1 cap)
    (hb : l.length + 1 ≤ 1000000) (hbase : B ≤ wr.heap.size)
    (h : ∀ v' w' g', fieldsIn w' B v' (l ++ [(X, z)]) → But g' wr w' → B ≤ g' → (∀ b, TB wr b → b ≠ g') → wpList Tryz.prog ops Q rest (a.put o.dst v') w') : wpList Tryz.prog ops Q (o :: rest) a (wr.alloc (.cells #[.string X, .string z] 102)) := by
  obtain ⟨i0, hi, hz0, hz1, hz2⟩ := info_parts infoF
  refine wpList_append_own _ hgd s x 23 ho B 102 i0 (.agg #[.string ⟨#[]⟩, .string ⟨#[]⟩]) 2 32 Tryz.underlying23 hi hz0 hz1 hz2 rfl (by decide) v l.length _ hs (World.ownsRow.alloc hown _) ⟨wr.heap.size, 0, none⟩ 1 cap [.string X, .string z] hx rfl ?_ ?_
    (by unfold maxLen; omega) (by omega) (by simp; omega) ?_
  · intro j u hj
    match j, hj with
    | 0, hj => simp at hj; subst hj; simp [Addr.add]
    | 1, hj => simp at hj; subst hj; simp [Addr.add]
  · intro u hu; simp at hu; rcases hu with rfl | rfl <;> rfl
  · intro v' w' hown' hg _
    have ha : Below wr.heap.size wr (wr.alloc (.cells #[.string X, .string z] 102)) := (Below.refl _ _).alloc (Nat.le_refl _) _
    have hfin : fieldsIn w' B v' (l ++ [(X, z)]) := by
      unfold fieldsIn
      rw [List.length_append, flat_app]
      exact hown'
    have hsz : wr.heap.size ≤ w'.heap.size := Nat.le_trans ha.size hg.size
    have hh := hown
    rcases hown.2 with ⟨rfl, h0⟩ | ⟨g, cap2, cur, rfl, hbg, hgg, _⟩
    · refine h v' w' wr.heap.size hfin ⟨hg.os.trans ha.os, hg.tape.trans ha.tape, hg.output.trans ha.output, hsz, fun k hk hne => ?_⟩ hbase (fun b hb => Nat.ne_of_lt hb.lt)
      exact (hg.block k (by simp; omega) (by simp [Value.ownBlock])).trans (ha.block k hk)
    · refine h v' w' g hfin ⟨hg.os.trans ha.os, hg.tape.trans ha.tape, hg.output.trans ha.output, hsz, fun k hk hne => ?_⟩ hbg (fun b hb => hb.apart hh)
      exact (hg.block k (by simp; omega) (by simp [Value.ownBlock]; exact hne)).trans (ha.block k hk)

theorem fields_setb {w : World} {B b : Nat} {v : Value} {l : List (ByteArray × ByteArray)} (h : fieldsIn w B v l) (hb : b < B) (j : Nat) (u : Value) : fieldsIn (w.setCell ⟨b, j, none⟩ u) B v l :=
  fields_but (cb := b) h (But.set (But.refl b w) j u) hb

set_option maxRecDepth 20000 in
set_option maxHeartbeats 25600000 in
theorem request_any (cb : Nat) (v : Value) (n N : Nat) (w : World) (hC : Cursor w cb v n N) (hN : N ≤ 500000000) :
    Calls Tryz.prog 58 #[.pointer (some ⟨cb, 0, none⟩)] w fun e w' => ∃ (M T : ByteArray) (r : Value) (Bd : ByteArray) (l : List (ByteArray × ByteArray)), e = .returned (.agg #[.string M, .string T, r, .string Bd]) ∧ M.size ≤ 20 ∧ T.size ≤ 20 ∧ Bd.size ≤ 5 ∧ l.length ≤ 44 ∧ (∀ c ∈ l, c.1.size ≤ 20 ∧ c.2.size ≤ 20) ∧ fieldsIn w' w.heap.size r l ∧ Cursor w' cb v n (N + 1000) ∧ But cb w w' := by
  have hcb : cb < w.heap.size := hC.2.2.1
  have HC0 : Hid (Cursor (w.alloc (.cells #[.string ⟨#[]⟩, .string ⟨#[]⟩, .slice none 0 0, .string ⟨#[]⟩] 25)) cb v n N) := Cursor.below hC ((Below.refl _ _).alloc (Nat.le_refl _) _)
  have HB0 : Hid (But cb w (w.alloc (.cells #[.string ⟨#[]⟩, .string ⟨#[]⟩, .slice none 0 0, .string ⟨#[]⟩] 25))) := But.of_below ((Below.refl _ _).alloc (Nat.le_refl _) _)
  have HR0 : Hid (QB (w.alloc (.cells #[.string ⟨#[]⟩, .string ⟨#[]⟩, .slice none 0 0, .string ⟨#[]⟩] 25)) w.heap.size (.slice none 0 0)) := QB.made w ⟨#[]⟩ ⟨#[]⟩ ⟨#[]⟩ (.slice none 0 0) 25 (by decide) (by decide) (by decide)
  have hw0 : (w.alloc (.cells #[.string ⟨#[]⟩, .string ⟨#[]⟩, .slice none 0 0, .string ⟨#[]⟩] 25)).heap.size = w.heap.size + 1 := by simp
  clear hC
  go_enter Tryz.func58, Tryz.ntmps58
  go_wp2_with fail
  refine (body_any cb v n _ _ HC0.out (by omega)).mono ?_
  rintro e w1 ⟨Bd, r1, l1, rfl, hBd, hl1, hz1, hown1, hC1, hb1⟩
  have hs1 : w.heap.size + 1 ≤ w1.heap.size := by have := hb1.2.2.2.1; omega
  rw [hw0] at hown1
  have HC1 : Hid _ := hC1
  have HB1 : Hid _ := But.trans HB0.out hb1
  have HR1 : Hid _ := QB.but HR0.out hb1 (by omega)
  clear HC0 HB0 hC1 hb1 HR0
  go_wp2_with fail
  refine (of_new2 (fun x => x.size ≤ 20) [⟨#[71, 69, 84]⟩, ⟨#[72, 69, 65, 68]⟩, ⟨#[80, 85, 84]⟩, ⟨#[68, 69, 76, 69, 84, 69]⟩] (by decide) 4 rfl (by omega) (by omega) cb v n _ _ HC1.out (by omega)).mono ?_
  rintro e w2 ⟨M, rfl, hM, hC2, hb2⟩
  have hown2 := fields_but hown1 hb2 (by omega)
  have hs2 := Nat.le_trans hs1 hb2.2.2.2.1
  have HC2 : Hid _ := hC2
  have HB2 : Hid _ := But.trans HB1.out hb2
  have HR2 : Hid _ := QB.but HR1.out hb2 (by omega)
  clear HC1 HB1 hC2 hb2 hown1 HR1 hs1
  go_wp2_with fail
  refine (of_new2 (fun x => x.size ≤ 20) [⟨#[47]⟩, ⟨#[47, 97, 63, 98]⟩, ⟨#[42]⟩, ⟨#[104, 116, 116, 112, 58, 47, 47, 104, 47]⟩] (by decide) 4 rfl (by omega) (by omega) cb v n _ _ HC2.out (by omega)).mono ?_
  rintro e w3 ⟨T, rfl, hT, hC3, hb3⟩
  have hown3 := fields_but hown2 hb3 (by omega)
  have hs3 := Nat.le_trans hs2 hb3.2.2.2.1
  have HC3 : Hid _ := hC3
  have HB3 : Hid _ := But.trans HB2.out hb3
  have HR3 : Hid _ := QB.but HR2.out hb3 (by omega)
  clear HC2 HB2 hC3 hb3 hown2 HR2 hs2
  go_wp2_with fail
  refine (fields_any cb v n _ _ HC3.out (by omega)).mono ?_
  rintro e w4 ⟨r4, l4, rfl, hl4, hz4, hown4, hC4, hb4⟩
  have hown14 := fields_but hown3 hb4 (by omega)
  have hs4 := Nat.le_trans hs3 hb4.2.2.2.1
  have hs34 := hb4.2.2.2.1
  have HC4 : Hid _ := hC4
  have HB4 : Hid _ := But.trans HB3.out hb4
  have HR4 : Hid _ := QB.but HR3.out hb4 (by omega)
  clear HC3 HB3 hC4 hb4 hown3 HR3
  go_wp2_with (at_builtin; refine wpList_append_fields w4 rfl _ _ rfl w3.heap.size _ l4 (by rfl) hown4 (w.heap.size + 1) _ l1 (by rfl) hown14 (by omega) hs34 w4 (Below.refl _ _) ?_)
  intro r5 w5 hown5 hbel5
  have hs45 : w4.heap.size ≤ w5.heap.size := hbel5.size
  have hs5 : w.heap.size + 1 ≤ w5.heap.size := Nat.le_trans hs4 hs45
  have hs35 : w3.heap.size ≤ w5.heap.size := Nat.le_trans hs34 hs45
  have hbt5 : But cb w w5 := But.then HB4.out (hbel5.mono (by omega))
  have hbt45 : But (w.heap.size + w5.heap.size + 7) w4 w5 → True := fun _ => trivial
  have hl5 : (l4 ++ l1).length ≤ 43 := by rw [List.length_append]; omega
  have hz5 : ∀ c ∈ l4 ++ l1, c.1.size ≤ 20 ∧ c.2.size ≤ 20 := by
    intro c hc
    rcases List.mem_append.1 hc with hc | hc
    · have := hz4 c hc; omega
    · exact hz1 c hc
  obtain ⟨l5, hl5e⟩ : ∃ l5, l5 = l4 ++ l1 := ⟨_, rfl⟩
  rw [← hl5e] at hown5 hl5 hz5
  obtain ⟨a5, c5, rfl, _⟩ := fv_of hown5
  have HC6 : Hid (Cursor (w5.alloc (.cells #[.string M, .string T, .slice a5 l5.length c5, .string Bd] 25)) cb v n (N + 700)) := Cursor.below (Cursor.belowB (Cursor.mono HC4.out (by omega)) (by omega) hbel5) ((Below.refl _ _).alloc (Nat.le_refl _) _)
  have HB6 : Hid (But cb w (w5.alloc (.cells #[.string M, .string T, .slice a5 l5.length c5, .string Bd] 25))) := But.then hbt5 ((Below.refl w.heap.size w5).alloc (by omega) _)
  have hR5 : QB w5 w.heap.size (.slice none 0 0) := by
    have h := HR4.out
    obtain ⟨h1, h2, M', T', Bd', e1, e2, e3, k0, k1, k2, k3⟩ := h
    have hc : ∀ i, w5.cell? ⟨w.heap.size, i, none⟩ = w4.cell? ⟨w.heap.size, i, none⟩ := fun i => hbel5.cell (p := ⟨w.heap.size, i, none⟩) (by show w.heap.size < w3.heap.size; omega)
    have hf : ∀ i, w5.frozen? ⟨w.heap.size, i, none⟩ = w4.frozen? ⟨w.heap.size, i, none⟩ := fun i => hbel5.frozen (p := ⟨w.heap.size, i, none⟩) (by show w.heap.size < w3.heap.size; omega)
    exact ⟨by omega, fun i => (hf i).trans (h2 i), M', T', Bd', e1, e2, e3, (hc 0).trans k0, (hc 1).trans k1, (hc 2).trans k2, (hc 3).trans k3⟩
  have HR6 : Hid (QB (w5.alloc (.cells #[.string M, .string T, .slice a5 l5.length c5, .string Bd] 25)) w.heap.size (.slice none 0 0)) := QB.but (cb := cb) hR5 (But.of_below ((Below.refl _ _).alloc (Nat.le_refl _) _)) (by omega)
  have HQ6 : Hid (QB (w5.alloc (.cells #[.string M, .string T, .slice a5 l5.length c5, .string Bd] 25)) w5.heap.size (.slice a5 l5.length c5)) := QB.made w5 M T Bd (.slice a5 l5.length c5) 25 hM hT hBd
  have HT6 : Hid (TB (w5.alloc (.cells #[.string M, .string T, .slice a5 l5.length c5, .string Bd] 25)) w5.heap.size) := TB.made w5 _
  have hown6 : fieldsIn (w5.alloc (.cells #[.string M, .string T, .slice a5 l5.length c5, .string Bd] 25)) w3.heap.size (.slice a5 l5.length c5) l5 := Fdb.fieldsIn.alloc hown5 _
  obtain ⟨w6, hw6⟩ : ∃ w6, w6 = w5.alloc (.cells #[.string M, .string T, .slice a5 l5.length c5, .string Bd] 25) := ⟨_, rfl⟩
  have hs6 : w5.heap.size + 1 ≤ w6.heap.size := by rw [hw6]; simp
  rw [← hw6] at HC6 HB6 HR6 HQ6 HT6 hown6
  clear hown4 hown14 hown5 hbel5 HC4 HB4 HR4 hbt5 hR5 hl5e hbt45
  go_wp2_with fail
  rw [← hw6]
  refine (one_at 3 _ rfl cb v n _ _ HC6.out (by omega) (by omega) (by omega)).mono ?_
  rintro e w7 ⟨b, rfl, hC7, hb7⟩
  have hs7 : w5.heap.size + 1 ≤ w7.heap.size := Nat.le_trans hs6 hb7.2.2.2.1
  have HC7 : Hid _ := hC7
  have HB7 : Hid _ := But.trans HB6.out hb7
  have HR7 : Hid _ := QB.but HR6.out hb7 (by omega)
  have HQ7 : Hid _ := QB.but HQ6.out hb7 (by omega)
  have HT7 : Hid _ := TB.but HT6.out hb7 (by omega)
  have hown7 := fields_but hown6 hb7 (by omega)
  clear HC6 HB6 HR6 HQ6 HT6 hown6 hC7 hb7 hw6
  cases b
  · go_wp2_with fail
    refine (pick_at 40 _ rfl cb v n _ _ HC7.out (by omega) (by omega) (by omega)).mono ?_
    rintro e w11 ⟨k, rfl, hk, hCt, hbt⟩
    have HC11 : Hid _ := hCt
    have HB11 : Hid _ := But.trans HB7.out hbt
    have HR11 : Hid _ := QB.but HR7.out hbt (by omega)
    have HQ11 : Hid _ := QB.but HQ7.out hbt (by omega)
    have HT11 : Hid _ := TB.but HT7.out hbt (by omega)
    have hown11 := fields_but hown7 hbt (by omega)
    clear HC7 HB7 HR7 HQ7 HT7 hCt hbt
    by_cases k0 : k = 0
    · subst k0
      go_wp2_with fail
      refine (of_new2 (fun x => x.size ≤ 20) [⟨#[]⟩, ⟨#[97, 32, 98]⟩] (by decide) 2 rfl (by omega) (by omega) cb v n _ _ HC11.out (by omega)).mono ?_
      rintro e wy ⟨y, rfl, hy, hCy, hby⟩
      have hQy := QB.but HQ11.out hby (by omega)
      have hRy := QB.but HR11.out hby (by omega)
      have hTy := TB.but HT11.out hby (by omega)
      have hownz := fields_set (fields_but hown11 hby (by omega)) hTy 1 (.string y)
      have HCz : Hid (Cursor (wy.setCell ⟨w5.heap.size, 1, none⟩ (.string y)) cb v n (N + 800)) := Cursor.set (Cursor.mono hCy (by omega)) (by omega) _
      have HQz : Hid (QB (wy.setCell ⟨w5.heap.size, 1, none⟩ (.string y)) w5.heap.size (.slice a5 l5.length c5)) := QB.s1 hQy y hy
      have HRz : Hid (QB (wy.setCell ⟨w5.heap.size, 1, none⟩ (.string y)) w.heap.size (.slice none 0 0)) := QB.other hRy (by omega) 1 _
      have HBz : Hid (But cb w (wy.setCell ⟨w5.heap.size, 1, none⟩ (.string y))) := But.then (But.trans HB11.out hby) ((Below.refl w.heap.size wy).setCell (by show w.heap.size ≤ w5.heap.size; omega) _)
      obtain ⟨p1, p2, _, _, _, _, _, _, s0, s1, s2, s3⟩ := hQy
      clear hRy hTy hCy hby HQ11 HR11 HT11 HC11 HB11
      generalize hwz : wy.setCell ⟨w5.heap.size, 1, none⟩ (.string y) = wz at HCz HQz HRz HBz hownz
      obtain ⟨g1, g2, Me, Te, Be, m1, m2, m3, c0, c1, c2, c3⟩ := HQz.out
      obtain ⟨f1, f2, _, _, _, _, _, _, d0, d1, d2, d3⟩ := HRz.out
      obtain ⟨we, hwe⟩ : ∃ we, we = (((wz.setCell ⟨w.heap.size, 0, none⟩ (.string Me)).setCell ⟨w.heap.size, 1, none⟩ (.string Te)).setCell ⟨w.heap.size, 2, none⟩ (.slice a5 l5.length c5)).setCell ⟨w.heap.size, 3, none⟩ (.string Be) := ⟨_, rfl⟩
      have hbe : But cb w we := by rw [hwe]; exact But.then HBz.out (((((Below.refl w.heap.size wz).setCell (Nat.le_refl _) _).setCell (Nat.le_refl _) _).setCell (Nat.le_refl _) _).setCell (Nat.le_refl _) _)
      have hce : Cursor we cb v n (N + 1000) := by rw [hwe]; exact Cursor.set (Cursor.set (Cursor.set (Cursor.set (Cursor.mono HCz.out (by omega)) hcb _) hcb _) hcb _) hcb _
      have hfe : fieldsIn we w.heap.size (.slice a5 l5.length c5) l5 := by rw [hwe]; exact Fdb.fieldsIn.base (fields_setb (fields_setb (fields_setb (fields_setb hownz (by omega) _ _) (by omega) _ _) (by omega) _ _) (by omega) _ _) (by omega)
      have e0 : we.cell? ⟨w.heap.size, 0, none⟩ = some (.string Me) := by rw [hwe]; simp [go_sem, d0]
      have e1 : we.cell? ⟨w.heap.size, 1, none⟩ = some (.string Te) := by rw [hwe]; simp [go_sem, d1]
      have e2 : we.cell? ⟨w.heap.size, 2, none⟩ = some (.slice a5 l5.length c5) := by rw [hwe]; simp [go_sem, d2]
      have e3 : we.cell? ⟨w.heap.size, 3, none⟩ = some (.string Be) := by rw [hwe]; simp [go_sem, d3]
      clear HQz HRz HBz HCz
      go_wp2_with fail
      rw [← hwe]
      exact bodyPost_ret (v := .agg #[.string Me, .string Te, (.slice a5 l5.length c5), .string Be]) (by simp [results, Tryz.results58, go_sem, e0, e1, e2, e3]) rfl ⟨Me, Te, _, Be, l5, rfl, m1, m2, m3, by omega, hz5, hfe, hce, hbe⟩
    by_cases k1 : k = 1
    · subst k1
      go_wp2_with fail
      refine (of_new2 (fun x => x.size ≤ 20) [⟨#[]⟩, ⟨#[76, 79, 78, 71, 77, 69, 84, 72, 79, 68, 83]⟩] (by decide) 2 rfl (by omega) (by omega) cb v n _ _ HC11.out (by omega)).mono ?_
      rintro e wy ⟨y, rfl, hy, hCy, hby⟩
      have hQy := QB.but HQ11.out hby (by omega)
      have hRy := QB.but HR11.out hby (by omega)
      have hTy := TB.but HT11.out hby (by omega)
      have hownz := fields_set (fields_but hown11 hby (by omega)) hTy 0 (.string y)
      have HCz : Hid (Cursor (wy.setCell ⟨w5.heap.size, 0, none⟩ (.string y)) cb v n (N + 800)) := Cursor.set (Cursor.mono hCy (by omega)) (by omega) _
      have HQz : Hid (QB (wy.setCell ⟨w5.heap.size, 0, none⟩ (.string y)) w5.heap.size (.slice a5 l5.length c5)) := QB.s0 hQy y hy
      have HRz : Hid (QB (wy.setCell ⟨w5.heap.size, 0, none⟩ (.string y)) w.heap.size (.slice none 0 0)) := QB.other hRy (by omega) 0 _
      have HBz : Hid (But cb w (wy.setCell ⟨w5.heap.size, 0, none⟩ (.string y))) := But.then (But.trans HB11.out hby) ((Below.refl w.heap.size wy).setCell (by show w.heap.size ≤ w5.heap.size; omega) _)
      obtain ⟨p1, p2, _, _, _, _, _, _, s0, s1, s2, s3⟩ := hQy
      clear hRy hTy hCy hby HQ11 HR11 HT11 HC11 HB11
      generalize hwz : wy.setCell ⟨w5.heap.size, 0, none⟩ (.string y) = wz at HCz HQz HRz HBz hownz
      obtain ⟨g1, g2, Me, Te, Be, m1, m2, m3, c0, c1, c2, c3⟩ := HQz.out
      obtain ⟨f1, f2, _, _, _, _, _, _, d0, d1, d2, d3⟩ := HRz.out
      obtain ⟨we, hwe⟩ : ∃ we, we = (((wz.setCell ⟨w.heap.size, 0, none⟩ (.string Me)).setCell ⟨w.heap.size, 1, none⟩ (.string Te)).setCell ⟨w.heap.size, 2, none⟩ (.slice a5 l5.length c5)).setCell ⟨w.heap.size, 3, none⟩ (.string Be) := ⟨_, rfl⟩
      have hbe : But cb w we := by rw [hwe]; exact But.then HBz.out (((((Below.refl w.heap.size wz).setCell (Nat.le_refl _) _).setCell (Nat.le_refl _) _).setCell (Nat.le_refl _) _).setCell (Nat.le_refl _) _)
      have hce : Cursor we cb v n (N + 1000) := by rw [hwe]; exact Cursor.set (Cursor.set (Cursor.set (Cursor.set (Cursor.mono HCz.out (by omega)) hcb _) hcb _) hcb _) hcb _
      have hfe : fieldsIn we w.heap.size (.slice a5 l5.length c5) l5 := by rw [hwe]; exact Fdb.fieldsIn.base (fields_setb (fields_setb (fields_setb (fields_setb hownz (by omega) _ _) (by omega) _ _) (by omega) _ _) (by omega) _ _) (by omega)
      have e0 : we.cell? ⟨w.heap.size, 0, none⟩ = some (.string Me) := by rw [hwe]; simp [go_sem, d0]
      have e1 : we.cell? ⟨w.heap.size, 1, none⟩ = some (.string Te) := by rw [hwe]; simp [go_sem, d1]
      have e2 : we.cell? ⟨w.heap.size, 2, none⟩ = some (.slice a5 l5.length c5) := by rw [hwe]; simp [go_sem, d2]
      have e3 : we.cell? ⟨w.heap.size, 3, none⟩ = some (.string Be) := by rw [hwe]; simp [go_sem, d3]
      clear HQz HRz HBz HCz
      go_wp2_with fail
      rw [← hwe]
      exact bodyPost_ret (v := .agg #[.string Me, .string Te, (.slice a5 l5.length c5), .string Be]) (by simp [results, Tryz.results58, go_sem, e0, e1, e2, e3]) rfl ⟨Me, Te, _, Be, l5, rfl, m1, m2, m3, by omega, hz5, hfe, hce, hbe⟩
    have dk0 : ((k : Int) == 0) = false := by simp; omega
    have dk1 : ((k : Int) == 1) = false := by simp; omega
    obtain ⟨g1, g2, Me, Te, Be, m1, m2, m3, c0, c1, c2, c3⟩ := HQ11.out
    obtain ⟨f1, f2, _, _, _, _, _, _, d0, d1, d2, d3⟩ := HR11.out
    obtain ⟨we, hwe⟩ : ∃ we, we = (((w11.setCell ⟨w.heap.size, 0, none⟩ (.string Me)).setCell ⟨w.heap.size, 1, none⟩ (.string Te)).setCell ⟨w.heap.size, 2, none⟩ (.slice a5 l5.length c5)).setCell ⟨w.heap.size, 3, none⟩ (.string Be) := ⟨_, rfl⟩
    have hbe : But cb w we := by rw [hwe]; exact But.then HB11.out (((((Below.refl w.heap.size w11).setCell (Nat.le_refl _) _).setCell (Nat.le_refl _) _).setCell (Nat.le_refl _) _).setCell (Nat.le_refl _) _)
    have hce : Cursor we cb v n (N + 1000) := by rw [hwe]; exact Cursor.set (Cursor.set (Cursor.set (Cursor.set (Cursor.mono HC11.out (by omega)) hcb _) hcb _) hcb _) hcb _
    have hfe : fieldsIn we w.heap.size (.slice a5 l5.length c5) l5 := by rw [hwe]; exact Fdb.fieldsIn.base (fields_setb (fields_setb (fields_setb (fields_setb hown11 (by omega) _ _) (by omega) _ _) (by omega) _ _) (by omega) _ _) (by omega)
    have e0 : we.cell? ⟨w.heap.size, 0, none⟩ = some (.string Me) := by rw [hwe]; simp [go_sem, d0]
    have e1 : we.cell? ⟨w.heap.size, 1, none⟩ = some (.string Te) := by rw [hwe]; simp [go_sem, d1]
    have e2 : we.cell? ⟨w.heap.size, 2, none⟩ = some (.slice a5 l5.length c5) := by rw [hwe]; simp [go_sem, d2]
    have e3 : we.cell? ⟨w.heap.size, 3, none⟩ = some (.string Be) := by rw [hwe]; simp [go_sem, d3]
    clear HQ11 HR11 HB11 HC11
    go_wp2_with fail
    rw [← hwe]
    exact bodyPost_ret (v := .agg #[.string Me, .string Te, (.slice a5 l5.length c5), .string Be]) (by simp [results, Tryz.results58, go_sem, e0, e1, e2, e3]) rfl ⟨Me, Te, _, Be, l5, rfl, m1, m2, m3, by omega, hz5, hfe, hce, hbe⟩
  · obtain ⟨q1, q2, M7, T7, Bd7, mm1, mm2, mm3, k0, k1, k2, k3⟩ := HQ7.out
    go_wp2_with (at_builtin; refine wpList_append_field2 w7 rfl _ _ rfl w3.heap.size _ l5 (by rfl) hown7 _ _ _ rfl ?q3 (by omega) ?_)
    case q3 => omega
    intro r8 w8 g8 hown8 hbt8 hg8 hap8
    have hgb := hap8 w5.heap.size HT7.out
    obtain ⟨a8, c8, rfl, _⟩ := fv_of hown8
    have hs8 : w5.heap.size + 1 ≤ w8.heap.size := Nat.le_trans hs7 hbt8.2.2.2.1
    have hQ8 := QB.but HQ7.out hbt8 hgb
    have hT8 := TB.but HT7.out hbt8 hgb
    have hR8 := QB.but HR7.out hbt8 (by omega)
    have hC8 : Cursor w8 cb v n (N + 702) := Cursor.belowB HC7.out (show cb < w3.heap.size by omega) (hbt8.below hg8 (by omega))
    have hB8 : But cb w w8 := But.then HB7.out (hbt8.below (by omega) (by omega))
    have hl8 : (l5 ++ [((⟨#[72, 111, 115, 116]⟩ : ByteArray), (⟨#[101, 120, 46, 99, 111, 109]⟩ : ByteArray))]).length ≤ 44 := by rw [List.length_append]; simp; omega
    have hz8 : ∀ c ∈ l5 ++ [((⟨#[72, 111, 115, 116]⟩ : ByteArray), (⟨#[101, 120, 46, 99, 111, 109]⟩ : ByteArray))], c.1.size ≤ 20 ∧ c.2.size ≤ 20 := by
      intro c hc
      rcases List.mem_append.1 hc with hc | hc
      · exact hz5 c hc
      · rw [List.mem_singleton.1 hc]; decide
    generalize l5 ++ [((⟨#[72, 111, 115, 116]⟩ : ByteArray), (⟨#[101, 120, 46, 99, 111, 109]⟩ : ByteArray))] = l8 at hown8 hl8 hz8
    have hown9 := fields_set hown8 hT8 2 (.slice a8 l8.length c8)
    have HC9 : Hid (Cursor (w8.setCell ⟨w5.heap.size, 2, none⟩ (.slice a8 l8.length c8)) cb v n (N + 702)) := Cursor.set hC8 (by omega) _
    have HQ9 : Hid (QB (w8.setCell ⟨w5.heap.size, 2, none⟩ (.slice a8 l8.length c8)) w5.heap.size (.slice a8 l8.length c8)) := QB.s2 hQ8 _
    have HT9 : Hid (TB (w8.setCell ⟨w5.heap.size, 2, none⟩ (.slice a8 l8.length c8)) w5.heap.size) := TB.set hT8 _ _ _
    have HR9 : Hid (QB (w8.setCell ⟨w5.heap.size, 2, none⟩ (.slice a8 l8.length c8)) w.heap.size (.slice none 0 0)) := QB.other hR8 (by omega) 2 _
    have HB9 : Hid (But cb w (w8.setCell ⟨w5.heap.size, 2, none⟩ (.slice a8 l8.length c8))) := But.then hB8 ((Below.refl w.heap.size w8).setCell (by show w.heap.size ≤ w5.heap.size; omega) _)
    obtain ⟨q1, q2, M8, T8, Bd8, _, _, _, k0, k1, k2, k3⟩ := hQ8
    clear hT8 hR8 hC8 hB8 hown8 hown7 HC7 HB7 HR7 HQ7 HT7 hbt8 hap8 hgb
    generalize hw9 : w8.setCell ⟨w5.heap.size, 2, none⟩ (.slice a8 l8.length c8) = w9 at HC9 HQ9 HT9 HR9 HB9 hown9
    go_wp2_with fail
    refine (pick_at 40 _ rfl cb v n _ _ HC9.out (by omega) (by omega) (by omega)).mono ?_
    rintro e w12 ⟨k, rfl, hk, hCt, hbt⟩
    have HC12 : Hid _ := hCt
    have HB12 : Hid _ := But.trans HB9.out hbt
    have HR12 : Hid _ := QB.but HR9.out hbt (by omega)
    have HQ12 : Hid _ := QB.but HQ9.out hbt (by omega)
    have HT12 : Hid _ := TB.but HT9.out hbt (by omega)
    have hown12 := fields_but hown9 hbt (by omega)
    clear HC9 HB9 HR9 HQ9 HT9 hCt hbt
    by_cases k0 : k = 0
    · subst k0
      go_wp2_with fail
      refine (of_new2 (fun x => x.size ≤ 20) [⟨#[]⟩, ⟨#[97, 32, 98]⟩] (by decide) 2 rfl (by omega) (by omega) cb v n _ _ HC12.out (by omega)).mono ?_
      rintro e wy ⟨y, rfl, hy, hCy, hby⟩
      have hQy := QB.but HQ12.out hby (by omega)
      have hRy := QB.but HR12.out hby (by omega)
      have hTy := TB.but HT12.out hby (by omega)
      have hownz := fields_set (fields_but hown12 hby (by omega)) hTy 1 (.string y)
      have HCz : Hid (Cursor (wy.setCell ⟨w5.heap.size, 1, none⟩ (.string y)) cb v n (N + 800)) := Cursor.set (Cursor.mono hCy (by omega)) (by omega) _
      have HQz : Hid (QB (wy.setCell ⟨w5.heap.size, 1, none⟩ (.string y)) w5.heap.size (.slice a8 l8.length c8)) := QB.s1 hQy y hy
      have HRz : Hid (QB (wy.setCell ⟨w5.heap.size, 1, none⟩ (.string y)) w.heap.size (.slice none 0 0)) := QB.other hRy (by omega) 1 _
      have HBz : Hid (But cb w (wy.setCell ⟨w5.heap.size, 1, none⟩ (.string y))) := But.then (But.trans HB12.out hby) ((Below.refl w.heap.size wy).setCell (by show w.heap.size ≤ w5.heap.size; omega) _)
      obtain ⟨p1, p2, _, _, _, _, _, _, s0, s1, s2, s3⟩ := hQy
      clear hRy hTy hCy hby HQ12 HR12 HT12 HC12 HB12
      generalize hwz : wy.setCell ⟨w5.heap.size, 1, none⟩ (.string y) = wz at HCz HQz HRz HBz hownz
      obtain ⟨g1, g2, Me, Te, Be, m1, m2, m3, c0, c1, c2, c3⟩ := HQz.out
      obtain ⟨f1, f2, _, _, _, _, _, _, d0, d1, d2, d3⟩ := HRz.out
      obtain ⟨we, hwe⟩ : ∃ we, we = (((wz.setCell ⟨w.heap.size, 0, none⟩ (.string Me)).setCell ⟨w.heap.size, 1, none⟩ (.string Te)).setCell ⟨w.heap.size, 2, none⟩ (.slice a8 l8.length c8)).setCell ⟨w.heap.size, 3, none⟩ (.string Be) := ⟨_, rfl⟩
      have hbe : But cb w we := by rw [hwe]; exact But.then HBz.out (((((Below.refl w.heap.size wz).setCell (Nat.le_refl _) _).setCell (Nat.le_refl _) _).setCell (Nat.le_refl _) _).setCell (Nat.le_refl _) _)
      have hce : Cursor we cb v n (N + 1000) := by rw [hwe]; exact Cursor.set (Cursor.set (Cursor.set (Cursor.set (Cursor.mono HCz.out (by omega)) hcb _) hcb _) hcb _) hcb _
      have hfe : fieldsIn we w.heap.size (.slice a8 l8.length c8) l8 := by rw [hwe]; exact Fdb.fieldsIn.base (fields_setb (fields_setb (fields_setb (fields_setb hownz (by omega) _ _) (by omega) _ _) (by omega) _ _) (by omega) _ _) (by omega)
      have e0 : we.cell? ⟨w.heap.size, 0, none⟩ = some (.string Me) := by rw [hwe]; simp [go_sem, d0]
      have e1 : we.cell? ⟨w.heap.size, 1, none⟩ = some (.string Te) := by rw [hwe]; simp [go_sem, d1]
      have e2 : we.cell? ⟨w.heap.size, 2, none⟩ = some (.slice a8 l8.length c8) := by rw [hwe]; simp [go_sem, d2]
      have e3 : we.cell? ⟨w.heap.size, 3, none⟩ = some (.string Be) := by rw [hwe]; simp [go_sem, d3]
      clear HQz HRz HBz HCz
      go_wp2_with fail
      rw [← hwe]
      exact bodyPost_ret (v := .agg #[.string Me, .string Te, (.slice a8 l8.length c8), .string Be]) (by simp [results, Tryz.results58, go_sem, e0, e1, e2, e3]) rfl ⟨Me, Te, _, Be, l8, rfl, m1, m2, m3, hl8, hz8, hfe, hce, hbe⟩
    by_cases k1 : k = 1
    · subst k1
      go_wp2_with fail
      refine (of_new2 (fun x => x.size ≤ 20) [⟨#[]⟩, ⟨#[76, 79, 78, 71, 77, 69, 84, 72, 79, 68, 83]⟩] (by decide) 2 rfl (by omega) (by omega) cb v n _ _ HC12.out (by omega)).mono ?_
      rintro e wy ⟨y, rfl, hy, hCy, hby⟩
      have hQy := QB.but HQ12.out hby (by omega)
      have hRy := QB.but HR12.out hby (by omega)
      have hTy := TB.but HT12.out hby (by omega)
      have hownz := fields_set (fields_but hown12 hby (by omega)) hTy 0 (.string y)
      have HCz : Hid (Cursor (wy.setCell ⟨w5.heap.size, 0, none⟩ (.string y)) cb v n (N + 800)) := Cursor.set (Cursor.mono hCy (by omega)) (by omega) _
      have HQz : Hid (QB (wy.setCell ⟨w5.heap.size, 0, none⟩ (.string y)) w5.heap.size (.slice a8 l8.length c8)) := QB.s0 hQy y hy
      have HRz : Hid (QB (wy.setCell ⟨w5.heap.size, 0, none⟩ (.string y)) w.heap.size (.slice none 0 0)) := QB.other hRy (by omega) 0 _
      have HBz : Hid (But cb w (wy.setCell ⟨w5.heap.size, 0, none⟩ (.string y))) := But.then (But.trans HB12.out hby) ((Below.refl w.heap.size wy).setCell (by show w.heap.size ≤ w5.heap.size; omega) _)
      obtain ⟨p1, p2, _, _, _, _, _, _, s0, s1, s2, s3⟩ := hQy
      clear hRy hTy hCy hby HQ12 HR12 HT12 HC12 HB12
      generalize hwz : wy.setCell ⟨w5.heap.size, 0, none⟩ (.string y) = wz at HCz HQz HRz HBz hownz
      obtain ⟨g1, g2, Me, Te, Be, m1, m2, m3, c0, c1, c2, c3⟩ := HQz.out
      obtain ⟨f1, f2, _, _, _, _, _, _, d0, d1, d2, d3⟩ := HRz.out
      obtain ⟨we, hwe⟩ : ∃ we, we = (((wz.setCell ⟨w.heap.size, 0, none⟩ (.string Me)).setCell ⟨w.heap.size, 1, none⟩ (.string Te)).setCell ⟨w.heap.size, 2, none⟩ (.slice a8 l8.length c8)).setCell ⟨w.heap.size, 3, none⟩ (.string Be) := ⟨_, rfl⟩
      have hbe : But cb w we := by rw [hwe]; exact But.then HBz.out (((((Below.refl w.heap.size wz).setCell (Nat.le_refl _) _).setCell (Nat.le_refl _) _).setCell (Nat.le_refl _) _).setCell (Nat.le_refl _) _)
      have hce : Cursor we cb v n (N + 1000) := by rw [hwe]; exact Cursor.set (Cursor.set (Cursor.set (Cursor.set (Cursor.mono HCz.out (by omega)) hcb _) hcb _) hcb _) hcb _
      have hfe : fieldsIn we w.heap.size (.slice a8 l8.length c8) l8 := by rw [hwe]; exact Fdb.fieldsIn.base (fields_setb (fields_setb (fields_setb (fields_setb hownz (by omega) _ _) (by omega) _ _) (by omega) _ _) (by omega) _ _) (by omega)
      have e0 : we.cell? ⟨w.heap.size, 0, none⟩ = some (.string Me) := by rw [hwe]; simp [go_sem, d0]
      have e1 : we.cell? ⟨w.heap.size, 1, none⟩ = some (.string Te) := by rw [hwe]; simp [go_sem, d1]
      have e2 : we.cell? ⟨w.heap.size, 2, none⟩ = some (.slice a8 l8.length c8) := by rw [hwe]; simp [go_sem, d2]
      have e3 : we.cell? ⟨w.heap.size, 3, none⟩ = some (.string Be) := by rw [hwe]; simp [go_sem, d3]
      clear HQz HRz HBz HCz
      go_wp2_with fail
      rw [← hwe]
      exact bodyPost_ret (v := .agg #[.string Me, .string Te, (.slice a8 l8.length c8), .string Be]) (by simp [results, Tryz.results58, go_sem, e0, e1, e2, e3]) rfl ⟨Me, Te, _, Be, l8, rfl, m1, m2, m3, hl8, hz8, hfe, hce, hbe⟩
    have dk0 : ((k : Int) == 0) = false := by simp; omega
    have dk1 : ((k : Int) == 1) = false := by simp; omega
    obtain ⟨g1, g2, Me, Te, Be, m1, m2, m3, c0, c1, c2, c3⟩ := HQ12.out
    obtain ⟨f1, f2, _, _, _, _, _, _, d0, d1, d2, d3⟩ := HR12.out
    obtain ⟨we, hwe⟩ : ∃ we, we = (((w12.setCell ⟨w.heap.size, 0, none⟩ (.string Me)).setCell ⟨w.heap.size, 1, none⟩ (.string Te)).setCell ⟨w.heap.size, 2, none⟩ (.slice a8 l8.length c8)).setCell ⟨w.heap.size, 3, none⟩ (.string Be) := ⟨_, rfl⟩
    have hbe : But cb w we := by rw [hwe]; exact But.then HB12.out (((((Below.refl w.heap.size w12).setCell (Nat.le_refl _) _).setCell (Nat.le_refl _) _).setCell (Nat.le_refl _) _).setCell (Nat.le_refl _) _)
    have hce : Cursor we cb v n (N + 1000) := by rw [hwe]; exact Cursor.set (Cursor.set (Cursor.set (Cursor.set (Cursor.mono HC12.out (by omega)) hcb _) hcb _) hcb _) hcb _
    have hfe : fieldsIn we w.heap.size (.slice a8 l8.length c8) l8 := by rw [hwe]; exact Fdb.fieldsIn.base (fields_setb (fields_setb (fields_setb (fields_setb hown12 (by omega) _ _) (by omega) _ _) (by omega) _ _) (by omega) _ _) (by omega)
    have e0 : we.cell? ⟨w.heap.size, 0, none⟩ = some (.string Me) := by rw [hwe]; simp [go_sem, d0]
    have e1 : we.cell? ⟨w.heap.size, 1, none⟩ = some (.string Te) := by rw [hwe]; simp [go_sem, d1]
    have e2 : we.cell? ⟨w.heap.size, 2, none⟩ = some (.slice a8 l8.length c8) := by rw [hwe]; simp [go_sem, d2]
    have e3 : we.cell? ⟨w.heap.size, 3, none⟩ = some (.string Be) := by rw [hwe]; simp [go_sem, d3]
    clear HQ12 HR12 HB12 HC12
    go_wp2_with fail
    rw [← hwe]
    exact bodyPost_ret (v := .agg #[.string Me, .string Te, (.slice a8 l8.length c8), .string Be]) (by simp [results, Tryz.results58, go_sem, e0, e1, e2, e3]) rfl ⟨Me, Te, _, Be, l8, rfl, m1, m2, m3, hl8, hz8, hfe, hce, hbe⟩

end Go.Proofs.YtaplkbkpgdpbaaaGreatDoor.Cur
