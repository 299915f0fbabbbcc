/-
  Lists of items: among a law's arguments, opened; measured. Walk: laws.szItemS.
  Lists of items of the call's own. Walks: laws' toItemS, eqItemS. (tools/laws/gen_itk.py)
  Walks: laws.eqItemS; impl.areItems, spec.l9Items.
  Walks: impl.areItems, spec.l9Items. (tools/laws/gen_iti.py)
  Which item is for a key and a choice; the one that is picked. Walk: impl.isFor.
  Walk: impl.PickItem.
  Walks: spec.l9Pick, spec.PickItem.
  Walk: the law FnExactPickItem.
-/
import Derived.Test.YtfgcgnhffljiaaaGreatDoorMg2
import Derived.Deep.Slices
import Derived.Laws.MakeOwn
import Derived.Deep.RegionHeld3
import Derived.BigQuiet
namespace Go.Proofs.YtfgcgnhffljiaaaGreatDoor.Itl
open Go.RowKit
open Go.Proofs.YtfgcgnhffljiaaaGreatDoor.Fbs
open Go.Proofs.YtfgcgnhffljiaaaGreatDoor.Fdb
open Go.Proofs.YtfgcgnhffljiaaaGreatDoor.Fds
open Go.Proofs.YtfgcgnhffljiaaaGreatDoor.Szv
open Go.Proofs.YtfgcgnhffljiaaaGreatDoor.Itm
open Go.Proofs.YtfgcgnhffljiaaaGreatDoor.Rqo (cellsL)
open Go.Proofs.YtfgcgnhffljiaaaGreatDoor.Rso (cellsI)

/-- What an item holds. -/
structure ItD where
  K : ByteArray
  A : List (ByteArray × ByteArray)
  S : Int
  R : ByteArray
  l : List (ByteArray × ByteArray)
  B : ByteArray
  q : Int
  m : Int
instance : Inhabited ItD := ⟨⟨⟨#[]⟩, [], 0, ⟨#[]⟩, [], ⟨#[]⟩, 0, 0⟩⟩
abbrev ItD.v (d : ItD) (x : Option Addr) (cx : Nat) (a : Option Addr) (ca : Nat) : Value := itV d.K (.slice x d.A.length cx) d.S d.R (.slice a d.l.length ca) d.B d.q d.m
/-- Eight cells from an address on. -/
def Cells8 (w : World) (ad : Addr) (o : Nat) (v0 v1 v2 v3 v4 v5 v6 v7 : Value) : Prop := w.cell? (ad.add o) = some v0 ∧ w.cell? (ad.add (o + 1)) = some v1 ∧ w.cell? (ad.add (o + 2)) = some v2 ∧ w.cell? (ad.add (o + 3)) = some v3 ∧ w.cell? (ad.add (o + 4)) = some v4 ∧ w.cell? (ad.add (o + 5)) = some v5 ∧ w.cell? (ad.add (o + 6)) = some v6 ∧ w.cell? (ad.add (o + 7)) = some v7
theorem Cells8.below {w w' : World} {ad : Addr} {o : Nat} {v0 v1 v2 v3 v4 v5 v6 v7 : Value} (h : Cells8 w ad o v0 v1 v2 v3 v4 v5 v6 v7) (hl : ad.block < w.heap.size) (hb : Below w.heap.size w w') : Cells8 w' ad o v0 v1 v2 v3 v4 v5 v6 v7 := by
  have e : ∀ k, w'.cell? (ad.add k) = w.cell? (ad.add k) := fun k => hb.cell (p := ad.add k) (by rw [add_block]; exact hl)
  obtain ⟨h0, h1, h2, h3, h4, h5, h6, h7⟩ := h
  exact ⟨(e _).trans h0, (e _).trans h1, (e _).trans h2, (e _).trans h3, (e _).trans h4, (e _).trans h5, (e _).trans h6, (e _).trans h7⟩
theorem next_k (ad : Addr) (o k : Nat) (hk : 0 < k) : ({ block := (ad.add o).block, off := (ad.add o).off + k, spot := none } : Addr) = ad.add (o + k) := by
  obtain ⟨j, rfl⟩ : ∃ j, k = j + 1 := ⟨k - 1, by omega⟩
  exact (Addr.add_succ' (ad.add o) j).symm.trans (Addr.add_add ad o (j + 1))
/-- In the form in which a walk reads them. -/
theorem Cells8.flat {w : World} {ad : Addr} {o : Nat} {v0 v1 v2 v3 v4 v5 v6 v7 : Value} (h : Cells8 w ad o v0 v1 v2 v3 v4 v5 v6 v7) : w.cell? (ad.add o) = some v0 ∧ w.cell? { block := (ad.add o).block, off := (ad.add o).off + 1, spot := none } = some v1 ∧ w.cell? { block := (ad.add o).block, off := (ad.add o).off + 2, spot := none } = some v2 ∧ w.cell? { block := (ad.add o).block, off := (ad.add o).off + 3, spot := none } = some v3 ∧ w.cell? { block := (ad.add o).block, off := (ad.add o).off + 4, spot := none } = some v4 ∧ w.cell? { block := (ad.add o).block, off := (ad.add o).off + 5, spot := none } = some v5 ∧ w.cell? { block := (ad.add o).block, off := (ad.add o).off + 6, spot := none } = some v6 ∧ w.cell? { block := (ad.add o).block, off := (ad.add o).off + 7, spot := none } = some v7 := by
  obtain ⟨h0, h1, h2, h3, h4, h5, h6, h7⟩ := h
  rw [next_k _ _ _ (by decide), next_k _ _ _ (by decide), next_k _ _ _ (by decide), next_k _ _ _ (by decide), next_k _ _ _ (by decide), next_k _ _ _ (by decide), next_k _ _ _ (by decide)]
  exact ⟨h0, h1, h2, h3, h4, h5, h6, h7⟩

/-- An item's texts are no longer than memory bears. -/
def ItD.fits (d : ItD) : Prop := d.K.size ≤ maxLen ∧ (d.A.length ≤ maxLen ∧ ∀ c ∈ d.A, c.1.size ≤ maxLen ∧ c.2.size ≤ maxLen) ∧ d.R.size ≤ maxLen ∧ d.B.size ≤ maxLen ∧ d.l.length ≤ maxLen ∧ ∀ c ∈ d.l, c.1.size ≤ maxLen ∧ c.2.size ≤ maxLen
/-- A list of items that is handed in: it is read alone. -/
def AI (w : World) (a : Option Addr) (L : List ItD) : Prop := L = [] ∨ ∃ ad : Addr, a = some ad ∧ ad.block < w.heap.size ∧ ∀ i d, L[i]? = some d → ∃ x cx y cy, Cells8 w ad (i * 8) (.string d.K) (.slice x d.A.length cx) (.int .i64 d.S) (.string d.R) (.slice y d.l.length cy) (.string d.B) (.int .i64 d.q) (.int .i64 d.m) ∧ AF w x d.A ∧ AF w y d.l
theorem AI.below {w w' : World} {a : Option Addr} {L : List ItD} (h : AI w a L) (hb : Below w.heap.size w w') : AI w' a L := by
  rcases h with h | ⟨ad, h1, h2, h3⟩
  · exact .inl h
  · refine .inr ⟨ad, h1, Nat.lt_of_lt_of_le h2 hb.size, fun i d hd => ?_⟩
    obtain ⟨x, cx, y, cy, hc, hx, hy⟩ := h3 i d hd
    exact ⟨x, cx, y, cy, hc.below h2 hb, hx.below hb, hy.below hb⟩

set_option maxRecDepth 100000 in
set_option maxHeartbeats 1600000 in
open Go.ChangeShapes Go.WideShapes Go.ChangeAt in
/-- An item behind its cells, opened. -/
theorem open_item_cells {H : Type} {enc : TypeId × Value → H} {W : World} {base : Nat} {sp : Nat → Bool} {held : Bool} {fuel : Nat} {cs : List Value} {d : DataW H × List MemPlace} (hsz : cs.length = 8)
    (hf : DataW.trod enc Tryz.prog W base sp held fuel 41 cs = some d) :
    ∃ (t : ItD) (x : Option Addr) (cx : Nat) (y : Option Addr) (cy : Nat), cs = [.string t.K, .slice x t.A.length cx, .int .i64 t.S, .string t.R, .slice y t.l.length cy, .string t.B, .int .i64 t.q, .int .i64 t.m] ∧ t.fits ∧ AF W x t.A ∧ AF W y t.l := by
  obtain ⟨c0, c1, c2, c3, c4, c5, c6, c7, rfl⟩ : ∃ c0 c1 c2 c3 c4 c5 c6 c7, cs = [c0, c1, c2, c3, c4, c5, c6, c7] := by
    match cs, hsz with
    | [c0, c1, c2, c3, c4, c5, c6, c7], _ => exact ⟨c0, c1, c2, c3, c4, c5, c6, c7, rfl⟩
  obtain ⟨xs, n, _, _, hl, hlen, hg⟩ := DataW.trod_struct Tryz.underlying41 hf
  obtain ⟨y0, y1, y2, rfl⟩ := Kka.list3 (show xs.length = 3 from hlen)
  have f0 := hg 0 _ rfl
  have f1 := hg 1 _ rfl
  have f2 := hg 2 _ rfl
  obtain ⟨ys, ny, _, _, hly, hleny, hgy⟩ := DataW.trod_struct Tryz.underlying39 f2
  obtain ⟨u0, u1, u2, rfl⟩ := Kka.list3 (show ys.length = 3 from hleny)
  have e0 := hgy 0 _ rfl
  have e1 := hgy 1 _ rfl
  have e2 := hgy 2 _ rfl
  obtain ⟨xs', n', _, _, hl', hlen', hg'⟩ := DataW.trod_struct Tryz.underlying24 e0
  obtain ⟨z0, z1, z2, z3, rfl⟩ := Rqo.list4 (show xs'.length = 4 from hlen')
  have g0 := hg' 0 _ rfl
  have g1 := hg' 1 _ rfl
  have g2 := hg' 2 _ rfl
  have g3 := hg' 3 _ rfl
  obtain ⟨K, d0, _, k0⟩ := DataW.trod_string Tryz.underlying9 f0
  obtain ⟨x, cx, A, d1, k1, k2, k3⟩ := open_fields_cells f1
  obtain ⟨S, d2, _, k4⟩ := DataW.trod_int Tryz.underlying3 g0
  obtain ⟨R, d3, _, k5⟩ := DataW.trod_string Tryz.underlying9 g1
  obtain ⟨a, cap, l, d4, k6, k7, k8⟩ := open_fields_cells g2
  obtain ⟨B, d5, _, k9⟩ := DataW.trod_string Tryz.underlying9 g3
  obtain ⟨q, d6, _, k10⟩ := DataW.trod_int Tryz.underlying3 e1
  obtain ⟨m, d7, _, k11⟩ := DataW.trod_int Tryz.underlying3 e2
  simp [cellsS, cellsL, cellsI, Rso.cellsR, Kka.cellsK] at d0 d1 d2 d3 d4 d5 d6 d7
  subst d0 d1 d2 d3 d4 d5 d6 d7
  exact ⟨⟨K, A, S, R, l, B, q, m⟩, x, cx, a, cap, rfl, ⟨k0, ⟨k2, k3⟩, k5, k9, k7, k8⟩, k1, k6⟩

set_option maxRecDepth 100000 in
open Go.ChangeShapes Go.WideShapes Go.ChangeAt in
theorem open_items {H : Type} {enc : TypeId × Value → H} {W : World} {r : Reach} {b0 base : Nat} {sp : Nat → Bool} {held : Bool} {v : Value} {d : DataW H} {p : List MemPlace}
    (hv : Value.okWide Tryz.prog W r b0 59 v) (h : DataW.Trod enc Tryz.prog W base sp held 59 v d p) : ∃ (a : Option Addr) (cap : Nat) (L : List ItD), v = .slice a L.length cap ∧ AI W a L ∧ L.length ≤ maxLen ∧ ∀ t ∈ L, t.fits := by
  obtain ⟨a, len, cap, rfl⟩ := okWide_slice Tryz.underlying59 hv
  obtain ⟨fuel, hf⟩ := h
  rcases Go.Deep.open_slice Tryz.underlying59 hf with ⟨hc, _⟩ | ⟨a', len', cap', mm, n, D, Pl, hc, _, hl, hm, hmm, _, hx⟩
  · simp [Value.cells] at hc
    obtain ⟨rfl, rfl, rfl⟩ := hc
    exact ⟨none, 0, [], rfl, .inl rfl, Nat.zero_le _, fun t ht => by cases ht⟩
  · simp [Value.cells] at hc
    obtain ⟨rfl, rfl, rfl⟩ := hc
    have hlm : len ≤ mm := by rw [hmm]; split <;> omega
    have each : ∀ i, i < len → ∃ t : ItD, (∃ x cx y cy, Cells8 W a' (i * 8) (.string t.K) (.slice x t.A.length cx) (.int .i64 t.S) (.string t.R) (.slice y t.l.length cy) (.string t.B) (.int .i64 t.q) (.int .i64 t.m) ∧ AF W x t.A ∧ AF W y t.l) ∧ t.fits := by
      intro i hi
      obtain ⟨cs', h1, h2⟩ := hx i (by omega)
      rw [cellsIt] at h1
      obtain ⟨_, hlen, hcell⟩ := World.cells?_some h1
      obtain ⟨t, x, cx, y, cy, rfl, ht, hx1, hy1⟩ := open_item_cells hlen h2
      have e : ∀ k, k < 8 → W.cell? (a'.add (i * 8 + k)) = [.string t.K, .slice x t.A.length cx, .int .i64 t.S, .string t.R, .slice y t.l.length cy, .string t.B, .int .i64 t.q, .int .i64 t.m][k]? := fun k hk => by
        have := hcell k hk
        rwa [Addr.add_add] at this
      refine ⟨t, ⟨x, cx, y, cy, ⟨?_, e 1 (by omega), e 2 (by omega), e 3 (by omega), e 4 (by omega), e 5 (by omega), e 6 (by omega), e 7 (by omega)⟩, hx1, hy1⟩, ht⟩
      have := e 0 (by omega)
      simpa using this
    obtain ⟨f, hfn⟩ := Go.Deep.choose_lt each
    have hlen : ((List.range len).map f).length = len := by simp
    refine ⟨some a', cap, (List.range len).map f, by rw [hlen], ?_, by rw [hlen]; omega, fun t ht => ?_⟩
    · by_cases h0 : len = 0
      · subst h0; exact .inl rfl
      · obtain ⟨⟨x, cx, y, cy, hc, _⟩, _⟩ := hfn 0 (by omega)
        have hlt := World.block_lt_of_cell? W _ hc.1
        rw [add_block] at hlt
        refine .inr ⟨a', rfl, hlt, fun i t ht => ?_⟩
        obtain ⟨hi, rfl⟩ := List.getElem?_eq_some_iff.1 ht
        rw [hlen] at hi
        have := (hfn i hi).1
        simpa using this
    · obtain ⟨i, hi, rfl⟩ := List.mem_map.1 ht
      exact (hfn i (List.mem_range.1 hi)).2

/-- The weight of items: one each, and theirs. -/
def ItD.w (d : ItD) : Nat := wI d.K d.A d.R d.l d.B
def wIS (L : List ItD) : Nat := (L.map ItD.w).sum
def wIL (L : List ItD) : Nat := L.length + wIS L
theorem wIS_take {L : List ItD} {k : Nat} (h : k < L.length) : wIS (L.take (k + 1)) = wIS (L.take k) + L[k].w := by
  unfold wIS; rw [List.take_succ_eq_append_getElem h, List.map_append, List.sum_append]; simp
theorem wIS_le (L : List ItD) (k : Nat) : wIS (L.take k) ≤ wIS L := by
  have e : wIS L = wIS (L.take k) + wIS (L.drop k) := by
    unfold wIS; rw [← List.sum_append, ← List.map_append, List.take_append_drop]
  omega
theorem wIL_parts {L : List ItD} {n : Nat} (h : wIL L ≤ n) : L.length ≤ n ∧ ∀ d ∈ L, d.w ≤ n := by
  unfold wIL at h
  refine ⟨by omega, fun c hc => ?_⟩
  obtain ⟨j, hj, rfl⟩ := List.getElem_of_mem hc
  have h1 := wIS_take hj
  have h2 := wIS_le L (j + 1)
  omega

set_option maxRecDepth 20000 in
set_option maxHeartbeats 1600000 in
theorem szItemS_v (a : Option Addr) (ca : Nat) (L : List ItD) (n : Nat) (w : World) (hn : n ≤ 1048576) (hL : L.length ≤ maxLen) (hf : ∀ t ∈ L, t.fits) (ha : AI w a L) :
    Calls Tryz.prog 25 #[.slice a L.length ca, .int .i64 n] w fun e w' => e = .returned (.int .i64 (szV n (wIL L))) ∧ Below w.heap.size w w' := by
  unfold maxLen at hL
  have wr1 : IntKind.i64.wrap ((n : Int) - (L.length : Int)) = (n : Int) - (L.length : Int) := by rw [IntKind.wrap_i64]; omega
  by_cases hlong : n < L.length
  · have hd : decide ((n : Int) - (L.length : Int) < 0) = true := decide_eq_true (by omega)
    have HR : Hid (szV n (wIL L) = -1) := szV_no (by unfold wIL; omega)
    go_enter Tryz.func25, Tryz.ntmps25
    go_wp2_with fail
    go_ret
    exact ⟨ret_sz HR.out.symm, Below.refl _ _⟩
  have hd : decide ((n : Int) - (L.length : Int) < 0) = false := decide_eq_false (by omega)
  by_cases h0 : L = []
  · subst h0
    go_enter Tryz.func25, Tryz.ntmps25
    go_wp2_with fail
    go_loop [1, 5] (fun lv i => lv = .int .i64 n ∧ i = .int .i64 0) (fun _ _ => 0)
    case atStart => exact ⟨by first | rfl | simp, rfl⟩
    case round =>
      obtain ⟨rfl, rfl⟩ := hrel
      go_wp2_with fail
      go_ret
      exact ⟨ret_sz (by rw [szV_yes (show wIL [] ≤ n from Nat.zero_le n)]; show (n : Int) = ((n - 0 : Nat) : Int); omega), Below.refl _ _⟩
  rcases ha with ha | ⟨ad, rfl, hadb, ga⟩
  · exact absurd ha h0
  have GA : Hid (AI w (some ad) L) := .inr ⟨ad, rfl, hadb, ga⟩
  have HFt : Hid (∀ t ∈ L, t.fits) := hf
  clear ga hf
  obtain ⟨n1, hn1⟩ : ∃ n1 : Nat, n1 = n - L.length := ⟨_, rfl⟩
  have hn' : (n : Int) - (L.length : Int) = n1 := by omega
  have hn2 : n1 + L.length = n := by omega
  go_enter Tryz.func25, Tryz.ntmps25
  go_wp2_with fail
  go_loopw [1, 5] (fun lv i wr => ∃ (k V : Nat), lv = .int .i64 V ∧ i = .int .i64 k ∧ k ≤ L.length ∧ V ≤ n ∧ Hid (Below w.heap.size w wr) ∧ Hid (V + wIS (L.take k) = n1)) (fun _ i _ => L.length - (intOf i).toNat)
  case atStart => exact ⟨0, n1, by first | rfl | (rw [hn1]) | (rw [hn']), rfl, Nat.zero_le _, by omega, Below.refl _ _, by show _ = _; simp [wIS]⟩
  case round =>
    obtain ⟨k, V, rfl, rfl, hk, hv1, HB, HS⟩ := hrel
    by_cases hlt : k < L.length
    · obtain ⟨x, cx, y, cy, hc, hx1, hy1⟩ : ∃ x cx y cy, Cells8 wr ad (k * 8) (.string L[k].K) (.slice x L[k].A.length cx) (.int .i64 L[k].S) (.string L[k].R) (.slice y L[k].l.length cy) (.string L[k].B) (.int .i64 L[k].q) (.int .i64 L[k].m) ∧ AF wr x L[k].A ∧ AF wr y L[k].l := by
        rcases GA.out.below HB.out with h | ⟨ad', h1, _, h3⟩
        · exact absurd h h0
        · cases h1; exact h3 k L[k] (List.getElem?_eq_getElem hlt)
      obtain ⟨f1, ⟨f2, f3⟩, f4, f5, f6, f7⟩ := HFt.out L[k] (List.getElem_mem hlt)
      have hst := wIS_take hlt
      have hle := wIS_le L (k + 1)
      have hz := szItem_v L[k].K x cx L[k].A L[k].S L[k].R L[k].B y cy L[k].l L[k].q L[k].m V wr (by omega) f1 hx1 f2 f3 f4 f5 f6 f7 hy1
      have hww : wI L[k].K L[k].A L[k].R L[k].l L[k].B = L[k].w := rfl
      rw [hww] at hz
      obtain ⟨c0, c1, c2, c3, c4, c5, c6, c7⟩ := hc.flat
      by_cases hfit : L[k].w ≤ V
      · have HS' : Hid (V - L[k].w + wIS (L.take (k + 1)) = n1) := by show _ = _; have := HS.out; omega
        rw [szV_yes hfit] at hz
        obtain ⟨m, hm⟩ : ∃ m, m = V - L[k].w := ⟨_, rfl⟩
        rw [← hm] at hz HS'
        have hd2 : decide ((m : Int) < 0) = false := decide_eq_false (by omega)
        have hmL : m ≤ n := by omega
        have HZ : Hid (Calls Tryz.prog 17 #[itV L[k].K (.slice x L[k].A.length cx) L[k].S L[k].R (.slice y L[k].l.length cy) L[k].B L[k].q L[k].m, .int .i64 V] wr fun e w' => e = .returned (.int .i64 (m : Int)) ∧ Below wr.heap.size wr w') := hz
        clear hm hfit hz hc hx1 hy1 hst hle hww f1 f2 f3 f4 f5 f6 f7 HS
        generalize L[k] = dk at HZ c0 c1 c2 c3 c4 c5 c6 c7
        go_wp2_with fail
        refine Calls.mono HZ.out ?_
        rintro e w2 ⟨rfl, hb2⟩
        have HB3 : Hid (Below w.heap.size w w2) := HB.out.trans (hb2.mono HB.out.size)
        clear hb2 HZ HB c0 c1 c2 c3 c4 c5 c6 c7
        go_wp2_with fail
        go_roundw
        case rel => exact ⟨k + 1, m, rfl, by go_num, by omega, hmL, HB3, HS'⟩
        case measure => simp [intOf]; omega
      · have HR : Hid (szV n (wIL L) = -1) := szV_no (by have := HS.out; unfold wIL; omega)
        rw [szV_no hfit] at hz
        have HZ : Hid (Calls Tryz.prog 17 #[itV L[k].K (.slice x L[k].A.length cx) L[k].S L[k].R (.slice y L[k].l.length cy) L[k].B L[k].q L[k].m, .int .i64 V] wr fun e w' => e = .returned (.int .i64 (-1)) ∧ Below wr.heap.size wr w') := hz
        clear hfit hz hc hx1 hy1 hst hle hww f1 f2 f3 f4 f5 f6 f7 HS
        generalize L[k] = dk at HZ c0 c1 c2 c3 c4 c5 c6 c7
        go_wp2_with fail
        refine Calls.mono HZ.out ?_
        rintro e w2 ⟨rfl, hb2⟩
        have HB3 : Hid (Below w.heap.size w w2) := HB.out.trans (hb2.mono HB.out.size)
        clear hb2 HZ HB c0 c1 c2 c3 c4 c5 c6 c7
        go_wp2_with fail
        go_ret
        exact ⟨ret_sz HR.out.symm, HB3.out⟩
    · obtain rfl : k = L.length := by omega
      have HR : Hid ((V : Int) = szV n (wIL L)) := by
        have h := HS.out
        rw [List.take_length] at h
        show _ = _
        rw [szV_yes (by unfold wIL; omega)]
        unfold wIL; omega
      clear HS
      go_wp2_with fail
      go_ret
      exact ⟨ret_sz HR.out, HB.out⟩

end Go.Proofs.YtfgcgnhffljiaaaGreatDoor.Itl

namespace Go.Proofs.YtfgcgnhffljiaaaGreatDoor.Itl
open Go.RowKit
open Go.Proofs.YtfgcgnhffljiaaaGreatDoor.Fbs
open Go.Proofs.YtfgcgnhffljiaaaGreatDoor.Fdb
open Go.Proofs.YtfgcgnhffljiaaaGreatDoor.Fds
open Go.Proofs.YtfgcgnhffljiaaaGreatDoor.Szv
open Go.Proofs.YtfgcgnhffljiaaaGreatDoor.Itm
open Go.Proofs.YtfgcgnhffljiaaaGreatDoor.Rqb (fv_set)

theorem hid {p : Prop} (h : p) : Hid p := h
def Own8 (w : World) (g o : Nat) (v0 v1 v2 v3 v4 v5 v6 v7 : Value) : Prop := w.cell? ⟨g, o, none⟩ = some v0 ∧ w.cell? ⟨g, o + 1, none⟩ = some v1 ∧ w.cell? ⟨g, o + 2, none⟩ = some v2 ∧ w.cell? ⟨g, o + 3, none⟩ = some v3 ∧ w.cell? ⟨g, o + 4, none⟩ = some v4 ∧ w.cell? ⟨g, o + 5, none⟩ = some v5 ∧ w.cell? ⟨g, o + 6, none⟩ = some v6 ∧ w.cell? ⟨g, o + 7, none⟩ = some v7
theorem Own8.of {w w' : World} {g o : Nat} {v0 v1 v2 v3 v4 v5 v6 v7 : Value} (h : Own8 w g o v0 v1 v2 v3 v4 v5 v6 v7) (e : ∀ k, o ≤ k → k < o + 8 → w'.cell? ⟨g, k, none⟩ = w.cell? ⟨g, k, none⟩) : Own8 w' g o v0 v1 v2 v3 v4 v5 v6 v7 := by
  obtain ⟨h0, h1, h2, h3, h4, h5, h6, h7⟩ := h
  exact ⟨(e _ (by omega) (by omega)).trans h0, (e _ (by omega) (by omega)).trans h1, (e _ (by omega) (by omega)).trans h2, (e _ (by omega) (by omega)).trans h3, (e _ (by omega) (by omega)).trans h4, (e _ (by omega) (by omega)).trans h5, (e _ (by omega) (by omega)).trans h6, (e _ (by omega) (by omega)).trans h7⟩
theorem Own8.below {w w' : World} {g o : Nat} {v0 v1 v2 v3 v4 v5 v6 v7 : Value} (h : Own8 w g o v0 v1 v2 v3 v4 v5 v6 v7) (hg : g < w.heap.size) (hb : Below w.heap.size w w') : Own8 w' g o v0 v1 v2 v3 v4 v5 v6 v7 := h.of fun k _ _ => hb.cell (p := ⟨g, k, none⟩) hg
/-- A list of items of the call's own: its row, and what its items' fields lie in, from lo on and below hi. -/
def IV (w : World) (a : Option Addr) (L : List ItD) (lo hi : Nat) : Prop := L = [] ∨ ∃ g, a = some ⟨g, 0, none⟩ ∧ lo ≤ g ∧ g < hi ∧ g < w.heap.size ∧ (∀ i, w.frozen? ⟨g, i, none⟩ = false) ∧ ∀ i d, L[i]? = some d → ∃ x y, Own8 w g (i * 8) (.string d.K) (.slice x d.A.length d.A.length) (.int .i64 d.S) (.string d.R) (.slice y d.l.length d.l.length) (.string d.B) (.int .i64 d.q) (.int .i64 d.m) ∧ FV w x d.A lo hi ∧ FV w y d.l lo hi
theorem IV.below {w w' : World} {a : Option Addr} {L : List ItD} {lo hi : Nat} (h : IV w a L lo hi) (hb : Below w.heap.size w w') : IV w' a L lo hi := by
  rcases h with h | ⟨g, h1, h2, h3, h4, h5, h6⟩
  · exact .inl h
  · refine .inr ⟨g, h1, h2, h3, Nat.lt_of_lt_of_le h4 hb.size, fun i => (hb.frozen (p := ⟨g, i, none⟩) h4).trans (h5 i), fun i d hd => ?_⟩
    obtain ⟨x, y, hc, hx, hy⟩ := h6 i d hd
    exact ⟨x, y, hc.below h4 hb, hx.below hb, hy.below hb⟩
theorem IV.wide {w : World} {a : Option Addr} {L : List ItD} {lo hi lo' hi' : Nat} (h : IV w a L lo hi) (h1 : lo' ≤ lo) (h2 : hi ≤ hi') : IV w a L lo' hi' := by
  rcases h with h | ⟨g, e1, e2, e3, e4, e5, e6⟩
  · exact .inl h
  · refine .inr ⟨g, e1, by omega, by omega, e4, e5, fun i d hd => ?_⟩
    obtain ⟨x, y, hc, hx, hy⟩ := e6 i d hd
    exact ⟨x, y, hc, hx.wide h1 h2, hy.wide h1 h2⟩
/-- An item of such a list. -/
theorem IV.at {w : World} {a : Option Addr} {L : List ItD} {lo hi i : Nat} (h : IV w a L lo hi) (hi' : i < L.length) : ∃ g, a = some ⟨g, 0, none⟩ ∧ g < w.heap.size ∧ ∃ x y, Own8 w g (i * 8) (.string L[i].K) (.slice x L[i].A.length L[i].A.length) (.int .i64 L[i].S) (.string L[i].R) (.slice y L[i].l.length L[i].l.length) (.string L[i].B) (.int .i64 L[i].q) (.int .i64 L[i].m) ∧ FV w x L[i].A lo hi ∧ FV w y L[i].l lo hi := by
  rcases h with h | ⟨g, e1, _, _, e4, _, e6⟩
  · subst h; exact absurd hi' (by simp)
  · exact ⟨g, e1, e4, e6 i _ (List.getElem?_eq_getElem hi')⟩

/-! Eight cells stored. -/
def set8 (w : World) (g o : Nat) (v0 v1 v2 v3 v4 v5 v6 v7 : Value) : World := ((((((((w).setCell ⟨g, o, none⟩ v0).setCell ⟨g, o + 1, none⟩ v1).setCell ⟨g, o + 2, none⟩ v2).setCell ⟨g, o + 3, none⟩ v3).setCell ⟨g, o + 4, none⟩ v4).setCell ⟨g, o + 5, none⟩ v5).setCell ⟨g, o + 6, none⟩ v6).setCell ⟨g, o + 7, none⟩ v7
theorem set8_cells {w : World} {g o : Nat} {u0 u1 u2 u3 u4 u5 u6 u7 : Value} (h : Own8 w g o u0 u1 u2 u3 u4 u5 u6 u7) (v0 v1 v2 v3 v4 v5 v6 v7 : Value) : Own8 (set8 w g o v0 v1 v2 v3 v4 v5 v6 v7) g o v0 v1 v2 v3 v4 v5 v6 v7 := by
  obtain ⟨h0, h1, h2, h3, h4, h5, h6, h7⟩ := h
  unfold set8
  refine ⟨?_, ?_, ?_, ?_, ?_, ?_, ?_, ?_⟩ <;> simp [go_sem, h0, h1, h2, h3, h4, h5, h6, h7]
theorem set8_far {w : World} {g o g' k : Nat} (v0 v1 v2 v3 v4 v5 v6 v7 : Value) (h : g' ≠ g ∨ k < o ∨ o + 8 ≤ k) : (set8 w g o v0 v1 v2 v3 v4 v5 v6 v7).cell? ⟨g', k, none⟩ = w.cell? ⟨g', k, none⟩ := by
  unfold set8
  have e : ∀ (j : Nat) (u : Value) (W : World), j < 8 → (W.setCell ⟨g, o + j, none⟩ u).cell? ⟨g', k, none⟩ = W.cell? ⟨g', k, none⟩ := fun j u W hj => World.cell?_setCell_other _ _ _ _ (by
    intro he
    injection he with e1 e2 _
    rcases h with h | h | h <;> omega)
  rw [e 7 _ _ (by omega), e 6 _ _ (by omega), e 5 _ _ (by omega), e 4 _ _ (by omega), e 3 _ _ (by omega), e 2 _ _ (by omega), e 1 _ _ (by omega)]
  exact e 0 _ _ (by omega)
theorem set8_frozen (w : World) (g o : Nat) (v0 v1 v2 v3 v4 v5 v6 v7 : Value) (p : Addr) : (set8 w g o v0 v1 v2 v3 v4 v5 v6 v7).frozen? p = w.frozen? p := by unfold set8; simp [go_sem]
theorem set8_size (w : World) (g o : Nat) (v0 v1 v2 v3 v4 v5 v6 v7 : Value) : (set8 w g o v0 v1 v2 v3 v4 v5 v6 v7).heap.size = w.heap.size := by unfold set8; simp [World.setCell]
theorem set8_fv {w : World} {a : Option Addr} {l : List (ByteArray × ByteArray)} {lo hi g o : Nat} (h : FV w a l lo hi) (hg : g < lo) (v0 v1 v2 v3 v4 v5 v6 v7 : Value) : FV (set8 w g o v0 v1 v2 v3 v4 v5 v6 v7) a l lo hi := by
  unfold set8
  exact fv_set (fv_set (fv_set (fv_set (fv_set (fv_set (fv_set (fv_set (h) hg _) hg _) hg _) hg _) hg _) hg _) hg _) hg _
theorem set8_below {B : Nat} {w0 w : World} {g o : Nat} (h : Below B w0 w) (hg : B ≤ g) (v0 v1 v2 v3 v4 v5 v6 v7 : Value) : Below B w0 (set8 w g o v0 v1 v2 v3 v4 v5 v6 v7) := by
  unfold set8
  exact ((((((((h).setCell (p := ⟨g, o, none⟩) hg v0).setCell (p := ⟨g, o + 1, none⟩) hg v1).setCell (p := ⟨g, o + 2, none⟩) hg v2).setCell (p := ⟨g, o + 3, none⟩) hg v3).setCell (p := ⟨g, o + 4, none⟩) hg v4).setCell (p := ⟨g, o + 5, none⟩) hg v5).setCell (p := ⟨g, o + 6, none⟩) hg v6).setCell (p := ⟨g, o + 7, none⟩) hg v7

/-- A row of items of the call's own, j of them laid. -/
def PartI (w : World) (g j : Nat) (L : List ItD) : Prop := g < w.heap.size ∧ (∀ i, w.frozen? ⟨g, i, none⟩ = false) ∧ (∀ i, (hi : i < L.length) → i < j → ∃ x y, Own8 w g (i * 8) (.string L[i].K) (.slice x L[i].A.length L[i].A.length) (.int .i64 L[i].S) (.string L[i].R) (.slice y L[i].l.length L[i].l.length) (.string L[i].B) (.int .i64 L[i].q) (.int .i64 L[i].m) ∧ FV w x L[i].A (g + 1) w.heap.size ∧ FV w y L[i].l (g + 1) w.heap.size) ∧ ∀ i, j ≤ i → i < L.length → ∃ u0 u1 u2 u3 u4 u5 u6 u7, Own8 w g (i * 8) u0 u1 u2 u3 u4 u5 u6 u7
theorem PartI.made (w : World) (L : List ItD) : PartI (w.alloc (.cells (madeCells #[.string ⟨#[]⟩, .slice none 0 0, .int .i64 0, .string ⟨#[]⟩, .slice none 0 0, .string ⟨#[]⟩, .int .i64 0, .int .i64 0] (L.length * 8)) 51)) w.heap.size 0 L := by
  refine ⟨by simp, fun i => World.frozen?_alloc_at _ 51 _ i rfl, fun i _ h => absurd h (by omega), fun i _ hi => ⟨.string ⟨#[]⟩, .slice none 0 0, .int .i64 0, .string ⟨#[]⟩, .slice none 0 0, .string ⟨#[]⟩, .int .i64 0, .int .i64 0, ?_⟩⟩
  have h : ∀ k, k < 8 → i * 8 + k < L.length * 8 := fun k hk => by omega
  have h0 := h 0 (by omega)
  have h1 := h 1 (by omega)
  have h2 := h 2 (by omega)
  have h3 := h 3 (by omega)
  have h4 := h 4 (by omega)
  have h5 := h 5 (by omega)
  have h6 := h 6 (by omega)
  have h7 := h 7 (by omega)
  have m0 : i * 8 % 8 = 0 := by omega
  have m1 : (i * 8 + 1) % 8 = 1 := by omega
  have m2 : (i * 8 + 2) % 8 = 2 := by omega
  have m3 : (i * 8 + 3) % 8 = 3 := by omega
  have m4 : (i * 8 + 4) % 8 = 4 := by omega
  have m5 : (i * 8 + 5) % 8 = 5 := by omega
  have m6 : (i * 8 + 6) % 8 = 6 := by omega
  have m7 : (i * 8 + 7) % 8 = 7 := by omega
  rw [Nat.add_zero] at h0
  refine ⟨?_, ?_, ?_, ?_, ?_, ?_, ?_, ?_⟩ <;> (rw [World.cell?_alloc_mark]; simp [madeCells, h0, h1, h2, h3, h4, h5, h6, h7, m0, m1, m2, m3, m4, m5, m6, m7])
theorem PartI.below {w w' : World} {g j : Nat} {L : List ItD} (h : PartI w g j L) (hb : Below w.heap.size w w') : PartI w' g j L := by
  refine ⟨Nat.lt_of_lt_of_le h.1 hb.size, fun i => (hb.frozen (p := ⟨g, i, none⟩) h.1).trans (h.2.1 i), fun i hi hj => ?_, fun i h1 h2 => ?_⟩
  · obtain ⟨x, y, hc, hx, hy⟩ := h.2.2.1 i hi hj
    exact ⟨x, y, hc.below h.1 hb, (hx.below hb).wide (Nat.le_refl _) hb.size, (hy.below hb).wide (Nat.le_refl _) hb.size⟩
  · obtain ⟨u0, u1, u2, u3, u4, u5, u6, u7, hc⟩ := h.2.2.2 i h1 h2
    exact ⟨u0, u1, u2, u3, u4, u5, u6, u7, hc.below h.1 hb⟩
theorem PartI.step {w : World} {g j : Nat} {L : List ItD} (h : PartI w g j L) (hj : j < L.length) (x y : Option Addr) (hx : FV w x L[j].A (g + 1) w.heap.size) (hy : FV w y L[j].l (g + 1) w.heap.size) :
    PartI (set8 w g (j * 8) (.string L[j].K) (.slice x L[j].A.length L[j].A.length) (.int .i64 L[j].S) (.string L[j].R) (.slice y L[j].l.length L[j].l.length) (.string L[j].B) (.int .i64 L[j].q) (.int .i64 L[j].m)) g (j + 1) L := by
  obtain ⟨h1, h2, h3, h4⟩ := h
  obtain ⟨u0, u1, u2, u3, u4, u5, u6, u7, hc⟩ := h4 j (Nat.le_refl _) hj
  refine ⟨by rw [set8_size]; exact h1, fun i => by rw [set8_frozen]; exact h2 i, fun i hi hij => ?_, fun i hi hn => ?_⟩
  · by_cases he : i = j
    · subst he
      exact ⟨x, y, set8_cells hc _ _ _ _ _ _ _ _, by rw [set8_size]; exact set8_fv hx (by omega) _ _ _ _ _ _ _ _, by rw [set8_size]; exact set8_fv hy (by omega) _ _ _ _ _ _ _ _⟩
    · obtain ⟨x', y', hc', hx', hy'⟩ := h3 i hi (by omega)
      exact ⟨x', y', hc'.of fun k k1 k2 => set8_far _ _ _ _ _ _ _ _ (by omega), by rw [set8_size]; exact set8_fv hx' (by omega) _ _ _ _ _ _ _ _, by rw [set8_size]; exact set8_fv hy' (by omega) _ _ _ _ _ _ _ _⟩
  · obtain ⟨t0, t1, t2, t3, t4, t5, t6, t7, hc'⟩ := h4 i (by omega) hn
    exact ⟨t0, t1, t2, t3, t4, t5, t6, t7, hc'.of fun k k1 k2 => set8_far _ _ _ _ _ _ _ _ (by omega)⟩
theorem PartI.row {w : World} {g B : Nat} {L : List ItD} (h : PartI w g L.length L) (hB : B ≤ g) : IV w (some ⟨g, 0, none⟩) L B w.heap.size := by
  refine .inr ⟨g, rfl, hB, h.1, h.1, h.2.1, fun i d hd => ?_⟩
  obtain ⟨hi, rfl⟩ := List.getElem?_eq_some_iff.1 hd
  obtain ⟨x, y, hc, hx, hy⟩ := h.2.2.1 i hi hi
  exact ⟨x, y, hc, hx.wide (by omega) (Nat.le_refl _), hy.wide (by omega) (Nat.le_refl _)⟩
theorem infoI : (Tryz.prog.info? 51).map (fun i => (i.zero, i.size, i.bytes)) = some (some (.agg #[.string ⟨#[]⟩, .slice none 0 0, .int .i64 0, .string ⟨#[]⟩, .slice none 0 0, .string ⟨#[]⟩, .int .i64 0, .int .i64 0]), 8, 120) := by kernel_rfl

set_option maxRecDepth 20000 in
set_option maxHeartbeats 3200000 in
theorem toItemS_any (a : Option Addr) (ca : Nat) (L : List ItD) (w : World) (hl : wIL L ≤ 1048576) (ha : AI w a L) :
    Calls Tryz.prog 27 #[.slice a L.length ca] w fun e w' => e = .returned (.slice (some ⟨w.heap.size, 0, none⟩) L.length L.length) ∧ IV w' (some ⟨w.heap.size, 0, none⟩) L w.heap.size w'.heap.size ∧ Below w.heap.size w w' := by
  obtain ⟨hlen, hd⟩ := wIL_parts hl
  obtain ⟨i0, hi, hz0, hz1, hz2⟩ := info_parts infoI
  have hmk := run_make (P := Tryz.prog) w 63 51 i0 _ Tryz.underlying63 hi hz0 .i64 .i64 (L.length : Int) (L.length : Int) (by omega) (by omega) (by rw [hz2]; omega) (by omega)
  rw [hz1, Int.toNat_natCast] at hmk
  have hmk2 : (Instr.makeSlice 63 (.int .i64 (L.length : Int)) (.int .i64 (L.length : Int))).run Tryz.prog w = .ok (.slice (some ⟨w.heap.size, 0, none⟩) L.length L.length) (w.alloc (.cells (madeCells #[.string ⟨#[]⟩, .slice none 0 0, .int .i64 0, .string ⟨#[]⟩, .slice none 0 0, .string ⟨#[]⟩, .int .i64 0, .int .i64 0] (L.length * 8)) 51)) := hmk
  clear hmk
  have HP0 : Hid (PartI (w.alloc (.cells (madeCells #[.string ⟨#[]⟩, .slice none 0 0, .int .i64 0, .string ⟨#[]⟩, .slice none 0 0, .string ⟨#[]⟩, .int .i64 0, .int .i64 0] (L.length * 8)) 51)) w.heap.size 0 L) := PartI.made w L
  have hB0 : Below w.heap.size w (w.alloc (.cells (madeCells #[.string ⟨#[]⟩, .slice none 0 0, .int .i64 0, .string ⟨#[]⟩, .slice none 0 0, .string ⟨#[]⟩, .int .i64 0, .int .i64 0] (L.length * 8)) 51)) := (Below.refl _ _).alloc (Nat.le_refl _) _
  generalize w.alloc (.cells (madeCells #[.string ⟨#[]⟩, .slice none 0 0, .int .i64 0, .string ⟨#[]⟩, .slice none 0 0, .string ⟨#[]⟩, .int .i64 0, .int .i64 0] (L.length * 8)) 51) = wm at hmk2 HP0 hB0
  by_cases h0 : L = []
  · subst h0
    have hmk : (Instr.makeSlice 63 (.int .i64 0) (.int .i64 0)).run Tryz.prog w = .ok (.slice (some ⟨w.heap.size, 0, none⟩) 0 0) wm := hmk2
    clear hmk2 hd
    go_enter Tryz.func27, Tryz.ntmps27
    go_wp2_with fail
    go_loop [4] (fun i => i = .int .i64 0) (fun _ => 0)
    case atStart => rfl
    case round =>
      obtain rfl := hrel
      go_wp2_with fail
      go_ret
      exact ⟨rfl, .inl rfl, hB0⟩
  rcases ha with ha | ⟨ad, rfl, hadb, ga⟩
  · exact absurd ha h0
  have GA : Hid (AI w (some ad) L) := .inr ⟨ad, rfl, hadb, ga⟩
  have HD : Hid (∀ t ∈ L, t.w ≤ 1048576) := hd
  have HB0 : Hid (Below w.heap.size w wm) := hB0
  clear ga hd hB0
  go_enter Tryz.func27, Tryz.ntmps27
  go_wp2_with fail
  go_loopw [4] (fun i wr => ∃ k : Nat, i = .int .i64 k ∧ k ≤ L.length ∧ Hid (PartI wr w.heap.size k L) ∧ Hid (Below w.heap.size w wr)) (fun i _ => L.length - (intOf i).toNat)
  case atStart => exact ⟨0, rfl, Nat.zero_le _, HP0, HB0⟩
  case round =>
    obtain ⟨k, rfl, hk, HP, HB⟩ := hrel
    clear hmk2 HP0 HB0
    by_cases hlt : k < L.length
    · obtain ⟨x, cx, y, cy, hc, hx1, hy1⟩ : ∃ x cx y cy, Cells8 wr ad (k * 8) (.string L[k].K) (.slice x L[k].A.length cx) (.int .i64 L[k].S) (.string L[k].R) (.slice y L[k].l.length cy) (.string L[k].B) (.int .i64 L[k].q) (.int .i64 L[k].m) ∧ AF wr x L[k].A ∧ AF wr y L[k].l := by
        rcases GA.out.below HB.out with h | ⟨ad', h1, _, h3⟩
        · exact absurd h h0
        · cases h1; exact h3 k L[k] (List.getElem?_eq_getElem hlt)
      have hw := HD.out L[k] (List.getElem_mem hlt)
      have hA1 : L[k].A.length ≤ 1048576 := (wF_parts (l := L[k].A) (L := 1048576) (by unfold ItD.w wI at hw; omega)).1
      have hl1 : L[k].l.length ≤ 1048576 := (wF_parts (l := L[k].l) (L := 1048576) (by unfold ItD.w wI wP at hw; omega)).1
      have HTI := hid (toItem_any L[k].K x cx L[k].A L[k].S L[k].R L[k].B y cy L[k].l L[k].q L[k].m wr hA1 hl1 hx1 hy1)
      have hstep : ∀ (w2 : World) (x' y' : Option Addr), Below wr.heap.size wr w2 → FV w2 x' L[k].A (w.heap.size + 1) w2.heap.size → FV w2 y' L[k].l (w.heap.size + 1) w2.heap.size → PartI (set8 w2 w.heap.size (k * 8) (.string L[k].K) (.slice x' L[k].A.length L[k].A.length) (.int .i64 L[k].S) (.string L[k].R) (.slice y' L[k].l.length L[k].l.length) (.string L[k].B) (.int .i64 L[k].q) (.int .i64 L[k].m)) w.heap.size (k + 1) L := fun w2 x' y' hb h1 h2 => (HP.out.below hb).step hlt x' y' h1 h2
      have HSt := hid hstep
      have HPo : Hid (∀ w2, Below wr.heap.size wr w2 → (∀ i, w2.frozen? ⟨w.heap.size, i, none⟩ = false) ∧ w.heap.size < w2.heap.size ∧ ∃ u0 u1 u2 u3 u4 u5 u6 u7, Own8 w2 w.heap.size (k * 8) u0 u1 u2 u3 u4 u5 u6 u7) := fun w2 hb => by
        have h := HP.out.below hb
        exact ⟨h.2.1, h.1, h.2.2.2 k (Nat.le_refl _) hlt⟩
      have hgw : w.heap.size + 1 ≤ wr.heap.size := HP.out.1
      obtain ⟨c0, c1, c2, c3, c4, c5, c6, c7⟩ := hc.flat
      clear hstep hc hx1 hy1 hw hA1 hl1 HP
      generalize L[k] = dk at *
      go_wp2_with fail
      refine Calls.mono HTI.out ?_
      rintro e w2 ⟨⟨g, g', rfl, mid, hm1, hm2, GA2, GL2⟩, hb2⟩
      obtain ⟨hfz, hlt2, u0, u1, u2, u3, u4, u5, u6, u7, o0, o1, o2, o3, o4, o5, o6, o7⟩ := HPo.out w2 hb2
      have HP' : Hid (PartI (set8 w2 w.heap.size (k * 8) (.string dk.K) (.slice (some ⟨g, 0, none⟩) dk.A.length dk.A.length) (.int .i64 dk.S) (.string dk.R) (.slice (some ⟨g', 0, none⟩) dk.l.length dk.l.length) (.string dk.B) (.int .i64 dk.q) (.int .i64 dk.m)) w.heap.size (k + 1) L) := HSt.out w2 _ _ hb2 (GA2.wide hgw hm2) (GL2.wide (by omega) (Nat.le_refl _))
      have HB' : Hid (Below w.heap.size w (set8 w2 w.heap.size (k * 8) (.string dk.K) (.slice (some ⟨g, 0, none⟩) dk.A.length dk.A.length) (.int .i64 dk.S) (.string dk.R) (.slice (some ⟨g', 0, none⟩) dk.l.length dk.l.length) (.string dk.B) (.int .i64 dk.q) (.int .i64 dk.m))) := set8_below (HB.out.trans (hb2.mono HB.out.size)) (Nat.le_refl _) _ _ _ _ _ _ _ _
      clear c0 c1 c2 c3 c4 c5 c6 c7 GA2 GL2 hb2 HTI HSt HPo HB hgw
      go_wp2_with fail
      go_roundw
      case rel => exact ⟨k + 1, by go_num, by omega, HP', HB'⟩
      case measure => simp [intOf]; omega
    · obtain rfl : k = L.length := by omega
      have HR : Hid (IV wr (some ⟨w.heap.size, 0, none⟩) L w.heap.size wr.heap.size) := HP.out.row (Nat.le_refl _)
      clear HP
      go_wp2_with fail
      go_ret
      exact ⟨rfl, HR.out, HB.out⟩

end Go.Proofs.YtfgcgnhffljiaaaGreatDoor.Itl

namespace Go.Proofs.YtfgcgnhffljiaaaGreatDoor.Itl
open Go.RowKit
open Go.Proofs.YtfgcgnhffljiaaaGreatDoor.Fbs
open Go.Proofs.YtfgcgnhffljiaaaGreatDoor.Fch (Tab)
open Go.Proofs.YtfgcgnhffljiaaaGreatDoor.Fdb
open Go.Proofs.YtfgcgnhffljiaaaGreatDoor.Fvs
open Go.Proofs.YtfgcgnhffljiaaaGreatDoor.Szv
open Go.Proofs.YtfgcgnhffljiaaaGreatDoor.Itm
open Go.Proofs.YtfgcgnhffljiaaaGreatDoor.Mta
open Go.Proofs.YtfgcgnhffljiaaaGreatDoor.Rsb (PowT)
open Go.Proofs.YtfgcgnhffljiaaaGreatDoor.Mtw (wI_parts)
open Go.Proofs.YtfgcgnhffljiaaaGreatDoor.Num (tab_below tab_lt)
open Go.Proofs.YtfgcgnhffljiaaaGreatDoor.Lnp (sent)

set_option maxRecDepth 20000 in
set_option maxHeartbeats 3200000 in
theorem eqItemS_any (a b : Option Addr) (L : List ItD) (w : World) (lo hi lo' hi' : Nat) (hl : wIL L ≤ 1048576) (ha : IV w a L lo hi) (hb : IV w b L lo' hi') :
    Calls Tryz.prog 29 #[.slice a L.length L.length, .slice b L.length L.length] w fun e w' => e = .returned (.bool true) ∧ Below w.heap.size w w' := by
  obtain ⟨hlen, hd⟩ := wIL_parts hl
  by_cases h0 : L = []
  · subst h0
    go_enter Tryz.func29, Tryz.ntmps29
    go_wp2_with fail
    go_loop [5] (fun i => i = .int .i64 0) (fun _ => 0)
    case atStart => rfl
    case round =>
      obtain rfl := hrel
      go_wp2_with fail
      go_ret
      exact ⟨rfl, Below.refl _ _⟩
  have HA : Hid (IV w a L lo hi) := ha
  have HB : Hid (IV w b L lo' hi') := hb
  have HD : Hid (∀ t ∈ L, t.w ≤ 1048576) := hd
  clear ha hb hd
  go_enter Tryz.func29, Tryz.ntmps29
  go_wp2_with fail
  go_loopw [5] (fun i wr => ∃ k : Nat, i = .int .i64 k ∧ k ≤ L.length ∧ Hid (Below w.heap.size w wr)) (fun i _ => L.length - (intOf i).toNat)
  case atStart => exact ⟨0, rfl, Nat.zero_le _, Below.refl _ _⟩
  case round =>
    obtain ⟨k, rfl, hk, HBw⟩ := hrel
    by_cases hlt : k < L.length
    · obtain ⟨g1, rfl, hg1, x1, y1, ⟨c0, c1, c2, c3, c4, c5, c6, c7⟩, hx1, hy1⟩ := (HA.out.below HBw.out).at hlt
      obtain ⟨g2, rfl, hg2, x2, y2, ⟨d0, d1, d2, d3, d4, d5, d6, d7⟩, hx2, hy2⟩ := (HB.out.below HBw.out).at hlt
      have hw := wI_parts (HD.out L[k] (List.getElem_mem hlt))
      have hwA : L[k].A.length ≤ 2000000 := by have := hw.2.1; omega
      have hwl : L[k].l.length ≤ 2000000 := by have := hw.2.2.2.2.2.1; omega
      have HE : Hid (∀ wx, Below wr.heap.size wr wx → Calls Tryz.prog 23 #[itV L[k].K (.slice x1 L[k].A.length L[k].A.length) L[k].S L[k].R (.slice y1 L[k].l.length L[k].l.length) L[k].B L[k].q L[k].m, itV L[k].K (.slice x2 L[k].A.length L[k].A.length) L[k].S L[k].R (.slice y2 L[k].l.length L[k].l.length) L[k].B L[k].q L[k].m] wx fun e w' => e = .returned (.bool true) ∧ Below wx.heap.size wx w') := fun wx h => eqItem_any L[k].K x1 x2 L[k].A L[k].S L[k].R L[k].B y1 y2 L[k].l L[k].q L[k].m wx _ _ _ _ _ _ _ _ hwA hwl (hx1.below h) (hx2.below h) (hy1.below h) (hy2.below h)
      clear hw hwA hwl hx1 hx2 hy1 hy2
      generalize L[k] = dk at *
      go_wp2_with fail
      go_region_with (first
        | (go_at_call 23; refine (HE.out _ (Below.refl _ _).drew).mono ?_; rintro e w3 ⟨rfl, hb3⟩))
      all_goals
        have HB3 : Hid (Below w.heap.size w w3) := HBw.out.trans (((Below.refl _ _).drew.trans hb3).mono HBw.out.size)
        clear hb3 HBw c0 c1 c2 c3 c4 c5 c6 c7 d0 d1 d2 d3 d4 d5 d6 d7
        go_wp2_with fail
        go_roundw
        case rel => exact ⟨k + 1, by go_num, by omega, HB3⟩
        case measure => simp [intOf]; omega
    · obtain rfl : k = L.length := by omega
      go_wp2_with fail
      go_ret
      exact ⟨rfl, HBw.out⟩

/-- Is it a good item? -/
def ItD.good (d : ItD) : Bool := itB d.K d.A d.S d.R d.l d.B d.q d.m
def goodIs (L : List ItD) : Bool := L.all ItD.good
/-- At most as many good items as may be. -/
def isB (L : List ItD) : Bool := decide (L.length ≤ 30) && goodIs L
theorem good_no {L : List ItD} {k : Nat} (h : k < L.length) (hb : L[k].good = false) : goodIs L = false := by
  unfold goodIs; rw [List.all_eq_false]; exact ⟨L[k], List.getElem_mem h, by simp [hb]⟩
theorem good_yes {L : List ItD} (h : ∀ j, (hj : j < L.length) → L[j].good = true) : goodIs L = true := by
  unfold goodIs; rw [List.all_eq_true]; intro x hx
  obtain ⟨j, hj, rfl⟩ := List.getElem_of_mem hx
  exact h j hj

end Go.Proofs.YtfgcgnhffljiaaaGreatDoor.Itl

namespace Go.Proofs.YtfgcgnhffljiaaaGreatDoor.Itl
open Go.RowKit
open Go.Proofs.YtfgcgnhffljiaaaGreatDoor.Fbs
open Go.Proofs.YtfgcgnhffljiaaaGreatDoor.Fch (Tab)
open Go.Proofs.YtfgcgnhffljiaaaGreatDoor.Fdb
open Go.Proofs.YtfgcgnhffljiaaaGreatDoor.Fvs
open Go.Proofs.YtfgcgnhffljiaaaGreatDoor.Szv
open Go.Proofs.YtfgcgnhffljiaaaGreatDoor.Itm
open Go.Proofs.YtfgcgnhffljiaaaGreatDoor.Mta
open Go.Proofs.YtfgcgnhffljiaaaGreatDoor.Rsb (PowT)
open Go.Proofs.YtfgcgnhffljiaaaGreatDoor.Mtw (wI_parts)
open Go.Proofs.YtfgcgnhffljiaaaGreatDoor.Num (tab_below tab_lt)
open Go.Proofs.YtfgcgnhffljiaaaGreatDoor.Lnp (sent)

set_option maxRecDepth 20000 in
set_option maxHeartbeats 3200000 in
theorem areItems_any (a : Option Addr) (L : List ItD) (w : World) (lo hi : Nat) (b : Addr) (hT : Tab w) (hP : PowT w) (hE : w.cell? ⟨1, 0, none⟩ = some (sent b)) (hl : wIL L ≤ 1048576) (ha : IV w a L lo hi) :
    Calls Tryz.prog 62 #[.slice a L.length L.length] w fun e w' => e = .returned (.bool (isB L)) ∧ Below w.heap.size w w' := by
  obtain ⟨hlen, hd⟩ := wIL_parts hl
  by_cases h0 : L = []
  · subst h0
    clear hd
    try clear hT hP hE
    go_enter Tryz.func62, Tryz.ntmps62
    go_wp2_with fail
    go_loop [10] (fun i => i = .int .i64 0) (fun _ => 0)
    case atStart => rfl
    case round =>
      obtain rfl := hrel
      go_wp2_with fail
      go_ret
      exact ⟨rfl, Below.refl _ _⟩
  have HA : Hid (IV w a L lo hi) := ha
  have HI : Hid (∀ k, (hk : k < L.length) → ∀ wx x y lo hi lo1 hi1, Below w.heap.size w wx → FV wx x L[k].A lo1 hi1 → FV wx y L[k].l lo hi → Calls Tryz.prog 56 #[itV L[k].K (.slice x L[k].A.length L[k].A.length) L[k].S L[k].R (.slice y L[k].l.length L[k].l.length) L[k].B L[k].q L[k].m] wx fun e w' => e = .returned (.bool L[k].good) ∧ Below wx.heap.size wx w') := by
    intro k hk wx x y lo hi lo1 hi1 hb hx hy
    obtain ⟨h1, h2, h3, h4, h5, h6, h7, h8⟩ := wI_parts (hd L[k] (List.getElem_mem hk))
    exact isItem_any L[k].K x L[k].A.length L[k].A L[k].S L[k].R L[k].B y L[k].l.length L[k].l L[k].q L[k].m b wx lo hi lo1 hi1 (hT.below hb hT.lt) (tab_below hP hb (tab_lt hP)) ((hb.cell (p := ⟨1, 0, none⟩) (World.block_lt_of_cell? _ _ hE)).trans hE) (by omega) h7 (Nat.le_refl _) hy h3 hx
  clear ha hd h0
  try clear hT hP hE hgt
  by_cases hlong : 30 < L.length
  · have HR : Hid (isB L = false) := by show _ = _; unfold isB; rw [decide_eq_false (by omega), Bool.false_and]
    go_enter Tryz.func62, Tryz.ntmps62
    go_wp2_with fail
    go_ret
    exact ⟨ret_bool HR.out.symm, Below.refl _ _⟩
  go_enter Tryz.func62, Tryz.ntmps62
  go_wp2_with fail
  go_loopw [10] (fun i wr => ∃ k : Nat, i = .int .i64 k ∧ k ≤ L.length ∧ Hid (Below w.heap.size w wr) ∧ Hid (∀ j, (hj : j < L.length) → j < k → L[j].good = true)) (fun i _ => L.length - (intOf i).toNat)
  case atStart => exact ⟨0, rfl, Nat.zero_le _, Below.refl _ _, fun j _ h => absurd h (by omega)⟩
  case round =>
    obtain ⟨k, rfl, hk, HBw, HG⟩ := hrel
    by_cases hlt : k < L.length
    · obtain ⟨g1, rfl, hg1, x1, y1, ⟨c0, c1, c2, c3, c4, c5, c6, c7⟩, hx1, hy1⟩ := (HA.out.below HBw.out).at hlt
      have HE : Hid (∀ wx, Below wr.heap.size wr wx → Calls Tryz.prog 56 #[itV L[k].K (.slice x1 L[k].A.length L[k].A.length) L[k].S L[k].R (.slice y1 L[k].l.length L[k].l.length) L[k].B L[k].q L[k].m] wx fun e w' => e = .returned (.bool L[k].good) ∧ Below wx.heap.size wx w') := fun wx h => HI.out k hlt wx _ _ _ _ _ _ (HBw.out.trans (h.mono HBw.out.size)) (hx1.below h) (hy1.below h)
      have hbad := @good_no L k hlt
      have HG2 : Hid (L[k].good = true → ∀ j, (hj : j < L.length) → j < k + 1 → L[j].good = true) := by
        intro h j hj hji
        by_cases e : j = k
        · subst e; exact h
        · exact HG.out j hj (by omega)
      have HBad := hid hbad
      clear hx1 hy1 HG hbad HI
      generalize hgd : L[k].good = gd at HE HBad HG2
      clear hgd
      generalize L[k] = dk at *
      have HAl : Hid (∀ cs t, Below wr.heap.size wr (wr.alloc (.cells cs t))) := fun cs t => (Below.refl _ _).alloc (Nat.le_refl _) _
      cases gd
      · have HR : Hid (isB L = false) := by show _ = _; unfold isB; rw [HBad.out (by first | trivial | rfl), Bool.and_false]
        clear HG2 HBad
        go_wp2_with fail
        refine Calls.mono (HE.out _ (by first | exact Below.refl _ _ | exact HAl.out _ _)) ?_
        rintro e w3 ⟨rfl, hb3⟩
        have HB3 : Hid (Below w.heap.size w w3) := by
          have h1 : Below wr.heap.size wr w3 := by first | exact hb3 | exact (HAl.out _ _).trans (hb3.mono (HAl.out _ _).size)
          exact HBw.out.trans (h1.mono HBw.out.size)
        clear hb3 c0 c1 c2 c3 c4 c5 c6 c7 HE HAl
        go_wp2_with fail
        go_ret
        exact ⟨ret_bool HR.out.symm, HB3.out⟩
      · have HG3 : Hid (∀ j, (hj : j < L.length) → j < k + 1 → L[j].good = true) := HG2.out (by first | trivial | rfl)
        clear HBad HG2
        go_wp2_with fail
        refine Calls.mono (HE.out _ (by first | exact Below.refl _ _ | exact HAl.out _ _)) ?_
        rintro e w3 ⟨rfl, hb3⟩
        have HB3 : Hid (Below w.heap.size w w3) := by
          have h1 : Below wr.heap.size wr w3 := by first | exact hb3 | exact (HAl.out _ _).trans (hb3.mono (HAl.out _ _).size)
          exact HBw.out.trans (h1.mono HBw.out.size)
        clear hb3 c0 c1 c2 c3 c4 c5 c6 c7 HE HAl
        go_wp2_with fail
        go_roundw
        case rel => exact ⟨k + 1, by go_num, by omega, HB3, HG3⟩
        case measure => simp [intOf]; omega
    · obtain rfl : k = L.length := by omega
      have HR : Hid (isB L = decide (L.length ≤ 30)) := by show _ = _; unfold isB; rw [good_yes (fun j hj => HG.out j hj hj), Bool.and_true]
      clear HG HI
      have HR2 : Hid (isB L = true) := by show _ = _; rw [HR.out, decide_eq_true (by omega)]
      go_wp2_with fail
      go_ret
      exact ⟨ret_bool HR2.out.symm, HBw.out⟩

set_option maxRecDepth 20000 in
set_option maxHeartbeats 3200000 in
theorem l9Items_any (a : Option Addr) (L : List ItD) (w : World) (lo hi : Nat) (hl : wIL L ≤ 1048576) (ha : IV w a L lo hi) :
    Calls Tryz.prog 60 #[.slice a L.length L.length] w fun e w' => e = .returned (.bool (isB L)) ∧ Below w.heap.size w w' := by
  obtain ⟨hlen, hd⟩ := wIL_parts hl
  by_cases h0 : L = []
  · subst h0
    clear hd
    try clear hT hP hE
    go_enter Tryz.func60, Tryz.ntmps60
    go_wp2_with fail
    go_loop [7] (fun i => i = .int .i64 0) (fun _ => 0)
    case atStart => rfl
    case round =>
      obtain rfl := hrel
      go_wp2_with fail
      go_ret
      exact ⟨rfl, Below.refl _ _⟩
  have HA : Hid (IV w a L lo hi) := ha
  have HI : Hid (∀ k, (hk : k < L.length) → ∀ wx x y lo hi lo1 hi1, Below w.heap.size w wx → FV wx x L[k].A lo1 hi1 → FV wx y L[k].l lo hi → Calls Tryz.prog 52 #[itV L[k].K (.slice x L[k].A.length L[k].A.length) L[k].S L[k].R (.slice y L[k].l.length L[k].l.length) L[k].B L[k].q L[k].m] wx fun e w' => e = .returned (.bool L[k].good) ∧ Below wx.heap.size wx w') := by
    intro k hk wx x y lo hi lo1 hi1 hb hx hy
    obtain ⟨h1, h2, h3, h4, h5, h6, h7, h8⟩ := wI_parts (hd L[k] (List.getElem_mem hk))
    exact l9Item_any L[k].K x L[k].A.length L[k].A L[k].S L[k].R L[k].B y L[k].l.length L[k].l L[k].q L[k].m wx lo hi lo1 hi1 (by omega) (by omega) h7 (by omega) hy (by omega) h3 hx
  clear ha hd h0
  try clear hT hP hE hgt
  go_enter Tryz.func60, Tryz.ntmps60
  go_wp2_with fail
  go_loopw [7] (fun i wr => ∃ k : Nat, i = .int .i64 k ∧ k ≤ L.length ∧ Hid (Below w.heap.size w wr) ∧ Hid (∀ j, (hj : j < L.length) → j < k → L[j].good = true)) (fun i _ => L.length - (intOf i).toNat)
  case atStart => exact ⟨0, rfl, Nat.zero_le _, Below.refl _ _, fun j _ h => absurd h (by omega)⟩
  case round =>
    obtain ⟨k, rfl, hk, HBw, HG⟩ := hrel
    by_cases hlt : k < L.length
    · obtain ⟨g1, rfl, hg1, x1, y1, ⟨c0, c1, c2, c3, c4, c5, c6, c7⟩, hx1, hy1⟩ := (HA.out.below HBw.out).at hlt
      have HE : Hid (∀ wx, Below wr.heap.size wr wx → Calls Tryz.prog 52 #[itV L[k].K (.slice x1 L[k].A.length L[k].A.length) L[k].S L[k].R (.slice y1 L[k].l.length L[k].l.length) L[k].B L[k].q L[k].m] wx fun e w' => e = .returned (.bool L[k].good) ∧ Below wx.heap.size wx w') := fun wx h => HI.out k hlt wx _ _ _ _ _ _ (HBw.out.trans (h.mono HBw.out.size)) (hx1.below h) (hy1.below h)
      have hbad := @good_no L k hlt
      have HG2 : Hid (L[k].good = true → ∀ j, (hj : j < L.length) → j < k + 1 → L[j].good = true) := by
        intro h j hj hji
        by_cases e : j = k
        · subst e; exact h
        · exact HG.out j hj (by omega)
      have HBad := hid hbad
      clear hx1 hy1 HG hbad HI
      generalize hgd : L[k].good = gd at HE HBad HG2
      clear hgd
      generalize L[k] = dk at *
      have HAl : Hid (∀ cs t, Below wr.heap.size wr (wr.alloc (.cells cs t))) := fun cs t => (Below.refl _ _).alloc (Nat.le_refl _) _
      cases gd
      · have HR : Hid (isB L = false) := by show _ = _; unfold isB; rw [HBad.out (by first | trivial | rfl), Bool.and_false]
        clear HG2 HBad
        go_wp2_with fail
        refine Calls.mono (HE.out _ (by first | exact Below.refl _ _ | exact HAl.out _ _)) ?_
        rintro e w3 ⟨rfl, hb3⟩
        have HB3 : Hid (Below w.heap.size w w3) := by
          have h1 : Below wr.heap.size wr w3 := by first | exact hb3 | exact (HAl.out _ _).trans (hb3.mono (HAl.out _ _).size)
          exact HBw.out.trans (h1.mono HBw.out.size)
        clear hb3 c0 c1 c2 c3 c4 c5 c6 c7 HE HAl
        go_wp2_with fail
        go_ret
        exact ⟨ret_bool HR.out.symm, HB3.out⟩
      · have HG3 : Hid (∀ j, (hj : j < L.length) → j < k + 1 → L[j].good = true) := HG2.out (by first | trivial | rfl)
        clear HBad HG2
        go_wp2_with fail
        refine Calls.mono (HE.out _ (by first | exact Below.refl _ _ | exact HAl.out _ _)) ?_
        rintro e w3 ⟨rfl, hb3⟩
        have HB3 : Hid (Below w.heap.size w w3) := by
          have h1 : Below wr.heap.size wr w3 := by first | exact hb3 | exact (HAl.out _ _).trans (hb3.mono (HAl.out _ _).size)
          exact HBw.out.trans (h1.mono HBw.out.size)
        clear hb3 c0 c1 c2 c3 c4 c5 c6 c7 HE HAl
        go_wp2_with fail
        go_roundw
        case rel => exact ⟨k + 1, by go_num, by omega, HB3, HG3⟩
        case measure => simp [intOf]; omega
    · obtain rfl : k = L.length := by omega
      have HR : Hid (isB L = decide (L.length ≤ 30)) := by show _ = _; unfold isB; rw [good_yes (fun j hj => HG.out j hj hj), Bool.and_true]
      clear HG HI
      have HR2 : Hid (isB L = decide ((L.length : Int) ≤ 30)) := by show _ = _; rw [HR.out]; exact decide_eq_decide.2 (by omega)
      go_wp2_with fail
      go_ret
      exact ⟨ret_bool HR2.out.symm, HBw.out⟩

end Go.Proofs.YtfgcgnhffljiaaaGreatDoor.Itl

namespace Go.Proofs.YtfgcgnhffljiaaaGreatDoor.Itl
open Go.RowKit
open Go.Proofs.YtfgcgnhffljiaaaGreatDoor.Fbs
open Go.Proofs.YtfgcgnhffljiaaaGreatDoor.Fch (Tab)
open Go.Proofs.YtfgcgnhffljiaaaGreatDoor.Jnd
open Go.Proofs.YtfgcgnhffljiaaaGreatDoor.Vrp
open Go.Proofs.YtfgcgnhffljiaaaGreatDoor.Fdb
open Go.Proofs.YtfgcgnhffljiaaaGreatDoor.Fvs
open Go.Proofs.YtfgcgnhffljiaaaGreatDoor.Szv
open Go.Proofs.YtfgcgnhffljiaaaGreatDoor.Itm
open Go.Proofs.YtfgcgnhffljiaaaGreatDoor.Mta
open Go.Proofs.YtfgcgnhffljiaaaGreatDoor.Rsb (PowT)
open Go.Proofs.YtfgcgnhffljiaaaGreatDoor.Mtw (wI_parts)
open Go.Proofs.YtfgcgnhffljiaaaGreatDoor.Num (tab_below tab_lt)
open Go.Proofs.YtfgcgnhffljiaaaGreatDoor.Lnp (sent)

/-- Is an item for a key and these fields? -/
def forB (key : ByteArray) (F : List (ByteArray × ByteArray)) (d : ItD) : Bool := (d.K.toList == key.toList) && sameN d.A F (nsA (varyL d.l))
/-- The newest one among the first k. -/
def pickTo (key : ByteArray) (F : List (ByteArray × ByteArray)) (L : List ItD) : Nat → Option Nat
  | 0 => none
  | k + 1 => if forB key F L[k]! = true then (match pickTo key F L k with | none => some k | some p => if L[p]!.m < L[k]!.m then some k else some p) else pickTo key F L k
theorem pick_no {key : ByteArray} {F : List (ByteArray × ByteArray)} {L : List ItD} {k : Nat} {o : Option Nat} (h : k < L.length) (hp : pickTo key F L k = o) (hf : forB key F L[k] = false) : pickTo key F L (k + 1) = o := by
  unfold pickTo; rw [getElem!_pos L k h, hf, if_neg (by decide), hp]
theorem pick_first {key : ByteArray} {F : List (ByteArray × ByteArray)} {L : List ItD} {k : Nat} (h : k < L.length) (hp : pickTo key F L k = none) (hf : forB key F L[k] = true) : pickTo key F L (k + 1) = some k := by
  unfold pickTo; rw [getElem!_pos L k h, hf, if_pos rfl, hp]
theorem pick_next {key : ByteArray} {F : List (ByteArray × ByteArray)} {L : List ItD} {k p : Nat} (h : k < L.length) (hpl : p < L.length) (hp : pickTo key F L k = some p) (hf : forB key F L[k] = true) : pickTo key F L (k + 1) = some (if L[p].m < L[k].m then k else p) := by
  unfold pickTo; rw [getElem!_pos L k h, hf, if_pos rfl, hp]
  show (if L[p]!.m < L[k].m then some k else some p) = _
  rw [getElem!_pos L p hpl]; split <;> rfl
theorem pick_lt {key : ByteArray} {F : List (ByteArray × ByteArray)} {L : List ItD} : ∀ {k p : Nat}, pickTo key F L k = some p → p < k := by
  intro k
  induction k with
  | zero => intro p h; cases h
  | succ k ih =>
    intro p h
    unfold pickTo at h
    split at h
    · split at h
      · cases h; omega
      · next p' hp' =>
        have := ih hp'
        split at h
        · cases h; omega
        · cases h; omega
    · have := ih h; omega

set_option maxRecDepth 20000 in
set_option maxHeartbeats 1600000 in
theorem isFor_any (K : ByteArray) (x : Option Addr) (A : List (ByteArray × ByteArray)) (S : Int) (R B : ByteArray) (a : Option Addr) (l : List (ByteArray × ByteArray)) (q m : Int) (key : ByteArray) (y : Option Addr) (cy : Nat) (F : List (ByteArray × ByteArray)) (b : Addr) (w : World) (lo hi lo1 hi1 lo2 hi2 : Nat) (hg : itB K A S R l B q m = true)
    (hT : Tab w) (hP : PowT w) (hE : w.cell? ⟨1, 0, none⟩ = some (sent b)) (hR : R.size ≤ 2000000) (hz : SzF l) (ha : FV w a l lo hi) (hzA : SzF A) (hx : FV w x A lo1 hi1) (hgF : goodL F = true) (hzF : SzF F) (hcy : F.length ≤ cy) (hy : FV w y F lo2 hi2) :
    Calls Tryz.prog 63 #[itV K (.slice x A.length A.length) S R (.slice a l.length l.length) B q m, .string key, .slice y F.length cy] w fun e w' => e = .returned (.bool ((K.toList == key.toList) && sameN A F (nsA (varyL l)))) ∧ Below w.heap.size w w' := by
  obtain ⟨W0, hW0⟩ : ∃ W, W = w.alloc (.cells #[.string K, .slice x A.length A.length, .int .i64 S, .string R, .slice a l.length l.length, .string B, .int .i64 q, .int .i64 m] 51) := ⟨_, rfl⟩
  have hb0 : Below w.heap.size w W0 := by rw [hW0]; exact (Below.refl _ _).alloc (Nat.le_refl _) _
  have HX0 : Hid (EightAt W0 w.heap.size (.string K) (.slice x A.length A.length) (.int .i64 S) (.string R) (.slice a l.length l.length) (.string B) (.int .i64 q) (.int .i64 m)) := by show EightAt _ _ _ _ _ _ _ _ _ _; rw [hW0]; exact EightAt.made w _ _ _ _ _ _ _ _ _
  have HB0 : Hid (Below w.heap.size w W0) := hb0
  have hgt := hT.lt
  have HS : Hid (∀ wx, Below w.heap.size w wx → Calls Tryz.prog 58 #[itV K (.slice x A.length A.length) S R (.slice a l.length l.length) B q m, .slice y F.length cy] wx fun e w' => e = .returned (.bool (sameN A F (nsA (varyL l)))) ∧ Below wx.heap.size wx w') := by
    intro wx hb
    obtain ⟨_, hgA, _, _, _, hvo⟩ := it_parts hg
    exact sameChoice_any K x A.length A S R B a l.length l q m y cy F _ b wx lo hi lo1 hi1 lo2 hi2 (hT.below hb hgt) (tab_below hP hb (tab_lt hP)) ((hb.cell (p := ⟨1, 0, none⟩) (World.block_lt_of_cell? _ _ hE)).trans hE) hR hz (Nat.le_refl _) (ha.below hb) hvo hgA hzA (Nat.le_refl _) (hx.below hb) hgF hzF hcy (hy.below hb)
  generalize sameN A F (nsA (varyL l)) = sb at *
  obtain ⟨x_, x0, x1, x2, x3, x4, x5, x6, x7⟩ := HX0.out
  clear hx ha hy hb0 hT hP hE hgt hg
  cases hq : (K.toList == key.toList)
  · clear HS
    go_enter Tryz.func63, Tryz.ntmps63
    go_wp2_with fail
    rw [← hW0]
    clear hW0
    try go_wp2_with fail
    go_ret
    exact ⟨ret_bool (Bool.false_and _).symm, HB0.out⟩
  · go_enter Tryz.func63, Tryz.ntmps63
    go_wp2_with fail
    rw [← hW0]
    clear hW0
    try go_wp2_with fail
    refine Calls.mono (HS.out W0 HB0.out) ?_
    rintro e w1 ⟨rfl, hb1⟩
    have HB1 : Hid (Below w.heap.size w w1) := HB0.out.trans (hb1.mono HB0.out.size)
    clear x_ x0 x1 x2 x3 x4 x5 x6 x7 hb1 HX0 HB0 HS
    go_wp2_with fail
    go_ret
    exact ⟨ret_bool (Bool.true_and _).symm, HB1.out⟩

end Go.Proofs.YtfgcgnhffljiaaaGreatDoor.Itl

namespace Go.Proofs.YtfgcgnhffljiaaaGreatDoor.Itl
open Go.RowKit
open Go.Proofs.YtfgcgnhffljiaaaGreatDoor.Fbs
open Go.Proofs.YtfgcgnhffljiaaaGreatDoor.Fch (Tab)
open Go.Proofs.YtfgcgnhffljiaaaGreatDoor.Jnd
open Go.Proofs.YtfgcgnhffljiaaaGreatDoor.Vrp
open Go.Proofs.YtfgcgnhffljiaaaGreatDoor.Fdb
open Go.Proofs.YtfgcgnhffljiaaaGreatDoor.Fvs
open Go.Proofs.YtfgcgnhffljiaaaGreatDoor.Szv
open Go.Proofs.YtfgcgnhffljiaaaGreatDoor.Itm
open Go.Proofs.YtfgcgnhffljiaaaGreatDoor.Mta
open Go.Proofs.YtfgcgnhffljiaaaGreatDoor.Rsb (PowT)
open Go.Proofs.YtfgcgnhffljiaaaGreatDoor.Rqb (rqB implGoodR_any specGoodR_any)
open Go.Proofs.YtfgcgnhffljiaaaGreatDoor.Mtw (wI_parts)
open Go.Proofs.YtfgcgnhffljiaaaGreatDoor.Num (tab_below tab_lt)
open Go.Proofs.YtfgcgnhffljiaaaGreatDoor.Lnp (sent)

/-- What is picked. -/
def pkR (L : List ItD) (key M T : ByteArray) (F : List (ByteArray × ByteArray)) (Bd : ByteArray) : Option Nat := if isB L = true ∧ rqB M T F Bd = true then pickTo key F L L.length else none
def pkV (o : Option Nat) : Int := ((o.getD 0 : Nat) : Int)
theorem is_good {L : List ItD} (h : isB L = true) {k : Nat} (hk : k < L.length) : itB L[k].K L[k].A L[k].S L[k].R L[k].l L[k].B L[k].q L[k].m = true := by
  unfold isB at h
  rw [Bool.and_eq_true] at h
  exact List.all_eq_true.1 h.2 L[k] (List.getElem_mem hk)
theorem ret_pick {a : Int} {b : Bool} {o : Option Nat} (h1 : a = pkV o) (h2 : b = o.isSome) : Ending.returned (.tuple #[.int .i64 a, .bool b]) = Ending.returned (.tuple #[.int .i64 (pkV o), .bool o.isSome]) := by rw [h1, h2]

theorem drewN_below {B : Nat} {a w : World} (h : Below B a w) (n : Nat) : Below B a (w.drewN n) := h.trans ⟨rfl, rfl, rfl, Nat.le_refl _, fun _ _ => rfl⟩
/-- The loop's relation. -/
def AtP (W0 wr : World) (key : ByteArray) (F : List (ByteArray × ByteArray)) (L : List ItD) (k : Nat) (o : Option Nat) : Prop := Below W0.heap.size W0 wr ∧ pickTo key F L k = o

set_option maxRecDepth 20000 in
set_option maxHeartbeats 3200000 in
theorem implPick_any (a : Option Addr) (L : List ItD) (key M T Bd : ByteArray) (y : Option Addr) (F : List (ByteArray × ByteArray)) (b : Addr) (w : World) (lo hi lo2 hi2 : Nat) (hT : Tab w) (hP : PowT w) (hE : w.cell? ⟨1, 0, none⟩ = some (sent b)) (hl : wIL L ≤ 1048576) (ha : IV w a L lo hi) (hM : M.size ≤ 2000000) (hTs : T.size ≤ 2000000) (hzF : SzF F) (hy : FV w y F lo2 hi2) :
    Calls Tryz.prog 28 #[.slice a L.length L.length, .string key, .agg #[.string M, .string T, .slice y F.length F.length, .string Bd]] w fun e w' => e = .returned (.tuple #[.int .i64 (pkV (pkR L key M T F Bd)), .bool (pkR L key M T F Bd).isSome]) ∧ Below w.heap.size w w' := by
  obtain ⟨hlen, hd⟩ := wIL_parts hl
  obtain ⟨W0, hW0⟩ : ∃ W, W = w.alloc (.cells #[.string M, .string T, .slice y F.length F.length, .string Bd] 54) := ⟨_, rfl⟩
  have hb0 : Below w.heap.size w W0 := by rw [hW0]; exact (Below.refl _ _).alloc (Nat.le_refl _) _
  have HY0 : Hid (∀ wx, Below W0.heap.size W0 wx → wx.cell? ⟨w.heap.size, 0, none⟩ = some (.string M) ∧ wx.cell? ⟨w.heap.size, 1, none⟩ = some (.string T) ∧ wx.cell? ⟨w.heap.size, 2, none⟩ = some (.slice y F.length F.length) ∧ wx.cell? ⟨w.heap.size, 3, none⟩ = some (.string Bd)) := by
    intro wx hb
    have hlt : w.heap.size < W0.heap.size := by rw [hW0, World.size_alloc]; omega
    have e : ∀ i, wx.cell? ⟨w.heap.size, i, none⟩ = W0.cell? ⟨w.heap.size, i, none⟩ := fun i => hb.cell (p := ⟨w.heap.size, i, none⟩) hlt
    rw [e, e, e, e, hW0]
    refine ⟨?_, ?_, ?_, ?_⟩ <;> (rw [World.cell?_alloc_mark]; rfl)
  have HB0 : Hid (Below w.heap.size w W0) := hb0
  have HW : Hid (∀ wx, Below W0.heap.size W0 wx → Below w.heap.size w wx) := fun wx h => hb0.trans (h.mono hb0.size)
  have hgt := hT.lt
  have hE' : ∀ wx, Below w.heap.size w wx → wx.cell? ⟨1, 0, none⟩ = some (sent b) := fun wx h => (h.cell (p := ⟨1, 0, none⟩) (World.block_lt_of_cell? _ _ hE)).trans hE
  have HI : Hid (Calls Tryz.prog 62 #[.slice a L.length L.length] W0 fun e w' => e = .returned (.bool (isB L)) ∧ Below W0.heap.size W0 w') := areItems_any a L W0 lo hi b (hT.below hb0 hgt) (tab_below hP hb0 (tab_lt hP)) (hE' _ hb0) hl (ha.below hb0)
  have HRq : Hid (∀ wx, Below w.heap.size w wx → Calls Tryz.prog 57 #[.agg #[.string M, .string T, .slice y F.length F.length, .string Bd]] wx fun e w' => e = .returned (.bool (rqB M T F Bd)) ∧ Below wx.heap.size wx w') := fun wx hb => implGoodR_any M T Bd y F.length F b wx lo2 hi2 (hT.below hb hgt) (hE' _ hb) hM hTs hzF (Nat.le_refl _) (hy.below hb)
  have HF : Hid (isB L = true → rqB M T F Bd = true → ∀ k, (hk : k < L.length) → ∀ wx x1 y1 lo hi lo1 hi1, Below w.heap.size w wx → FV wx x1 L[k].A lo1 hi1 → FV wx y1 L[k].l lo hi → Calls Tryz.prog 63 #[itV L[k].K (.slice x1 L[k].A.length L[k].A.length) L[k].S L[k].R (.slice y1 L[k].l.length L[k].l.length) L[k].B L[k].q L[k].m, .string key, .slice y F.length F.length] wx fun e w' => e = .returned (.bool (forB key F L[k])) ∧ Below wx.heap.size wx w') := by
    intro h1 h2 k hk wx x1 y1 lo hi lo1 hi1 hb hx1 hy1
    obtain ⟨p1, p2, p3, p4, p5, p6, p7, p8⟩ := wI_parts (hd L[k] (List.getElem_mem hk))
    exact isFor_any L[k].K x1 L[k].A L[k].S L[k].R L[k].B y1 L[k].l L[k].q L[k].m key y F.length F b wx lo hi lo1 hi1 lo2 hi2 (is_good h1 hk) (hT.below hb hgt) (tab_below hP hb (tab_lt hP)) (hE' _ hb) (by omega) p7 hy1 p3 hx1 (rq_fields h2) hzF (Nat.le_refl _) (hy.below hb)
  have hpk : pkR L key M T F Bd = if isB L = true ∧ rqB M T F Bd = true then pickTo key F L L.length else none := rfl
  generalize pkR L key M T F Bd = pk at *
  have HN1 : Hid (isB L = false → pk = none) := fun h => by rw [hpk, if_neg (by rintro ⟨h1, _⟩; rw [h] at h1; cases h1)]
  have HN2 : Hid (rqB M T F Bd = false → pk = none) := fun h => by rw [hpk, if_neg (by rintro ⟨_, h1⟩; rw [h] at h1; cases h1)]
  have HYe : Hid (isB L = true → rqB M T F Bd = true → pk = pickTo key F L L.length) := fun h1 h2 => by rw [hpk, if_pos ⟨h1, h2⟩]
  have HA : Hid (IV w a L lo hi) := ha
  clear hE' hpk ha hy hb0 hT hP hE hgt hd
  generalize isB L = ib at *
  generalize rqB M T F Bd = rb at *
  obtain ⟨y0, y1, y2, y3⟩ := HY0.out W0 (Below.refl _ _)
  go_enter Tryz.func28, Tryz.ntmps28
  go_wp2_with fail
  rw [← hW0]
  clear hW0
  try go_wp2_with fail
  refine Calls.mono HI.out ?_
  rintro e w1 ⟨rfl, hb1⟩
  have HC1 : Hid (Below W0.heap.size W0 w1) := hb1
  clear y0 y1 y2 y3 hb1 HI
  obtain ⟨y0, y1, y2, y3⟩ := HY0.out w1 HC1.out
  cases ib
  · have HR : Hid (pk = none) := HN1.out (by first | trivial | rfl)
    clear HRq HF HN1 HN2 HYe
    go_wp2_with fail
    go_ret2
    exact ⟨ret_pick (by rw [HR.out]; rfl) (by rw [HR.out]; rfl), HW.out _ HC1.out⟩
  go_wp2_with fail
  refine Calls.mono (HRq.out w1 (HW.out _ HC1.out)) ?_
  rintro e w2 ⟨rfl, hb2⟩
  have HC2 : Hid (Below W0.heap.size W0 w2) := HC1.out.trans (hb2.mono HC1.out.size)
  clear y0 y1 y2 y3 hb2 HC1 HRq
  cases rb
  · have HR : Hid (pk = none) := HN2.out (by first | trivial | rfl)
    clear HF HN1 HN2 HYe
    go_wp2_with fail
    go_ret2
    exact ⟨ret_pick (by rw [HR.out]; rfl) (by rw [HR.out]; rfl), HW.out _ HC2.out⟩
  have HR : Hid (pk = pickTo key F L L.length) := HYe.out (by first | trivial | rfl) (by first | trivial | rfl)
  have HF' : Hid _ := HF.out (by first | trivial | rfl) (by first | trivial | rfl)
  clear HF HN1 HN2 HYe
  go_wp2_with fail
  go_loopw [8, 9, 22] (fun p t i wr => ∃ (k : Nat) (o : Option Nat) (v : Int), p = .int .i64 v ∧ t = .bool o.isSome ∧ i = .int .i64 k ∧ k ≤ L.length ∧ Hid (AtP W0 wr key F L k o) ∧ Hid (v = pkV o)) (fun _ _ i _ => L.length - (intOf i).toNat)
  case atStart => exact ⟨0, none, 0, rfl, rfl, rfl, Nat.zero_le _, ⟨HC2.out, rfl⟩, rfl⟩
  case round =>
    obtain ⟨k, o, v, rfl, rfl, rfl, hk, HP, HV⟩ := hrel
    have HC : Hid (Below W0.heap.size W0 wr) := HP.out.1
    clear HC2
    by_cases hlt : k < L.length
    · obtain ⟨g1, hae, hg1, x1, y1, ⟨c0, c1, c2, c3, c4, c5, c6, c7⟩, hx1, hy1⟩ := (HA.out.below (HW.out _ HC.out)).at hlt
      subst hae
      have HE : Hid (∀ wx, Below wr.heap.size wr wx → Calls Tryz.prog 63 #[itV L[k].K (.slice x1 L[k].A.length L[k].A.length) L[k].S L[k].R (.slice y1 L[k].l.length L[k].l.length) L[k].B L[k].q L[k].m, .string key, .slice y F.length F.length] wx fun e w' => e = .returned (.bool (forB key F L[k])) ∧ Below wx.heap.size wx w') := fun wx h => HF'.out k hlt wx _ _ _ _ _ _ ((HW.out _ HC.out).trans (h.mono (HW.out _ HC.out).size)) (hx1.below h) (hy1.below h)
      have HNo : Hid (forB key F L[k] = false → pickTo key F L (k + 1) = o) := fun h => pick_no hlt HP.out.2 h
      have HFi : Hid (forB key F L[k] = true → o = none → pickTo key F L (k + 1) = some k) := fun h e => pick_first hlt (HP.out.2.trans e) h
      have HNe : Hid (forB key F L[k] = true → ∀ p, o = some p → ∃ hp : p < L.length, pickTo key F L (k + 1) = some (if L[p].m < L[k].m then k else p)) := fun h p e => by
        have hp := pick_lt (HP.out.2.trans e)
        exact ⟨by omega, pick_next hlt (by omega) (HP.out.2.trans e) h⟩
      have HAl : Hid (∀ cs t, Below wr.heap.size wr (wr.alloc (.cells cs t))) := fun cs t => (Below.refl _ _).alloc (Nat.le_refl _) _
      have HX : Hid (EightAt (wr.alloc (.cells #[.string L[k].K, .slice x1 L[k].A.length L[k].A.length, .int .i64 L[k].S, .string L[k].R, .slice y1 L[k].l.length L[k].l.length, .string L[k].B, .int .i64 L[k].q, .int .i64 L[k].m] 51)) wr.heap.size (.string L[k].K) (.slice x1 L[k].A.length L[k].A.length) (.int .i64 L[k].S) (.string L[k].R) (.slice y1 L[k].l.length L[k].l.length) (.string L[k].B) (.int .i64 L[k].q) (.int .i64 L[k].m)) := EightAt.made wr _ _ _ _ _ _ _ _ _
      have hal := HAl.out #[.string L[k].K, .slice x1 L[k].A.length L[k].A.length, .int .i64 L[k].S, .string L[k].R, .slice y1 L[k].l.length L[k].l.length, .string L[k].B, .int .i64 L[k].q, .int .i64 L[k].m] 51
      obtain ⟨z0, z1, z2, z3⟩ := HY0.out _ (HC.out.trans (hal.mono HC.out.size))
      have HE1 : Hid _ := HE.out _ hal
      have Hal : Hid _ := hal
      clear hx1 hy1 hal z0 z1 z3 HE HAl
      generalize hfb : forB key F L[k] = fb at HE1 HNo HFi HNe
      clear hfb
      generalize hdk : L[k] = dk at *
      go_wp2_with fail
      refine Calls.mono HE1.out ?_
      rintro e w3 ⟨rfl, hb3⟩
      have HX3 := HX.out.below hb3
      have HB3 : Hid (Below wr.heap.size wr w3) := Hal.out.trans (hb3.mono Hal.out.size)
      clear hb3 c0 c1 c2 c3 c4 c5 c6 c7 z2 HE1 Hal HX
      have HC3 : Hid (Below W0.heap.size W0 w3) := HC.out.trans (HB3.out.mono HC.out.size)
      cases fb
      · have HP3 : Hid (AtP W0 w3 key F L (k + 1) o) := ⟨HC3.out, HNo.out (by first | trivial | rfl)⟩
        clear HNo HFi HNe HB3 HC3 HX3
        go_wp2_with fail
        go_roundw
        case rel => exact ⟨k + 1, o, v, rfl, rfl, by go_num, by omega, HP3, HV⟩
        case measure => simp [intOf]; omega
      · obtain ⟨x_, x0, x1', x2, x3, x4, x5, x6, x7⟩ := HX3
        cases o with
        | none =>
          have HP3 : Hid (AtP W0 w3 key F L (k + 1) (some k)) := ⟨HC3.out, HFi.out (by first | trivial | rfl) rfl⟩
          clear HNo HFi HNe HB3 HC3
          go_wp2_with fail
          go_quiet (fail)
          go_wp2_with fail
          go_roundw
          case rel => exact ⟨k + 1, some k, k, rfl, rfl, by go_num, by omega, ⟨drewN_below HP3.out.1 _, HP3.out.2⟩, rfl⟩
          case measure => simp [intOf]; omega
        | some p =>
          obtain ⟨hpl, hpk⟩ := HNe.out (by first | trivial | rfl) p rfl
          obtain ⟨g2, hae, hg2, u1, v1, ⟨d0, d1, d2, d3, d4, d5, d6, d7⟩, _, _⟩ := (HA.out.below (HW.out _ HC3.out)).at hpl
          cases hae
          clear HNo HFi HNe HB3
          have hp0 : (0 : Int) ≤ (p : Int) := by omega
          have hp1 : (p : Int) < (L.length : Int) := by omega
          obtain rfl : v = (p : Int) := HV.out
          generalize L[p] = dp at *
          by_cases hgt : dp.m < dk.m
          · have hd : decide (dp.m < dk.m) = true := decide_eq_true hgt
            rw [if_pos hgt] at hpk
            have HP3 : Hid (AtP W0 w3 key F L (k + 1) (some k)) := ⟨HC3.out, hpk⟩
            clear hpk HC3
            go_wp2_with fail
            go_quiet (fail)
            go_wp2_with fail
            go_roundw
            case rel => exact ⟨k + 1, some k, k, rfl, rfl, by go_num, by omega, ⟨drewN_below HP3.out.1 _, HP3.out.2⟩, rfl⟩
            case measure => simp [intOf]; omega
          · have hd : decide (dp.m < dk.m) = false := decide_eq_false hgt
            rw [if_neg hgt] at hpk
            have HP3 : Hid (AtP W0 w3 key F L (k + 1) (some p)) := ⟨HC3.out, hpk⟩
            clear hpk HC3
            go_wp2_with fail
            go_quiet (fail)
            go_wp2_with fail
            go_roundw
            case rel => exact ⟨k + 1, some p, p, rfl, rfl, by go_num, by omega, ⟨drewN_below HP3.out.1 _, HP3.out.2⟩, rfl⟩
            case measure => simp [intOf]; omega
    · obtain rfl : k = L.length := by omega
      have HR2 : Hid (pk = o) := by show _ = _; rw [HR.out]; exact HP.out.2
      go_wp2_with fail
      go_ret2
      exact ⟨ret_pick (by rw [HR2.out]; exact HV.out) (by rw [HR2.out]), HW.out _ HC.out⟩

end Go.Proofs.YtfgcgnhffljiaaaGreatDoor.Itl

namespace Go.Proofs.YtfgcgnhffljiaaaGreatDoor.Itl
open Go.RowKit
open Go.Proofs.YtfgcgnhffljiaaaGreatDoor.Fbs
open Go.Proofs.YtfgcgnhffljiaaaGreatDoor.Fch (Tab)
open Go.Proofs.YtfgcgnhffljiaaaGreatDoor.Jnd
open Go.Proofs.YtfgcgnhffljiaaaGreatDoor.Vrp
open Go.Proofs.YtfgcgnhffljiaaaGreatDoor.Fdb
open Go.Proofs.YtfgcgnhffljiaaaGreatDoor.Fvs
open Go.Proofs.YtfgcgnhffljiaaaGreatDoor.Szv
open Go.Proofs.YtfgcgnhffljiaaaGreatDoor.Itm
open Go.Proofs.YtfgcgnhffljiaaaGreatDoor.Mta
open Go.Proofs.YtfgcgnhffljiaaaGreatDoor.Rsb (PowT)
open Go.Proofs.YtfgcgnhffljiaaaGreatDoor.Rqb (rqB implGoodR_any specGoodR_any)
open Go.Proofs.YtfgcgnhffljiaaaGreatDoor.Mtw (wI_parts)
open Go.Proofs.YtfgcgnhffljiaaaGreatDoor.Num (tab_below tab_lt)
open Go.Proofs.YtfgcgnhffljiaaaGreatDoor.Lnp (sent)

/-- The worlds in which what lay in W lies still. -/
structure BwW (W : World) where
  w : World
  h : Below W.heap.size W w
instance (W : World) : Nonempty (BwW W) := ⟨⟨W, Below.refl _ _⟩⟩
/-- A region that draws its order, whose operations only read, and whose callees write in new memory alone: one walk. -/
theorem region_below {P : Program} {id : Nat} {Q : Exit → Act → World → Prop} {a : Act} {w : World} {l : List Oper} (W : World) (hW : Below W.heap.size W w) (hm : P.follows .mixedOrders = true) (hB : Region.lexB .any l.toArray = true)
    (h : wpQuiet P l.toArray (fun w' => ∃ x : BwW W, w' = x.w) (fun a' => ∀ w', (∃ x : BwW W, w' = x.w) → Q .normal a' w') l a) : (Code.region id l.toArray true).wp P Q a w :=
  wp_region_quiet (C := fun w' => ∃ x : BwW W, w' = x.w) hm hB ⟨⟨_, hW.drew⟩, rfl⟩ (by simpa using h)
theorem calls_below {P : Program} {f : FuncId} {args : Array Value} {W : World} {x : BwW W} {v : Value} (h : Calls P f args x.w fun e w' => e = .returned v ∧ Below x.w.heap.size x.w w') : Calls P f args x.w fun e w'' => e = .returned v ∧ ∃ x' : BwW W, w'' = x'.w :=
  h.mono fun _ w' ⟨he, hb⟩ => ⟨he, ⟨w', x.h.trans (hb.mono x.h.size)⟩, rfl⟩
theorem EightAt.bw {W : World} {b : Nat} {v0 v1 v2 v3 v4 v5 v6 v7 : Value} (h : EightAt W b v0 v1 v2 v3 v4 v5 v6 v7) : (∀ x : BwW W, x.w.cell? ⟨b, 0, none⟩ = some v0) ∧ (∀ x : BwW W, x.w.cell? ⟨b, 1, none⟩ = some v1) ∧ (∀ x : BwW W, x.w.cell? ⟨b, 2, none⟩ = some v2) ∧ (∀ x : BwW W, x.w.cell? ⟨b, 3, none⟩ = some v3) ∧ (∀ x : BwW W, x.w.cell? ⟨b, 4, none⟩ = some v4) ∧ (∀ x : BwW W, x.w.cell? ⟨b, 5, none⟩ = some v5) ∧ (∀ x : BwW W, x.w.cell? ⟨b, 6, none⟩ = some v6) ∧ (∀ x : BwW W, x.w.cell? ⟨b, 7, none⟩ = some v7) :=
  ⟨fun x => (h.below x.h).2.1, fun x => (h.below x.h).2.2.1, fun x => (h.below x.h).2.2.2.1, fun x => (h.below x.h).2.2.2.2.1, fun x => (h.below x.h).2.2.2.2.2.1, fun x => (h.below x.h).2.2.2.2.2.2.1, fun x => (h.below x.h).2.2.2.2.2.2.2.1, fun x => (h.below x.h).2.2.2.2.2.2.2.2⟩

def bestV (o : Option Nat) : Int := match o with | none => -1 | some p => (p : Int)

set_option maxRecDepth 20000 in
set_option maxHeartbeats 6400000 in
theorem l9Pick_any (a : Option Addr) (L : List ItD) (key M T Bd : ByteArray) (y : Option Addr) (F : List (ByteArray × ByteArray)) (w : World) (lo hi lo2 hi2 : Nat) (hg : isB L = true) (hl : wIL L ≤ 1048576) (ha : IV w a L lo hi) (hlF : F.length ≤ 2000000) (hzF : SzF F) (hy : FV w y F lo2 hi2) :
    Calls Tryz.prog 61 #[.slice a L.length L.length, .string key, .agg #[.string M, .string T, .slice y F.length F.length, .string Bd]] w fun e w' => e = .returned (.tuple #[.int .i64 (pkV (pickTo key F L L.length)), .bool (pickTo key F L L.length).isSome]) ∧ Below w.heap.size w w' := by
  obtain ⟨hlen, hd⟩ := wIL_parts hl
  obtain ⟨W0, hW0⟩ : ∃ W, W = w.alloc (.cells #[.string M, .string T, .slice y F.length F.length, .string Bd] 54) := ⟨_, rfl⟩
  have hb0 : Below w.heap.size w W0 := by rw [hW0]; exact (Below.refl _ _).alloc (Nat.le_refl _) _
  have HY0 : Hid (∀ wx, Below W0.heap.size W0 wx → wx.cell? ⟨w.heap.size, 2, none⟩ = some (.slice y F.length F.length)) := by
    intro wx hb
    have hlt : w.heap.size < W0.heap.size := by rw [hW0, World.size_alloc]; omega
    have e : ∀ i, wx.cell? ⟨w.heap.size, i, none⟩ = W0.cell? ⟨w.heap.size, i, none⟩ := fun i => hb.cell (p := ⟨w.heap.size, i, none⟩) hlt
    rw [e, hW0, World.cell?_alloc_mark]; rfl
  have HB0 : Hid (Below w.heap.size w W0) := hb0
  have HW : Hid (∀ wx, Below W0.heap.size W0 wx → Below w.heap.size w wx) := fun wx h => hb0.trans (h.mono hb0.size)
  have HF : Hid (∀ k, (hk : k < L.length) → ∀ wx x1 y1 lo hi lo1 hi1, Below w.heap.size w wx → FV wx x1 L[k].A lo1 hi1 → FV wx y1 L[k].l lo hi → Calls Tryz.prog 54 #[itV L[k].K (.slice x1 L[k].A.length L[k].A.length) L[k].S L[k].R (.slice y1 L[k].l.length L[k].l.length) L[k].B L[k].q L[k].m, .slice y F.length F.length] wx fun e w' => e = .returned (.bool (sameN L[k].A F (nsA (varyL L[k].l)))) ∧ Below wx.heap.size wx w') := by
    intro k hk wx x1 y1 lo hi lo1 hi1 hb hx1 hy1
    obtain ⟨p1, p2, p3, p4, p5, p6, p7, p8⟩ := wI_parts (hd L[k] (List.getElem_mem hk))
    exact l9Matches_any L[k].K x1 L[k].A.length L[k].A L[k].S L[k].R L[k].B y1 L[k].l.length L[k].l L[k].q L[k].m y F.length F wx lo hi lo1 hi1 lo2 hi2 (is_good hg hk) (by omega) p7 hy1 (by omega) p3 hx1 hlF hzF (hy.below hb)
  have HA : Hid (IV w a L lo hi) := ha
  have HC0 : Hid (Below W0.heap.size W0 W0) := Below.refl _ _
  clear ha hy hb0 hd hg
  go_enter Tryz.func61, Tryz.ntmps61
  go_wp2_with fail
  rw [← hW0]
  clear hW0
  try go_wp2_with fail
  go_loopw [8, 13] (fun p i wr => ∃ (k : Nat) (o : Option Nat) (v : Int), p = .int .i64 v ∧ i = .int .i64 k ∧ k ≤ L.length ∧ Hid (AtP W0 wr key F L k o) ∧ Hid (v = bestV o)) (fun _ i _ => L.length - (intOf i).toNat)
  case atStart => exact ⟨0, none, -1, rfl, rfl, Nat.zero_le _, ⟨HC0.out, rfl⟩, rfl⟩
  case round =>
    obtain ⟨k, o, v, rfl, rfl, hk, HP, HV⟩ := hrel
    have HC : Hid (Below W0.heap.size W0 wr) := HP.out.1
    clear HC0
    by_cases hlt : k < L.length
    · obtain ⟨g1, hae, hg1, x1, y1, ⟨c0, c1, c2, c3, c4, c5, c6, c7⟩, hx1, hy1⟩ := (HA.out.below (HW.out _ HC.out)).at hlt
      subst hae
      have HE : Hid (∀ wx, Below wr.heap.size wr wx → Calls Tryz.prog 54 #[itV L[k].K (.slice x1 L[k].A.length L[k].A.length) L[k].S L[k].R (.slice y1 L[k].l.length L[k].l.length) L[k].B L[k].q L[k].m, .slice y F.length F.length] wx fun e w' => e = .returned (.bool (sameN L[k].A F (nsA (varyL L[k].l)))) ∧ Below wx.heap.size wx w') := fun wx h => HF.out k hlt wx _ _ _ _ _ _ ((HW.out _ HC.out).trans (h.mono (HW.out _ HC.out).size)) (hx1.below h) (hy1.below h)
      have hfo : forB key F L[k] = ((L[k].K.toList == key.toList) && sameN L[k].A F (nsA (varyL L[k].l))) := rfl
      have HNo : Hid (((L[k].K.toList == key.toList) && sameN L[k].A F (nsA (varyL L[k].l))) = false → pickTo key F L (k + 1) = o) := fun h => pick_no hlt HP.out.2 h
      have HFi : Hid (((L[k].K.toList == key.toList) && sameN L[k].A F (nsA (varyL L[k].l))) = true → o = none → pickTo key F L (k + 1) = some k) := fun h e => pick_first hlt (HP.out.2.trans e) h
      have HNe : Hid (((L[k].K.toList == key.toList) && sameN L[k].A F (nsA (varyL L[k].l))) = true → ∀ p, o = some p → ∃ hp : p < L.length, pickTo key F L (k + 1) = some (if L[p].m < L[k].m then k else p)) := fun h p e => by
        have hp := pick_lt (HP.out.2.trans e)
        exact ⟨by omega, pick_next hlt (by omega) (HP.out.2.trans e) h⟩
      have HOw : Hid (∀ p, (hp : p < L.length) → ∀ wx, Below wr.heap.size wr wx → ∃ u v, Own8 wx g1 (p * 8) (.string L[p].K) (.slice u L[p].A.length L[p].A.length) (.int .i64 L[p].S) (.string L[p].R) (.slice v L[p].l.length L[p].l.length) (.string L[p].B) (.int .i64 L[p].q) (.int .i64 L[p].m)) := by
        intro p hp wx h
        obtain ⟨g2, hae, hg2, u1, v1, d, _, _⟩ := (HA.out.below ((HW.out _ HC.out).trans (h.mono (HW.out _ HC.out).size))).at hp
        cases hae
        exact ⟨u1, v1, d⟩
      have HAl : Hid (∀ cs t, Below wr.heap.size wr (wr.alloc (.cells cs t))) := fun cs t => (Below.refl _ _).alloc (Nat.le_refl _) _
      have HX : Hid (EightAt (wr.alloc (.cells #[.string L[k].K, .slice x1 L[k].A.length L[k].A.length, .int .i64 L[k].S, .string L[k].R, .slice y1 L[k].l.length L[k].l.length, .string L[k].B, .int .i64 L[k].q, .int .i64 L[k].m] 51)) wr.heap.size (.string L[k].K) (.slice x1 L[k].A.length L[k].A.length) (.int .i64 L[k].S) (.string L[k].R) (.slice y1 L[k].l.length L[k].l.length) (.string L[k].B) (.int .i64 L[k].q) (.int .i64 L[k].m)) := EightAt.made wr _ _ _ _ _ _ _ _ _
      have hal := HAl.out #[.string L[k].K, .slice x1 L[k].A.length L[k].A.length, .int .i64 L[k].S, .string L[k].R, .slice y1 L[k].l.length L[k].l.length, .string L[k].B, .int .i64 L[k].q, .int .i64 L[k].m] 51
      have z2 := HY0.out _ (HC.out.trans (hal.mono HC.out.size))
      have Hal : Hid _ := hal
      clear hx1 hy1 hal HAl hfo
      generalize hdk : L[k] = dk at *
      clear hdk
      generalize sameN dk.A F (nsA (varyL dk.l)) = sb at *
      cases hq : (dk.K.toList == key.toList)
      · rw [hq] at HNo
        have HP3 : Hid (AtP W0 (wr.alloc (.cells #[.string dk.K, .slice x1 dk.A.length dk.A.length, .int .i64 dk.S, .string dk.R, .slice y1 dk.l.length dk.l.length, .string dk.B, .int .i64 dk.q, .int .i64 dk.m] 51)) key F L (k + 1) o) := ⟨HC.out.trans (Hal.out.mono HC.out.size), HNo.out (Bool.false_and _)⟩
        clear HNo HFi HNe HE HX Hal HOw
        go_wp2_with fail
        go_quiet (fail)
        go_wp2_with fail
        go_roundw
        case rel => exact ⟨k + 1, o, v, rfl, by go_num, by omega, ⟨drewN_below HP3.out.1 _, HP3.out.2⟩, HV⟩
        case measure => simp [intOf]; omega
      rw [hq] at HNo HFi HNe
      obtain ⟨W, hW⟩ : ∃ W, W = (wr.alloc (.cells #[.string dk.K, .slice x1 dk.A.length dk.A.length, .int .i64 dk.S, .string dk.R, .slice y1 dk.l.length dk.l.length, .string dk.B, .int .i64 dk.q, .int .i64 dk.m] 51)) := ⟨_, rfl⟩
      rw [← hW] at HX Hal
      obtain ⟨e0, e1, e2, e3, e4, e5, e6, e7⟩ := EightAt.bw HX.out
      have ez : ∀ x : BwW W, x.w.cell? ⟨w.heap.size, 2, none⟩ = some (.slice y F.length F.length) := fun x => HY0.out _ (HC.out.trans ((Hal.out.trans (x.h.mono Hal.out.size)).mono HC.out.size))
      have HWx : Hid (∀ x : BwW W, Below wr.heap.size wr x.w) := fun x => Hal.out.trans (x.h.mono Hal.out.size)
      have HE1 : Hid (∀ x : BwW W, Calls Tryz.prog 54 #[itV dk.K (.slice x1 dk.A.length dk.A.length) dk.S dk.R (.slice y1 dk.l.length dk.l.length) dk.B dk.q dk.m, .slice y F.length F.length] x.w fun e w' => e = .returned (.bool sb) ∧ Below x.w.heap.size x.w w') := fun x => HE.out _ (HWx.out x)
      clear HE HX Hal
      cases sb
      · have HPk : Hid (pickTo key F L (k + 1) = o) := HNo.out (by first | trivial | rfl)
        clear HNo HFi HNe HOw
        go_wp2_with fail
        rw [← hW]
        clear hW
        refine region_below W (Below.refl _ _) (by kernel_rfl) (by kernel_rfl) ?_
        repeat (go_big_quiet_step ((go_at_call 54; exact calls_below (HE1.out _))))
        refine wpQuiet_nil ?_
        intro _ hw'
        obtain ⟨x, rfl⟩ := hw'
        have HP3 : Hid (AtP W0 x.w key F L (k + 1) o) := ⟨HC.out.trans ((HWx.out x).mono HC.out.size), HPk.out⟩
        clear e0 e1 e2 e3 e4 e5 e6 e7 ez HWx HE1
        go_wp2_with fail
        go_roundw
        case rel => exact ⟨k + 1, o, v, rfl, by go_num, by omega, HP3, HV⟩
        case measure => simp [intOf]; omega
      · cases o with
        | none =>
          have HPk : Hid (pickTo key F L (k + 1) = some k) := HFi.out (by first | trivial | rfl) rfl
          obtain rfl : v = -1 := HV.out
          clear HNo HFi HNe HOw
          go_wp2_with fail
          rw [← hW]
          clear hW
          refine region_below W (Below.refl _ _) (by kernel_rfl) (by kernel_rfl) ?_
          repeat (go_big_quiet_step ((go_at_call 54; exact calls_below (HE1.out _))))
          refine wpQuiet_nil ?_
          intro _ hw'
          obtain ⟨x, rfl⟩ := hw'
          have HP3 : Hid (AtP W0 x.w key F L (k + 1) (some k)) := ⟨HC.out.trans ((HWx.out x).mono HC.out.size), HPk.out⟩
          clear e0 e1 e2 e3 e4 e5 e6 e7 ez HWx HE1
          go_wp2_with fail
          go_roundw
          case rel => exact ⟨k + 1, some k, k, rfl, by go_num, by omega, HP3, rfl⟩
          case measure => simp [intOf]; omega
        | some p =>
          obtain ⟨hpl, hpk⟩ := HNe.out (by first | trivial | rfl) p rfl
          obtain rfl : v = (p : Int) := HV.out
          have hp0 : (0 : Int) ≤ (p : Int) := by omega
          have hp1 : (p : Int) < (L.length : Int) := by omega
          have hd0 : decide ((p : Int) < 0) = false := decide_eq_false (by omega)
          have d7 : ∀ x : BwW W, x.w.cell? ⟨g1, p * 8 + 7, none⟩ = some (.int .i64 L[p].m) := fun x => by
            obtain ⟨u, v, d⟩ := HOw.out p hpl _ (HWx.out x)
            exact d.2.2.2.2.2.2.2
          clear HNo HFi HNe HOw
          generalize L[p] = dp at *
          by_cases hgt : dp.m < dk.m
          · have hd : decide (dp.m < dk.m) = true := decide_eq_true hgt
            rw [if_pos hgt] at hpk
            have HPk : Hid (pickTo key F L (k + 1) = some k) := hpk
            clear hpk
            go_wp2_with fail
            rw [← hW]
            clear hW
            refine region_below W (Below.refl _ _) (by kernel_rfl) (by kernel_rfl) ?_
            repeat (go_big_quiet_step ((go_at_call 54; exact calls_below (HE1.out _))))
            refine wpQuiet_nil ?_
            intro _ hw'
            obtain ⟨x, rfl⟩ := hw'
            have HP3 : Hid (AtP W0 x.w key F L (k + 1) (some k)) := ⟨HC.out.trans ((HWx.out x).mono HC.out.size), HPk.out⟩
            clear e0 e1 e2 e3 e4 e5 e6 e7 ez HWx HE1 d7
            go_wp2_with fail
            go_roundw
            case rel => exact ⟨k + 1, some k, k, rfl, by go_num, by omega, HP3, rfl⟩
            case measure => simp [intOf]; omega
          · have hd : decide (dp.m < dk.m) = false := decide_eq_false hgt
            rw [if_neg hgt] at hpk
            have HPk : Hid (pickTo key F L (k + 1) = some p) := hpk
            clear hpk
            go_wp2_with fail
            rw [← hW]
            clear hW
            refine region_below W (Below.refl _ _) (by kernel_rfl) (by kernel_rfl) ?_
            repeat (go_big_quiet_step ((go_at_call 54; exact calls_below (HE1.out _))))
            refine wpQuiet_nil ?_
            intro _ hw'
            obtain ⟨x, rfl⟩ := hw'
            have HP3 : Hid (AtP W0 x.w key F L (k + 1) (some p)) := ⟨HC.out.trans ((HWx.out x).mono HC.out.size), HPk.out⟩
            clear e0 e1 e2 e3 e4 e5 e6 e7 ez HWx HE1 d7
            go_wp2_with fail
            go_roundw
            case rel => exact ⟨k + 1, some p, p, rfl, by go_num, by omega, HP3, rfl⟩
            case measure => simp [intOf]; omega
    · obtain rfl : k = L.length := by omega
      have HR : Hid (pickTo key F L L.length = o) := HP.out.2
      cases o with
      | none =>
        obtain rfl : v = -1 := HV.out
        go_wp2_with fail
        go_ret2
        exact ⟨ret_pick (by rw [HR.out]; rfl) (by rw [HR.out]; rfl), HW.out _ HC.out⟩
      | some p =>
        obtain rfl : v = (p : Int) := HV.out
        have hd0 : decide ((p : Int) < 0) = false := decide_eq_false (by omega)
        go_wp2_with fail
        go_ret2
        exact ⟨ret_pick (by rw [HR.out]; rfl) (by rw [HR.out]; rfl), HW.out _ HC.out⟩

set_option maxRecDepth 20000 in
set_option maxHeartbeats 1600000 in
theorem specPick_any (a : Option Addr) (L : List ItD) (key M T Bd : ByteArray) (y : Option Addr) (F : List (ByteArray × ByteArray)) (w : World) (lo hi lo2 hi2 : Nat) (hl : wIL L ≤ 1048576) (ha : IV w a L lo hi) (hM : M.size ≤ 2000000) (hTs : T.size ≤ 2000000) (hlF : F.length ≤ 2000000) (hzF : SzF F) (hy : FV w y F lo2 hi2) :
    Calls Tryz.prog 26 #[.slice a L.length L.length, .string key, .agg #[.string M, .string T, .slice y F.length F.length, .string Bd]] w fun e w' => e = .returned (.tuple #[.int .i64 (pkV (pkR L key M T F Bd)), .bool (pkR L key M T F Bd).isSome]) ∧ Below w.heap.size w w' := by
  obtain ⟨W0, hW0⟩ : ∃ W, W = w.alloc (.cells #[.string M, .string T, .slice y F.length F.length, .string Bd] 54) := ⟨_, rfl⟩
  have hb0 : Below w.heap.size w W0 := by rw [hW0]; exact (Below.refl _ _).alloc (Nat.le_refl _) _
  have HY0 : Hid (∀ wx, Below W0.heap.size W0 wx → wx.cell? ⟨w.heap.size, 0, none⟩ = some (.string M) ∧ wx.cell? ⟨w.heap.size, 1, none⟩ = some (.string T) ∧ wx.cell? ⟨w.heap.size, 2, none⟩ = some (.slice y F.length F.length) ∧ wx.cell? ⟨w.heap.size, 3, none⟩ = some (.string Bd)) := by
    intro wx hb
    have hlt : w.heap.size < W0.heap.size := by rw [hW0, World.size_alloc]; omega
    have e : ∀ i, wx.cell? ⟨w.heap.size, i, none⟩ = W0.cell? ⟨w.heap.size, i, none⟩ := fun i => hb.cell (p := ⟨w.heap.size, i, none⟩) hlt
    rw [e, e, e, e, hW0]
    refine ⟨?_, ?_, ?_, ?_⟩ <;> (rw [World.cell?_alloc_mark]; rfl)
  have HW : Hid (∀ wx, Below W0.heap.size W0 wx → Below w.heap.size w wx) := fun wx h => hb0.trans (h.mono hb0.size)
  have HI : Hid (Calls Tryz.prog 60 #[.slice a L.length L.length] W0 fun e w' => e = .returned (.bool (isB L)) ∧ Below W0.heap.size W0 w') := l9Items_any a L W0 lo hi hl (ha.below hb0)
  have HRq : Hid (∀ wx, Below w.heap.size w wx → Calls Tryz.prog 53 #[.agg #[.string M, .string T, .slice y F.length F.length, .string Bd]] wx fun e w' => e = .returned (.bool (rqB M T F Bd)) ∧ Below wx.heap.size wx w') := fun wx hb => specGoodR_any M T Bd y F.length F wx lo2 hi2 hM hTs hlF hzF (hy.below hb)
  have HPi : Hid (isB L = true → ∀ wx, Below w.heap.size w wx → Calls Tryz.prog 61 #[.slice a L.length L.length, .string key, .agg #[.string M, .string T, .slice y F.length F.length, .string Bd]] wx fun e w' => e = .returned (.tuple #[.int .i64 (pkV (pickTo key F L L.length)), .bool (pickTo key F L L.length).isSome]) ∧ Below wx.heap.size wx w') := fun h wx hb => l9Pick_any a L key M T Bd y F wx lo hi lo2 hi2 h hl (ha.below hb) hlF hzF (hy.below hb)
  have hpk : pkR L key M T F Bd = if isB L = true ∧ rqB M T F Bd = true then pickTo key F L L.length else none := rfl
  generalize pkR L key M T F Bd = pk at *
  have HN1 : Hid (isB L = false → pk = none) := fun h => by rw [hpk, if_neg (by rintro ⟨h1, _⟩; rw [h] at h1; cases h1)]
  have HN2 : Hid (rqB M T F Bd = false → pk = none) := fun h => by rw [hpk, if_neg (by rintro ⟨_, h1⟩; rw [h] at h1; cases h1)]
  have HYe : Hid (isB L = true → rqB M T F Bd = true → pk = pickTo key F L L.length) := fun h1 h2 => by rw [hpk, if_pos ⟨h1, h2⟩]
  clear hpk ha hy hb0
  generalize isB L = ib at *
  generalize rqB M T F Bd = rb at *
  generalize pickTo key F L L.length = po at *
  obtain ⟨y0, y1, y2, y3⟩ := HY0.out W0 (Below.refl _ _)
  go_enter Tryz.func26, Tryz.ntmps26
  go_wp2_with fail
  rw [← hW0]
  clear hW0
  try go_wp2_with fail
  refine Calls.mono HI.out ?_
  rintro e w1 ⟨rfl, hb1⟩
  have HC1 : Hid (Below W0.heap.size W0 w1) := hb1
  clear y0 y1 y2 y3 hb1 HI
  obtain ⟨y0, y1, y2, y3⟩ := HY0.out w1 HC1.out
  cases ib
  · have HR : Hid (pk = none) := HN1.out (by first | trivial | rfl)
    clear HRq HPi HN1 HN2 HYe
    go_wp2_with fail
    go_ret2
    exact ⟨ret_pick (by rw [HR.out]; rfl) (by rw [HR.out]; rfl), HW.out _ HC1.out⟩
  go_wp2_with fail
  refine Calls.mono (HRq.out w1 (HW.out _ HC1.out)) ?_
  rintro e w2 ⟨rfl, hb2⟩
  have HC2 : Hid (Below W0.heap.size W0 w2) := HC1.out.trans (hb2.mono HC1.out.size)
  clear y0 y1 y2 y3 hb2 HC1 HRq
  cases rb
  · have HR : Hid (pk = none) := HN2.out (by first | trivial | rfl)
    clear HPi HN1 HN2 HYe
    go_wp2_with fail
    go_ret2
    exact ⟨ret_pick (by rw [HR.out]; rfl) (by rw [HR.out]; rfl), HW.out _ HC2.out⟩
  have HR : Hid (pk = po) := HYe.out (by first | trivial | rfl) (by first | trivial | rfl)
  have HP' : Hid _ := HPi.out (by first | trivial | rfl) w2 (HW.out _ HC2.out)
  obtain ⟨y0, y1, y2, y3⟩ := HY0.out w2 HC2.out
  clear HPi HN1 HN2 HYe
  go_wp2_with fail
  refine Calls.mono HP'.out ?_
  rintro e w3 ⟨rfl, hb3⟩
  have HB3 : Hid (Below w.heap.size w w3) := (HW.out _ HC2.out).trans (hb3.mono (HW.out _ HC2.out).size)
  clear y0 y1 y2 y3 hb3 HP' HC2
  go_wp2_with fail
  go_ret2
  exact ⟨ret_pick (by rw [HR.out]) (by rw [HR.out]), HB3.out⟩

end Go.Proofs.YtfgcgnhffljiaaaGreatDoor.Itl

namespace Go.Proofs.YtfgcgnhffljiaaaGreatDoor.Ite
open Go.RowKit
open Go.Proofs.YtfgcgnhffljiaaaGreatDoor
open Go.Proofs.YtfgcgnhffljiaaaGreatDoor.Fbs
open Go.Proofs.YtfgcgnhffljiaaaGreatDoor.Fch
open Go.Proofs.YtfgcgnhffljiaaaGreatDoor.Fdb
open Go.Proofs.YtfgcgnhffljiaaaGreatDoor.Fds (AF)
open Go.Proofs.YtfgcgnhffljiaaaGreatDoor.Fvs
open Go.Proofs.YtfgcgnhffljiaaaGreatDoor.Jnd
open Go.Proofs.YtfgcgnhffljiaaaGreatDoor.Rsb (PowT)
open Go.Proofs.YtfgcgnhffljiaaaGreatDoor.Rqb (toRequest_any eqRequest_any)
open Go.Proofs.YtfgcgnhffljiaaaGreatDoor.Szv
open Go.Proofs.YtfgcgnhffljiaaaGreatDoor.Itm
open Go.Proofs.YtfgcgnhffljiaaaGreatDoor.Itl
open Go.Proofs.YtfgcgnhffljiaaaGreatDoor.Mtw (BoxQ keepC keepCL bel_of hid)
open Go.Proofs.YtfgcgnhffljiaaaGreatDoor.Num (tab_below tab_lt)
open Go.Proofs.YtfgcgnhffljiaaaGreatDoor.Lnp (sent)

theorem keepD {W w w' : World} {g : Nat} {v0 v1 v2 v3 : Value} (hg : g < W.heap.size) (H : w.cell? ⟨g, 0, none⟩ = some v0 ∧ w.cell? ⟨g, 1, none⟩ = some v1 ∧ w.cell? ⟨g, 2, none⟩ = some v2 ∧ w.cell? ⟨g, 3, none⟩ = some v3 ∧ Below W.heap.size W w) (hb : Below w.heap.size w w') : w'.cell? ⟨g, 0, none⟩ = some v0 ∧ w'.cell? ⟨g, 1, none⟩ = some v1 ∧ w'.cell? ⟨g, 2, none⟩ = some v2 ∧ w'.cell? ⟨g, 3, none⟩ = some v3 ∧ Below W.heap.size W w' := by
  obtain ⟨c0, c1, c2, c3, hb0⟩ := H
  have eg : ∀ i, w'.cell? ⟨g, i, none⟩ = w.cell? ⟨g, i, none⟩ := fun i => hb.cell (p := ⟨g, i, none⟩) (Nat.lt_of_lt_of_le hg hb0.size)
  exact ⟨(eg 0).trans c0, (eg 1).trans c1, (eg 2).trans c2, (eg 3).trans c3, hb0.trans (hb.mono hb0.size)⟩
theorem keepDL {W w : World} {g : Nat} {v0 v1 v2 v3 : Value} (H : w.cell? ⟨g, 0, none⟩ = some v0 ∧ w.cell? ⟨g, 1, none⟩ = some v1 ∧ w.cell? ⟨g, 2, none⟩ = some v2 ∧ w.cell? ⟨g, 3, none⟩ = some v3 ∧ Below W.heap.size W w) : Below W.heap.size W w := H.2.2.2.2

set_option maxRecDepth 20000 in
set_option maxHeartbeats 6400000 in
theorem walk (a : Option Addr) (ca : Nat) (L : List ItD) (key M T Bd : ByteArray) (y : Option Addr) (cy : Nat) (F : List (ByteArray × ByteArray)) (b : Addr) (w : World)
    (hT : Tab w) (hP : PowT w) (hE : w.cell? ⟨1, 0, none⟩ = some (sent b))
    (ha : AI w a L) (hl : L.length ≤ maxLen) (hf : ∀ t ∈ L, t.fits) (hkm : key.size ≤ maxLen)
    (hM : M.size ≤ maxLen) (hTs : T.size ≤ maxLen) (hBd : Bd.size ≤ maxLen) (hF : AF w y F) (hFl : F.length ≤ maxLen) (hFx : ∀ c ∈ F, c.1.size ≤ maxLen ∧ c.2.size ≤ maxLen) :
    Calls Tryz.prog 5 #[.slice a L.length ca, .string key, .agg #[.string M, .string T, .slice y F.length cy, .string Bd]] w fun e w' => e = .returned (.bool true) ∧ Below w.heap.size w w' := by
  have hgt := hT.lt
  have hE' : ∀ wx, Below w.heap.size w wx → wx.cell? ⟨1, 0, none⟩ = some (sent b) := fun wx h => (h.cell (p := ⟨1, 0, none⟩) (World.block_lt_of_cell? _ _ hE)).trans hE
  obtain ⟨W0, hW0⟩ : ∃ W, W = w.alloc (.cells #[.string M, .string T, .slice y F.length cy, .string Bd] 43) := ⟨_, rfl⟩
  have hb0 : Below w.heap.size w W0 := by rw [hW0]; exact (Below.refl _ _).alloc (Nat.le_refl _) _
  have hY0 : BoxQ W0 w.heap.size M T (.slice y F.length cy) Bd := by rw [hW0]; exact BoxQ.made w M T _ Bd _
  have HC : Hid (∀ wx, Below W0.heap.size W0 wx → BoxQ wx w.heap.size M T (.slice y F.length cy) Bd) := fun wx h => hY0.below h
  have HB0 : Hid (Below w.heap.size w W0) := hb0
  have HZI : Hid (∀ wx, Below w.heap.size w wx → Calls Tryz.prog 25 #[.slice a L.length ca, .int .i64 1048576] wx fun e w' => e = .returned (.int .i64 (szV 1048576 (wIL L))) ∧ Below wx.heap.size wx w') := fun wx h => szItemS_v a ca L 1048576 wx (Nat.le_refl _) hl hf (ha.below h)
  have HZR : Hid (∀ n : Nat, n ≤ 1048576 → ∀ wx, Below w.heap.size w wx → Calls Tryz.prog 18 #[.agg #[.string M, .string T, .slice y F.length cy, .string Bd], .int .i64 n] wx fun e w' => e = .returned (.int .i64 (szV n (wR M T F Bd))) ∧ Below wx.heap.size wx w') := fun n hn wx h => szRequest_v M T Bd y cy F n wx hn hM hTs hBd hFl hFx (hF.below h)
  have HTI : Hid (wIL L ≤ 1048576 → ∀ wx, Below w.heap.size w wx → Calls Tryz.prog 27 #[.slice a L.length ca] wx fun e w' => (∃ g, e = .returned (.slice (some ⟨g, 0, none⟩) L.length L.length) ∧ IV w' (some ⟨g, 0, none⟩) L wx.heap.size w'.heap.size) ∧ Below wx.heap.size wx w') := fun h wx hb => (toItemS_any a ca L wx h (ha.below hb)).mono fun e w' ⟨h1, h2, h3⟩ => ⟨⟨_, h1, h2⟩, h3⟩
  have HTR : Hid (wR M T F Bd ≤ 1048576 → ∀ wx, Below w.heap.size w wx → Calls Tryz.prog 21 #[.agg #[.string M, .string T, .slice y F.length cy, .string Bd]] wx fun e w' => (∃ g, e = .returned (.agg #[.string M, .string T, .slice (some ⟨g, 0, none⟩) F.length F.length, .string Bd]) ∧ FV w' (some ⟨g, 0, none⟩) F wx.heap.size w'.heap.size) ∧ Below wx.heap.size wx w') := fun h wx hb => by
    have h2 := (wF_parts (l := F) (L := 1048576) (by unfold wR at h; omega)).1
    exact toRequest_any M T Bd y cy F wx h2 (hF.below hb)
  have hszR : wR M T F Bd ≤ 1048576 → M.size ≤ 1048576 ∧ T.size ≤ 1048576 ∧ F.length ≤ 1048576 ∧ SzF F := fun h => by
    unfold wR at h
    obtain ⟨h1, h2⟩ := wF_parts (l := F) (L := 1048576) (by omega)
    exact ⟨by omega, by omega, h1, fun c hc => by have := h2 c hc; omega⟩
  have HSp : Hid (wIL L ≤ 1048576 → wR M T F Bd ≤ 1048576 → ∀ a' y' wx lo hi lo2 hi2, IV wx a' L lo hi → FV wx y' F lo2 hi2 → Calls Tryz.prog 26 #[.slice a' L.length L.length, .string key, .agg #[.string M, .string T, .slice y' F.length F.length, .string Bd]] wx fun e w' => e = .returned (.tuple #[.int .i64 (pkV (pkR L key M T F Bd)), .bool (pkR L key M T F Bd).isSome]) ∧ Below wx.heap.size wx w') := fun h1 h2 a' y' wx lo hi lo2 hi2 ga gy => by
    obtain ⟨j1, j2, j3, j4⟩ := hszR h2
    exact specPick_any a' L key M T Bd y' F wx lo hi lo2 hi2 h1 ga (by omega) (by omega) (by omega) j4 gy
  have HIm : Hid (wIL L ≤ 1048576 → wR M T F Bd ≤ 1048576 → ∀ a' y' wx lo hi lo2 hi2, Below w.heap.size w wx → IV wx a' L lo hi → FV wx y' F lo2 hi2 → Calls Tryz.prog 28 #[.slice a' L.length L.length, .string key, .agg #[.string M, .string T, .slice y' F.length F.length, .string Bd]] wx fun e w' => e = .returned (.tuple #[.int .i64 (pkV (pkR L key M T F Bd)), .bool (pkR L key M T F Bd).isSome]) ∧ Below wx.heap.size wx w') := fun h1 h2 a' y' wx lo hi lo2 hi2 hb ga gy => by
    obtain ⟨j1, j2, j3, j4⟩ := hszR h2
    exact implPick_any a' L key M T Bd y' F b wx lo hi lo2 hi2 (hT.below hb hgt) (tab_below hP hb (tab_lt hP)) (hE' _ hb) h1 ga (by omega) (by omega) j4 gy
  have HEI : Hid (wIL L ≤ 1048576 → ∀ a1 a2 wx j1 j2 j3 j4, IV wx a1 L j1 j2 → IV wx a2 L j3 j4 → Calls Tryz.prog 29 #[.slice a1 L.length L.length, .slice a2 L.length L.length] wx fun e w' => e = .returned (.bool true) ∧ Below wx.heap.size wx w') := fun h a1 a2 wx j1 j2 j3 j4 g1 g2 => eqItemS_any a1 a2 L wx j1 j2 j3 j4 h g1 g2
  have HER : Hid (wR M T F Bd ≤ 1048576 → ∀ a1 a2 wx j1 j2 j3 j4, FV wx a1 F j1 j2 → FV wx a2 F j3 j4 → Calls Tryz.prog 24 #[.agg #[.string M, .string T, .slice a1 F.length F.length, .string Bd], .agg #[.string M, .string T, .slice a2 F.length F.length, .string Bd]] wx fun e w' => e = .returned (.bool true) ∧ Below wx.heap.size wx w') := fun h a1 a2 wx j1 j2 j3 j4 g1 g2 => by
    obtain ⟨_, _, h3, _⟩ := hszR h
    exact eqRequest_any M T Bd a1 a2 F wx j1 j2 j3 j4 (by omega) g1 g2
  obtain ⟨y0, y1, y2, y3⟩ := HC.out W0 (Below.refl _ _)
  clear hY0 hb0 ha hF hT hP hE hE' hgt hf hFx hl hFl hM hTs hBd hszR
  generalize pkV (pkR L key M T F Bd) = m1 at *
  generalize (pkR L key M T F Bd).isSome = m2 at *
  unfold maxLen at hkm
  by_cases hkl : 1048576 < key.size
  · have hd : decide ((1048576 : Int) < (key.size : Int)) = true := decide_eq_true (by omega)
    clear HZI HZR HTI HTR HSp HIm HEI HER
    go_enter Tryz.func5, Tryz.ntmps5
    go_wp2_with fail
    rw [← hW0]
    clear hW0
    try go_wp2_with fail
    go_ret
    exact ⟨rfl, HB0.out⟩
  have hd0 : decide ((1048576 : Int) < (key.size : Int)) = false := decide_eq_false (by omega)
  by_cases hf1 : wIL L ≤ 1048576
  rotate_left
  · rw [szV_no hf1] at HZI
    have HZ1 : Hid (∀ wx, Below w.heap.size w wx → Calls Tryz.prog 25 #[.slice a L.length ca, .int .i64 1048576] wx fun e w' => e = .returned (.int .i64 (-1)) ∧ Below wx.heap.size wx w') := HZI
    clear HZI HZR HTI HTR HSp HIm HEI HER hf1
    go_enter Tryz.func5, Tryz.ntmps5
    go_wp2_with fail
    rw [← hW0]
    clear hW0
    try go_wp2_with fail
    refine Calls.mono (HZ1.out W0 HB0.out) ?_
    rintro e w1 ⟨rfl, hb1⟩
    have HB1 : Hid (Below w.heap.size w w1) := HB0.out.trans (hb1.mono HB0.out.size)
    clear y0 y1 y2 y3 hb1 HZ1
    go_wp2_with fail
    go_ret
    exact ⟨rfl, HB1.out⟩
  rw [szV_yes hf1] at HZI
  obtain ⟨n, hn⟩ : ∃ n, n = 1048576 - wIL L := ⟨_, rfl⟩
  rw [← hn] at HZI
  have HZ1 : Hid (∀ wx, Below w.heap.size w wx → Calls Tryz.prog 25 #[.slice a L.length ca, .int .i64 1048576] wx fun e w' => e = .returned (.int .i64 (n : Int)) ∧ Below wx.heap.size wx w') := HZI
  have hnle : n ≤ 1048576 := by omega
  have hd : decide ((n : Int) < 0) = false := decide_eq_false (by omega)
  have hzr := HZR.out n hnle
  by_cases hf2 : wR M T F Bd ≤ n
  rotate_left
  · rw [szV_no hf2] at hzr
    have HZ2 : Hid (∀ wx, Below w.heap.size w wx → Calls Tryz.prog 18 #[.agg #[.string M, .string T, .slice y F.length cy, .string Bd], .int .i64 n] wx fun e w' => e = .returned (.int .i64 (-1)) ∧ Below wx.heap.size wx w') := hzr
    clear HZI HZR HTI HTR HSp HIm HEI HER hf1 hf2 hzr hn
    go_enter Tryz.func5, Tryz.ntmps5
    go_wp2_with fail
    rw [← hW0]
    clear hW0
    try go_wp2_with fail
    refine Calls.mono (HZ1.out W0 HB0.out) ?_
    rintro e w1 ⟨rfl, hb1⟩
    have HC1 : Hid (Below W0.heap.size W0 w1) := hb1
    have HB1 : Hid (Below w.heap.size w w1) := HB0.out.trans (hb1.mono HB0.out.size)
    clear y0 y1 y2 y3 hb1 HZ1
    obtain ⟨y0, y1, y2, y3⟩ := HC.out w1 HC1.out
    go_wp2_with fail
    refine Calls.mono (HZ2.out w1 HB1.out) ?_
    rintro e w2 ⟨rfl, hb2⟩
    have HB2 : Hid (Below w.heap.size w w2) := HB1.out.trans (hb2.mono HB1.out.size)
    clear y0 y1 y2 y3 hb2 HZ2 HC1 HB1
    go_wp2_with fail
    go_ret
    exact ⟨rfl, HB2.out⟩
  rw [szV_yes hf2] at hzr
  obtain ⟨n2, hn2⟩ : ∃ n2, n2 = n - wR M T F Bd := ⟨_, rfl⟩
  rw [← hn2] at hzr
  have HZ2 : Hid (∀ wx, Below w.heap.size w wx → Calls Tryz.prog 18 #[.agg #[.string M, .string T, .slice y F.length cy, .string Bd], .int .i64 n] wx fun e w' => e = .returned (.int .i64 (n2 : Int)) ∧ Below wx.heap.size wx w') := hzr
  have hd2 : decide ((n2 : Int) < 0) = false := decide_eq_false (by omega)
  have hf3 : wR M T F Bd ≤ 1048576 := by omega
  have HSp' := hid (HSp.out hf1 hf3)
  have HIm' := hid (HIm.out hf1 hf3)
  have HTI' := hid (HTI.out hf1)
  have HTR' := hid (HTR.out hf3)
  have HEI' := hid (HEI.out hf1)
  have HER' := hid (HER.out hf3)
  clear hf1 hf2 hf3 hn hn2 hzr hnle HZI HZR HSp HIm HTI HTR HEI HER
  go_enter Tryz.func5, Tryz.ntmps5
  go_wp2_with fail
  rw [← hW0]
  clear hW0
  try go_wp2_with fail
  refine Calls.mono (HZ1.out W0 HB0.out) ?_
  rintro e w1 ⟨rfl, hb1⟩
  have HC1 : Hid (Below W0.heap.size W0 w1) := hb1
  have HB1 : Hid (Below w.heap.size w w1) := HB0.out.trans (hb1.mono HB0.out.size)
  clear y0 y1 y2 y3 hb1 HZ1
  obtain ⟨y0, y1, y2, y3⟩ := HC.out w1 HC1.out
  go_wp2_with fail
  refine Calls.mono (HZ2.out w1 HB1.out) ?_
  rintro e w2 ⟨rfl, hb2⟩
  have HC2 : Hid (Below W0.heap.size W0 w2) := HC1.out.trans (hb2.mono HC1.out.size)
  have HB2 : Hid (Below w.heap.size w w2) := HB1.out.trans (hb2.mono HB1.out.size)
  clear y0 y1 y2 y3 hb2 HZ2 HC1 HB1
  obtain ⟨y0, y1, y2, y3⟩ := HC.out w2 HC2.out
  have hn2 : w.heap.size < w2.heap.size := World.block_lt_of_cell? _ _ y0
  go_wp2_with fail
  go_region_held3 (fun w' => w'.cell? ⟨w.heap.size, 0, none⟩ = some (.string M) ∧ w'.cell? ⟨w.heap.size, 1, none⟩ = some (.string T) ∧ w'.cell? ⟨w.heap.size, 2, none⟩ = some (.slice y F.length cy) ∧ w'.cell? ⟨w.heap.size, 3, none⟩ = some (.string Bd) ∧ Below w2.heap.size w2 w')
    (first
      | exact ⟨y0, y1, y2, y3, (Below.refl _ _).drew⟩
      | assumption
      | exact keepD hn2 (by assumption) (by assumption))
    (first
      | (go_at_call 27; with_reducible refine (HTI'.out _ (bel_of HB2.out (keepDL (by assumption)))).mono ?_; rintro e w3 ⟨⟨g3, rfl, GL3⟩, hb3⟩)
      | (go_at_call 21; with_reducible refine (HTR'.out _ (bel_of HB2.out (keepDL (by assumption)))).mono ?_; rintro e w4 ⟨⟨g4, rfl, GF4⟩, hb4⟩)
      | (go_at_call 26; with_reducible refine (HSp'.out _ _ _ _ _ _ _ (GL3.below hb4) GF4).mono ?_; rintro e w5 ⟨rfl, hb5⟩))
  all_goals
    have hb25 : Below w2.heap.size w2 w5 := (keepDL (by assumption))
    have HB5 : Hid (Below w.heap.size w w5) := bel_of HB2.out hb25
    have HC5 : Hid (Below W0.heap.size W0 w5) := HC2.out.trans (hb25.mono HC2.out.size)
    clear hb25
    clear GL3 GF4 hb3 hb4 hb5 HB2 HC2 y0 y1 y2 y3 HSp' hn2
    obtain ⟨y0, y1, y2, y3⟩ := HC.out w5 HC5.out
    go_wp2_with fail
    refine Calls.mono (HTI'.out _ HB5.out) ?_
    rintro e w6 ⟨⟨g6, rfl, GL6⟩, hb6⟩
    have HB6 : Hid (Below w.heap.size w w6) := bel_of HB5.out hb6
    have HC6 : Hid (Below W0.heap.size W0 w6) := bel_of HC5.out hb6
    have HK6 : Hid (∀ wx, Below w6.heap.size w6 wx → IV wx (some ⟨g6, 0, none⟩) L w5.heap.size w6.heap.size) := fun wx h => GL6.below h
    clear GL6 hb6 HB5 HC5 y0 y1 y2 y3
    obtain ⟨y0, y1, y2, y3⟩ := HC.out w6 HC6.out
    go_wp2_with fail
    refine Calls.mono (HTR'.out _ HB6.out) ?_
    rintro e w8 ⟨⟨g8, rfl, GF8⟩, hb8⟩
    obtain ⟨w9, hw9⟩ : ∃ w9, w9 = w8.alloc (.cells #[.string M, .string T, .slice (some ⟨g8, 0, none⟩) F.length F.length, .string Bd] 54) := ⟨_, rfl⟩
    have hb89 : Below w8.heap.size w8 w9 := by rw [hw9]; exact (Below.refl _ _).alloc (Nat.le_refl _) _
    have hR9 : BoxQ w9 w8.heap.size M T (.slice (some ⟨g8, 0, none⟩) F.length F.length) Bd := by rw [hw9]; exact BoxQ.made w8 M T _ Bd _
    have hF9 := GF8.below hb89
    have hb69 : Below w6.heap.size w6 w9 := bel_of hb8 hb89
    have HB9 : Hid (Below w.heap.size w w9) := bel_of HB6.out hb69
    have HC9 : Hid (Below W0.heap.size W0 w9) := bel_of HC6.out hb69
    have HK9 : Hid (∀ wx, Below w9.heap.size w9 wx → IV wx (some ⟨g6, 0, none⟩) L w5.heap.size w6.heap.size ∧ BoxQ wx w8.heap.size M T (.slice (some ⟨g8, 0, none⟩) F.length F.length) Bd ∧ FV wx (some ⟨g8, 0, none⟩) F w6.heap.size w8.heap.size) := fun wx h => ⟨HK6.out wx (bel_of hb69 h), hR9.below h, hF9.below h⟩
    clear GF8 hb8 hb89 hb69 hR9 hF9 HB6 HC6 HK6 y0 y1 y2 y3
    obtain ⟨hL9, _, hF9⟩ := HK9.out w9 (Below.refl _ _)
    go_wp2_with fail
    rw [← hw9]
    clear hw9
    refine Calls.mono (HIm'.out _ _ _ _ _ _ _ HB9.out hL9 hF9) ?_
    rintro e w10 ⟨rfl, hb10⟩
    have HB10 : Hid (Below w.heap.size w w10) := bel_of HB9.out hb10
    have HC10 : Hid (Below W0.heap.size W0 w10) := bel_of HC9.out hb10
    have HD10 : Hid (Below w9.heap.size w9 w10) := hb10
    clear hb10 HB9 HC9 HIm' hL9 hF9
    go_wp2_with fail
    refine Calls.mono (HTI'.out _ HB10.out) ?_
    rintro e w11 ⟨⟨g11, rfl, GL11⟩, hb11⟩
    have HB11 : Hid (Below w.heap.size w w11) := bel_of HB10.out hb11
    have HC11 : Hid (Below W0.heap.size W0 w11) := bel_of HC10.out hb11
    have HD11 : Hid (Below w9.heap.size w9 w11) := bel_of HD10.out hb11
    clear hb11 HB10 HC10 HD10 HTI'
    go_wp2_with fail
    refine Calls.mono (HEI'.out _ _ _ _ _ _ _ (HK9.out w11 HD11.out).1 GL11) ?_
    rintro e w12 ⟨rfl, hb12⟩
    have HB12 : Hid (Below w.heap.size w w12) := bel_of HB11.out hb12
    have HC12 : Hid (Below W0.heap.size W0 w12) := bel_of HC11.out hb12
    have HD12 : Hid (Below w9.heap.size w9 w12) := bel_of HD11.out hb12
    clear hb12 HB11 HC11 HD11 HEI' GL11
    obtain ⟨_, ⟨q0, q1, q2, q3⟩, hF10⟩ := HK9.out w12 HD12.out
    obtain ⟨y0, y1, y2, y3⟩ := HC.out w12 HC12.out
    have hn3 : w8.heap.size < w12.heap.size := World.block_lt_of_cell? _ _ q0
    have hn4 : w.heap.size < w12.heap.size := World.block_lt_of_cell? _ _ y0
    go_wp2_with fail
    go_region_held3 (fun w' => w'.cell? ⟨w8.heap.size, 0, none⟩ = some (.string M) ∧ w'.cell? ⟨w8.heap.size, 1, none⟩ = some (.string T) ∧ w'.cell? ⟨w8.heap.size, 2, none⟩ = some (.slice (some ⟨g8, 0, none⟩) F.length F.length) ∧ w'.cell? ⟨w8.heap.size, 3, none⟩ = some (.string Bd) ∧ w'.cell? ⟨w.heap.size, 0, none⟩ = some (.string M) ∧ w'.cell? ⟨w.heap.size, 1, none⟩ = some (.string T) ∧ w'.cell? ⟨w.heap.size, 2, none⟩ = some (.slice y F.length cy) ∧ w'.cell? ⟨w.heap.size, 3, none⟩ = some (.string Bd) ∧ Below w12.heap.size w12 w')
      (first
        | exact ⟨q0, q1, q2, q3, y0, y1, y2, y3, (Below.refl _ _).drew⟩
        | assumption
        | exact keepC hn3 hn4 (by assumption) (by assumption))
      (first
        | (go_at_call 21; with_reducible refine (HTR'.out _ (bel_of HB12.out (keepCL (by assumption)))).mono ?_; rintro e w13 ⟨⟨g13, rfl, GF13⟩, hb13⟩)
        | (go_at_call 24; with_reducible refine (HER'.out _ _ _ _ _ _ _ ((hF10.below (Below.refl _ _).drew).below hb13) GF13).mono ?_; rintro e w14 ⟨rfl, hb14⟩))
    all_goals
      have hbe : Below w.heap.size w w14 := bel_of HB12.out (keepCL (by assumption))
      go_wp2_with fail
      go_ret
      exact ⟨rfl, hbe⟩

end Go.Proofs.YtfgcgnhffljiaaaGreatDoor.Ite

