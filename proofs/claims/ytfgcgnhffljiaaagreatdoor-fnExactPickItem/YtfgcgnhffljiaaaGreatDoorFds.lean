/-
  Walks: laws' szFieldS, toFieldS: an argument []Field measured and copied; such an argument opened.
-/
import Derived.Test.YtfgcgnhffljiaaaGreatDoorFdb
import Derived.SliceStrings
import Derived.Deep.OwnRows
import Derived.Deep.SlicePairs
import Derived.Laws.MakeOwn
import Derived.ProofKit
namespace Go.Proofs.YtfgcgnhffljiaaaGreatDoor.Fds
open Go.RowKit
open Go.Proofs.YtfgcgnhffljiaaaGreatDoor.Fbs
open Go.Proofs.YtfgcgnhffljiaaaGreatDoor.Fdb

theorem add_block (a : Addr) (i : Nat) : (a.add i).block = a.block := by unfold Addr.add; split <;> rfl
theorem next_add (ad : Addr) (m : Nat) : ({ block := (ad.add m).block, off := (ad.add m).off + 1, spot := none } : Addr) = ad.add (m + 1) := (Addr.add_succ' (ad.add m) 0).symm.trans (Addr.add_add ad m 1)
/-- A list of fields that is handed in: it is read alone. -/
def AF (w : World) (a : Option Addr) (l : List (ByteArray × ByteArray)) : Prop := l = [] ∨ ∃ ad : Addr, a = some ad ∧ ad.block < w.heap.size ∧ ∀ i c, l[i]? = some c → w.cell? (ad.add (i * 2)) = some (.string c.1) ∧ w.cell? (ad.add (i * 2 + 1)) = some (.string c.2)
theorem AF.below {w w' : World} {a : Option Addr} {l : List (ByteArray × ByteArray)} (h : AF w a l) (hb : Below w.heap.size w w') : AF w' a l := by
  rcases h with h | ⟨ad, h1, h2, h3⟩
  · exact .inl h
  · exact .inr ⟨ad, h1, Nat.lt_of_lt_of_le h2 hb.size, fun i x hx => ⟨(hb.cell (p := ad.add (i * 2)) (by rw [add_block]; exact h2)).trans (h3 i x hx).1, (hb.cell (p := ad.add (i * 2 + 1)) (by rw [add_block]; exact h2)).trans (h3 i x hx).2⟩⟩

/-- What a size tells: where it isn't below 0, the list and its texts are short. -/
def ShortF (l : List (ByteArray × ByteArray)) (v : Int) : Prop := 0 ≤ v → l.length ≤ 1048576 ∧ ∀ j, (hj : j < l.length) → l[j].1.size ≤ 1048576 ∧ l[j].2.size ≤ 1048576

theorem size_any (S V : ByteArray) (L : Nat) (hS : S.size ≤ maxLen) (hV : V.size ≤ maxLen) (hL : L ≤ 2000000) (w : World) :
    Calls Tryz.prog 69 #[.agg #[.string S, .string V], .int .i64 L] w fun e w' => (∃ v : Int, e = .returned (.int .i64 v) ∧ v ≤ L ∧ (v < 0 ∨ ∃ n : Nat, v = n ∧ S.size ≤ L ∧ V.size ≤ L)) ∧ Below w.heap.size w w' := by
  by_cases h : S.size + V.size ≤ L
  · exact (Lwf.sz_yes S V L w h hL).mono fun e w' ⟨he, hb⟩ => ⟨⟨_, he, by omega, .inr ⟨L - S.size - V.size, by omega, by omega, by omega⟩⟩, hb⟩
  · exact (Lwf.sz_no S V L w hS hV h hL).mono fun e w' ⟨he, hb⟩ => ⟨⟨_, he, by omega, .inl (by decide)⟩, hb⟩

set_option maxHeartbeats 800000 in
theorem szFieldS_any (a : Option Addr) (ca : Nat) (l : List (ByteArray × ByteArray)) (L : Nat) (w : World) (hL : L ≤ 1048576) (hl : l.length ≤ maxLen) (hx : ∀ x ∈ l, x.1.size ≤ maxLen ∧ x.2.size ≤ maxLen) (ha : AF w a l) :
    Calls Tryz.prog 37 #[.slice a l.length ca, .int .i64 L] w fun e w' => ∃ v : Int, e = .returned (.int .i64 v) ∧ v ≤ L ∧ ShortF l v ∧ Below w.heap.size w w' := by
  unfold maxLen at hl
  have w1 : IntKind.i64.wrap ((L : Int) - (l.length : Int)) = (L : Int) - (l.length : Int) := by rw [IntKind.wrap_i64]; omega
  by_cases hlong : L < l.length
  · have hd : decide ((L : Int) - (l.length : Int) < 0) = true := decide_eq_true (by omega)
    go_enter Tryz.func37, Tryz.ntmps37
    go_wp2_with fail
    go_ret
    exact ⟨-1, rfl, by omega, fun h => absurd h (by decide), Below.refl _ _⟩
  have hd : decide ((L : Int) - (l.length : Int) < 0) = false := decide_eq_false (by omega)
  by_cases h0 : l = []
  · subst h0
    go_enter Tryz.func37, Tryz.ntmps37
    go_wp2_with fail
    go_loop [1, 5] (fun lv i => lv = .int .i64 L ∧ i = .int .i64 0) (fun _ _ => 0)
    case atStart => exact ⟨by first | rfl | simp, rfl⟩
    case round =>
      obtain ⟨rfl, rfl⟩ := hrel
      go_wp2_with fail
      go_ret
      exact ⟨_, rfl, by omega, fun _ => ⟨Nat.zero_le _, fun j hj => absurd hj (by simp)⟩, Below.refl _ _⟩
  rcases ha with ha | ⟨ad, rfl, hadb, ga⟩
  · exact absurd ha h0
  have GA : Hid (AF w (some ad) l) := .inr ⟨ad, rfl, hadb, ga⟩
  clear ga
  obtain ⟨n, hn⟩ : ∃ n : Nat, n = L - l.length := ⟨_, rfl⟩
  have hn' : (L : Int) - (l.length : Int) = n := by omega
  go_enter Tryz.func37, Tryz.ntmps37
  go_wp2_with fail
  go_loopw [1, 5] (fun lv i wr => ∃ (k V : Nat), lv = .int .i64 V ∧ i = .int .i64 k ∧ k ≤ l.length ∧ V ≤ L ∧ Below w.heap.size w wr ∧ Hid (∀ j, (hj : j < l.length) → j < k → l[j].1.size ≤ 1048576 ∧ l[j].2.size ≤ 1048576)) (fun _ i _ => l.length - (intOf i).toNat)
  case atStart => exact ⟨0, n, by first | rfl | (rw [hn]) | (rw [hn']), rfl, Nat.zero_le _, by omega, Below.refl _ _, fun j _ h => absurd h (by omega)⟩
  case round =>
    obtain ⟨k, V, rfl, rfl, hk, hv1, hbel, HS⟩ := hrel
    by_cases hlt : k < l.length
    · have hc : wr.cell? (ad.add (k * 2)) = some (.string l[k].1) ∧ wr.cell? (ad.add (k * 2 + 1)) = some (.string l[k].2) := by
        rcases GA.out.below hbel with h | ⟨ad', h1, _, h3⟩
        · exact absurd h h0
        · cases h1; exact h3 k l[k] (List.getElem?_eq_getElem hlt)
      obtain ⟨hc1, hc2⟩ := hc
      rw [← next_add] at hc2
      obtain ⟨hs1, hs2⟩ := hx l[k] (List.getElem_mem hlt)
      have HZ : Hid _ := size_any l[k].1 l[k].2 V hs1 hs2 (by omega)
      clear hs1 hs2
      go_wp2_with fail
      refine (HZ.out _).mono ?_
      rintro e w2 ⟨⟨v, rfl, hvl, hvv⟩, hb2⟩
      have hb3 := hbel.trans (hb2.mono hbel.size)
      rcases hvv with hneg | ⟨m, rfl, hs1, hs2⟩
      · have hd2 : decide (v < 0) = true := decide_eq_true hneg
        go_wp2_with fail
        go_ret
        exact ⟨-1, rfl, by omega, fun h => absurd h (by decide), hb3⟩
      · have HS' : Hid (∀ j, (hj : j < l.length) → j < k + 1 → l[j].1.size ≤ 1048576 ∧ l[j].2.size ≤ 1048576) := by
          intro j hj h
          by_cases e : j = k
          · subst e; exact ⟨by omega, by omega⟩
          · exact HS.out j hj (by omega)
        clear HS
        go_wp2_with fail
        go_roundw
        case rel => exact ⟨k + 1, m, rfl, by go_num, by omega, by omega, hb3, HS'⟩
        case measure => simp [intOf]; omega
    · have HR : ShortF l V := fun _ => ⟨by omega, fun j hj => HS.out j hj (by omega)⟩
      go_wp2_with fail
      go_ret
      exact ⟨V, rfl, by omega, HR, hbel⟩

theorem cellsF : Tryz.prog.cellsOf 102 = 2 := by kernel_rfl
theorem cellsS : Tryz.prog.cellsOf 9 = 1 := by kernel_rfl
def strV : Value → ByteArray
  | .string s => s
  | _ => ⟨#[]⟩
set_option maxRecDepth 100000 in
open Go.ChangeShapes Go.WideShapes Go.ChangeAt in
/-- A slice of fields behind its cells, opened. -/
theorem open_fields_cells {H : Type} {enc : TypeId × Value → H} {W : World} {base : Nat} {sp : Nat → Bool} {held : Bool} {fuel : Nat} {cs : List Value} {x : DataW H × List MemPlace}
    (hf : DataW.trod enc Tryz.prog W base sp held fuel 22 cs = some x) : ∃ (a : Option Addr) (cap : Nat) (l : List (ByteArray × ByteArray)), cs = [.slice a l.length cap] ∧ AF W a l ∧ l.length ≤ maxLen ∧ ∀ x ∈ l, x.1.size ≤ maxLen ∧ x.2.size ≤ maxLen := by
  rcases Go.Deep.open_slice_pairs Tryz.underlying22 Tryz.underlying102 cellsF rfl rfl cellsS cellsS hf with ⟨rfl, _⟩ | ⟨a', len, cap, m, n, V0, V1, D0, D1, P0, P1, rfl, _, hl, hm, hmm, _, hx⟩
  · exact ⟨none, 0, [], rfl, .inl rfl, Nat.zero_le _, fun x hx => by cases hx⟩
  · have hlm : len ≤ m := by rw [hmm]; split <;> omega
    have each : ∀ i, i < len → (W.cell? (a'.add (i * 2)) = some (.string (strV (V0 i))) ∧ W.cell? (a'.add (i * 2 + 1)) = some (.string (strV (V1 i)))) ∧ (strV (V0 i)).size ≤ maxLen ∧ (strV (V1 i)).size ≤ maxLen := by
      intro i hi
      obtain ⟨h1, h2, h3, h4⟩ := hx i (by omega)
      obtain ⟨s, e0, _, k0⟩ := DataW.trod_string Tryz.underlying9 h3
      obtain ⟨t, e1, _, k1⟩ := DataW.trod_string Tryz.underlying9 h4
      have e0' : V0 i = .string s := by simpa using e0
      have e1' : V1 i = .string t := by simpa using e1
      rw [h1, h2, e0', e1']
      exact ⟨⟨rfl, rfl⟩, k0, k1⟩
    have hlen : ((List.range len).map fun i => (strV (V0 i), strV (V1 i))).length = len := by simp
    refine ⟨some a', cap, (List.range len).map fun i => (strV (V0 i), strV (V1 i)), by rw [hlen], ?_, by rw [hlen]; omega, fun x hx => ?_⟩
    · by_cases h0 : len = 0
      · subst h0; exact .inl rfl
      · have hlt := World.block_lt_of_cell? W _ (each 0 (by omega)).1.1
        rw [add_block] at hlt
        refine .inr ⟨a', rfl, hlt, fun i c hc => ?_⟩
        obtain ⟨hi, rfl⟩ := List.getElem?_eq_some_iff.1 hc
        rw [hlen] at hi
        have := (each i hi).1
        simpa using this
    · obtain ⟨i, hi, rfl⟩ := List.mem_map.1 hx
      exact (each i (List.mem_range.1 hi)).2

set_option maxRecDepth 100000 in
open Go.ChangeShapes Go.WideShapes Go.ChangeAt in
theorem open_fields {H : Type} {enc : TypeId × Value → H} {W : World} {r : Reach} {b0 base : Nat} {sp : Nat → Bool} {held : Bool} {v : Value} {d : DataW H} {p : List MemPlace}
    (hv : Value.okWide Tryz.prog W r b0 22 v) (h : DataW.Trod enc Tryz.prog W base sp held 22 v d p) : ∃ (a : Option Addr) (cap : Nat) (l : List (ByteArray × ByteArray)), v = .slice a l.length cap ∧ AF W a l ∧ l.length ≤ maxLen ∧ ∀ x ∈ l, x.1.size ≤ maxLen ∧ x.2.size ≤ maxLen := by
  obtain ⟨a, len, cap, rfl⟩ := okWide_slice Tryz.underlying22 hv
  obtain ⟨fuel, hf⟩ := h
  obtain ⟨a', cap', l, hc, h1, h2, h3⟩ := open_fields_cells hf
  simp [Value.cells] at hc
  obtain ⟨rfl, rfl, rfl⟩ := hc
  exact ⟨a, cap, l, rfl, h1, h2, h3⟩

/-- A row of fields of the call's own, j of n laid. -/
def PartL (w : World) (g j : Nat) (l : List (ByteArray × ByteArray)) : Prop := g < w.heap.size ∧ (∀ i, w.frozen? ⟨g, i, none⟩ = false) ∧ (∀ i, (hi : i < l.length) → i < j → w.cell? ⟨g, i * 2, none⟩ = some (.string l[i].1) ∧ w.cell? ⟨g, i * 2 + 1, none⟩ = some (.string l[i].2)) ∧ ∀ i, j ≤ i → i < l.length → ∃ x z, w.cell? ⟨g, i * 2, none⟩ = some (.string x) ∧ w.cell? ⟨g, i * 2 + 1, none⟩ = some (.string z)
theorem PartL.made (w : World) (l : List (ByteArray × ByteArray)) : PartL (w.alloc (.cells (madeCells #[.string ⟨#[]⟩, .string ⟨#[]⟩] (l.length * 2)) 108)) w.heap.size 0 l := by
  refine ⟨by simp, fun i => World.frozen?_alloc_at _ 108 _ i rfl, fun i _ h => absurd h (by omega), fun i _ hi => ⟨⟨#[]⟩, ⟨#[]⟩, ?_, ?_⟩⟩
  · rw [World.cell?_alloc_mark]
    have h : i * 2 < l.length * 2 := by omega
    have h2 : i * 2 % 2 = 0 := by omega
    simp [madeCells, h, h2]
  · rw [World.cell?_alloc_mark]
    have h : i * 2 + 1 < l.length * 2 := by omega
    have h2 : (i * 2 + 1) % 2 = 1 := by omega
    simp [madeCells, h, h2]
theorem two_cells {w : World} {g o : Nat} {x y X Y : Value} (hx : w.cell? ⟨g, o, none⟩ = some x) (hy : w.cell? ⟨g, o + 1, none⟩ = some y) (q : Nat) :
    ((w.setCell ⟨g, o, none⟩ X).setCell ⟨g, o + 1, none⟩ Y).cell? ⟨g, q, none⟩ = if q = o then some X else if q = o + 1 then some Y else w.cell? ⟨g, q, none⟩ := by
  by_cases h1 : q = o
  · subst h1
    rw [if_pos rfl]
    simp [go_sem, hx]
  · rw [if_neg h1]
    by_cases h2 : q = o + 1
    · subst h2
      rw [if_pos rfl]
      simp [go_sem, hy]
    · rw [if_neg h2]
      simp [go_sem]
theorem PartL.below {w w' : World} {g j : Nat} {l : List (ByteArray × ByteArray)} (h : PartL w g j l) (hb : Below w.heap.size w w') : PartL w' g j l := by
  have e : ∀ i, w'.cell? ⟨g, i, none⟩ = w.cell? ⟨g, i, none⟩ := fun i => hb.cell (p := ⟨g, i, none⟩) h.1
  refine ⟨Nat.lt_of_lt_of_le h.1 hb.size, fun i => (hb.frozen (p := ⟨g, i, none⟩) h.1).trans (h.2.1 i), fun i hi hj => ⟨(e _).trans (h.2.2.1 i hi hj).1, (e _).trans (h.2.2.1 i hi hj).2⟩, fun i h1 h2 => ?_⟩
  obtain ⟨x, z, hx, hz⟩ := h.2.2.2 i h1 h2
  exact ⟨x, z, (e _).trans hx, (e _).trans hz⟩
theorem PartL.step {w : World} {g j : Nat} {l : List (ByteArray × ByteArray)} (h : PartL w g j l) (hj : j < l.length) : PartL ((w.setCell ⟨g, j * 2, none⟩ (.string l[j].1)).setCell ⟨g, j * 2 + 1, none⟩ (.string l[j].2)) g (j + 1) l := by
  obtain ⟨h1, h2, h3, h4⟩ := h
  obtain ⟨x0, z0, hx0, hz0⟩ := h4 j (Nat.le_refl _) hj
  have T := @two_cells w g (j * 2) _ _ (.string l[j].1) (.string l[j].2) hx0 hz0
  refine ⟨by simpa [World.setCell] using h1, fun i => by simp [go_sem, h2], fun i hi hij => ?_, fun i hi hn => ?_⟩
  · rw [T, T]
    by_cases he : i = j
    · subst he
      rw [if_pos rfl, if_neg (by omega), if_pos rfl]
      exact ⟨rfl, rfl⟩
    · rw [if_neg (by omega), if_neg (by omega), if_neg (by omega), if_neg (by omega)]
      exact h3 i hi (by omega)
  · obtain ⟨x, z, hx, hz⟩ := h4 i (by omega) hn
    rw [T, T, if_neg (by omega), if_neg (by omega), if_neg (by omega), if_neg (by omega)]
    exact ⟨x, z, hx, hz⟩
theorem PartL.row {w : World} {g : Nat} {l : List (ByteArray × ByteArray)} (h : PartL w g l.length l) : RowF w g l := by
  refine ⟨h.1, h.2.1, fun i x hx => ?_⟩
  obtain ⟨hi, rfl⟩ := List.getElem?_eq_some_iff.1 hx
  exact h.2.2.1 i hi hi

set_option maxRecDepth 20000 in
set_option maxHeartbeats 800000 in
theorem toFieldS_any (a : Option Addr) (ca : Nat) (l : List (ByteArray × ByteArray)) (w : World) (hl : l.length ≤ 1048576) (ha : AF w a l) :
    Calls Tryz.prog 40 #[.slice a l.length ca] w fun e w' => e = .returned (.slice (some ⟨w.heap.size, 0, none⟩) l.length l.length) ∧ FV w' (some ⟨w.heap.size, 0, none⟩) l w.heap.size w'.heap.size ∧ Below w.heap.size w w' := by
  obtain ⟨i0, hi, hz0, hz1, hz2⟩ := info_parts infoF
  have hmk := run_make (P := Tryz.prog) w 29 108 i0 _ Tryz.underlying29 hi hz0 .i64 .i64 (l.length : Int) (l.length : Int) (by omega) (by omega) (by rw [hz2]; omega) (by omega)
  rw [hz1, Int.toNat_natCast] at hmk
  have hmk2 : (Instr.makeSlice 29 (.int .i64 (l.length : Int)) (.int .i64 (l.length : Int))).run Tryz.prog w = .ok (.slice (some ⟨w.heap.size, 0, none⟩) l.length l.length) (w.alloc (.cells (madeCells #[.string ⟨#[]⟩, .string ⟨#[]⟩] (l.length * 2)) 108)) := hmk
  clear hmk
  have HP0 : Hid (PartL (w.alloc (.cells (madeCells #[.string ⟨#[]⟩, .string ⟨#[]⟩] (l.length * 2)) 108)) w.heap.size 0 l) := PartL.made w l
  have hB0 : Below w.heap.size w (w.alloc (.cells (madeCells #[.string ⟨#[]⟩, .string ⟨#[]⟩] (l.length * 2)) 108)) := (Below.refl _ _).alloc (Nat.le_refl _) _
  have hS0 : w.heap.size < (w.alloc (.cells (madeCells #[.string ⟨#[]⟩, .string ⟨#[]⟩] (l.length * 2)) 108)).heap.size := by simp
  generalize w.alloc (.cells (madeCells #[.string ⟨#[]⟩, .string ⟨#[]⟩] (l.length * 2)) 108) = wm at hmk2 HP0 hB0 hS0
  by_cases h0 : l = []
  · subst h0
    have hmk : (Instr.makeSlice 29 (.int .i64 0) (.int .i64 0)).run Tryz.prog w = .ok (.slice (some ⟨w.heap.size, 0, none⟩) 0 0) wm := hmk2
    clear hmk2
    go_enter Tryz.func40, Tryz.ntmps40
    go_wp2_with fail
    go_loop [4] (fun i => i = .int .i64 0) (fun _ => 0)
    case atStart => rfl
    case round =>
      obtain rfl := hrel
      go_wp2_with fail
      go_ret
      exact ⟨rfl, .inl rfl, hB0⟩
  rcases ha with ha | ⟨ad, rfl, hadb, ga⟩
  · exact absurd ha h0
  have GA : Hid (AF w (some ad) l) := .inr ⟨ad, rfl, hadb, ga⟩
  clear ga
  have HTF : Hid _ := fun S V w => Lwf.toField_any S V w
  go_enter Tryz.func40, Tryz.ntmps40
  go_wp2_with fail
  go_loopw [4] (fun i wr => ∃ k : Nat, i = .int .i64 k ∧ k ≤ l.length ∧ Hid (PartL wr w.heap.size k l) ∧ Below w.heap.size w wr) (fun i _ => l.length - (intOf i).toNat)
  case atStart => exact ⟨0, rfl, Nat.zero_le _, HP0, hB0⟩
  case round =>
    obtain ⟨k, rfl, hk, HP, hbel⟩ := hrel
    by_cases hlt : k < l.length
    · have hc : wr.cell? (ad.add (k * 2)) = some (.string l[k].1) ∧ wr.cell? (ad.add (k * 2 + 1)) = some (.string l[k].2) := by
        rcases GA.out.below hbel with h | ⟨ad', h1, _, h3⟩
        · exact absurd h h0
        · cases h1; exact h3 k l[k] (List.getElem?_eq_getElem hlt)
      obtain ⟨hc1, hc2⟩ := hc
      rw [← next_add] at hc2
      clear hmk2
      go_wp2_with fail
      refine (HTF.out _ _ _).mono ?_
      rintro e w2 ⟨rfl, hb2⟩
      have hP2 := HP.out.below hb2
      have hbel2 := hbel.trans (hb2.mono hbel.size)
      have HP' : Hid (PartL ((w2.setCell ⟨w.heap.size, k * 2, none⟩ (.string l[k].1)).setCell ⟨w.heap.size, k * 2 + 1, none⟩ (.string l[k].2)) w.heap.size (k + 1) l) := hP2.step hlt
      have hbel' := (hbel2.setCell (p := ⟨w.heap.size, k * 2, none⟩) (Nat.le_refl _) (.string l[k].1)).setCell (p := ⟨w.heap.size, k * 2 + 1, none⟩) (Nat.le_refl _) (.string l[k].2)
      obtain ⟨p1, p2, _, p4⟩ := hP2
      obtain ⟨x0, y0, hx0, hy0⟩ := p4 k (Nat.le_refl _) hlt
      clear p4 HP hc1 hc2 hb2 hbel hbel2
      go_wp2_with fail
      go_roundw
      case rel => exact ⟨k + 1, by go_num, by omega, HP', hbel'⟩
      case measure => simp [intOf]; omega
    · obtain rfl : k = l.length := by omega
      have hR := HP.out.row
      go_wp2_with fail
      go_ret
      exact ⟨rfl, .inr ⟨w.heap.size, rfl, Nat.le_refl _, hR.1, hR⟩, hbel⟩

end Go.Proofs.YtfgcgnhffljiaaaGreatDoor.Fds
