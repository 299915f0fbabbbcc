/-
  Walk: impl.ReadUrl: a text taken apart, where that is good.
-/
import Derived.Test.YtlgjgdpalflmfaaDoorSpl
import Derived.Test.YtlgjgdpalflmfaaDoorGud
namespace Go.Proofs.YtlgjgdpalflmfaaDoor.Rdi
open Go.RowKit
open Go.Proofs.YtlgjgdpalflmfaaDoor.Byt
open Go.Proofs.YtlgjgdpalflmfaaDoor.Hex
open Go.Proofs.YtlgjgdpalflmfaaDoor.Rdm
open Go.Proofs.YtlgjgdpalflmfaaDoor.Spl
open Go.Proofs.YtlgjgdpalflmfaaDoor.Gud
open Go.Proofs.YtlgjgdpalflmfaaDoor.Txt
open Go.Proofs.YtlgjgdpalflmfaaDoor.Cut
open Go.Proofs.YtlgjgdpalflmfaaDoor.Nrm (Blk Blk.made Blk.below Blk.alloc Blk.set Blk.other)

def readB (s : ByteArray) : Option Parts :=
  if 200 < s.size then none else
  match splitR s with
  | none => none
  | some (sc, h, n, p, q, a) => if goodB sc h n p q a = true then some (sc, h, n, p, q, a) else none

def fits (s sc h p q : ByteArray) : Prop := sc.size ≤ s.size ∧ h.size ≤ s.size ∧ p.size ≤ s.size + 1 ∧ q.size ≤ s.size

theorem ext_size (s : ByteArray) (i j : Nat) : (s.extract i j).size ≤ s.size := by rw [ByteArray.size_extract]; omega
theorem cut_size (s : ByteArray) (c : UInt8) : (cutA s c).size ≤ s.size ∧ (cutZ s c).size ≤ s.size := by
  cases h : cutI s c with
  | some k => obtain ⟨a, b, _⟩ := cut_some h; rw [a, b]; exact ⟨ext_size _ _ _, ext_size _ _ _⟩
  | none => obtain ⟨a, b, _⟩ := cut_none h; rw [a, b]; exact ⟨Nat.le_refl _, Nat.zero_le _⟩
theorem path_size {s sc h : ByteArray} {n k : Nat} (h1 : sc.size ≤ s.size) (h2 : h.size ≤ s.size) {sc' h' p q : ByteArray} {n' : Nat} {a : Bool} (e : pathR s sc h n k = some (sc', h', n', p, q, a)) : fits s sc' h' p q := by
  unfold pathR at e
  have hc := cut_size (s.extract k s.size) 63
  have hx := ext_size s k s.size
  have hy := ext_size s (k + 1) s.size
  have h47 : slash.size = 1 := rfl
  have h00 : none0.size = 0 := rfl
  split at e
  · simp only [Option.some.injEq, Prod.mk.injEq] at e
    obtain ⟨rfl, rfl, rfl, rfl, rfl, rfl⟩ := e
    exact ⟨h1, h2, by omega, by omega⟩
  · split at e
    · simp only [Option.some.injEq, Prod.mk.injEq] at e
      obtain ⟨rfl, rfl, rfl, rfl, rfl, rfl⟩ := e
      exact ⟨h1, h2, by omega, by omega⟩
    · split at e
      · simp only [Option.some.injEq, Prod.mk.injEq] at e
        obtain ⟨rfl, rfl, rfl, rfl, rfl, rfl⟩ := e
        exact ⟨h1, h2, by omega, by omega⟩
      · cases e
theorem split_size {s sc h p q : ByteArray} {n : Nat} {a : Bool} (e : splitR s = some (sc, h, n, p, q, a)) : fits s sc h p q := by
  unfold splitR at e
  simp only at e
  split at e
  · unfold hostR at e
    simp only at e
    split at e
    · exact path_size (ext_size _ _ _) (ext_size _ _ _) e
    · split at e
      · cases e
      · exact path_size (ext_size _ _ _) (ext_size _ _ _) e
  · cases e

theorem made_below {w w2 : World} {cs : Array Value} {t : TypeId} (hb : Below (w.alloc (.cells cs t)).heap.size (w.alloc (.cells cs t)) w2) : Blk w2 w.heap.size cs ∧ Below w.heap.size w w2 := by
  have hB : Below w.heap.size w (w.alloc (.cells cs t)) := (Below.refl _ _).alloc (Nat.le_refl _) _
  exact ⟨Blk.below (Blk.made w cs t) hb, hB.trans (hb.mono hB.size)⟩

set_option maxHeartbeats 400000 in
theorem implRead_any (s : ByteArray) (m : Int) (w : World) (hT : Tab w) (htab : Lib.TabIs Tryd.prog w "internal/strconv.uint64pow10" .u64 Lib.pow10Tab) (hm : w.cell? ⟨1, 0, none⟩ = some (.int .i64 m)) :
    Calls Tryd.prog 18 #[.string s] w fun e w' => e = .returned (partsV (readB s)) ∧ Below w.heap.size w w' := by
  have hml := World.block_lt_of_cell? _ _ hm
  have hB1 : ∀ o, Below w.heap.size w (w.alloc o) := fun o => (Below.refl _ _).alloc (Nat.le_refl _) o
  have hT1 : Hid (∀ o, Tab (w.alloc o)) := fun o => hT.below (hB1 o) hT.lt
  have hm1 : Hid (∀ o, (w.alloc o).cell? ⟨1, 0, none⟩ = some (.int .i64 m)) := fun o => ((hB1 o).cell hml).trans hm
  have hTl := hT.lt
  by_cases hl : 200 < s.size
  · have HV : readB s = none := by unfold readB; rw [if_pos hl]
    rw [HV]
    go_enter Tryd.func18, Tryd.ntmps18
    go_wp2_with fail
    have y3 := (Blk.made w #[.string ⟨#[]⟩, .string ⟨#[]⟩, .int .i64 0, .string ⟨#[]⟩, .string ⟨#[]⟩, .bool false] 24).2.2
    exact bodyPost_ret (v := .tuple #[.agg #[.string ⟨#[]⟩, .string ⟨#[]⟩, .int .i64 0, .string ⟨#[]⟩, .string ⟨#[]⟩, .bool false], .bool false]) (by simp [results, Tryd.results18, go_sem, y3]) rfl ⟨rfl, hB1 _⟩
  · cases hsp : splitR s with
    | none =>
      have HV : readB s = none := by unfold readB; rw [if_neg hl, hsp]
      have HC : Hid (∀ w1, Tab w1 → w1.cell? ⟨1, 0, none⟩ = some (.int .i64 m) → Calls Tryd.prog 45 #[.string s] w1 fun e w2 => e = .returned (.tuple #[.agg #[.string ⟨#[]⟩, .string ⟨#[]⟩, .int .i64 0, .string ⟨#[]⟩, .string ⟨#[]⟩, .bool false], .bool false]) ∧ Below w1.heap.size w1 w2) := by
        intro w1 h1 h2
        have := split_any s m w1 h1 h2 (by omega)
        rw [hsp] at this
        exact this
      rw [HV]
      clear HV hsp
      go_enter Tryd.func18, Tryd.ntmps18
      go_wp2_with (go_at_call 45; refine (HC.out _ (hT1.out _) (hm1.out _)).mono ?_; rintro e w2 ⟨rfl, hb2⟩; obtain ⟨HR2, HB2⟩ := made_below hb2; have HRk := HR2; obtain ⟨y1, y2, y3⟩ := HRk; clear hb2)
      have y4 := fun o => (Blk.alloc (six HR2 (.string ⟨#[]⟩) (.string ⟨#[]⟩) (.int .i64 0) (.string ⟨#[]⟩) (.string ⟨#[]⟩) (.bool false)) o).2.2
      exact bodyPost_ret (v := .tuple #[.agg #[.string ⟨#[]⟩, .string ⟨#[]⟩, .int .i64 0, .string ⟨#[]⟩, .string ⟨#[]⟩, .bool false], .bool false]) (by simp [results, Tryd.results18, go_sem, y4]) rfl ⟨rfl, (bel6 HB2 (Nat.le_refl _) _ _ _ _ _ _).alloc (bel6 HB2 (Nat.le_refl _) _ _ _ _ _ _).size _⟩
    | some r =>
      obtain ⟨sc, h, n, p, q, a⟩ := r
      obtain ⟨z1, z2, z3, z4⟩ := split_size hsp
      have HC : Hid (∀ w1, Tab w1 → w1.cell? ⟨1, 0, none⟩ = some (.int .i64 m) → Calls Tryd.prog 45 #[.string s] w1 fun e w2 => e = .returned (.tuple #[.agg #[.string sc, .string h, .int .i64 n, .string p, .string q, .bool a], .bool true]) ∧ Below w1.heap.size w1 w2) := by
        intro w1 h1 h2
        have := split_any s m w1 h1 h2 (by omega)
        rw [hsp] at this
        exact this
      cases hg : goodB sc h n p q a with
      | false =>
        have HV : readB s = none := by unfold readB; rw [if_neg hl, hsp]; simp [hg]
        have HG : Hid (∀ w1, Below w.heap.size w w1 → Calls Tryd.prog 17 #[.agg #[.string sc, .string h, .int .i64 n, .string p, .string q, .bool a]] w1 fun e w2 => e = .returned (.bool false) ∧ Below w1.heap.size w1 w2) := by
          intro w1 h1
          have := implGood_any sc h p q n a w1 (hT.below h1 hT.lt) (tab_below htab h1 (tab_lt htab)) (by omega) (by omega) (by omega) (by omega)
          rw [hg] at this
          exact this
        rw [HV]
        clear HV hsp hg
        go_enter Tryd.func18, Tryd.ntmps18
        go_wp2_with (first
          | (go_at_call 45; refine (HC.out _ (hT1.out _) (hm1.out _)).mono ?_; rintro e w2 ⟨rfl, hb2⟩; obtain ⟨HR2, HB2⟩ := made_below hb2; clear hb2)
          | (go_at_call 17; refine (HG.out _ (HB2.alloc HB2.size _)).mono ?_; rintro e w3 ⟨rfl, hb3⟩; have HB3 := (HB2.alloc HB2.size _).trans (hb3.mono (HB2.alloc HB2.size _).size); have HR3 := Blk.below (Blk.alloc HR2 _) hb3; have HU3 := Blk.below (Blk.made w2 _ _) hb3; have HRk := HR3; obtain ⟨y1, y2, y3⟩ := HRk; obtain ⟨u1, u2, u3⟩ := HU3; clear hb3))
        clear u3
        exact bodyPost_ret (v := .tuple #[.agg #[.string ⟨#[]⟩, .string ⟨#[]⟩, .int .i64 0, .string ⟨#[]⟩, .string ⟨#[]⟩, .bool false], .bool false]) (by simp [results, Tryd.results18, go_sem, y3]) rfl ⟨rfl, bel6 HB3 (Nat.le_refl _) _ _ _ _ _ _⟩
      | true =>
        have HV : readB s = some (sc, h, n, p, q, a) := by unfold readB; rw [if_neg hl, hsp]; simp [hg]
        have HG : Hid (∀ w1, Below w.heap.size w w1 → Calls Tryd.prog 17 #[.agg #[.string sc, .string h, .int .i64 n, .string p, .string q, .bool a]] w1 fun e w2 => e = .returned (.bool true) ∧ Below w1.heap.size w1 w2) := by
          intro w1 h1
          have := implGood_any sc h p q n a w1 (hT.below h1 hT.lt) (tab_below htab h1 (tab_lt htab)) (by omega) (by omega) (by omega) (by omega)
          rw [hg] at this
          exact this
        rw [HV]
        clear HV hsp hg
        go_enter Tryd.func18, Tryd.ntmps18
        go_wp2_with (first
          | (go_at_call 45; refine (HC.out _ (hT1.out _) (hm1.out _)).mono ?_; rintro e w2 ⟨rfl, hb2⟩; obtain ⟨HR2, HB2⟩ := made_below hb2; clear hb2)
          | (go_at_call 17; refine (HG.out _ (HB2.alloc HB2.size _)).mono ?_; rintro e w3 ⟨rfl, hb3⟩; have HB3 := (HB2.alloc HB2.size _).trans (hb3.mono (HB2.alloc HB2.size _).size); have HR3 := Blk.below (Blk.alloc HR2 _) hb3; have HU3 := Blk.below (Blk.made w2 _ _) hb3; have HRk := HR3; obtain ⟨y1, y2, y3⟩ := HRk; obtain ⟨u1, u2, u3⟩ := HU3; clear hb3))
        clear u3
        exact bodyPost_ret (v := .tuple #[.agg #[.string sc, .string h, .int .i64 n, .string p, .string q, .bool a], .bool true]) (by simp [results, Tryd.results18, go_sem, y3]) rfl ⟨rfl, bel6 HB3 (Nat.le_refl _) _ _ _ _ _ _⟩

end Go.Proofs.YtlgjgdpalflmfaaDoor.Rdi
