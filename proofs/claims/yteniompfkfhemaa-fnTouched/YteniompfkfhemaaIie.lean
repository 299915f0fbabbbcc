/-
  Walks: impl.unlikePages, isStack; spec.l10Unlike, l10Stack.
-/
import Derived.Test.YteniompfkfhemaaIid
import Derived.Deep.MidRow
namespace Go.Proofs.Yteniompfkfhemaa.Iia
open Go.RowKit

def no100 : List Value := List.replicate 100 (.bool false)
theorem info100 : (Try.prog.info? 62).map (fun i => (i.zero, i.size)) = some (some (.agg no100.toArray), 100) := by kernel_rfl
theorem zero100 (w : World) : Sem.run Try.prog (zeroValue 62) w = .ok (.agg no100.toArray) w := by
  have h := info100
  cases hi : Try.prog.info? 62 with
  | none => rw [hi] at h; simp at h
  | some i =>
    rw [hi] at h
    simp at h
    simp [zeroValue, typeInfo, hi, h.1]

/-- The block that holds which pages were met. -/
def SeenAt (w : World) (b : Nat) (D : List Int) : Prop := b < w.heap.size ∧ (∀ i, w.frozen? ⟨b, i, none⟩ = false) ∧ ∀ p : Nat, p < 100 → w.cell? ⟨b, p, none⟩ = some (.bool (D.contains (p : Int)))
theorem below_setC {B b : Nat} (hB : B ≤ b) : ∀ (vs : List Value) (o : Nat) (w0 w : World), Below B w0 w → Below B w0 (w.setCells b o vs)
  | [], _, _, _, h => h
  | v :: r, o, w0, _, h => below_setC hB r (o + 1) w0 _ (h.setCell (p := ⟨b, o, none⟩) hB v)
theorem no100_all : ∀ v ∈ no100, v.oneCell' = true := by
  intro v hv
  unfold no100 at hv
  rw [List.mem_replicate] at hv
  rw [hv.2]; rfl
theorem no100_at (p : Nat) (h : p < 100) : no100[p]? = some (.bool false) := by
  unfold no100
  rw [List.getElem?_replicate, if_pos h]
theorem seen_start (w : World) (Z : Array Value) (hZ : Z = no100.toArray) : ∃ W1, Sem.run Try.prog (storeCells ⟨w.heap.size, 0, none⟩ Z.toList) (w.alloc (.cells Z 62)) = .ok () W1 ∧ Below w.heap.size w W1 ∧ SeenAt W1 w.heap.size [] := by
  subst hZ
  have hlen : no100.length = 100 := by simp [no100]
  have hc : ∀ j, j < no100.length → (w.alloc (.cells no100.toArray 62)).cell? ⟨w.heap.size, j, none⟩ = some (.bool false) := by
    intro j hj
    rw [World.cell?_alloc_mark]
    have := no100_at j (by omega)
    simpa using this
  have hf : ∀ j, (w.alloc (.cells no100.toArray 62)).frozen? ⟨w.heap.size, j, none⟩ = false := fun j => World.frozen?_alloc_at _ 62 _ j rfl
  have h := run_storeCells_cells (P := Try.prog) w.heap.size 0 no100 0 (w.alloc (.cells no100.toArray 62)) (fun j hj => by simp only [Nat.zero_add]; rw [hc j hj]; rfl) (fun j _ => by simp only [Nat.zero_add]; exact hf j) no100_all
  refine ⟨_, h, below_setC (Nat.le_refl _) _ _ _ _ ((Below.refl _ _).alloc (Nat.le_refl _) _), ?_, fun i => ?_, fun p hp => ?_⟩
  · have := (below_setC (Nat.le_refl w.heap.size) no100 (0 + 0) _ _ (Below.refl _ (w.alloc (.cells no100.toArray 62)))).size
    have e : (w.alloc (.cells no100.toArray 62)).heap.size = w.heap.size + 1 := by simp
    omega
  · rw [World.frozen?_setCells]; exact hf i
  · have := World.cell?_setCells_in w.heap.size no100 0 (w.alloc (.cells no100.toArray 62)) (fun j hj => by rw [Nat.zero_add, hc j hj]; rfl) p (by omega)
    rw [Nat.zero_add] at this
    show World.cell? (World.setCells _ _ (0 + 0) _) _ = _
    rw [this]
    have := no100_at p hp
    rw [List.getElem?_eq_getElem (by omega)] at this
    rw [Option.some.inj this]
    simp
theorem SeenAt.mark {w : World} {b : Nat} {D : List Int} (h : SeenAt w b D) (p : Nat) (hp : p < 100) : SeenAt (w.setCell ⟨b, p, none⟩ (.bool true)) b (D ++ [(p : Int)]) := by
  obtain ⟨h1, h2, h3⟩ := h
  have hx := h3 p hp
  refine ⟨by simpa [World.setCell] using h1, fun i => by simp [go_sem, h2], fun q hq => ?_⟩
  by_cases e : q = p
  · subst e; simp [go_sem, hx]
  · have hne : ¬ ((q : Int) = (p : Int)) := by omega
    have hc : (w.setCell ⟨b, p, none⟩ (.bool true)).cell? ⟨b, q, none⟩ = w.cell? ⟨b, q, none⟩ := by simp [go_sem]
    rw [hc, h3 q hq]
    simp [hne]
theorem SeenAt.same {w : World} {b : Nat} {D : List Int} (h : SeenAt w b D) (x : Int) (hx : D.contains x = true) : SeenAt w b (D ++ [x]) := by
  refine ⟨h.1, h.2.1, fun q hq => ?_⟩
  rw [h.2.2 q hq]
  by_cases e : (q : Int) = x
  · rw [e, hx]; simp
  · simp [e]

set_option maxHeartbeats 1600000 in
theorem unlikeI_any (a : Option Addr) (ca : Nat) (l : List Int) (w : World) (lo hi : Nat) (hl : l.length ≤ 2000000) (hp : ∀ x ∈ l, 0 ≤ x ∧ x ≤ 99) (ha : IL w a l lo hi) :
    Calls Try.prog 60 #[.slice a l.length ca] w fun e w' => e = .returned (.int .i64 (unlN l : Int)) ∧ Below w.heap.size w w' := by
  have HA : Hid (IL w a l lo hi) := ha
  have HPg : Hid (∀ x ∈ l, 0 ≤ x ∧ x ≤ 99) := hp
  clear ha hp
  have hz := zero100
  have hs : no100.toArray.size = 100 := rfl
  obtain ⟨W1, hst, hb1, hS1⟩ := seen_start w no100.toArray rfl
  generalize no100.toArray = Z at hz hs hst
  have HB1 : Hid _ := hb1
  have HS1 : Hid _ := hS1
  clear hb1 hS1
  go_enter Try.func60, Try.ntmps60
  go_wp2_with fail
  clear hst hz hs
  go_loopw [4, 10] (fun m i wr => ∃ k : Nat, k ≤ l.length ∧ i = .int .i64 k ∧ m = .int .i64 (unlN (l.take k) : Int) ∧ Hid (SeenAt wr w.heap.size (l.take k)) ∧ Hid (Below w.heap.size w wr)) (fun _ i _ => l.length - (intOf i).toNat)
  case atStart => exact ⟨0, Nat.zero_le _, rfl, rfl, HS1, HB1⟩
  case round =>
    obtain ⟨k, hk, rfl, rfl, HS, HB⟩ := hrel
    by_cases hlt : k < l.length
    · obtain ⟨ad, rfl, hc⟩ := (HA.out.below HB.out).cell hlt
      obtain ⟨q0, q1⟩ := HPg.out l[k] (List.getElem_mem hlt)
      obtain ⟨p, hpe⟩ := Int.eq_ofNat_of_zero_le q0
      have HT : Hid (l.take (k + 1) = l.take k ++ [(p : Int)]) := by show _ = _; rw [List.take_succ_eq_append_getElem hlt, hpe]
      have HU : Hid (unlN (l.take (k + 1)) = unlN (l.take k) + (if (l.take k).contains (p : Int) = true then 0 else 1)) := by show _ = _; rw [unl_take l k hlt, hpe]
      have hul := unl_le (l.take k)
      rw [List.length_take] at hul
      rw [hpe] at hc q1
      have hp1 : p < 100 := by omega
      have hcell := HS.out.2.2 p hp1
      have hfr := HS.out.2.1 p
      have hblk := HS.out.1
      generalize unlN (l.take k) = u at *
      clear hpe q0 q1
      cases hin : (l.take k).contains (p : Int)
      · rw [hin] at hcell
        have HS2 : Hid (SeenAt (wr.setCell ⟨w.heap.size, p, none⟩ (.bool true)) w.heap.size (l.take (k + 1))) := by show SeenAt _ _ _; rw [HT.out]; exact HS.out.mark p hp1
        have HB2 : Hid _ := HB.out.setCell (p := ⟨w.heap.size, p, none⟩) (Nat.le_refl _) (.bool true)
        have HU2 : Hid (unlN (l.take (k + 1)) = u + 1) := by show _ = _; rw [HU.out, hin]; rfl
        clear hin HT HU HS
        go_wp2_with fail
        go_roundw
        case rel => exact ⟨k + 1, by omega, by go_num, by rw [HU2.out]; go_num, HS2, HB2⟩
        case measure => simp [intOf]; omega
      · rw [hin] at hcell
        have HS2 : Hid (SeenAt wr w.heap.size (l.take (k + 1))) := by show SeenAt _ _ _; rw [HT.out]; exact HS.out.same _ hin
        have HU2 : Hid (unlN (l.take (k + 1)) = u) := by show _ = _; rw [HU.out, hin]; rfl
        clear hin HT HU HS
        go_wp2_with fail
        go_roundw
        case rel => exact ⟨k + 1, by omega, by go_num, by rw [HU2.out], HS2, HB⟩
        case measure => simp [intOf]; omega
    · obtain rfl : k = l.length := by omega
      have HE : Hid (l.take l.length = l) := List.take_length
      go_wp2_with fail
      go_ret
      exact ⟨ret_int (by first | rfl | rw [HE.out]), HB.out⟩

end Go.Proofs.Yteniompfkfhemaa.Iia
