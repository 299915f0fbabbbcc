/-
  Walks: the laws' own helpers for lists of texts: laws.markText, eqStringS, markStringS, heldStringS.
-/
import Derived.Test.YtfgcgnhffljiaaaGreatDoorLsp
import Derived.Deep.QuietTactic
import Derived.BigQuiet
import Derived.Deep.RegionLaw
namespace Go.Proofs.YtfgcgnhffljiaaaGreatDoor.Mrk
open Go.RowKit
open Go.Proofs.YtfgcgnhffljiaaaGreatDoor.Fbs
open Go.Proofs.YtfgcgnhffljiaaaGreatDoor.Ows
open Go.Proofs.YtfgcgnhffljiaaaGreatDoor.Lsp

/-- A number's digits ahead of others. -/
def dgF : Nat → Nat → List UInt8 → List UInt8
  | 0, _, acc => acc
  | f + 1, k, acc => if k = 0 then acc else dgF f (k / 10) (UInt8.ofNat (48 + k % 10) :: acc)
def mk (k : Nat) : ByteArray := ⟨(109 :: dgF k k []).toArray⟩
theorem dgF_zero (f : Nat) (acc : List UInt8) : dgF f 0 acc = acc := by cases f <;> simp [dgF]
theorem dgF_step {f k : Nat} {acc : List UInt8} (h : 0 < k) : dgF (f + 1) k acc = dgF f (k / 10) (UInt8.ofNat (48 + k % 10) :: acc) := by
  simp only [dgF]; rw [if_neg (by omega)]
theorem byte_of (n : Nat) (h : n < 208) : ((UInt8.ofNat (48 + n)).toNat : Int) = 48 + (n : Int) := by
  rw [UInt8.toNat_ofNat']; omega

theorem text_at (W : World) (b : Nat) (c : UInt8) (hc : W.cell? ⟨b, 0, none⟩ = some (.int .u8 (c.toNat : Int))) : (convert 120 9 (.slice (some ⟨b, 0, none⟩) 1 1)).run Tryz.prog W = .ok (.string ⟨#[c]⟩) W := by
  refine run_convert_bytes_back _ 120 9 5 ⟨b, 0, none⟩ 1 [c] Tryz.underlying120 Tryz.underlying5 Tryz.underlying9 (fun j hj => ?_)
  have h0 : j = 0 := by simpa using hj
  subst h0
  rw [Addr.add_lit]
  exact hc
theorem text_one (w : World) (c : UInt8) (x : Int) (hx : x = (c.toNat : Int)) : (convert 120 9 (.slice (some ⟨w.heap.size, 0, none⟩) 1 1)).run Tryz.prog (w.alloc (.cells #[.int .u8 x] 5)) = .ok (.string ⟨#[c]⟩) (w.alloc (.cells #[.int .u8 x] 5)) := by
  subst hx
  exact text_at _ _ c (by rw [World.cell?_alloc_mark]; rfl)

theorem wrap_dig (n : Nat) : IntKind.u8.wrap (48 + (n : Int) % 10) = 48 + (n : Int) % 10 := by
  have hd : (n : Int) % 10 = ((n % 10 : Nat) : Int) := by omega
  have all : ∀ m : Nat, m < 10 → IntKind.u8.wrap (48 + (m : Int)) = 48 + (m : Int) := by decide
  rw [hd]; exact all _ (by omega)

set_option maxRecDepth 20000 in
set_option maxHeartbeats 1600000 in
theorem markText_any (k : Nat) (w : World) (h1 : 1 ≤ k) (h2 : k ≤ 4000000) :
    Calls Tryz.prog 50 #[.int .i64 k] w fun e w' => e = .returned (.string (mk k)) ∧ Below w.heap.size w w' := by
  go_enter Tryz.func50, Tryz.ntmps50
  go_wp2_with fail
  go_loopw [0, 3] (fun kv ov wr => ∃ (m f : Nat) (A : ByteArray), kv = .int .i64 m ∧ ov = .string A ∧ m ≤ f ∧ m ≤ 4000000 ∧ A.size + f ≤ k ∧ Below w.heap.size w wr ∧ Hid (dgF k k [] = dgF f m A.data.toList))
    (fun kv _ _ => (intOf kv).toNat)
  case atStart => exact ⟨k, k, ⟨#[]⟩, rfl, rfl, Nat.le_refl _, h2, by show 0 + k ≤ k; omega, Below.refl _ _, rfl⟩
  case round =>
    obtain ⟨m, f, A, rfl, rfl, hm, hm2, hA, hbel, HD⟩ := hrel
    by_cases h0 : 0 < m
    · obtain ⟨f', rfl⟩ : ∃ f', f = f' + 1 := ⟨f - 1, by omega⟩
      obtain ⟨c, hc⟩ : ∃ c, c = UInt8.ofNat (48 + m % 10) := ⟨_, rfl⟩
      have hx := fun wx => text_one wx c (48 + (m : Int) % 10) (by rw [hc, byte_of _ (by omega)]; omega)
      have a1 : IntKind.i64.wrap ((m : Int) / 10) = (m : Int) / 10 := by rw [IntKind.wrap_i64]; omega
      have a2 : (m : Int).tmod 10 = (m : Int) % 10 := Int.tmod_eq_emod_of_nonneg (by omega)
      have a3 : IntKind.i64.wrap (48 + (m : Int) % 10) = 48 + (m : Int) % 10 := by rw [IntKind.wrap_i64]; omega
      have a4 := wrap_dig m
      have a5 : (m : Int).tdiv 10 = (m : Int) / 10 := Int.tdiv_eq_ediv_of_nonneg (by omega)
      have HD' : Hid (dgF k k [] = dgF f' (m / 10) (⟨#[c]⟩ ++ A : ByteArray).data.toList) := by
        show _ = _
        rw [HD.out, dgF_step h0, ← hc]
        congr 1
      have hs1 : ¬ 9223372036854775807 < (⟨#[c]⟩ : ByteArray).size + A.size := by show ¬ 9223372036854775807 < 1 + A.size; omega
      have HZ : Hid ((⟨#[c]⟩ ++ A : ByteArray).size + f' ≤ k) := by show _ ≤ _; rw [ByteArray.size_append]; show 1 + A.size + f' ≤ k; omega
      clear HD hc
      go_wp2_with fail
      go_roundw
      case rel => exact ⟨m / 10, f', _, by go_num, rfl, by omega, by omega, HZ.out, hbel.alloc hbel.size _, HD'⟩
      case measure => simp [intOf]; omega
    · obtain rfl : m = 0 := by omega
      have HR : Hid ((⟨#[109]⟩ : ByteArray) ++ A = mk k) := by
        show _ = _
        unfold mk
        rw [HD.out, dgF_zero]
        apply ByteArray.ext; simp
      have hs1 : ¬ 9223372036854775807 < (⟨#[109]⟩ : ByteArray).size + A.size := by show ¬ 9223372036854775807 < 1 + A.size; omega
      clear HD
      go_wp2_with fail
      go_ret
      exact ⟨ret_str HR.out, hbel⟩

/-- A row of texts in a block of its own. -/
def RowT (w : World) (g : Nat) (l : List ByteArray) : Prop := g < w.heap.size ∧ (∀ i, w.frozen? ⟨g, i, none⟩ = false) ∧ ∀ i x, l[i]? = some x → w.cell? ⟨g, i, none⟩ = some (.string x)
/-- A list of texts: empty, or in a block from lo on and below hi. -/
def TV (w : World) (a : Option Addr) (l : List ByteArray) (lo hi : Nat) : Prop := l = [] ∨ ∃ g, a = some ⟨g, 0, none⟩ ∧ lo ≤ g ∧ g < hi ∧ RowT w g l

theorem RowT.below {w w' : World} {g : Nat} {l : List ByteArray} (h : RowT w g l) (hb : Below w.heap.size w w') : RowT w' g l :=
  ⟨Nat.lt_of_lt_of_le h.1 hb.size, fun i => (hb.frozen (p := ⟨g, i, none⟩) h.1).trans (h.2.1 i), fun i x hx => (hb.cell (p := ⟨g, i, none⟩) h.1).trans (h.2.2 i x hx)⟩
theorem TV.below {w w' : World} {a : Option Addr} {l : List ByteArray} {lo hi : Nat} (h : TV w a l lo hi) (hb : Below w.heap.size w w') : TV w' a l lo hi := by
  rcases h with h | ⟨g, h1, h2, h3, h4⟩
  · exact .inl h
  · exact .inr ⟨g, h1, h2, h3, h4.below hb⟩
theorem tv_of {w : World} {B : Nat} {v : Value} {l : List ByteArray} (h : textsIn w B v l) : ∃ a cap, v = .slice a l.length cap ∧ TV w a l B w.heap.size := by
  rcases h.2 with ⟨rfl, h0⟩ | ⟨g, cap, cur, rfl, hbg, hg, hnc, hcm, hcs, htake⟩
  · have hl : l = [] := by simpa using h0
    subst hl
    exact ⟨none, 0, rfl, .inl rfl⟩
  · refine ⟨_, _, rfl, .inr ⟨g, rfl, hbg, (Array.getElem?_eq_some_iff.1 hg).1, (Array.getElem?_eq_some_iff.1 hg).1, fun i => by simp [World.frozen?, hg], fun i x hx => textsIn.at h i x hx⟩⟩

theorem same_text (x : ByteArray) : (x.toList == x.toList) = true := by simp

theorem below_drewN (w : World) (n : Nat) : Below w.heap.size w (w.drewN n) := ⟨rfl, rfl, rfl, Nat.le_refl _, fun _ _ => rfl⟩

set_option maxHeartbeats 800000 in
theorem eqS_any (a b : Option Addr) (ca cb : Nat) (l : List ByteArray) (w : World) (lo hi lo' hi' : Nat) (hl : l.length ≤ 2000000) (ha : TV w a l lo hi) (hb : TV w b l lo' hi') :
    Calls Tryz.prog 12 #[.slice a l.length ca, .slice b l.length cb] w fun e w' => e = .returned (.bool true) ∧ Below w.heap.size w w' := by
  by_cases h0 : l = []
  · subst h0
    go_enter Tryz.func12, Tryz.ntmps12
    go_wp2_with fail
    go_loop [5] (fun i => i = .int .i64 0) (fun _ => 0)
    case atStart => rfl
    case round =>
      obtain rfl := hrel
      go_wp2_with fail
      go_ret
      exact ⟨rfl, Below.refl _ _⟩
  · rcases ha with ha | ⟨g, rfl, _, _, ga⟩
    · exact absurd ha h0
    rcases hb with hb | ⟨g', rfl, _, _, gb⟩
    · exact absurd hb h0
    have GA : Hid (RowT w g l) := ga
    have GB : Hid (RowT w g' l) := gb
    go_enter Tryz.func12, Tryz.ntmps12
    go_wp2_with fail
    go_loopw [5] (fun i wr => ∃ k : Nat, k ≤ l.length ∧ i = .int .i64 k ∧ Below w.heap.size w wr) (fun i _ => l.length - (intOf i).toNat)
    case atStart => exact ⟨0, by omega, rfl, Below.refl _ _⟩
    case round =>
      obtain ⟨k, hk, rfl, hbel⟩ := hrel
      by_cases hlt : k < l.length
      · have ca' := (GA.out.below hbel).2.2 k l[k] (List.getElem?_eq_getElem hlt)
        have cb' := (GB.out.below hbel).2.2 k l[k] (List.getElem?_eq_getElem hlt)
        have hs := same_text l[k]
        go_wp2_with fail
        go_quiet (fail)
        go_wp2_with fail
        go_roundw
        case rel => exact ⟨k + 1, by omega, by go_num, hbel.trans ((below_drewN _ _).mono hbel.size)⟩
        case measure => simp [intOf]; omega
      · go_wp2_with fail
        go_ret
        exact ⟨rfl, hbel⟩

def marks (k n : Nat) : List ByteArray := (List.range n).map fun i => mk (k + i)
theorem marks_at (k n i : Nat) (h : i < n) : (marks k n)[i]? = some (mk (k + i)) := by
  unfold marks
  rw [List.getElem?_map, List.getElem?_range h]; rfl
theorem marks_len (k n : Nat) : (marks k n).length = n := by simp [marks]

set_option maxHeartbeats 800000 in
theorem heldS_any (a : Option Addr) (ca k : Nat) (n : Nat) (w : World) (lo hi : Nat) (hk : 1 ≤ k) (hn : k + n ≤ 1000000) (ha : TV w a (marks k n) lo hi) :
    Calls Tryz.prog 16 #[.slice a n ca, .int .i64 k] w fun e w' => e = .returned (.int .i64 ((k : Int) + n)) ∧ Below w.heap.size w w' := by
  by_cases h0 : n = 0
  · subst h0
    go_enter Tryz.func16, Tryz.ntmps16
    go_wp2_with fail
    go_loop [1, 5] (fun kv i => i = .int .i64 0 ∧ kv = .int .i64 k) (fun _ _ => 0)
    case atStart => exact ⟨rfl, rfl⟩
    case round =>
      obtain ⟨rfl, rfl⟩ := hrel
      go_wp2_with fail
      go_ret
      exact ⟨by simp, Below.refl _ _⟩
  · rcases ha with ha | ⟨g, rfl, _, _, ga⟩
    · exact absurd (show n = 0 by have := congrArg List.length ha; rwa [marks_len] at this) h0
    have GA : Hid (RowT w g (marks k n)) := ga
    clear ga
    go_enter Tryz.func16, Tryz.ntmps16
    go_wp2_with fail
    go_loopw [1, 5] (fun kv i wr => ∃ j : Nat, j ≤ n ∧ i = .int .i64 j ∧ kv = .int .i64 ((k : Int) + j) ∧ Below w.heap.size w wr) (fun _ i _ => n - (intOf i).toNat)
    case atStart => exact ⟨0, by omega, rfl, by simp, Below.refl _ _⟩
    case round =>
      obtain ⟨j, hj, rfl, rfl, hbel⟩ := hrel
      by_cases hlt : j < n
      · have hc := (GA.out.below hbel).2.2 j _ (marks_at k n j hlt)
        have HM : Hid (∀ w, Calls Tryz.prog 50 #[.int .i64 ((k : Int) + j)] w fun e w' => e = .returned (.string (mk (k + j))) ∧ Below w.heap.size w w') := by
          intro w
          have := markText_any (k + j) w (by omega) (by omega)
          rwa [show ((k + j : Nat) : Int) = (k : Int) + j from by omega] at this
        have hs := same_text (mk (k + j))
        have hg := (GA.out.below hbel).1
        generalize mk (k + j) = T at HM hc hs
        go_wp2_with fail
        go_region_with (go_at_call 50; refine (HM.out _).mono ?_; rintro e w2 ⟨rfl, hb2⟩; have hc2 := (hb2.cell (p := ⟨g, j, none⟩) hg).trans hc)
        all_goals
          go_wp2_with fail
          go_roundw
          case rel => exact ⟨j + 1, by omega, by go_num, by go_num, hbel.drew.trans (hb2.mono hbel.size)⟩
          case measure => simp [intOf]; omega
      · obtain rfl : j = n := by omega
        go_wp2_with fail
        go_ret
        exact ⟨rfl, hbel⟩

/-- Marks so far: j of n texts of a row turned. -/
def Part (w : World) (g k j n : Nat) : Prop := g < w.heap.size ∧ (∀ i, w.frozen? ⟨g, i, none⟩ = false) ∧ (∀ i, i < j → w.cell? ⟨g, i, none⟩ = some (.string (mk (k + i)))) ∧ ∀ i, j ≤ i → i < n → ∃ x, w.cell? ⟨g, i, none⟩ = some (.string x)
theorem Part.below {w w' : World} {g k j n : Nat} (h : Part w g k j n) (hb : Below w.heap.size w w') : Part w' g k j n := by
  have e : ∀ i, w'.cell? ⟨g, i, none⟩ = w.cell? ⟨g, i, none⟩ := fun i => hb.cell (p := ⟨g, i, none⟩) h.1
  refine ⟨Nat.lt_of_lt_of_le h.1 hb.size, fun i => (hb.frozen (p := ⟨g, i, none⟩) h.1).trans (h.2.1 i), fun i hi => (e i).trans (h.2.2.1 i hi), fun i h1 h2 => ?_⟩
  obtain ⟨x, hx⟩ := h.2.2.2 i h1 h2
  exact ⟨x, (e i).trans hx⟩
theorem Part.step {w : World} {g k j n : Nat} (h : Part w g k j n) (hj : j < n) : Part (w.setCell ⟨g, j, none⟩ (.string (mk (k + j)))) g k (j + 1) n := by
  obtain ⟨h1, h2, h3, h4⟩ := h
  obtain ⟨x0, hx0⟩ := h4 j (Nat.le_refl _) hj
  refine ⟨by simpa [World.setCell] using h1, fun i => by simp [go_sem, h2], fun i hi => ?_, fun i hi hn => ?_⟩
  · by_cases he : i = j
    · subst he; simp [go_sem, hx0]
    · have := h3 i (by omega)
      rw [← this]
      simp [go_sem]
  · obtain ⟨x, hx⟩ := h4 i (by omega) hn
    refine ⟨x, ?_⟩
    rw [← hx]
    simp [go_sem]
theorem Part.row {w : World} {g k n : Nat} (h : Part w g k n n) : RowT w g (marks k n) := by
  refine ⟨h.1, h.2.1, fun i x hx => ?_⟩
  have hi : i < n := by
    have := (List.getElem?_eq_some_iff.1 hx).1
    rwa [marks_len] at this
  rw [marks_at k n i hi] at hx
  cases hx
  exact h.2.2.1 i hi
theorem grown_below {w w1 w2 : World} {row : Option Nat} (h : w.grownBy w1 row) (hb : Below w1.heap.size w1 w2) : w.grownBy w2 row :=
  ⟨hb.os.trans h.os, hb.tape.trans h.tape, hb.output.trans h.output, Nat.le_trans h.size hb.size, fun k hk hr => (hb.block k (Nat.lt_of_lt_of_le hk h.size)).trans (h.block k hk hr)⟩
theorem grown_of {w w1 : World} (row : Option Nat) (hb : Below w.heap.size w w1) : w.grownBy w1 row := ⟨hb.os, hb.tape, hb.output, hb.size, fun k hk _ => hb.block k hk⟩
theorem grown_set {w w1 : World} {g : Nat} (h : w.grownBy w1 (some g)) (j : Nat) (v : Value) : w.grownBy (w1.setCell ⟨g, j, none⟩ v) (some g) :=
  ⟨h.os, h.tape, h.output, by have := h.size; simpa [World.setCell] using this, fun k hk hr => (Below.heap_setCell _ _ _ k (fun e => hr (by rw [e]))).trans (h.block k hk hr)⟩

set_option maxHeartbeats 800000 in
theorem markS_any (a : Option Addr) (ca k : Nat) (l : List ByteArray) (w : World) (lo hi : Nat) (hk : 1 ≤ k) (hn : k + l.length ≤ 1000000) (ha : TV w a l lo hi) :
    Calls Tryz.prog 15 #[.slice a l.length ca, .int .i64 k] w fun e w' => e = .returned (.int .i64 ((k : Int) + l.length)) ∧ TV w' a (marks k l.length) lo hi ∧ ∃ row, w.grownBy w' row ∧ ∀ g, row = some g → lo ≤ g ∧ g < hi := by
  by_cases h0 : l = []
  · subst h0
    go_enter Tryz.func15, Tryz.ntmps15
    go_wp2_with fail
    go_loop [1, 5] (fun kv i => i = .int .i64 0 ∧ kv = .int .i64 k) (fun _ _ => 0)
    case atStart => exact ⟨rfl, rfl⟩
    case round =>
      obtain ⟨rfl, rfl⟩ := hrel
      go_wp2_with fail
      go_ret
      exact ⟨by simp, .inl rfl, none, grown_of _ (Below.refl _ _), fun _ e => nomatch e⟩
  · rcases ha with ha | ⟨g, rfl, g1, g2, ga⟩
    · exact absurd ha h0
    have GA : Hid (Part w g k 0 l.length) := ⟨ga.1, ga.2.1, fun i hi => absurd hi (by omega), fun i _ hi => ⟨_, ga.2.2 i _ (List.getElem?_eq_getElem hi)⟩⟩
    have hlen : ∃ n, n = l.length := ⟨_, rfl⟩
    obtain ⟨n, hln⟩ := hlen
    rw [← hln] at GA hn ⊢
    clear ga hln h0
    go_enter Tryz.func15, Tryz.ntmps15
    go_wp2_with fail
    go_loopw [1, 5] (fun kv i wr => ∃ j : Nat, j ≤ n ∧ i = .int .i64 j ∧ kv = .int .i64 ((k : Int) + j) ∧ Hid (Part wr g k j n) ∧ Hid (w.grownBy wr (some g))) (fun _ i _ => n - (intOf i).toNat)
    case atStart => exact ⟨0, by omega, rfl, by simp, GA, grown_of _ (Below.refl _ _)⟩
    case round =>
      obtain ⟨j, hj, rfl, rfl, HP, HG⟩ := hrel
      by_cases hlt : j < n
      · have HM : Hid (∀ w, Calls Tryz.prog 50 #[.int .i64 ((k : Int) + j)] w fun e w' => e = .returned (.string (mk (k + j))) ∧ Below w.heap.size w w') := by
          intro w
          have := markText_any (k + j) w (by omega) (by omega)
          rwa [show ((k + j : Nat) : Int) = (k : Int) + j from by omega] at this
        obtain ⟨T, hT⟩ : ∃ T, T = mk (k + j) := ⟨_, rfl⟩
        rw [← hT] at HM
        have HTe : Hid (T = mk (k + j)) := hT
        clear hT
        go_wp2_with (go_at_call 50; refine (HM.out _).mono ?_; rintro e w2 ⟨rfl, hb2⟩; have hP2 := HP.out.below hb2; have HP3 : Hid (Part (w2.setCell ⟨g, j, none⟩ (.string T)) g k (j + 1) n) := (by rw [HTe.out]; exact hP2.step hlt); have HG3 : Hid (w.grownBy (w2.setCell ⟨g, j, none⟩ (.string T)) (some g)) := grown_set (grown_below HG.out hb2) j (.string T); obtain ⟨p1, p2, _, p4⟩ := hP2; obtain ⟨x0, hx0⟩ := p4 j (Nat.le_refl _) hlt; clear p4 hb2)
        go_roundw
        case rel => exact ⟨j + 1, by omega, by go_num, by go_num, HP3, HG3⟩
        case measure => simp [intOf]; omega
      · obtain rfl : j = n := by omega
        go_wp2_with fail
        go_ret
        exact ⟨rfl, .inr ⟨g, rfl, g1, g2, HP.out.row⟩, some g, HG.out, fun g' e => by cases e; exact ⟨g1, g2⟩⟩

theorem markS_one (a : Option Addr) (ca : Nat) (l : List ByteArray) (w : World) (lo hi : Nat) (hn : l.length ≤ 900000) (ha : TV w a l lo hi) :
    Calls Tryz.prog 15 #[.slice a l.length ca, .int .i64 1] w fun e w' => e = .returned (.int .i64 (1 + (l.length : Int))) ∧ TV w' a (marks 1 l.length) lo hi ∧ ∃ row, w.grownBy w' row ∧ ∀ g, row = some g → lo ≤ g ∧ g < hi :=
  markS_any a ca 1 l w lo hi (Nat.le_refl _) (by omega) ha
theorem heldS_one (a : Option Addr) (ca n : Nat) (w : World) (lo hi : Nat) (hn : n ≤ 900000) (ha : TV w a (marks 1 n) lo hi) :
    Calls Tryz.prog 16 #[.slice a n ca, .int .i64 1] w fun e w' => e = .returned (.int .i64 (1 + (n : Int))) ∧ Below w.heap.size w w' :=
  heldS_any a ca 1 n w lo hi (Nat.le_refl _) (by omega) ha
/-- A list below what has turned is as it was. -/
theorem TV.kept {w w' : World} {a : Option Addr} {l : List ByteArray} {lo hi : Nat} (h : TV w a l lo hi) {row : Option Nat} (hg : w.grownBy w' row) (hr : ∀ g, row = some g → hi ≤ g) : TV w' a l lo hi := by
  rcases h with h | ⟨g, h1, h2, h3, h4, h5, h6⟩
  · exact .inl h
  · have hb : w'.heap[g]? = w.heap[g]? := hg.block g h4 (fun e => by have := hr g e.symm; omega)
    refine .inr ⟨g, h1, h2, h3, Nat.lt_of_lt_of_le h4 hg.size, fun i => ?_, fun i x hx => ?_⟩
    · rw [← h5 i]; unfold World.frozen?; rw [hb]
    · rw [← h6 i x hx]; unfold World.cell?; rw [hb]
theorem below_grown {B : Nat} {w w1 w2 : World} (h : Below B w w1) {row : Option Nat} (hg : w1.grownBy w2 row) (hB : B ≤ w1.heap.size) (hr : ∀ g, row = some g → B ≤ g) : Below B w w2 :=
  h.grown hg hB (fun k e => hr k e)

/-- What is answered, in one shape. -/
def lst (o : Option (List ByteArray)) : List ByteArray := o.getD []
theorem told_tv {w : World} {B : Nat} {e : Ending} {o : Option (List ByteArray)} (h : Lsp.Told w B e o) : ∃ a cap, e = .returned (.tuple #[.slice a (lst o).length cap, .bool o.isSome]) ∧ TV w a (lst o) B w.heap.size := by
  cases o with
  | none => exact ⟨none, 0, h, .inl rfl⟩
  | some l =>
    obtain ⟨v, rfl, hown⟩ := h
    obtain ⟨a, cap, rfl, ht⟩ := tv_of hown
    exact ⟨a, cap, rfl, ht⟩

end Go.Proofs.YtfgcgnhffljiaaaGreatDoor.Mrk
