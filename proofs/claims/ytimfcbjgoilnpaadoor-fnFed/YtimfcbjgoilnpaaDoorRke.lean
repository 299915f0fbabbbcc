/-
  Walk: impl.ReadChunks.
-/
import Derived.Test.YtimfcbjgoilnpaaDoorRkd
import Derived.Deep.LoopGhost
import Derived.Laws.EntriesVeiled
namespace Go.Proofs.YtimfcbjgoilnpaaDoor.Rkb
open Go.RowKit
open Go.Proofs.YtimfcbjgoilnpaaDoor.Own
open Go.Proofs.YtimfcbjgoilnpaaDoor.Hex (Tab)
open Go.Proofs.YtimfcbjgoilnpaaDoor.Hxn (hxL)
open Go.Proofs.YtimfcbjgoilnpaaDoor.Chp (expC chunksL)
open Go.Proofs.YtimfcbjgoilnpaaDoor.Rka

/-- What is told of a text of chunks. -/
def rcL (s : ByteArray) : List UInt8 × Nat × Int := chunksL (s.size + 1) s.data.toList [] 0 0
def rcV (s : ByteArray) : Value := .tuple #[.string ⟨(rcL s).1.toArray⟩, .int .i64 ((rcL s).2.1 : Nat), .int .i64 (rcL s).2.2]
theorem rcV_is {s : ByteArray} {b : List UInt8} {q : Nat} {c : Int} (h : rcL s = (b, q, c)) : rcV s = .tuple #[.string ⟨b.toArray⟩, .int .i64 (q : Int), .int .i64 c] := by unfold rcV; rw [h]

/-- What the state's rest tells is what is told of the whole. -/
def St (s t : ByteArray) (x n p : Nat) (b : List UInt8) : Prop :=
  (x = 0 → ∃ f, t.size < f ∧ rcL s = chunksL f t.data.toList b (s.size - t.size) p) ∧
  (x = 1 → b.length + n ≤ 300 ∧ ∃ f, t.size < f ∧ rcL s = sizeEndV f t.data.toList b (s.size - t.size) p n) ∧
  (x = 2 → b.length + n ≤ 300 ∧ ∃ f, t.size < f ∧ rcL s = pieceV f t.data.toList b (s.size - t.size) p n) ∧
  (x = 3 → ∃ f, t.size < f ∧ rcL s = endV f t.data.toList b (s.size - t.size) p n) ∧
  (x = 4 → rcL s = (b, s.size - t.size, 0))
theorem len_eq (t : ByteArray) : t.data.toList.length = t.size := by simp
theorem drop_eq (t : ByteArray) (k : Nat) : (t.extract k t.size).data.toList = t.data.toList.drop k := by
  rw [Hdg.ext_list, List.take_of_length_le (by rw [len_eq]; omega)]
theorem drop_size (t : ByteArray) (k : Nat) : (t.extract k t.size).size = t.size - k := by rw [ByteArray.size_extract]; omega

theorem st_begin (s : ByteArray) : St s s 0 0 0 [] :=
  ⟨fun _ => ⟨s.size + 1, by omega, by rw [Nat.sub_self]; rfl⟩, fun h => absurd h (by omega), fun h => absurd h (by omega), fun h => absurd h (by omega), fun h => absurd h (by omega)⟩
theorem st_more {s t : ByteArray} {n p : Nat} {b : List UInt8} (h : St s t 0 n p b) (hx : hxN t.data.toList = t.size) (h4 : t.size ≤ 4) : rcL s = ([], 0, 1) := by
  obtain ⟨f, hf, e⟩ := h.1 rfl
  obtain ⟨g, rfl⟩ : ∃ g, f = g + 1 := ⟨f - 1, by omega⟩
  rw [e]
  exact size_more g _ _ _ _ (by rw [len_eq]; exact hx) (by omega)
theorem st_none {s t : ByteArray} {n p : Nat} {b : List UInt8} (h : St s t 0 n p b) (hx : (hxN t.data.toList = 0 ∧ t.size ≠ 0) ∨ 4 < hxN t.data.toList) : rcL s = ([], 0, 2) := by
  obtain ⟨f, hf, e⟩ := h.1 rfl
  obtain ⟨g, rfl⟩ : ∃ g, f = g + 1 := ⟨f - 1, by omega⟩
  rw [e]
  rcases hx with ⟨h0, h1⟩ | h1
  · exact size_none g _ _ _ _ h0 (fun e => h1 (by have := len_eq t; rw [e] at this; simpa using this.symm))
  · exact size_long g _ _ _ _ h1
theorem st_great {s t : ByteArray} {n p : Nat} {b : List UInt8} (h : St s t 0 n p b) (h1 : 1 ≤ hxN t.data.toList) (h4 : hxN t.data.toList ≤ 4) (hl : hxN t.data.toList < t.size) (hg : 300 < b.length + hxL (t.data.toList.take (hxN t.data.toList)) ∨ (0 < hxL (t.data.toList.take (hxN t.data.toList)) ∧ p = 60)) : rcL s = ([], 0, 2) := by
  obtain ⟨f, hf, e⟩ := h.1 rfl
  obtain ⟨g, rfl⟩ : ∃ g, f = g + 1 := ⟨f - 1, by omega⟩
  rw [e]
  exact size_great g _ _ _ _ h1 h4 (by rw [len_eq]; exact hl) hg
theorem st_goes {s t : ByteArray} {n p P : Nat} {b : List UInt8} (h : St s t 0 n p b) (hts : t.size ≤ s.size) (h1 : 1 ≤ hxN t.data.toList) (h4 : hxN t.data.toList ≤ 4) (hl : hxN t.data.toList < t.size) (hg : ¬ (300 < b.length + hxL (t.data.toList.take (hxN t.data.toList)) ∨ (0 < hxL (t.data.toList.take (hxN t.data.toList)) ∧ p = 60))) (hP : 0 < hxL (t.data.toList.take (hxN t.data.toList)) → P = p + 1) :
    St s (t.extract (hxN t.data.toList) t.size) 1 (hxL (t.data.toList.take (hxN t.data.toList))) P b := by
  obtain ⟨f, hf, e⟩ := h.1 rfl
  obtain ⟨g, rfl⟩ : ∃ g, f = g + 1 := ⟨f - 1, by omega⟩
  rw [size_goes g _ _ _ _ P h1 h4 (by rw [len_eq]; exact hl) hg hP] at e
  refine ⟨fun h => absurd h (by omega), fun _ => ⟨by omega, g, by rw [drop_size]; omega, ?_⟩, fun h => absurd h (by omega), fun h => absurd h (by omega), fun h => absurd h (by omega)⟩
  rw [e, drop_eq, drop_size, show s.size - (t.size - hxN t.data.toList) = s.size - t.size + hxN t.data.toList by omega]
theorem st1 {s t : ByteArray} {n p : Nat} {b : List UInt8} (h : St s t 1 n p b) (hts : t.size ≤ s.size) : (∀ c, expC t.data.toList = c → c ≠ 0 → rcL s = ([], 0, c)) ∧ (expC t.data.toList = 0 → 2 ≤ t.size ∧ St s (t.extract 2 t.size) 2 n p b) := by
  obtain ⟨hb, f, hf, e⟩ := h.2.1 rfl
  refine ⟨fun c hc h0 => e.trans (more_end hc h0).1, fun hc => ?_⟩
  have hl : 2 ≤ t.size := by have := Chp.exp_len hc; rwa [len_eq] at this
  rw [(goes_end hc).1] at e
  refine ⟨hl, fun h => absurd h (by omega), fun h => absurd h (by omega), fun _ => ⟨hb, f, by rw [drop_size]; omega, ?_⟩, fun h => absurd h (by omega), fun h => absurd h (by omega)⟩
  rw [e, drop_eq, drop_size, show s.size - (t.size - 2) = s.size - t.size + 2 by omega]
theorem st2 {s t : ByteArray} {n p : Nat} {b : List UInt8} (h : St s t 2 n p b) (hts : t.size ≤ s.size) : (t.size < n → rcL s = ([], 0, 1)) ∧ (n ≤ t.size → (b ++ t.data.toList.take n).length ≤ 300 ∧ St s (t.extract n t.size) 3 n p (b ++ t.data.toList.take n)) := by
  obtain ⟨hb, f, hf, e⟩ := h.2.2.1 rfl
  unfold pieceV at e
  rw [len_eq] at e
  refine ⟨fun hl => by rw [e, if_pos hl], fun hl => ?_⟩
  rw [if_neg (by omega)] at e
  refine ⟨by rw [List.length_append, List.length_take]; omega, fun h => absurd h (by omega), fun h => absurd h (by omega), fun h => absurd h (by omega), fun _ => ⟨f, by rw [drop_size]; omega, ?_⟩, fun h => absurd h (by omega)⟩
  rw [e, drop_eq, drop_size, show s.size - (t.size - n) = s.size - t.size + n by omega]
theorem st3 {s t : ByteArray} {n p : Nat} {b : List UInt8} (h : St s t 3 n p b) (hts : t.size ≤ s.size) : (∀ c, expC t.data.toList = c → c ≠ 0 → rcL s = ([], 0, c)) ∧ (expC t.data.toList = 0 → 2 ≤ t.size ∧ St s (t.extract 2 t.size) (if n = 0 then 4 else 0) n p b) := by
  obtain ⟨f, hf, e⟩ := h.2.2.2.1 rfl
  refine ⟨fun c hc h0 => e.trans (more_end hc h0).2, fun hc => ?_⟩
  have hl : 2 ≤ t.size := by have := Chp.exp_len hc; rwa [len_eq] at this
  refine ⟨hl, ?_⟩
  by_cases h0 : n = 0
  · rw [(goes_end hc).2.1 h0] at e
    rw [if_pos h0]
    refine ⟨fun h => absurd h (by omega), fun h => absurd h (by omega), fun h => absurd h (by omega), fun h => absurd h (by omega), fun _ => ?_⟩
    rw [e, drop_size, show s.size - (t.size - 2) = s.size - t.size + 2 by omega]
  · rw [(goes_end hc).2.2 h0] at e
    rw [if_neg h0]
    refine ⟨fun _ => ⟨f, by rw [drop_size]; omega, ?_⟩, fun h => absurd h (by omega), fun h => absurd h (by omega), fun h => absurd h (by omega), fun h => absurd h (by omega)⟩
    rw [e, drop_eq, drop_size, show s.size - (t.size - 2) = s.size - t.size + 2 by omega]

/-- The table of the methods. -/
def Tkr (w : World) (B : Nat) : Prop :=
  w.cell? ⟨B, 0, none⟩ = some (.func (.func 39) #[] #[]) ∧ w.cell? ⟨B, 1, none⟩ = some (.func (.func 40) #[] #[]) ∧
  w.cell? ⟨B, 2, none⟩ = some (.func (.func 41) #[] #[]) ∧ w.cell? ⟨B, 3, none⟩ = some (.func (.func 42) #[] #[])
theorem Tkr.below {w w' : World} {B : Nat} (h : Tkr w B) (hb : Below (B + 1) w w') : Tkr w' B := by
  have e : ∀ i, w'.cell? ⟨B, i, none⟩ = w.cell? ⟨B, i, none⟩ := fun i => hb.cell (p := ⟨B, i, none⟩) (by show B < B + 1; omega)
  exact ⟨(e 0).trans h.1, (e 1).trans h.2.1, (e 2).trans h.2.2.1, (e 3).trans h.2.2.2⟩

def Rin (s : ByteArray) (w0 : World) (m : Nat) (wr : World) : Prop :=
  Below w0.heap.size w0 wr ∧ Tkr wr w0.heap.size ∧ ∃ (x n p : Nat) (t : ByteArray) (b : List UInt8), x ≤ 4 ∧ m = 2 * t.size + (4 - x) ∧ Rdr wr (w0.heap.size + 1) t x n p b ∧ t.size ≤ s.size ∧ b.length ≤ 300 ∧ p ≤ 60 ∧ St s t x n p b
theorem Rin.next {s : ByteArray} {w0 wr w1 : World} {x n p : Nat} {t : ByteArray} {b : List UInt8} (hb : Below w0.heap.size w0 wr) (ht : Tkr wr w0.heap.size) (h1 : Below (w0.heap.size + 1) wr w1) (hx : x ≤ 4) (hr : Rdr w1 (w0.heap.size + 1) t x n p b) (hs : t.size ≤ s.size) (hl : b.length ≤ 300) (hp : p ≤ 60) (hst : St s t x n p b) : Rin s w0 (2 * t.size + (4 - x)) w1 :=
  ⟨hb.trans (h1.mono (by omega)), ht.below h1, x, n, p, t, b, hx, rfl, hr, hs, hl, hp, hst⟩
theorem Rin.begin (s : ByteArray) (w : World) (o1 o2 : Nat) : Rin s w (2 * s.size + 4) ((w.alloc (.cells #[.func (.func 39) #[] #[], .func (.func 40) #[] #[], .func (.func 41) #[] #[], .func (.func 42) #[] #[]] o1)).alloc (.cells #[.string s, .int .i64 0, .int .i64 0, .int .i64 0, .slice none 0 0] o2)) := by
  refine ⟨((Below.refl _ _).alloc (Nat.le_refl _) _).alloc (by simp) _, ⟨by simp [go_sem], by simp [go_sem], by simp [go_sem], by simp [go_sem]⟩, 0, 0, 0, s, [], by omega, rfl, ⟨by simp [go_sem], by simp [go_sem], by simp [go_sem], by simp [go_sem], ⟨.slice none 0 0, by simp [go_sem], World.ownsRow_nil _ _ _ _⟩, fun i => by simp [go_sem]⟩, Nat.le_refl _, by simp, by omega, st_begin s⟩

theorem ret3 {a b : Value} (h : a = b) : Ending.returned a = .returned b := by rw [h]

set_option maxHeartbeats 3200000 in
theorem implReadChunks_any (s : ByteArray) (w : World) (hT : Tab w) (hs : s.size ≤ 4000000) :
    Calls Tryd.prog 18 #[.string s] w fun e w' => e = .returned (rcV s) ∧ Below w.heap.size w w' := by
  have HI := Rin.begin s w 57 59
  have HIn : Hid _ := HI
  have HT0 : Hid (Tab w) := hT
  have hg : 0 < w.heap.size := hT.lt
  clear HI hT
  go_enter Tryd.func18, Tryd.ntmps18
  go_wp2_with fail
  go_loopg [7, 8] (2 * s.size + 4) (fun m _ _ wr => Rin s w m wr)
  case atStart => exact HIn.out
  case round =>
    clear HIn
    obtain ⟨hb, ht, x, n, p, t, b, hx, rfl, hr, hts, hl, hp, hst⟩ := hrel
    have HB : Hid (Below w.heap.size w wr) := hb
    have HK : Hid (Tkr wr w.heap.size) := ht
    have HR : Hid (Rdr wr (w.heap.size + 1) t x n p b) := hr
    have HT : Hid (Tab wr) := HT0.out.below hb hg
    obtain ⟨k0, k1, k2, k3⟩ := ht
    obtain ⟨c0, c1, _⟩ := hr
    have HS : Hid (St s t x n p b) := hst
    clear hb hst
    rcases (show x = 0 ∨ x = 1 ∨ x = 2 ∨ x = 3 ∨ x = 4 by omega) with rfl | rfl | rfl | rfl | rfl
    · by_cases hA : hxN t.data.toList = t.size ∧ t.size ≤ 4
      · have HV : Hid (rcV s = _) := rcV_is (st_more HS.out hA.1 hA.2)
        have HC : Hid (∀ v, v = wr → Calls Tryd.prog 39 #[.pointer (some ⟨w.heap.size + 1, 0, none⟩)] v fun e w' => e = .returned (.int .i64 1) ∧ w' = v) := by
          rintro v rfl
          exact takeSize_more _ t _ _ _ _ _ HT.out HR.out (by omega) hA.1 hA.2
        clear hA
        go_wp2_with (go_at_call 39; refine (HC.out _ rfl).mono ?_; rintro e w1 ⟨rfl, hw⟩; obtain rfl := hw.symm)
        go_ret3
        exact ⟨ret3 HV.out.symm, HB.out⟩
      by_cases hN : (hxN t.data.toList = 0 ∧ t.size ≠ 0) ∨ 4 < hxN t.data.toList
      · have HV : Hid (rcV s = _) := rcV_is (st_none HS.out hN)
        have HC : Hid (∀ v, v = wr → Calls Tryd.prog 39 #[.pointer (some ⟨w.heap.size + 1, 0, none⟩)] v fun e w' => e = .returned (.int .i64 2) ∧ w' = v) := by
          rintro v rfl
          exact takeSize_none _ t _ _ _ _ _ HT.out HR.out (by omega) hN
        clear hA hN
        go_wp2_with (go_at_call 39; refine (HC.out _ rfl).mono ?_; rintro e w1 ⟨rfl, hw⟩; obtain rfl := hw.symm)
        go_ret3
        exact ⟨ret3 HV.out.symm, HB.out⟩
      have hle := hxN_le t.data.toList
      rw [len_eq] at hle
      have h1 : 1 ≤ hxN t.data.toList := by omega
      have h4 : hxN t.data.toList ≤ 4 := by omega
      have hlt : hxN t.data.toList < t.size := by omega
      clear hA hN hle
      by_cases hG : 300 < b.length + hxL (t.data.toList.take (hxN t.data.toList)) ∨ (0 < hxL (t.data.toList.take (hxN t.data.toList)) ∧ p = 60)
      · have HV : Hid (rcV s = _) := rcV_is (st_great HS.out h1 h4 hlt hG)
        have HC : Hid (∀ v, v = wr → Calls Tryd.prog 39 #[.pointer (some ⟨w.heap.size + 1, 0, none⟩)] v fun e w' => e = .returned (.int .i64 2) ∧ Below (w.heap.size + 1) v w') := by
          rintro v rfl
          exact takeSize_great _ t _ _ p _ _ HT.out HR.out (by omega) h1 h4 hlt hl (by omega) (by omega) (hG.imp id fun h => ⟨h.1, by omega⟩)
        clear hG h1 h4 hlt
        go_wp2_with (go_at_call 39; refine (HC.out _ rfl).mono ?_; rintro e w1 ⟨rfl, hb1⟩)
        go_ret3
        exact ⟨ret3 HV.out.symm, HB.out.trans (hb1.mono (by omega))⟩
      · have HC : Hid (∀ v, v = wr → Calls Tryd.prog 39 #[.pointer (some ⟨w.heap.size + 1, 0, none⟩)] v fun e w' => e = .returned (.int .i64 0) ∧ Below (w.heap.size + 1) v w' ∧ ∃ P : Nat, P ≤ 60 ∧ (0 < hxL (t.data.toList.take (hxN t.data.toList)) → P = p + 1) ∧ Rdr w' (w.heap.size + 1) (t.extract (hxN t.data.toList) t.size) 1 (hxL (t.data.toList.take (hxN t.data.toList)) : Nat) P b) := by
          rintro v rfl
          exact takeSize_goes _ t _ p _ _ HT.out HR.out (by omega) h1 h4 hlt hl hp hG
        have HN : Hid (∀ w1, Below (w.heap.size + 1) wr w1 → (∃ P : Nat, P ≤ 60 ∧ (0 < hxL (t.data.toList.take (hxN t.data.toList)) → P = p + 1) ∧ Rdr w1 (w.heap.size + 1) (t.extract (hxN t.data.toList) t.size) 1 (hxL (t.data.toList.take (hxN t.data.toList)) : Nat) P b) → Rin s w (2 * (t.extract (hxN t.data.toList) t.size).size + (4 - 1)) w1) := by
          rintro w1 hb1 ⟨P, hP, hPp, hr1⟩
          exact Rin.next HB.out HK.out hb1 (by omega) hr1 (by rw [drop_size]; omega) hl hP (st_goes HS.out hts h1 h4 hlt hG hPp)
        have hm : 2 * (t.extract (hxN t.data.toList) t.size).size + (4 - 1) < 2 * t.size + (4 - 0) := by rw [drop_size]; omega
        clear hG h4 hlt
        go_wp2_with (go_at_call 39; refine (HC.out _ rfl).mono ?_; rintro e w1 ⟨rfl, hb1, hex⟩; have HX : Hid _ := hex; clear hex)
        go_roundg (2 * (t.extract (hxN t.data.toList) t.size).size + (4 - 1))
        case measure => exact hm
        case rel => exact HN.out w1 hb1 HX.out
    · have HC0 := takeLineEnd_any (w.heap.size + 1) t _ _ _ _ _ HR.out (by omega) (by omega) (by omega)
      obtain ⟨hS1, hS2⟩ := st1 HS.out hts
      rcases expC_cases t.data.toList with h | h | h
      · obtain ⟨h2, hst⟩ := hS2 h
        rw [h] at HC0
        have HC : Hid (∀ v, v = wr → Calls Tryd.prog 40 #[.pointer (some ⟨w.heap.size + 1, 0, none⟩)] v fun e w' => e = .returned (.int .i64 0) ∧ Below (w.heap.size + 1) v w' ∧ Rdr w' (w.heap.size + 1) (t.extract 2 t.size) (2 : Nat) n p b) := by
          rintro v rfl
          exact HC0.mono fun e w' hh => ⟨hh.1, hh.2.1, hh.2.2 rfl⟩
        have HN : Hid (∀ w1, Below (w.heap.size + 1) wr w1 → Rdr w1 (w.heap.size + 1) (t.extract 2 t.size) (2 : Nat) n p b → Rin s w (2 * (t.extract 2 t.size).size + (4 - 2)) w1) := fun w1 hb1 hr1 => Rin.next HB.out HK.out hb1 (by omega) hr1 (by rw [drop_size]; omega) hl hp hst
        have hm : 2 * (t.extract 2 t.size).size + (4 - 2) < 2 * t.size + (4 - 1) := by rw [drop_size]; omega
        clear HC0 hS1 hS2 hst h
        go_wp2_with (go_at_call 40; refine (HC.out _ rfl).mono ?_; rintro e w1 ⟨rfl, hb1, hex⟩; have HX : Hid (Rdr w1 (w.heap.size + 1) (t.extract 2 t.size) (2 : Nat) n p b) := hex; clear hex)
        go_roundg (2 * (t.extract 2 t.size).size + (4 - 2))
        case measure => exact hm
        case rel => exact HN.out w1 hb1 HX.out
      · have HV : Hid (rcV s = _) := rcV_is (hS1 1 h (by decide))
        rw [h] at HC0
        have HC : Hid (∀ v, v = wr → Calls Tryd.prog 40 #[.pointer (some ⟨w.heap.size + 1, 0, none⟩)] v fun e w' => e = .returned (.int .i64 1) ∧ Below (w.heap.size + 1) v w') := by
          rintro v rfl
          exact HC0.mono fun e w' hh => ⟨hh.1, hh.2.1⟩
        clear HC0 hS1 hS2 h
        go_wp2_with (go_at_call 40; refine (HC.out _ rfl).mono ?_; rintro e w1 ⟨rfl, hb1⟩)
        go_ret3
        exact ⟨ret3 HV.out.symm, HB.out.trans (hb1.mono (by omega))⟩
      · have HV : Hid (rcV s = _) := rcV_is (hS1 2 h (by decide))
        rw [h] at HC0
        have HC : Hid (∀ v, v = wr → Calls Tryd.prog 40 #[.pointer (some ⟨w.heap.size + 1, 0, none⟩)] v fun e w' => e = .returned (.int .i64 2) ∧ Below (w.heap.size + 1) v w') := by
          rintro v rfl
          exact HC0.mono fun e w' hh => ⟨hh.1, hh.2.1⟩
        clear HC0 hS1 hS2 h
        go_wp2_with (go_at_call 40; refine (HC.out _ rfl).mono ?_; rintro e w1 ⟨rfl, hb1⟩)
        go_ret3
        exact ⟨ret3 HV.out.symm, HB.out.trans (hb1.mono (by omega))⟩
    · obtain ⟨hS1, hS2⟩ := st2 HS.out hts
      by_cases hn : t.size < n
      · have HV : Hid (rcV s = _) := rcV_is (hS1 hn)
        have HC : Hid (∀ v, v = wr → Calls Tryd.prog 41 #[.pointer (some ⟨w.heap.size + 1, 0, none⟩)] v fun e w' => e = .returned (.int .i64 1) ∧ Below (w.heap.size + 1) v w') := by
          rintro v rfl
          exact takePiece_more _ t _ _ _ _ _ HR.out hn
        clear hS1 hS2 hn
        go_wp2_with (go_at_call 41; refine (HC.out _ rfl).mono ?_; rintro e w1 ⟨rfl, hb1⟩)
        go_ret3
        exact ⟨ret3 HV.out.symm, HB.out.trans (hb1.mono (by omega))⟩
      · obtain ⟨hl2, hst⟩ := hS2 (by omega)
        have HC : Hid (∀ v, v = wr → Calls Tryd.prog 41 #[.pointer (some ⟨w.heap.size + 1, 0, none⟩)] v fun e w' => e = .returned (.int .i64 0) ∧ Below (w.heap.size + 1) v w' ∧ Rdr w' (w.heap.size + 1) (t.extract n t.size) (3 : Nat) n p (b ++ t.data.toList.take n)) := by
          rintro v rfl
          exact takePiece_goes _ t _ _ _ _ HR.out (by omega) hl (by omega)
        have HN : Hid (∀ w1, Below (w.heap.size + 1) wr w1 → Rdr w1 (w.heap.size + 1) (t.extract n t.size) (3 : Nat) n p (b ++ t.data.toList.take n) → Rin s w (2 * (t.extract n t.size).size + (4 - 3)) w1) := fun w1 hb1 hr1 => Rin.next HB.out HK.out hb1 (by omega) hr1 (by rw [drop_size]; omega) hl2 hp hst
        have hm : 2 * (t.extract n t.size).size + (4 - 3) < 2 * t.size + (4 - 2) := by rw [drop_size]; omega
        clear hS1 hS2 hst hl2 hn
        go_wp2_with (go_at_call 41; refine (HC.out _ rfl).mono ?_; rintro e w1 ⟨rfl, hb1, hex⟩; have HX : Hid (Rdr w1 (w.heap.size + 1) (t.extract n t.size) (3 : Nat) n p (b ++ t.data.toList.take n)) := hex; clear hex)
        go_roundg (2 * (t.extract n t.size).size + (4 - 3))
        case measure => exact hm
        case rel => exact HN.out w1 hb1 HX.out
    · have HC0 := takePieceEnd_any (w.heap.size + 1) t _ _ _ _ HR.out (by omega)
      obtain ⟨hS1, hS2⟩ := st3 HS.out hts
      rcases expC_cases t.data.toList with h | h | h
      · obtain ⟨h2, hst⟩ := hS2 h
        rw [h] at HC0
        obtain ⟨X, hX, hX4⟩ : ∃ X : Nat, X = (if n = 0 then 4 else 0) ∧ (if n = 0 then (4 : Int) else 0) = X := ⟨_, rfl, by split <;> rfl⟩
        rw [← hX] at hst
        rw [hX4] at HC0
        have HC : Hid (∀ v, v = wr → Calls Tryd.prog 42 #[.pointer (some ⟨w.heap.size + 1, 0, none⟩)] v fun e w' => e = .returned (.int .i64 0) ∧ Below (w.heap.size + 1) v w' ∧ Rdr w' (w.heap.size + 1) (t.extract 2 t.size) X n p b) := by
          rintro v rfl
          exact HC0.mono fun e w' hh => ⟨hh.1, hh.2.1, hh.2.2 rfl⟩
        have HN : Hid (∀ w1, Below (w.heap.size + 1) wr w1 → Rdr w1 (w.heap.size + 1) (t.extract 2 t.size) X n p b → Rin s w (2 * (t.extract 2 t.size).size + (4 - X)) w1) := fun w1 hb1 hr1 => Rin.next HB.out HK.out hb1 (by rw [hX]; split <;> omega) hr1 (by rw [drop_size]; omega) hl hp hst
        have hm : 2 * (t.extract 2 t.size).size + (4 - X) < 2 * t.size + (4 - 3) := by rw [drop_size]; omega
        clear HC0 hS1 hS2 hst h hX hX4
        go_wp2_with (go_at_call 42; refine (HC.out _ rfl).mono ?_; rintro e w1 ⟨rfl, hb1, hex⟩; have HX : Hid (Rdr w1 (w.heap.size + 1) (t.extract 2 t.size) X n p b) := hex; clear hex)
        go_roundg (2 * (t.extract 2 t.size).size + (4 - X))
        case measure => exact hm
        case rel => exact HN.out w1 hb1 HX.out
      · have HV : Hid (rcV s = _) := rcV_is (hS1 1 h (by decide))
        rw [h] at HC0
        have HC : Hid (∀ v, v = wr → Calls Tryd.prog 42 #[.pointer (some ⟨w.heap.size + 1, 0, none⟩)] v fun e w' => e = .returned (.int .i64 1) ∧ Below (w.heap.size + 1) v w') := by
          rintro v rfl
          exact HC0.mono fun e w' hh => ⟨hh.1, hh.2.1⟩
        clear HC0 hS1 hS2 h
        go_wp2_with (go_at_call 42; refine (HC.out _ rfl).mono ?_; rintro e w1 ⟨rfl, hb1⟩)
        go_ret3
        exact ⟨ret3 HV.out.symm, HB.out.trans (hb1.mono (by omega))⟩
      · have HV : Hid (rcV s = _) := rcV_is (hS1 2 h (by decide))
        rw [h] at HC0
        have HC : Hid (∀ v, v = wr → Calls Tryd.prog 42 #[.pointer (some ⟨w.heap.size + 1, 0, none⟩)] v fun e w' => e = .returned (.int .i64 2) ∧ Below (w.heap.size + 1) v w') := by
          rintro v rfl
          exact HC0.mono fun e w' hh => ⟨hh.1, hh.2.1⟩
        clear HC0 hS1 hS2 h
        go_wp2_with (go_at_call 42; refine (HC.out _ rfl).mono ?_; rintro e w1 ⟨rfl, hb1⟩)
        go_ret3
        exact ⟨ret3 HV.out.symm, HB.out.trans (hb1.mono (by omega))⟩
    · have HV : Hid (rcV s = _) := rcV_is (HS.out.2.2.2.2 rfl)
      obtain ⟨_, _, _, _, ⟨v, c4, hv⟩, _⟩ := HR.out
      obtain ⟨o, c, rfl⟩ := slice_of hv
      have hcv : (convert 48 9 (.slice o b.length c)).run Tryd.prog wr.drew = .ok (.string ⟨b.toArray⟩) wr.drew := run_text (w.heap.size + 1 + 1) _ b wr.drew (bytes_drew hv 1)
      have hsub : IntKind.i64.wrap ((s.size : Int) - (t.size : Int)) = ((s.size - t.size : Nat) : Int) := by rw [IntKind.wrap_i64]; omega
      clear hv
      go_wp2_with fail
      go_region
      all_goals
        go_wp2_with fail
        go_ret3
        exact ⟨by rw [HV.out]; first | rfl | (congr 1), HB.out.drew⟩

end Go.Proofs.YtimfcbjgoilnpaaDoor.Rkb
