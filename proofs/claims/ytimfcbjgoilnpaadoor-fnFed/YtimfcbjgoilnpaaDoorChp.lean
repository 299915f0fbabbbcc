/-
  Chunks that are read: what is told of a text, as a function; the chunks of pieces are told again whatever stands behind them, and of a cut text more is asked for.
-/
import Derived.Test.YtimfcbjgoilnpaaDoorCkm
import Derived.Test.YtimfcbjgoilnpaaDoorHxn
namespace Go.Proofs.YtimfcbjgoilnpaaDoor.Chp
open Go.RowKit
open Go.Proofs.YtimfcbjgoilnpaaDoor.Byt (hexv)
open Go.Proofs.YtimfcbjgoilnpaaDoor.Hxt (hd hexT hexT_one hexT_more hexT_len hexT_pos)
open Go.Proofs.YtimfcbjgoilnpaaDoor.Hxn (hxL hxL_snoc)
open Go.Proofs.YtimfcbjgoilnpaaDoor.Ckm (chk chkL sumS)

/-- How many bytes of a size stand ahead, none where one is no digit. -/
def scanE : List UInt8 → Nat → Option Nat
  | [], k => some k
  | c :: r, k => if k < 5 ∧ c ≠ 13 then (if hexv (c.toNat : Int) < 0 then none else scanE r (k + 1)) else some k
/-- Whether 13 and 10 stand ahead: 0 they do, 1 they may come yet, 2 not. -/
def expC : List UInt8 → Int
  | [] => 1
  | a :: r => if a = 13 then (match r with | [] => 1 | b :: _ => if b = 10 then 0 else 2) else 2
/-- What is told of a text of chunks: the body, the bytes taken, the code. -/
def chunksL : Nat → List UInt8 → List UInt8 → Nat → Nat → List UInt8 × Nat × Int
  | 0, _, _, _, _ => ([], 0, 2)
  | f + 1, s, b, q, p =>
    match scanE s 0 with
    | none => ([], 0, 2)
    | some k =>
      if 4 < k ∨ (k = 0 ∧ s ≠ []) then ([], 0, 2)
      else if k < s.length ∧ (300 < b.length + hxL (s.take k) ∨ (0 < hxL (s.take k) ∧ p = 60)) then ([], 0, 2)
      else if expC (s.drop k) ≠ 0 then ([], 0, expC (s.drop k))
      else if (s.drop (k + 2)).length < hxL (s.take k) then ([], 0, 1)
      else if expC ((s.drop (k + 2)).drop (hxL (s.take k))) ≠ 0 then ([], 0, expC ((s.drop (k + 2)).drop (hxL (s.take k))))
      else if hxL (s.take k) = 0 then (b, q + k + 4, 0)
      else chunksL f ((s.drop (k + 2)).drop (hxL (s.take k) + 2)) (b ++ (s.drop (k + 2)).take (hxL (s.take k))) (q + k + 4 + hxL (s.take k)) (p + 1)

theorem hd_is : ∀ d : Nat, d < 16 → hexv ((hd d).toNat : Int) = (d : Int) ∧ hd d ≠ 13 := by decide +kernel
theorem hex_all (n : Nat) : ∀ c ∈ hexT n, 0 ≤ hexv (c.toNat : Int) ∧ c ≠ 13 := by
  induction n using Nat.strongRecOn with
  | ind n ih =>
    by_cases h : n < 16
    · rw [hexT_one h]
      intro c hc
      rw [List.mem_singleton.1 hc]
      obtain ⟨h1, h2⟩ := hd_is n h
      exact ⟨by rw [h1]; omega, h2⟩
    · rw [hexT_more h]
      intro c hc
      rcases List.mem_append.1 hc with hc | hc
      · exact ih _ (by omega) c hc
      · rw [List.mem_singleton.1 hc]
        obtain ⟨h1, h2⟩ := hd_is (n % 16) (Nat.mod_lt _ (by omega))
        exact ⟨by rw [h1]; omega, h2⟩
theorem hex_val (n : Nat) : hxL (hexT n) = n := by
  induction n using Nat.strongRecOn with
  | ind n ih =>
    by_cases h : n < 16
    · rw [hexT_one h]
      show 16 * 0 + (hexv ((hd n).toNat : Int)).toNat = n
      rw [(hd_is n h).1]; omega
    · rw [hexT_more h, hxL_snoc, ih _ (by omega), (hd_is (n % 16) (Nat.mod_lt _ (by omega))).1]
      omega
theorem scan_app : ∀ (h : List UInt8) (j : Nat) (r : List UInt8), (∀ c ∈ h, 0 ≤ hexv (c.toNat : Int) ∧ c ≠ 13) → j + h.length ≤ 5 → (r = [] ∨ ∃ t, r = 13 :: t) → scanE (h ++ r) j = some (j + h.length)
  | [], j, r, _, _, hr => by
    rcases hr with rfl | ⟨t, rfl⟩
    · rfl
    · show scanE (13 :: t) j = _
      unfold scanE
      rw [if_neg (by simp)]; rfl
  | c :: h, j, r, hc, hl, hr => by
    obtain ⟨h1, h2⟩ := hc c (List.mem_cons_self ..)
    have hl' : j + 1 + h.length ≤ 5 := by simp at hl; omega
    show scanE (c :: (h ++ r)) j = _
    unfold scanE
    rw [if_pos ⟨by simp at hl; omega, h2⟩, if_neg (by omega), scan_app h (j + 1) r (fun x hx => hc x (List.mem_cons_of_mem _ hx)) hl' hr]
    simp; omega

theorem hex_len {n : Nat} (h : n ≤ 300) : (hexT n).length ≤ 3 := hexT_len 2 n (by omega)

/-- A size and its line's end, with what stands behind. -/
theorem size_step (h : List UInt8) (n : Nat) (r b : List UInt8) (q p f : Nat) (hall : ∀ c ∈ h, 0 ≤ hexv (c.toNat : Int) ∧ c ≠ 13) (h1 : 1 ≤ h.length) (h4 : h.length ≤ 4) (hv : hxL h = n) (hb : b.length + n ≤ 300) (hp : n = 0 ∨ p < 60) :
    chunksL (f + 1) (h ++ 13 :: 10 :: r) b q p = if r.length < n then ([], 0, 1) else if expC (r.drop n) ≠ 0 then ([], 0, expC (r.drop n)) else if n = 0 then (b, q + h.length + 4, 0) else chunksL f (r.drop (n + 2)) (b ++ r.take n) (q + h.length + 4 + n) (p + 1) := by
  have hs := scan_app h 0 (13 :: 10 :: r) hall (by omega) (.inr ⟨_, rfl⟩)
  rw [Nat.zero_add] at hs
  have ht : (h ++ 13 :: 10 :: r).take h.length = h := by simp
  have hd0 : (h ++ 13 :: 10 :: r).drop h.length = 13 :: 10 :: r := by simp
  have hd2 : (h ++ 13 :: 10 :: r).drop (h.length + 2) = r := by
    rw [← List.drop_drop, hd0]; rfl
  have hl : (h ++ 13 :: 10 :: r).length = h.length + 2 + r.length := by simp; omega
  have he : expC (13 :: 10 :: r) = 0 := by simp [expC]
  rw [chunksL]
  rw [hs]
  dsimp only
  rw [ht, hd0, hd2, hv, he]
  rw [if_neg (by omega), if_neg (by omega), if_neg (by simp)]

theorem chunk_one (x : ByteArray) (r b : List UInt8) (q p f : Nat) (hx : x.size ≠ 0) (hb : b.length + x.size ≤ 300) (hp : p < 60) :
    chunksL (f + 1) (chk x ++ r) b q p = chunksL f r (b ++ x.data.toList) (q + (chk x).length) (p + 1) := by
  have hxl : x.data.toList.length = x.size := by simp
  have e : chk x ++ r = hexT x.size ++ 13 :: 10 :: (x.data.toList ++ 13 :: 10 :: r) := by unfold chk; simp
  have hl : (chk x).length = (hexT x.size).length + 4 + x.size := by unfold chk; simp; omega
  rw [e, size_step _ x.size _ b q p f (hex_all _) (hexT_pos _) (by have := hex_len (n := x.size) (by omega); omega) (hex_val _) hb (.inr hp)]
  have hd0 : (x.data.toList ++ 13 :: 10 :: r).drop x.size = 13 :: 10 :: r := by rw [← hxl]; simp
  have hd2 : (x.data.toList ++ 13 :: 10 :: r).drop (x.size + 2) = r := by rw [← List.drop_drop, hd0]; rfl
  have ht : (x.data.toList ++ 13 :: 10 :: r).take x.size = x.data.toList := by rw [← hxl]; simp
  rw [hd0, hd2, ht, hl]
  rw [if_neg (by simp), if_neg (by simp [expC]), if_neg hx]
  congr 1
  omega

theorem chunk_end (r b : List UInt8) (q p f : Nat) (hb : b.length ≤ 300) : chunksL (f + 1) (48 :: 13 :: 10 :: 13 :: 10 :: r) b q p = (b, q + 5, 0) := by
  have := size_step [48] 0 (13 :: 10 :: r) b q p f (by decide) (by decide) (by decide) (by decide) (by omega) (.inl rfl)
  rw [show (48 :: 13 :: 10 :: 13 :: 10 :: r : List UInt8) = [48] ++ 13 :: 10 :: (13 :: 10 :: r) from rfl, this]
  simp [expC]

/-- A size without its line's end: more is asked for. -/
theorem size_cut (h : List UInt8) (b : List UInt8) (q p f : Nat) (hall : ∀ c ∈ h, 0 ≤ hexv (c.toNat : Int) ∧ c ≠ 13) (h4 : h.length ≤ 4) : chunksL (f + 1) h b q p = ([], 0, 1) := by
  have hs := scan_app h 0 [] hall (by omega) (.inl rfl)
  rw [List.append_nil, Nat.zero_add] at hs
  rw [chunksL]
  rw [hs]
  dsimp only
  rw [if_neg (by rintro (h1 | ⟨h1, h2⟩); · omega
                 · exact h2 (List.length_eq_zero_iff.1 h1)), if_neg (by omega), List.drop_length]
  rw [if_pos (by decide)]
  rfl
theorem size_cut13 (h : List UInt8) (n : Nat) (b : List UInt8) (q p f : Nat) (hall : ∀ c ∈ h, 0 ≤ hexv (c.toNat : Int) ∧ c ≠ 13) (h1 : 1 ≤ h.length) (h4 : h.length ≤ 4) (hv : hxL h = n) (hb : b.length + n ≤ 300) (hp : n = 0 ∨ p < 60) : chunksL (f + 1) (h ++ [13]) b q p = ([], 0, 1) := by
  have hs := scan_app h 0 [13] hall (by omega) (.inr ⟨_, rfl⟩)
  rw [Nat.zero_add] at hs
  have ht : (h ++ [13]).take h.length = h := by simp
  have hd0 : (h ++ [13]).drop h.length = [13] := by simp
  rw [chunksL]
  rw [hs]
  dsimp only
  rw [ht, hd0, hv]
  rw [if_neg (by omega), if_neg (by omega), if_pos (by decide)]
  rfl

theorem cut_cases (h y : List UInt8) (j : Nat) (hj : j < (h ++ 13 :: 10 :: y).length) : (∃ i, (h ++ 13 :: 10 :: y).take j = h.take i) ∨ (h ++ 13 :: 10 :: y).take j = h ++ [13] ∨ ∃ i, i < y.length ∧ (h ++ 13 :: 10 :: y).take j = h ++ 13 :: 10 :: y.take i := by
  by_cases h1 : j ≤ h.length
  · exact .inl ⟨j, List.take_append_of_le_length h1⟩
  · obtain ⟨i, rfl⟩ : ∃ i, j = h.length + i := ⟨j - h.length, by omega⟩
    have e : (h ++ 13 :: 10 :: y).take (h.length + i) = h ++ (13 :: 10 :: y).take i := by rw [List.take_append, List.take_of_length_le (by omega), Nat.add_sub_cancel_left]
    rw [e]
    match i, h1, hj with
    | 0, h1, _ => omega
    | 1, _, _ => exact .inr (.inl rfl)
    | i + 2, _, hj => exact .inr (.inr ⟨i, by simp at hj; omega, rfl⟩)

theorem chunk_cut (x : ByteArray) (b : List UInt8) (q p f j : Nat) (hb : b.length + x.size ≤ 300) (hp : p < 60) (hj : j < (chk x).length) : chunksL (f + 1) ((chk x).take j) b q p = ([], 0, 1) := by
  have hxl : x.data.toList.length = x.size := by simp
  have h3 := hex_len (n := x.size) (by omega)
  unfold chk at hj ⊢
  rcases cut_cases (hexT x.size) (x.data.toList ++ [13, 10]) j hj with ⟨i, e⟩ | e | ⟨i, hi, e⟩
  · rw [e]
    exact size_cut _ b q p f (fun c hc => hex_all _ c (List.mem_of_mem_take hc)) (by rw [List.length_take]; omega)
  · rw [e]
    exact size_cut13 _ x.size b q p f (hex_all _) (hexT_pos _) (by omega) (hex_val _) hb (.inr hp)
  · rw [e, size_step _ x.size _ b q p f (hex_all _) (hexT_pos _) (by omega) (hex_val _) hb (.inr hp)]
    rw [List.length_append] at hi
    have hi' : i < x.size + 2 := by rw [hxl] at hi; exact hi
    by_cases h1 : i < x.size
    · rw [if_pos (by rw [List.length_take, List.length_append]; omega)]
    · obtain ⟨m, rfl⟩ : ∃ m, i = x.data.toList.length + m := ⟨i - x.size, by omega⟩
      have e2 : (x.data.toList ++ [13, 10]).take (x.data.toList.length + m) = x.data.toList ++ [13, 10].take m := by rw [List.take_append, List.take_of_length_le (by omega), Nat.add_sub_cancel_left]
      have hd0 : (x.data.toList ++ [13, 10].take m).drop x.size = [13, 10].take m := by rw [← hxl]; simp
      rw [e2, hd0, if_neg (by rw [List.length_append]; omega)]
      rcases (show m = 0 ∨ m = 1 by omega) with rfl | rfl
      · rw [if_pos (by decide)]; rfl
      · rw [if_pos (by decide)]; rfl
theorem end_cut (b : List UInt8) (q p f j : Nat) (hb : b.length ≤ 300) (hj : j < 5) : chunksL (f + 1) (([48, 13, 10, 13, 10] : List UInt8).take j) b q p = ([], 0, 1) := by
  rcases (show j = 0 ∨ j = 1 ∨ j = 2 ∨ j = 3 ∨ j = 4 by omega) with rfl | rfl | rfl | rfl | rfl
  · exact size_cut [] b q p f (by decide) (by decide)
  · exact size_cut [48] b q p f (by decide) (by decide)
  · exact size_cut13 [48] 0 b q p f (by decide) (by decide) (by decide) (by decide) (by omega) (.inl rfl)
  · have := size_step [48] 0 [] b q p f (by decide) (by decide) (by decide) (by decide) (by omega) (.inl rfl)
    exact this.trans (by simp [expC])
  · have := size_step [48] 0 [13] b q p f (by decide) (by decide) (by decide) (by decide) (by omega) (.inl rfl)
    exact this.trans (by simp [expC])

/-- The chunks of pieces are told again, whatever stands behind them. -/
theorem chunks_again : ∀ (l : List ByteArray) (r b : List UInt8) (q p f : Nat), (∀ x ∈ l, x.size ≠ 0) → b.length + sumS l ≤ 300 → p + l.length ≤ 60 → l.length < f →
    chunksL f (chkL l ++ (48 :: 13 :: 10 :: 13 :: 10 :: r)) b q p = (b ++ l.flatMap (fun x => x.data.toList), q + (chkL l).length + 5, 0)
  | [], r, b, q, p, f, _, hb, _, hf => by
    obtain ⟨g, rfl⟩ : ∃ g, f = g + 1 := ⟨f - 1, by simp at hf; omega⟩
    have := chunk_end r b q p g (by simp [sumS] at hb; omega)
    simpa [chkL] using this
  | x :: l, r, b, q, p, f, hx, hb, hp, hf => by
    obtain ⟨g, rfl⟩ : ∃ g, f = g + 1 := ⟨f - 1, by simp at hf; omega⟩
    have hs : sumS (x :: l) = x.size + sumS l := by simp [sumS]
    have hxl : x.data.toList.length = x.size := by simp
    rw [hs] at hb
    have e : chkL (x :: l) ++ (48 :: 13 :: 10 :: 13 :: 10 :: r) = chk x ++ (chkL l ++ (48 :: 13 :: 10 :: 13 :: 10 :: r)) := by simp [chkL]
    rw [e, chunk_one x _ b q p g (hx x (List.mem_cons_self ..)) (by omega) (by simp at hp; omega)]
    rw [chunks_again l r _ _ _ g (fun y hy => hx y (List.mem_cons_of_mem _ hy)) (by rw [List.length_append, hxl]; omega) (by simp at hp; omega) (by simp at hf; omega)]
    have hl : (chkL (x :: l)).length = (chk x).length + (chkL l).length := by simp [chkL]
    rw [hl]
    simp; omega

/-- Of the chunks of pieces, cut, more is asked for. -/
theorem chunks_cut : ∀ (l : List ByteArray) (b : List UInt8) (q p f j : Nat), (∀ x ∈ l, x.size ≠ 0) → b.length + sumS l ≤ 300 → p + l.length ≤ 60 → l.length < f → j < (chkL l).length + 5 →
    chunksL f ((chkL l ++ [48, 13, 10, 13, 10]).take j) b q p = ([], 0, 1)
  | [], b, q, p, f, j, _, hb, _, hf, hj => by
    obtain ⟨g, rfl⟩ : ∃ g, f = g + 1 := ⟨f - 1, by simp at hf; omega⟩
    have := end_cut b q p g j (by simp [sumS] at hb; omega) (by simpa [chkL] using hj)
    simpa [chkL] using this
  | x :: l, b, q, p, f, j, hx, hb, hp, hf, hj => by
    obtain ⟨g, rfl⟩ : ∃ g, f = g + 1 := ⟨f - 1, by simp at hf; omega⟩
    have hs : sumS (x :: l) = x.size + sumS l := by simp [sumS]
    have hxl : x.data.toList.length = x.size := by simp
    rw [hs] at hb
    have e : chkL (x :: l) ++ [48, 13, 10, 13, 10] = chk x ++ (chkL l ++ [48, 13, 10, 13, 10]) := by simp [chkL]
    have hl : (chkL (x :: l)).length = (chk x).length + (chkL l).length := by simp [chkL]
    rw [hl] at hj
    rw [e]
    by_cases h1 : j < (chk x).length
    · rw [List.take_append_of_le_length (by omega)]
      exact chunk_cut x b q p g j (by omega) (by simp at hp; omega) h1
    · obtain ⟨i, rfl⟩ : ∃ i, j = (chk x).length + i := ⟨j - (chk x).length, by omega⟩
      have e2 : (chk x ++ (chkL l ++ [48, 13, 10, 13, 10])).take ((chk x).length + i) = chk x ++ (chkL l ++ [48, 13, 10, 13, 10]).take i := by rw [List.take_append, List.take_of_length_le (by omega), Nat.add_sub_cancel_left]
      rw [e2, chunk_one x _ b q p g (hx x (List.mem_cons_self ..)) (by omega) (by simp at hp; omega)]
      exact chunks_cut l _ _ _ g i (fun y hy => hx y (List.mem_cons_of_mem _ hy)) (by rw [List.length_append, hxl]; omega) (by simp at hp; omega) (by simp at hf; omega) (by omega)

end Go.Proofs.YtimfcbjgoilnpaaDoor.Chp
