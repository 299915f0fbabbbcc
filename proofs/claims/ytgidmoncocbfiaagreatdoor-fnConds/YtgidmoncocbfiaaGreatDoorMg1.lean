/-
  Slices of bytes that the call itself makes: what an append of bytes leaves, and the text of such a slice.
  Plain facts and small shapes for the texts on fields.
  Walks: impl.UnquoteOf and spec.UnquoteOf tell the same.
  Lists of texts that the call itself makes: what an append of a text leaves, a list without its last, a text of such a list read.
  Walk: spec.l3Trim: a text without blanks at its ends.
  Walks: spec.l3List and spec.ListOf: the parts of a list.
  Walks: the laws' own helpers for lists of texts: laws.markText, eqStringS, markStringS, heldStringS.
-/
import Derived.Test.YtgidmoncocbfiaaGreatDoorProg
import Derived.WalkKit
import Derived.Below
import Derived.Laws.BytesArg
import Derived.WalkLawsBesides
import Derived.WalkSpells
import Derived.Lib.TrimByte
import Derived.Deep.QuietTactic
import Derived.BigQuiet
import Derived.Deep.RegionLaw
namespace Go.Proofs.YtgidmoncocbfiaaGreatDoor.Own
open Go.RowKit

theorem info5 : (Tryz.prog.info? 5).map (fun i => (i.zero, i.size, i.bytes)) = some (some (.int .u8 0), 1, 1) := by kernel_rfl

/-- The slice value v holds the bytes l, in memory of the call's own from block B on. -/
def bytesIn (w : World) (B : Nat) (v : Value) (l : List UInt8) : Prop := w.ownsRow B 5 1 v l.length (l.map fun b => Value.int .u8 (b.toNat : Int))

theorem bytesIn.below {w w' : World} {B : Nat} {v : Value} {l : List UInt8} (h : bytesIn w B v l) (hb : Below w.heap.size w w') : bytesIn w' B v l := by
  refine ⟨h.1, ?_⟩
  rcases h.2 with hn | ⟨g, cap, cur, rfl, hbg, hg, rest⟩
  · exact .inl hn
  · exact .inr ⟨g, cap, cur, rfl, hbg, (hb.block g (Array.getElem?_eq_some_iff.1 hg).1).trans hg, rest⟩

/-- 'string(b)' of such a slice. -/
theorem run_text (B : Nat) (v : Value) (l : List UInt8) (w : World) (h : bytesIn w B v l) : (convert 22 9 v).run Tryz.prog w = .ok (.string ⟨l.toArray⟩) w := by
  have h' := h
  obtain ⟨h1, h2⟩ := h
  rcases h2 with ⟨rfl, h0⟩ | ⟨g, cap, cur, rfl, hbg, hg, hnc, hcm, hcs, htake⟩
  · obtain rfl : l = [] := by simpa using h0
    exact run_convert_bytes_nil w 22 5 Tryz.underlying22 Tryz.underlying5 0 0 9 Tryz.underlying9
  · refine run_convert_bytes_back w 22 9 5 ⟨g, 0, none⟩ cap l Tryz.underlying22 Tryz.underlying5 Tryz.underlying9 (fun j hj => ?_)
    exact World.ownsRow.cells h' (g := g) rfl j _ (by simp [List.getElem?_eq_getElem hj])

theorem bytesIn.alloc {w : World} {B : Nat} {v : Value} {l : List UInt8} (h : bytesIn w B v l) (o : Obj) : bytesIn (w.alloc o) B v l := World.ownsRow.alloc h o

theorem bytes_oneCell (l : List UInt8) : ∀ u ∈ l.map (fun b => Value.int .u8 (b.toNat : Int)), u.oneCell' = true := by
  intro u hu
  obtain ⟨_, _, rfl⟩ := List.mem_map.1 hu
  rfl

/-- 'append(v, news..)' of bytes, for the walk. -/
theorem wpList_append_bytes (w : World) {ops : Array Oper} {rest : List Oper} {o : Oper} {a : Act} {Q : Exit → Act → World → Prop} (hgd : o.guard = none) (s x : Operand)
    (ho : o.op = .call { callee := .builtin .append, args := #[s, x], argTypes := #[22, 22] })
    (B : Nat) (v : Value) (l : List UInt8) (hs : a.eval s = v) (hown : bytesIn w B v l)
    (ad : Addr) (m c : Nat) (news : List UInt8) (hx : a.eval x = .slice (some ad) m c) (hl : news.length = m)
    (hnews : ∀ j u, (news.map fun b => Value.int .u8 (b.toNat : Int))[j]? = some u → w.cell? (ad.add j) = some u)
    (hb : l.length + m ≤ 140737488355328) (hbase : B ≤ w.heap.size) (W : World) (hbel : Below B W w)
    (h : ∀ v' w', bytesIn w' B v' (l ++ news) → Below B W w' → wpList Tryz.prog ops Q rest (a.put o.dst v') w') : wpList Tryz.prog ops Q (o :: rest) a w := by
  obtain ⟨i0, hi, hz0, hz1, hz2⟩ := info_parts info5
  refine wpList_append_own w hgd s x 22 ho B 5 i0 (.int .u8 0) 1 1 Tryz.underlying22 hi hz0 hz1 hz2 rfl (by decide) v l.length _ hs hown ad m c (news.map fun b => Value.int .u8 (b.toNat : Int)) hx (by simp [hl]) hnews (bytes_oneCell news)
    (by unfold maxLen; omega) (by omega) hbase ?_
  intro v' w' hown' hg _
  refine h v' w' ?_ (hbel.grown hg hbase (fun k hk => (World.ownsRow.lt hown k hk).1))
  unfold bytesIn
  rw [List.length_append, List.map_append, hl]
  exact hown'

/-- 'append(v, x)' of one byte, for the walk. -/
theorem wpList_append_one (wr : World) {ops : Array Oper} {rest : List Oper} {o : Oper} {a : Act} {Q : Exit → Act → World → Prop} (hgd : o.guard = none) (s x : Operand)
    (ho : o.op = .call { callee := .builtin .append, args := #[s, x], argTypes := #[22, 22] })
    (B : Nat) (v : Value) (l : List UInt8) (hs : a.eval s = v) (hown : bytesIn wr B v l)
    (X : Int) (c : UInt8) (hX : X = (c.toNat : Int)) (cap : Nat) (hx : a.eval x = .slice (some ⟨wr.heap.size, 0, none⟩) 1 cap)
    (hb : l.length + 1 ≤ 140737488355328) (hbase : B ≤ wr.heap.size) (W : World) (hbel : Below B W wr)
    (h : ∀ v' w', bytesIn w' B v' (l ++ [c]) → Below B W w' → wpList Tryz.prog ops Q rest (a.put o.dst v') w') : wpList Tryz.prog ops Q (o :: rest) a (wr.alloc (.cells #[.int .u8 X] 5)) := by
  subst hX
  refine wpList_append_bytes _ hgd s x ho B v l hs (hown.alloc _) ⟨wr.heap.size, 0, none⟩ 1 cap [c] hx rfl ?_ hb (by simp; omega) W (hbel.alloc hbase _) h
  intro j u hj
  match j, hj with
  | 0, hj => simp at hj; subst hj; simp [Addr.add]

end Go.Proofs.YtgidmoncocbfiaaGreatDoor.Own

namespace Go.Proofs.YtgidmoncocbfiaaGreatDoor.Fbs
open Go.RowKit

theorem len_list (s : ByteArray) : s.data.toList.length = s.size := by simp
theorem at_list (s : ByteArray) (k : Nat) (h : k < s.size) : s.data.toList[k]?.getD 0 = s[k] := by
  have h' : k < s.data.toList.length := by simpa using h
  rw [List.getElem?_eq_getElem h']; rfl
theorem byte_bd (c : UInt8) : 0 ≤ (c.toNat : Int) ∧ (c.toNat : Int) ≤ 255 := by have := c.toNat_lt; omega
theorem app_list (a b : List UInt8) : (⟨a.toArray⟩ : ByteArray) ++ ⟨b.toArray⟩ = ⟨(a ++ b).toArray⟩ := by
  apply ByteArray.ext; simp
theorem ext_one (s : ByteArray) (k : Nat) (h : k < s.size) : s.extract k (k + 1) = ⟨[s[k]].toArray⟩ := by
  apply ByteArray.ext
  apply Array.ext'
  rw [ByteArray.data_extract, Array.toList_extract, List.extract_eq_take_drop]
  rw [show k + 1 - k = 1 from by omega]
  have h' : k < s.data.toList.length := by simpa using h
  rw [List.drop_eq_getElem_cons h']
  rfl
theorem ret_bool {a b : Bool} (h : a = b) : Ending.returned (.bool a) = .returned (.bool b) := by rw [h]
theorem ret_str {a b : ByteArray} (h : a = b) : Ending.returned (.string a) = .returned (.string b) := by rw [h]
theorem all_no {p : UInt8 → Bool} {l : List UInt8} {k : Nat} (h : k < l.length) (hp : p (l[k]?.getD 0) = false) : l.all p = false := by
  rw [List.all_eq_false]
  refine ⟨l[k], List.getElem_mem h, ?_⟩
  rw [List.getElem?_eq_getElem h] at hp
  simpa using hp
theorem all_yes {p : UInt8 → Bool} {l : List UInt8} (h : ∀ j, j < l.length → p (l[j]?.getD 0) = true) : l.all p = true := by
  rw [List.all_eq_true]
  intro c hc
  obtain ⟨j, hj, rfl⟩ := List.mem_iff_getElem.1 hc
  have := h j hj
  rw [List.getElem?_eq_getElem hj] at this
  simpa using this
theorem empty_of {s : ByteArray} (h : s.size = 0) : s = ⟨#[]⟩ := by
  apply ByteArray.ext; exact Array.eq_empty_of_size_eq_zero h

/-- A byte that can be seen, or a blank. -/
def seenB (b : Int) : Bool := decide (32 ≤ b) && decide (b ≤ 126)
def plainB (l : List UInt8) : Bool := l.all (fun c => seenB (c.toNat : Int))

theorem isPlain_any (s : ByteArray) (w : World) (hs : s.size ≤ 2000000) :
    Calls Tryz.prog 62 #[.string s] w fun e w' => e = .returned (.bool (plainB s.data.toList)) ∧ w' = w := by
  go_enter Tryz.func62, Tryz.ntmps62
  go_wp2
  go_loop [3] (fun i => ∃ k : Nat, k ≤ s.size ∧ i = .int .i64 k ∧ Hid (∀ j, j < k → seenB ((s.data.toList[j]?.getD 0).toNat : Int) = true)) (fun i => s.size - (intOf i).toNat)
  case atStart => exact ⟨0, by omega, rfl, fun j hj => absurd hj (by omega)⟩
  case round =>
    obtain ⟨k, hk, rfl, HA⟩ := hrel
    by_cases hlt : k < s.size
    · have e0 := at_list s k hlt
      by_cases hf : 32 ≤ (s[k].toNat : Int) ∧ (s[k].toNat : Int) ≤ 126
      · have HA' : Hid (∀ j, j < k + 1 → seenB ((s.data.toList[j]?.getD 0).toNat : Int) = true) := by
          intro j hj
          by_cases hjk : j = k
          · subst hjk; rw [e0]; unfold seenB; rw [decide_eq_true hf.1, decide_eq_true hf.2]; rfl
          · exact HA.out j (by omega)
        clear HA e0
        obtain ⟨f1, f2⟩ := hf
        go_wp2
        go_round
        case rel => exact ⟨k + 1, by omega, by go_num, HA'⟩
        case measure => simp [intOf]; omega
      · have HF : Hid (plainB s.data.toList = false) := by
          show _ = _
          refine all_no (k := k) (by rw [len_list]; exact hlt) ?_
          rw [e0]; unfold seenB
          rcases (show ¬ 32 ≤ (s[k].toNat : Int) ∨ ¬ (s[k].toNat : Int) ≤ 126 from by omega) with h | h
          · rw [decide_eq_false h]; rfl
          · rw [decide_eq_false h]; simp
        clear HA e0
        rcases (show (s[k].toNat : Int) < 32 ∨ 126 < (s[k].toNat : Int) from by omega) with h | h
        all_goals
          clear hf
          go_wp2
          go_ret
          exact ⟨ret_bool HF.out.symm, rfl⟩
    · have HF : Hid (plainB s.data.toList = true) := by
        show _ = _
        exact all_yes (fun j hj => HA.out j (by rw [len_list] at hj; omega))
      clear HA
      go_wp2
      go_ret
      exact ⟨ret_bool HF.out.symm, rfl⟩

theorem l3Printed_any (s : ByteArray) (w : World) (hs : s.size ≤ 2000000) :
    Calls Tryz.prog 85 #[.string s] w fun e w' => e = .returned (.bool (plainB s.data.toList)) ∧ w' = w := by
  go_enter Tryz.func85, Tryz.ntmps85
  go_wp2
  go_loop [3] (fun i => ∃ k : Nat, k ≤ s.size ∧ i = .int .i64 k ∧ Hid (∀ j, j < k → seenB ((s.data.toList[j]?.getD 0).toNat : Int) = true)) (fun i => s.size - (intOf i).toNat)
  case atStart => exact ⟨0, by omega, rfl, fun j hj => absurd hj (by omega)⟩
  case round =>
    obtain ⟨k, hk, rfl, HA⟩ := hrel
    by_cases hlt : k < s.size
    · have e0 := at_list s k hlt
      by_cases hf : 32 ≤ (s[k].toNat : Int) ∧ (s[k].toNat : Int) ≤ 126
      · have HA' : Hid (∀ j, j < k + 1 → seenB ((s.data.toList[j]?.getD 0).toNat : Int) = true) := by
          intro j hj
          by_cases hjk : j = k
          · subst hjk; rw [e0]; unfold seenB; rw [decide_eq_true hf.1, decide_eq_true hf.2]; rfl
          · exact HA.out j (by omega)
        clear HA e0
        obtain ⟨f1, f2⟩ := hf
        go_wp2
        go_round
        case rel => exact ⟨k + 1, by omega, by go_num, HA'⟩
        case measure => simp [intOf]; omega
      · have HF : Hid (plainB s.data.toList = false) := by
          show _ = _
          refine all_no (k := k) (by rw [len_list]; exact hlt) ?_
          rw [e0]; unfold seenB
          rcases (show ¬ 32 ≤ (s[k].toNat : Int) ∨ ¬ (s[k].toNat : Int) ≤ 126 from by omega) with h | h
          · rw [decide_eq_false h]; rfl
          · rw [decide_eq_false h]; simp
        clear HA e0
        rcases (show (s[k].toNat : Int) < 32 ∨ 126 < (s[k].toNat : Int) from by omega) with h | h
        all_goals
          clear hf
          go_wp2
          go_ret
          exact ⟨ret_bool HF.out.symm, rfl⟩
    · have HF : Hid (plainB s.data.toList = true) := by
        show _ = _
        exact all_yes (fun j hj => HA.out j (by rw [len_list] at hj; omega))
      clear HA
      go_wp2
      go_ret
      exact ⟨ret_bool HF.out.symm, rfl⟩

/-- At most a hundred bytes that can be quoted. -/
def quotable (s : ByteArray) : Bool := decide (s.size ≤ 100) && plainB s.data.toList

end Go.Proofs.YtgidmoncocbfiaaGreatDoor.Fbs

namespace Go.Proofs.YtgidmoncocbfiaaGreatDoor.Unq
open Go.RowKit
open Go.Proofs.YtgidmoncocbfiaaGreatDoor.Own
open Go.Proofs.YtgidmoncocbfiaaGreatDoor.Fbs

/-- What stands within quotes, round by round: up to the place m, from the place k on, acc told so far. -/
def unqF (l : List UInt8) (m : Nat) : Nat → Nat → List UInt8 → Option (List UInt8)
  | 0, _, acc => some acc
  | f + 1, k, acc =>
    if k < m then
      if (l[k]?.getD 0).toNat = 34 then none
      else if (l[k]?.getD 0).toNat = 92 then
        if k + 1 = m then none else unqF l m f (k + 2) (acc ++ [l[k + 1]?.getD 0])
      else unqF l m f (k + 1) (acc ++ [l[k]?.getD 0])
    else some acc

theorem unqF_end {l : List UInt8} {m f k : Nat} {acc : List UInt8} (h : m ≤ k) : unqF l m f k acc = some acc := by
  cases f with
  | zero => rfl
  | succ f => simp only [unqF]; rw [if_neg (by omega)]
theorem unqF_bad {l : List UInt8} {m f k : Nat} {acc : List UInt8} (h : k < m) (hc : (l[k]?.getD 0).toNat = 34) : unqF l m (f + 1) k acc = none := by
  simp only [unqF]; rw [if_pos h, if_pos hc]
theorem unqF_cut {l : List UInt8} {m f k : Nat} {acc : List UInt8} (h : k + 1 = m) (hc : (l[k]?.getD 0).toNat = 92) : unqF l m (f + 1) k acc = none := by
  simp only [unqF]; rw [if_pos (by omega), if_neg (by omega), if_pos hc, if_pos h]
theorem unqF_esc {l : List UInt8} {m f k : Nat} {acc : List UInt8} (h : k + 1 < m) (hc : (l[k]?.getD 0).toNat = 92) : unqF l m (f + 1) k acc = unqF l m f (k + 2) (acc ++ [l[k + 1]?.getD 0]) := by
  simp only [unqF]; rw [if_pos (by omega), if_neg (by omega), if_pos hc, if_neg (by omega)]
theorem unqF_one {l : List UInt8} {m f k : Nat} {acc : List UInt8} (h : k < m) (h1 : (l[k]?.getD 0).toNat ≠ 34) (h2 : (l[k]?.getD 0).toNat ≠ 92) : unqF l m (f + 1) k acc = unqF l m f (k + 1) (acc ++ [l[k]?.getD 0]) := by
  simp only [unqF]; rw [if_pos h, if_neg h1, if_neg h2]

/-- Whether a text stands within quotes. -/
def heldB (l : List UInt8) : Bool := decide (2 ≤ l.length) && decide ((l[0]?.getD 0).toNat = 34) && decide ((l[l.length - 1]?.getD 0).toNat = 34)
def unqO (l : List UInt8) : Option (List UInt8) :=
  if heldB l = true then
    match unqF l (l.length - 1) l.length 1 [] with
    | none => none
    | some r => if r.length ≤ 100 ∧ plainB r = true then some r else none
  else none
def unqV : Option (List UInt8) → Value
  | some r => .tuple #[.string ⟨r.toArray⟩, .bool true]
  | none => .tuple #[.string ⟨#[]⟩, .bool false]
theorem ret_unq {a b : Option (List UInt8)} (h : a = b) : Ending.returned (unqV a) = .returned (unqV b) := by rw [h]

theorem held_facts {s : ByteArray} (h : heldB s.data.toList = true) : ∃ h2 : 2 ≤ s.size, (s[0].toNat : Int) = 34 ∧ (s[s.size - 1].toNat : Int) = 34 := by
  unfold heldB at h
  rw [len_list] at h
  simp only [Bool.and_eq_true, decide_eq_true_eq] at h
  obtain ⟨⟨h1, h2⟩, h3⟩ := h
  refine ⟨h1, ?_, ?_⟩
  · rw [at_list s 0 (by omega)] at h2; omega
  · rw [at_list s (s.size - 1) (by omega)] at h3; omega
theorem held_no {s : ByteArray} (h : heldB s.data.toList = false) : s.size < 2 ∨ ∃ h2 : 2 ≤ s.size, (s[0].toNat : Int) ≠ 34 ∨ ((s[0].toNat : Int) = 34 ∧ (s[s.size - 1].toNat : Int) ≠ 34) := by
  by_cases h2 : 2 ≤ s.size
  · right
    refine ⟨h2, ?_⟩
    unfold heldB at h
    rw [len_list, at_list s 0 (by omega), at_list s (s.size - 1) (by omega), decide_eq_true h2, Bool.true_and] at h
    simp only [Bool.and_eq_false_iff, decide_eq_false_iff_not] at h
    omega
  · left; omega

theorem plain_mem {l : List UInt8} (h : plainB l = true) (j : Nat) (hj : j < l.length) : seenB ((l[j]?.getD 0).toNat : Int) = true := by
  unfold plainB at h
  rw [List.all_eq_true] at h
  have := h l[j] (List.getElem_mem hj)
  rw [List.getElem?_eq_getElem hj]
  exact this
theorem plain_snoc {acc : List UInt8} {c : UInt8} (h : plainB acc = true) (hc : seenB (c.toNat : Int) = true) : plainB (acc ++ [c]) = true := by
  unfold plainB at h ⊢
  rw [List.all_append, h]
  simp [hc]

/-- A text with a byte that can't be seen, within quotes: what is told has it, too, or there is nothing to tell. -/
theorem unqF_plain {l : List UInt8} {m : Nat} : ∀ (f k : Nat) (acc r : List UInt8), m ≤ k + f → unqF l m f k acc = some r → plainB r = true → plainB acc = true ∧ ∀ j, k ≤ j → j < m → seenB ((l[j]?.getD 0).toNat : Int) = true
  | 0, k, acc, r, hm, h, hr => by
    simp only [unqF, Option.some.injEq] at h
    subst h
    exact ⟨hr, fun j h1 h2 => absurd h2 (by omega)⟩
  | f + 1, k, acc, r, hm, h, hr => by
    have hsp : ∀ (c : UInt8), plainB (acc ++ [c]) = true → plainB acc = true ∧ seenB (c.toNat : Int) = true := by
      intro c hc
      unfold plainB at hc ⊢
      rw [List.all_append, Bool.and_eq_true] at hc
      exact ⟨hc.1, by simpa using hc.2⟩
    by_cases hk : k < m
    · by_cases h34 : (l[k]?.getD 0).toNat = 34
      · rw [unqF_bad hk h34] at h; cases h
      · by_cases h92 : (l[k]?.getD 0).toNat = 92
        · by_cases he : k + 1 = m
          · rw [unqF_cut he h92] at h; cases h
          · rw [unqF_esc (by omega) h92] at h
            obtain ⟨a, b⟩ := unqF_plain f (k + 2) _ r (by omega) h hr
            obtain ⟨a1, a2⟩ := hsp _ a
            refine ⟨a1, fun j h1 h2 => ?_⟩
            rcases (show j = k ∨ j = k + 1 ∨ k + 2 ≤ j from by omega) with rfl | rfl | h3
            · rw [h92]; rfl
            · exact a2
            · exact b j h3 h2
        · rw [unqF_one hk h34 h92] at h
          obtain ⟨a, b⟩ := unqF_plain f (k + 1) _ r (by omega) h hr
          obtain ⟨a1, a2⟩ := hsp _ a
          refine ⟨a1, fun j h1 h2 => ?_⟩
          rcases (show j = k ∨ k + 1 ≤ j from by omega) with rfl | h3
          · exact a2
          · exact b j h3 h2
    · rw [unqF_end (by omega)] at h
      simp only [Option.some.injEq] at h
      subst h
      exact ⟨hr, fun j h1 h2 => absurd h2 (by omega)⟩
theorem unq_not_plain {l : List UInt8} (h : plainB l = false) : unqO l = none := by
  unfold unqO
  cases hh : heldB l
  · rfl
  · simp only [if_true]
    cases hu : unqF l (l.length - 1) l.length 1 [] with
    | none => rfl
    | some r =>
      simp only
      by_cases hr : r.length ≤ 100 ∧ plainB r = true
      · exfalso
        obtain ⟨_, b⟩ := unqF_plain l.length 1 [] r (by omega) hu hr.2
        unfold heldB at hh
        simp only [Bool.and_eq_true, decide_eq_true_eq] at hh
        obtain ⟨⟨h1, h2⟩, h3⟩ := hh
        have : plainB l = true := by
          unfold plainB
          refine all_yes fun j hj => ?_
          rcases (show j = 0 ∨ j = l.length - 1 ∨ (1 ≤ j ∧ j < l.length - 1) from by omega) with rfl | rfl | h4
          · rw [h2]; rfl
          · rw [h3]; rfl
          · exact b j h4.1 h4.2
        rw [this] at h; cases h
      · rw [if_neg hr]
/-- Of a text that can be seen what stands within quotes can be, too. -/
theorem unqF_seen {l : List UInt8} {m : Nat} (hl : plainB l = true) (hm : m ≤ l.length) : ∀ (f k : Nat) (acc r : List UInt8), plainB acc = true → unqF l m f k acc = some r → plainB r = true
  | 0, k, acc, r, ha, h => by
    simp only [unqF, Option.some.injEq] at h
    subst h; exact ha
  | f + 1, k, acc, r, ha, h => by
    by_cases hk : k < m
    · by_cases h34 : (l[k]?.getD 0).toNat = 34
      · rw [unqF_bad hk h34] at h; cases h
      · by_cases h92 : (l[k]?.getD 0).toNat = 92
        · by_cases he : k + 1 = m
          · rw [unqF_cut he h92] at h; cases h
          · rw [unqF_esc (by omega) h92] at h
            exact unqF_seen hl hm f (k + 2) _ r (plain_snoc ha (plain_mem hl (k + 1) (by omega))) h
        · rw [unqF_one hk h34 h92] at h
          exact unqF_seen hl hm f (k + 1) _ r (plain_snoc ha (plain_mem hl k (by omega))) h
    · rw [unqF_end (by omega)] at h
      simp only [Option.some.injEq] at h
      subst h; exact ha

theorem shape {w : World} {B : Nat} {v : Value} {l : List UInt8} (h : bytesIn w B v l) : ∃ a c, v = .slice a l.length c := by
  obtain ⟨h1, h2⟩ := h
  rcases h2 with ⟨rfl, h0⟩ | ⟨g, cap, cur, rfl, _⟩
  · exact ⟨none, 0, by rw [h0]⟩
  · exact ⟨_, _, rfl⟩

end Go.Proofs.YtgidmoncocbfiaaGreatDoor.Unq

namespace Go.Proofs.YtgidmoncocbfiaaGreatDoor.Ows
open Go.RowKit

theorem info9 : (Tryz.prog.info? 9).map (fun i => (i.zero, i.size, i.bytes)) = some (some (.string ⟨#[]⟩), 1, 16) := by kernel_rfl

/-- The value v holds the texts l, in memory of the call's own from block B on. -/
def textsIn (w : World) (B : Nat) (v : Value) (l : List ByteArray) : Prop := w.ownsRow B 9 1 v l.length (l.map Value.string)

theorem textsIn.below {w w' : World} {B : Nat} {v : Value} {l : List ByteArray} (h : textsIn w B v l) (hb : Below w.heap.size w w') : textsIn w' B v l := by
  refine ⟨h.1, ?_⟩
  rcases h.2 with hn | ⟨g, cap, cur, rfl, hbg, hg, rest⟩
  · exact .inl hn
  · exact .inr ⟨g, cap, cur, rfl, hbg, (hb.block g (Array.getElem?_eq_some_iff.1 hg).1).trans hg, rest⟩

theorem textsIn.alloc {w : World} {B : Nat} {v : Value} {l : List ByteArray} (h : textsIn w B v l) (o : Obj) : textsIn (w.alloc o) B v l := World.ownsRow.alloc h o

/-- The value's shape. -/
theorem textsIn.form {w : World} {B : Nat} {v : Value} {l : List ByteArray} (h : textsIn w B v l) : ∃ a cap, v = .slice a l.length cap ∧ l.length ≤ cap ∧ cap ≤ maxLen ∧ (l ≠ [] → ∃ g, a = some ⟨g, 0, none⟩ ∧ B ≤ g ∧ g < w.heap.size) := by
  rcases h.2 with ⟨rfl, h0⟩ | ⟨g, cap, cur, rfl, hbg, hg, hnc, hcm, _⟩
  · have hl : l = [] := by simpa using h0
    subst hl
    exact ⟨none, 0, rfl, Nat.le_refl _, by decide, fun h => absurd rfl h⟩
  · exact ⟨_, cap, rfl, hnc, hcm, fun _ => ⟨g, rfl, hbg, (Array.getElem?_eq_some_iff.1 hg).1⟩⟩

/-- A text of such a list. -/
theorem textsIn.at {w : World} {B : Nat} {g n cap : Nat} {l : List ByteArray} (h : textsIn w B (.slice (some ⟨g, 0, none⟩) n cap) l) (j : Nat) (x : ByteArray) (hx : l[j]? = some x) : w.cell? ⟨g, j, none⟩ = some (.string x) := by
  have := World.ownsRow.cells h (g := g) rfl j (.string x) (by rw [List.getElem?_map, hx]; rfl)
  rwa [Addr.add_lit, Nat.zero_add] at this

/-- A list without its last. -/
theorem textsIn.pop {w : World} {B g cap : Nat} {l : List ByteArray} (hl : l ≠ []) (h : textsIn w B (.slice (some ⟨g, 0, none⟩) l.length cap) l) : textsIn w B (.slice (some ⟨g, 0, none⟩) (l.length - 1) cap) l.dropLast := by
  have hd := List.dropLast_concat_getLast hl
  have hn : l.length = l.dropLast.length + 1 := by rw [List.length_dropLast]; have := List.length_pos_iff.2 hl; omega
  unfold textsIn at h ⊢
  have hx : l.map Value.string = l.dropLast.map Value.string ++ [Value.string (l.getLast hl)] := by
    rw [← List.map_singleton, ← List.map_append, hd]
  rw [hx, hn] at h
  have := ownsRow_pop (by simp) h
  rw [show l.length - 1 = l.dropLast.length from by omega]
  exact this

/-- 'append(v, x)' of one text, for the walk. -/
theorem wpList_append_text (wr : World) {ops : Array Oper} {rest : List Oper} {o : Oper} {a : Act} {Q : Exit → Act → World → Prop} (hgd : o.guard = none) (s x : Operand)
    (ho : o.op = .call { callee := .builtin .append, args := #[s, x], argTypes := #[57, 57] })
    (B : Nat) (v : Value) (l : List ByteArray) (hs : a.eval s = v) (hown : textsIn wr B v l)
    (X : ByteArray) (cap : Nat) (hx : a.eval x = .slice (some ⟨wr.heap.size, 0, none⟩) 1 cap)
    (hb : l.length + 1 ≤ 8796093022208) (hbase : B ≤ wr.heap.size) (B0 : Nat) (hB0 : B0 ≤ B) (W : World) (hbel : Below B0 W wr)
    (h : ∀ v' w', textsIn w' B v' (l ++ [X]) → Below B0 W w' → wpList Tryz.prog ops Q rest (a.put o.dst v') w') : wpList Tryz.prog ops Q (o :: rest) a (wr.alloc (.cells #[.string X] 9)) := by
  obtain ⟨i0, hi, hz0, hz1, hz2⟩ := info_parts info9
  refine wpList_append_own _ hgd s x 57 ho B 9 i0 (.string ⟨#[]⟩) 1 16 Tryz.underlying57 hi hz0 hz1 hz2 rfl (by decide) v l.length _ hs (hown.alloc _) ⟨wr.heap.size, 0, none⟩ 1 cap [.string X] hx rfl ?_ ?_
    (by unfold maxLen; omega) (by omega) (by simp; omega) ?_
  · intro j u hj
    match j, hj with
    | 0, hj => simp at hj; subst hj; simp [Addr.add]
  · intro u hu; simp at hu; subst hu; rfl
  · intro v' w' hown' hg _
    refine h v' w' ?_ ((hbel.alloc (by omega) _).grown hg (by simp; omega) (fun k hk => Nat.le_trans hB0 (World.ownsRow.lt hown k hk).1))
    unfold textsIn
    rw [List.length_append, List.map_append]
    exact hown'

end Go.Proofs.YtgidmoncocbfiaaGreatDoor.Ows

namespace Go.Proofs.YtgidmoncocbfiaaGreatDoor.Tri
open Go.RowKit
open Go.Proofs.YtgidmoncocbfiaaGreatDoor.Fbs

/-- A text without blanks at its ends. -/
def trimS (s : ByteArray) : ByteArray := ⟨(Lib.trimB s.data.toList 32).toArray⟩

theorem dropW_app (p : UInt8 → Bool) (a b : List UInt8) : (a ++ b).dropWhile p = if (a.dropWhile p).isEmpty then b.dropWhile p else a.dropWhile p ++ b := by
  induction a with
  | nil => simp
  | cons c r ih =>
    rw [List.cons_append, List.dropWhile_cons, List.dropWhile_cons]
    cases h : p c
    · simp
    · simpa using ih
theorem dropW_form (p : UInt8 → Bool) (l : List UInt8) : l.dropWhile p = [] ∨ ∃ c r, l.dropWhile p = c :: r ∧ p c = false := by
  induction l with
  | nil => left; rfl
  | cons c r ih =>
    rw [List.dropWhile_cons]
    cases h : p c
    · right; exact ⟨c, r, by simp, h⟩
    · simpa using ih
theorem dropW_nil_iff (p : UInt8 → Bool) (l : List UInt8) : l.dropWhile p = [] ↔ ∀ c ∈ l, p c = true := by
  induction l with
  | nil => simp
  | cons c r ih =>
    rw [List.dropWhile_cons]
    cases h : p c
    · simp [h]
    · simp [h, ih]
theorem trim_comm (l : List UInt8) (b : UInt8) : Lib.trimRightB (Lib.trimLeftB l b) b = Lib.trimB l b := by
  unfold Lib.trimB
  rcases dropW_form (· == b) l with h | ⟨c, r, h, hc⟩
  · have h1 : Lib.trimLeftB l b = [] := h
    have h2 : Lib.trimRightB l b = [] := by
      unfold Lib.trimRightB
      rw [(dropW_nil_iff _ _).2 (fun c hc => (dropW_nil_iff _ _).1 h c (by simpa using hc))]
      rfl
    rw [h1, h2]; rfl
  · have h1 : Lib.trimLeftB l b = c :: r := h
    obtain ⟨pre, hpre⟩ : ∃ pre, l = pre ++ (c :: r) := by
      obtain ⟨pre, hp⟩ := List.dropWhile_suffix (l := l) (· == b)
      exact ⟨pre, by rw [← hp, h]⟩
    have h2 : Lib.trimRightB l b = pre ++ Lib.trimRightB (c :: r) b := by
      unfold Lib.trimRightB
      rw [hpre, List.reverse_append, dropW_app]
      have : ((c :: r).reverse.dropWhile (· == b)).isEmpty = false := by
        cases hx : (c :: r).reverse.dropWhile (· == b) with
        | nil =>
          have := (dropW_nil_iff _ _).1 hx c (by simp)
          rw [hc] at this; cases this
        | cons => rfl
      rw [this]
      simp
    have h3 : ∃ r', Lib.trimRightB (c :: r) b = c :: r' := by
      unfold Lib.trimRightB
      rw [List.reverse_cons, dropW_app]
      split
      · refine ⟨[], ?_⟩
        rw [List.dropWhile_cons, hc]
        rfl
      · exact ⟨_, by rw [List.reverse_append]; rfl⟩
    rw [h1]
    obtain ⟨r', hr'⟩ := h3
    rw [h2, hr']
    unfold Lib.trimLeftB
    rw [dropW_app]
    have hpn : pre.dropWhile (· == b) = [] := by
      by_cases he : pre.dropWhile (· == b) = []
      · exact he
      · exfalso
        have e := h
        rw [hpre, dropW_app] at e
        have : (pre.dropWhile (· == b)).isEmpty = false := by
          cases hx : pre.dropWhile (· == b) with
          | nil => exact absurd hx he
          | cons => rfl
        rw [this] at e
        simp only [Bool.false_eq_true, if_false] at e
        have hl := congrArg List.length e
        rw [List.length_append] at hl
        have : 0 < (pre.dropWhile (· == b)).length := List.length_pos_iff.2 he
        simp only [List.length_cons] at hl
        omega
    rw [hpn]
    simp only [List.isEmpty_nil, if_true]
    rw [List.dropWhile_cons, hc]
    rfl

theorem first_cons {s : ByteArray} (h : 0 < s.size) : s.data.toList = s[0] :: (s.extract 1 s.size).data.toList := by
  have hl := len_list s
  have e : (s.extract 1 s.size).data.toList = s.data.toList.drop 1 := by
    rw [ByteArray.data_extract, Array.toList_extract, List.extract_eq_take_drop]
    rw [List.take_of_length_le (by rw [List.length_drop]; omega)]
  rw [e]
  have h0 := at_list s 0 h
  cases hs : s.data.toList with
  | nil => rw [hs] at hl; simp at hl; omega
  | cons c r =>
    rw [hs] at h0
    simp at h0
    rw [h0]; rfl
theorem last_snoc {s : ByteArray} (h : 0 < s.size) : s.data.toList = (s.extract 0 (s.size - 1)).data.toList ++ [s[s.size - 1]] := by
  have hl := len_list s
  have e : (s.extract 0 (s.size - 1)).data.toList = s.data.toList.take (s.size - 1) := by
    rw [ByteArray.data_extract, Array.toList_extract, List.extract_eq_take_drop]
    simp
  rw [e]
  have h0 := at_list s (s.size - 1) (by omega)
  have hk : s.size - 1 < s.data.toList.length := by omega
  rw [List.getElem?_eq_getElem hk] at h0
  have := List.take_succ_eq_append_getElem hk
  rw [show s.size - 1 + 1 = s.data.toList.length from by omega, List.take_length] at this
  rw [Option.getD_some] at h0
  rw [h0] at this
  exact this
theorem left_step {s : ByteArray} (h : 0 < s.size) (hc : s[0].toNat = 32) : Lib.trimLeftB (s.extract 1 s.size).data.toList 32 = Lib.trimLeftB s.data.toList 32 := by
  rw [first_cons h]
  unfold Lib.trimLeftB
  rw [List.dropWhile_cons]
  have : (s[0] == (32 : UInt8)) = true := by rw [beq_iff_eq]; exact UInt8.toNat_inj.1 hc
  rw [this]; rfl
theorem left_end {s : ByteArray} (h : s.size = 0 ∨ ∃ h : 0 < s.size, s[0].toNat ≠ 32) : Lib.trimLeftB s.data.toList 32 = s.data.toList := by
  rcases h with h | ⟨h, hc⟩
  · rw [empty_of h]; rfl
  · rw [first_cons h]
    unfold Lib.trimLeftB
    rw [List.dropWhile_cons]
    have : (s[0] == (32 : UInt8)) = false := by rw [beq_eq_false_iff_ne]; intro e; exact hc (by rw [e]; rfl)
    rw [this]; rfl
theorem right_step {s : ByteArray} (h : 0 < s.size) (hc : s[s.size - 1].toNat = 32) : Lib.trimRightB (s.extract 0 (s.size - 1)).data.toList 32 = Lib.trimRightB s.data.toList 32 := by
  rw [last_snoc h]
  unfold Lib.trimRightB
  rw [List.reverse_append, List.reverse_singleton, List.singleton_append, List.dropWhile_cons]
  have : (s[s.size - 1] == (32 : UInt8)) = true := by rw [beq_iff_eq]; exact UInt8.toNat_inj.1 hc
  rw [this]; rfl
theorem right_end {s : ByteArray} (h : s.size = 0 ∨ ∃ h : 0 < s.size, s[s.size - 1].toNat ≠ 32) : Lib.trimRightB s.data.toList 32 = s.data.toList := by
  rcases h with h | ⟨h, hc⟩
  · rw [empty_of h]; rfl
  · refine (congrArg (fun l => Lib.trimRightB l 32) (last_snoc h)).trans ?_
    show Lib.trimRightB _ 32 = _
    unfold Lib.trimRightB
    rw [List.reverse_append, List.reverse_singleton, List.singleton_append, List.dropWhile_cons]
    have : (s[s.size - 1] == (32 : UInt8)) = false := by rw [beq_eq_false_iff_ne]; intro e; exact hc (by rw [e]; rfl)
    rw [this]
    simp only [Bool.false_eq_true, if_false, List.reverse_cons, List.reverse_reverse]
    exact (last_snoc h).symm
theorem trimS_of {s a b : ByteArray} (h1 : Lib.trimLeftB a.data.toList 32 = Lib.trimLeftB s.data.toList 32) (h2 : Lib.trimLeftB a.data.toList 32 = a.data.toList) (h3 : Lib.trimRightB b.data.toList 32 = Lib.trimRightB a.data.toList 32) (h4 : Lib.trimRightB b.data.toList 32 = b.data.toList) : b = trimS s := by
  unfold trimS
  rw [← trim_comm, ← h1, h2, ← h3, h4]
theorem trimS_size (s : ByteArray) : (trimS s).size ≤ s.size := by
  have h : ∀ (p : UInt8 → Bool) (l : List UInt8), (l.dropWhile p).length ≤ l.length := fun p l => (List.dropWhile_suffix p).length_le
  show (Lib.trimB s.data.toList 32).toArray.size ≤ _
  rw [List.size_toArray]
  unfold Lib.trimB Lib.trimLeftB Lib.trimRightB
  have h1 := h (· == 32) ((s.data.toList.reverse.dropWhile (· == 32)).reverse)
  have h2 := h (· == 32) s.data.toList.reverse
  rw [List.length_reverse] at h1 h2
  have := len_list s
  omega

set_option maxHeartbeats 800000 in
theorem l3Trim_any (s : ByteArray) (w : World) (hs : s.size ≤ 2000000) :
    Calls Tryz.prog 136 #[.string s] w fun e w' => e = .returned (.string (trimS s)) ∧ w' = w := by
  go_enter Tryz.func136, Tryz.ntmps136
  go_wp2
  go_loop [0] (fun v => ∃ a : ByteArray, v = .string a ∧ a.size ≤ s.size ∧ Hid (Lib.trimLeftB a.data.toList 32 = Lib.trimLeftB s.data.toList 32)) (fun v => match v with | .string a => a.size | _ => 0)
  case atStart => exact ⟨s, rfl, Nat.le_refl _, rfl⟩
  case round =>
    obtain ⟨a, rfl, ha, HA⟩ := hrel
    by_cases h0 : 0 < a.size
    · by_cases hc : (a[0].toNat : Int) = 32
      · have hc' : ((a[0].toNat : Int) == 32) = true := by simpa using hc
        have HA' : Hid (Lib.trimLeftB (a.extract 1 a.size).data.toList 32 = Lib.trimLeftB s.data.toList 32) := by
          show _ = _; rw [left_step h0 (by omega), HA.out]
        have hz : (a.extract 1 a.size).size = a.size - 1 := by rw [ByteArray.size_extract]; omega
        clear HA hc
        go_wp2
        go_round
        case rel => exact ⟨_, rfl, by omega, HA'⟩
        case measure => simp only [hz]; omega
      · have hc' : ((a[0].toNat : Int) == 32) = false := by simpa using hc
        have HE : Hid (Lib.trimLeftB a.data.toList 32 = a.data.toList) := left_end (Or.inr ⟨h0, by omega⟩)
        clear hc
        go_wp2
        go_loop [0] (fun v => ∃ b : ByteArray, v = .string b ∧ b.size ≤ a.size ∧ Hid (Lib.trimRightB b.data.toList 32 = Lib.trimRightB a.data.toList 32)) (fun v => match v with | .string b => b.size | _ => 0)
        case atStart => exact ⟨a, rfl, Nat.le_refl _, rfl⟩
        case round =>
          obtain ⟨b, rfl, hb, HB⟩ := hrel
          by_cases g0 : 0 < b.size
          · by_cases gc : (b[b.size - 1].toNat : Int) = 32
            · have gc' : ((b[b.size - 1].toNat : Int) == 32) = true := by simpa using gc
              have HB' : Hid (Lib.trimRightB (b.extract 0 (b.size - 1)).data.toList 32 = Lib.trimRightB a.data.toList 32) := by
                show _ = _; rw [right_step g0 (by omega), HB.out]
              have hz : (b.extract 0 (b.size - 1)).size = b.size - 1 := by rw [ByteArray.size_extract]; omega
              clear HB gc
              go_wp2
              go_round
              case rel => exact ⟨_, rfl, by omega, HB'⟩
              case measure => simp only [hz]; omega
            · have gc' : ((b[b.size - 1].toNat : Int) == 32) = false := by simpa using gc
              have HR : Hid (b = trimS s) := trimS_of HA.out HE.out HB.out (right_end (Or.inr ⟨g0, by omega⟩))
              clear HA HE HB gc
              go_wp2
              go_ret
              exact ⟨ret_str HR.out, rfl⟩
          · have HR : Hid (b = trimS s) := trimS_of HA.out HE.out HB.out (right_end (Or.inl (by omega)))
            clear HA HE HB
            go_wp2
            go_ret
            exact ⟨ret_str HR.out, rfl⟩
    · have HR : Hid (a = trimS s) := trimS_of HA.out (left_end (Or.inl (by omega))) rfl (right_end (Or.inl (by omega)))
      have ha0 : a.size = 0 := by omega
      clear HA
      go_wp2
      go_loop [0] (fun v => v = .string a) (fun v => 0)
      case atStart => rfl
      case round =>
        obtain rfl := hrel
        go_wp2
        go_ret
        exact ⟨ret_str HR.out, rfl⟩

end Go.Proofs.YtgidmoncocbfiaaGreatDoor.Tri

namespace Go.Proofs.YtgidmoncocbfiaaGreatDoor.Lsp
open Go.RowKit
open Go.Proofs.YtgidmoncocbfiaaGreatDoor.Fbs
open Go.Proofs.YtgidmoncocbfiaaGreatDoor.Ows
open Go.Proofs.YtgidmoncocbfiaaGreatDoor.Tri

def at0 (s : ByteArray) (k : Nat) : UInt8 := s.data.toList[k]?.getD 0
/-- A part that is not empty behind those so far. -/
def addT (acc : List ByteArray) (x : ByteArray) : List ByteArray := if x.size = 0 then acc else acc ++ [x]
/-- The parts of a list, round by round: at the place i, the part begun at 'fr', within quotes or not, those so far. -/
def listF (s : ByteArray) : Nat → Nat → Nat → Bool → List ByteArray → Option (List ByteArray)
  | 0, _, _, _, _ => none
  | f + 1, i, fr, op, acc =>
    if i < s.size then
      if (at0 s i).toNat = 44 ∧ op = false then listF s f (i + 1) (i + 1) false (addT acc (trimS (s.extract fr i)))
      else if (at0 s i).toNat = 34 then listF s f (i + 1) fr (!op) acc
      else if (at0 s i).toNat = 92 ∧ op = true then (if i + 1 = s.size then none else listF s f (i + 2) fr op acc)
      else listF s f (i + 1) fr op acc
    else if op = true then none else some (addT acc (trimS (s.extract fr i)))

theorem listF_comma {s : ByteArray} {f i fr : Nat} {acc : List ByteArray} (h : i < s.size) (hc : (at0 s i).toNat = 44) : listF s (f + 1) i fr false acc = listF s f (i + 1) (i + 1) false (addT acc (trimS (s.extract fr i))) := by
  simp only [listF]; rw [if_pos h, if_pos (by simp [hc])]
theorem listF_quote {s : ByteArray} {f i fr : Nat} {op : Bool} {acc : List ByteArray} (h : i < s.size) (hc : (at0 s i).toNat = 34) : listF s (f + 1) i fr op acc = listF s f (i + 1) fr (!op) acc := by
  simp only [listF]; rw [if_pos h, if_neg (by omega), if_pos hc]
theorem listF_cut {s : ByteArray} {f i fr : Nat} {acc : List ByteArray} (h : i + 1 = s.size) (hc : (at0 s i).toNat = 92) : listF s (f + 1) i fr true acc = none := by
  simp only [listF]; rw [if_pos (by omega), if_neg (by omega), if_neg (by omega), if_pos (by simp [hc]), if_pos h]
theorem listF_esc {s : ByteArray} {f i fr : Nat} {acc : List ByteArray} (h : i + 1 < s.size) (hc : (at0 s i).toNat = 92) : listF s (f + 1) i fr true acc = listF s f (i + 2) fr true acc := by
  simp only [listF]; rw [if_pos (by omega), if_neg (by omega), if_neg (by omega), if_pos (by simp [hc]), if_neg (by omega)]
theorem listF_one {s : ByteArray} {f i fr : Nat} {op : Bool} {acc : List ByteArray} (h : i < s.size) (h1 : ¬ ((at0 s i).toNat = 44 ∧ op = false)) (h2 : (at0 s i).toNat ≠ 34) (h3 : ¬ ((at0 s i).toNat = 92 ∧ op = true)) : listF s (f + 1) i fr op acc = listF s f (i + 1) fr op acc := by
  simp only [listF]; rw [if_pos h, if_neg h1, if_neg h2, if_neg h3]
theorem listF_open {s : ByteArray} {f i fr : Nat} {acc : List ByteArray} (h : s.size ≤ i) : listF s (f + 1) i fr true acc = none := by
  simp only [listF]; rw [if_neg (by omega)]; rfl
theorem listF_end {s : ByteArray} {f i fr : Nat} {acc : List ByteArray} (h : s.size ≤ i) : listF s (f + 1) i fr false acc = some (addT acc (trimS (s.extract fr i))) := by
  simp only [listF]; rw [if_neg (by omega)]; rfl

/-- The parts of a list. -/
def listL (s : ByteArray) : Option (List ByteArray) := listF s (s.size + 1) 0 0 false []
def listO (s : ByteArray) : Option (List ByteArray) := if plainB s.data.toList = true ∧ s.size ≤ 300 then listL s else none

/-- What spec.l3List answers: parts and true; or false. -/
def Half (w : World) (B : Nat) (v : Value) (ok : Bool) : Option (List ByteArray) → Prop
  | none => ok = false
  | some l => ok = true ∧ textsIn w B v l
/-- What is answered: the parts, in memory of the call's own, and true; or nil and false. -/
def Told (w : World) (B : Nat) (e : Ending) : Option (List ByteArray) → Prop
  | none => e = .returned (.tuple #[.slice none 0 0, .bool false])
  | some l => ∃ v, e = .returned (.tuple #[v, .bool true]) ∧ textsIn w B v l

theorem empty_cmp {T : ByteArray} (h : T.size = 0) : (T.toList == []) = true := by
  have e : T.toList = T.data.toList := by simp [ByteArray.toList_eq]
  rw [e, empty_of h]; rfl
theorem some_cmp {T : ByteArray} (h : T.size ≠ 0) : (T.toList == []) = false := by
  have e : T.toList = T.data.toList := by simp [ByteArray.toList_eq]
  rw [e]
  have := len_list T
  cases hT : T.data.toList with
  | nil => rw [hT] at this; simp at this; omega
  | cons => rfl

set_option maxHeartbeats 1600000 in
theorem l3List_any (s : ByteArray) (w : World) (hs : s.size ≤ 2000000) :
    Calls Tryz.prog 110 #[.string s] w fun e w' => (∃ v ok, e = .returned (.tuple #[v, .bool ok]) ∧ Half w' w.heap.size v ok (listL s)) ∧ Below w.heap.size w w' := by
  have HL : Hid (∀ a b, Calls Tryz.prog 136 #[.string (s.extract a b)] w fun e w' => e = .returned (.string (trimS (s.extract a b))) ∧ w' = w) := fun a b => l3Trim_any _ w (by rw [ByteArray.size_extract]; omega)
  have HT : Hid (∀ (a b : Nat) (wr : World), Calls Tryz.prog 136 #[.string (s.extract a b)] wr fun e w' => e = .returned (.string (trimS (s.extract a b))) ∧ w' = wr) := fun a b wr => l3Trim_any _ wr (by rw [ByteArray.size_extract]; omega)
  clear HL
  go_enter Tryz.func110, Tryz.ntmps110
  go_wp2
  go_loopw [4, 5, 6, 7] (fun v fr op i wr => ∃ (k m f : Nat) (ob : Bool) (acc : List ByteArray), k ≤ s.size + 1 ∧ m ≤ k ∧ s.size + 1 ≤ k + f ∧ acc.length ≤ k ∧ i = .int .i64 k ∧ fr = .int .i64 m ∧ op = .bool ob ∧ textsIn wr w.heap.size v acc ∧ Below w.heap.size w wr ∧ Hid ((k ≤ s.size → listL s = listF s f k m ob acc) ∧ (k = s.size + 1 → listL s = if ob = true then none else some acc)))
    (fun _ _ _ i _ => s.size + 2 - (intOf i).toNat)
  case atStart => exact ⟨0, 0, s.size + 1, false, [], by omega, by omega, by omega, by simp, rfl, rfl, rfl, World.ownsRow_nil _ _ _ _, Below.refl _ _, fun _ => rfl, fun h => absurd h (by omega)⟩
  case round =>
    obtain ⟨k, m, f, ob, acc, hk, hm, hf, hacc, rfl, rfl, rfl, hown, hbel, HD⟩ := hrel
    have hB := hbel.size
    by_cases hend : k = s.size + 1
    · have HR := HD.out.2 hend
      have HR' : Hid (Half wr w.heap.size u4 (!ob) (listL s)) := by
        show Half wr w.heap.size u4 (!ob) (listL s)
        rw [HR]
        cases ob
        · exact ⟨rfl, hown⟩
        · rfl
      subst hend
      clear HR HD HT
      go_wp2_with fail
      go_ret2
      exact ⟨⟨_, _, rfl, HR'.out⟩, hbel⟩
    have HD1 : Hid (listL s = listF s f k m ob acc) := HD.out.1 (by omega)
    clear HD
    rename Hid (listL s = listF s f k m ob acc) => HD
    by_cases hz : k = s.size
    · obtain ⟨f', rfl⟩ : ∃ f', f = f' + 1 := ⟨f - 1, by omega⟩
      subst hz

      by_cases hx : (trimS (s.extract m s.size)).size = 0
      · have hc1 := empty_cmp hx
        have HD' : Hid ((s.size + 1 ≤ s.size → listL s = listF s f' (s.size + 1) (s.size + 1) ob (acc)) ∧ (s.size + 1 = s.size + 1 → listL s = if ob = true then none else some (acc))) := by
          refine ⟨fun h => absurd h (by omega), fun _ => ?_⟩; rw [HD.out]; cases ob <;> simp only [listF_end (show s.size ≤ s.size by omega), listF_open (show s.size ≤ s.size by omega), Bool.false_eq_true, if_false, if_true]; unfold addT; rw [if_pos hx]
        have HTk := HT.out m s.size
        clear HD hx
        generalize trimS (s.extract m s.size) = T at HTk hc1
        go_wp2_with (go_at_call 136; refine (HTk _).mono ?_; rintro e w' ⟨rfl, hw⟩; obtain rfl := hw.symm)
        go_roundw
        case rel => exact ⟨s.size + 1, s.size + 1, f', ob, acc, by omega, by omega, by omega, by omega, by go_num, by go_num, rfl, hown, hbel, ⟨HD'.out.1, fun _ => HD'.out.2 trivial⟩⟩
        case measure => simp [intOf]
      · have hc1 := some_cmp hx
        have HD' : Hid ((s.size + 1 ≤ s.size → listL s = listF s f' (s.size + 1) (s.size + 1) ob (acc ++ [trimS (s.extract m s.size)])) ∧ (s.size + 1 = s.size + 1 → listL s = if ob = true then none else some (acc ++ [trimS (s.extract m s.size)]))) := by
          refine ⟨fun h => absurd h (by omega), fun _ => ?_⟩; rw [HD.out]; cases ob <;> simp only [listF_end (show s.size ≤ s.size by omega), listF_open (show s.size ≤ s.size by omega), Bool.false_eq_true, if_false, if_true]; unfold addT; rw [if_neg hx]
        have HTk := HT.out m s.size
        clear HD hx
        generalize trimS (s.extract m s.size) = T at HTk hc1 HD'
        go_wp2_with (first
          | (go_at_call 136; refine (HTk _).mono ?_; rintro e w' ⟨rfl, hw⟩; obtain rfl := hw.symm)
          | (at_builtin; refine wpList_append_text wr rfl _ _ rfl w.heap.size _ acc (by rfl) hown _ _ rfl ?q3 hB w.heap.size (Nat.le_refl _) w hbel ?_))
        case q3 => omega
        intro v' w1 hown' hbel'
        clear hown hbel hB
        go_wp2
        go_roundw
        case rel => exact ⟨s.size + 1, s.size + 1, f', ob, _, by omega, by omega, by omega, by simp; omega, by go_num, by go_num, rfl, hown', hbel', ⟨HD'.out.1, fun _ => HD'.out.2 trivial⟩⟩
        case measure => simp [intOf]
    · have hlt : k < s.size := by omega
      obtain ⟨f', rfl⟩ : ∃ f', f = f' + 1 := ⟨f - 1, by omega⟩
      have hkk : ((k : Int) == (s.size : Int)) = false := by rw [beq_eq_false_iff_ne]; omega
      have e0 : at0 s k = s[k] := at_list s k hlt
      by_cases h44 : (s[k].toNat : Int) = 44
      · have k44 : ((s[k].toNat : Int) == 44) = true := by simpa using h44
        cases ob
        · have k92 : ((s[k].toNat : Int) == 92) = false := by simp; omega
          obtain ⟨ob, hob⟩ : ∃ ob, ob = false := ⟨_, rfl⟩

          by_cases hx : (trimS (s.extract m k)).size = 0
          · have hc1 := empty_cmp hx
            have HD' : Hid ((k + 1 ≤ s.size → listL s = listF s f' (k + 1) (k + 1) false (acc)) ∧ (k + 1 = s.size + 1 → listL s = if false = true then none else some (acc))) := by
              refine ⟨fun _ => ?_, fun h => absurd h (by omega)⟩; rw [HD.out, listF_comma hlt (by rw [e0]; omega)]; unfold addT; rw [if_pos hx]
            have HTk := HT.out m k
            clear HD hx
            generalize trimS (s.extract m k) = T at HTk hc1
            go_wp2_with (go_at_call 136; refine (HTk _).mono ?_; rintro e w' ⟨rfl, hw⟩; obtain rfl := hw.symm)
            go_roundw
            case rel => exact ⟨k + 1, k + 1, f', false, acc, by omega, by omega, by omega, by omega, by go_num, by go_num, rfl, hown, hbel, HD'⟩
            case measure => simp [intOf]; omega
          · have hc1 := some_cmp hx
            have HD' : Hid ((k + 1 ≤ s.size → listL s = listF s f' (k + 1) (k + 1) false (acc ++ [trimS (s.extract m k)])) ∧ (k + 1 = s.size + 1 → listL s = if false = true then none else some (acc ++ [trimS (s.extract m k)]))) := by
              refine ⟨fun _ => ?_, fun h => absurd h (by omega)⟩; rw [HD.out, listF_comma hlt (by rw [e0]; omega)]; unfold addT; rw [if_neg hx]
            have HTk := HT.out m k
            clear HD hx
            generalize trimS (s.extract m k) = T at HTk hc1 HD'
            go_wp2_with (first
              | (go_at_call 136; refine (HTk _).mono ?_; rintro e w' ⟨rfl, hw⟩; obtain rfl := hw.symm)
              | (at_builtin; refine wpList_append_text wr rfl _ _ rfl w.heap.size _ acc (by rfl) hown _ _ rfl ?q3 hB w.heap.size (Nat.le_refl _) w hbel ?_))
            case q3 => omega
            intro v' w1 hown' hbel'
            clear hown hbel hB
            go_wp2
            go_roundw
            case rel => exact ⟨k + 1, k + 1, f', false, _, by omega, by omega, by omega, by simp; omega, by go_num, by go_num, rfl, hown', hbel', HD'⟩
            case measure => simp [intOf]; omega
        · have HD' : Hid ((k + 1 ≤ s.size → listL s = listF s f' (k + 1) m true acc) ∧ (k + 1 = s.size + 1 → listL s = if true = true then none else some acc)) := by
            refine ⟨fun _ => ?_, fun h => absurd h (by omega)⟩
            rw [HD.out, listF_one hlt (by simp) (by rw [e0]; omega) (by rw [e0]; omega)]
          have k34 : ((s[k].toNat : Int) == 34) = false := by simp; omega
          have k92 : ((s[k].toNat : Int) == 92) = false := by simp; omega
          clear HD HT e0
          go_wp2_with fail
          go_roundw
          case rel => exact ⟨k + 1, m, f', true, acc, by omega, by omega, by omega, by omega, by go_num, rfl, rfl, hown, hbel, HD'⟩
          case measure => simp [intOf]; omega
      · have k44 : ((s[k].toNat : Int) == 44) = false := by simpa using h44
        by_cases h34 : (s[k].toNat : Int) = 34
        · have k34 : ((s[k].toNat : Int) == 34) = true := by simpa using h34
          have k92 : ((s[k].toNat : Int) == 92) = false := by simp; omega
          have HD' : Hid ((k + 1 ≤ s.size → listL s = listF s f' (k + 1) m (!ob) acc) ∧ (k + 1 = s.size + 1 → listL s = if (!ob) = true then none else some acc)) := by
            refine ⟨fun _ => ?_, fun h => absurd h (by omega)⟩
            rw [HD.out, listF_quote hlt (by rw [e0]; omega)]
          clear HD HT e0
          go_wp2_with fail
          go_roundw
          case rel => exact ⟨k + 1, m, f', !ob, acc, by omega, by omega, by omega, by omega, by go_num, rfl, rfl, hown, hbel, HD'⟩
          case measure => simp [intOf]; omega
        · have k34 : ((s[k].toNat : Int) == 34) = false := by simpa using h34
          by_cases h92 : (s[k].toNat : Int) = 92
          · have k92 : ((s[k].toNat : Int) == 92) = true := by simpa using h92
            cases ob
            · have HD' : Hid ((k + 1 ≤ s.size → listL s = listF s f' (k + 1) m false acc) ∧ (k + 1 = s.size + 1 → listL s = if false = true then none else some acc)) := by
                refine ⟨fun _ => ?_, fun h => absurd h (by omega)⟩
                rw [HD.out, listF_one hlt (by rw [e0]; omega) (by rw [e0]; omega) (by simp)]
              clear HD HT e0
              go_wp2_with fail
              go_roundw
              case rel => exact ⟨k + 1, m, f', false, acc, by omega, by omega, by omega, by omega, by go_num, rfl, rfl, hown, hbel, HD'⟩
              case measure => simp [intOf]; omega
            · by_cases hq : k + 1 = s.size
              · have HR : Hid (Half wr w.heap.size (.slice none 0 0) false (listL s)) := by
                  show Half wr w.heap.size (.slice none 0 0) false (listL s)
                  rw [HD.out, listF_cut hq (by rw [e0]; omega)]; rfl
                have hq' : ((k : Int) + 1 == (s.size : Int)) = true := by simp; omega
                clear HD HT e0
                go_wp2_with fail
                go_ret2
                exact ⟨⟨_, _, rfl, HR.out⟩, hbel⟩
              · have HD' : Hid ((k + 2 ≤ s.size → listL s = listF s f' (k + 2) m true acc) ∧ (k + 2 = s.size + 1 → listL s = if true = true then none else some acc)) := by
                  refine ⟨fun _ => ?_, fun h => absurd h (by omega)⟩
                  rw [HD.out, listF_esc (by omega) (by rw [e0]; omega)]
                have hq' : ((k : Int) + 1 == (s.size : Int)) = false := by simp; omega
                clear HD HT e0
                go_wp2_with fail
                go_roundw
                case rel => exact ⟨k + 2, m, f', true, acc, by omega, by omega, by omega, by omega, by go_num, rfl, rfl, hown, hbel, HD'⟩
                case measure => simp [intOf]; omega
          · have k92 : ((s[k].toNat : Int) == 92) = false := by simpa using h92
            have HD' : Hid ((k + 1 ≤ s.size → listL s = listF s f' (k + 1) m ob acc) ∧ (k + 1 = s.size + 1 → listL s = if ob = true then none else some acc)) := by
              refine ⟨fun _ => ?_, fun h => absurd h (by omega)⟩
              rw [HD.out, listF_one hlt (by rw [e0]; omega) (by rw [e0]; omega) (by rw [e0]; omega)]
            clear HD HT e0
            go_wp2_with fail
            go_roundw
            case rel => exact ⟨k + 1, m, f', ob, acc, by omega, by omega, by omega, by omega, by go_num, rfl, rfl, hown, hbel, HD'⟩
            case measure => simp [intOf]; omega

theorem specList_any (s : ByteArray) (w : World) (hs : s.size ≤ 2000000) :
    Calls Tryz.prog 86 #[.string s] w fun e w' => Told w' w.heap.size e (listO s) ∧ Below w.heap.size w w' := by
  have HC := l3Printed_any s w hs
  cases hp : plainB s.data.toList
  · rw [hp] at HC
    have HV : listO s = none := by unfold listO; rw [hp]; rfl
    rw [HV]
    go_enter Tryz.func86, Tryz.ntmps86
    go_wp2_with (go_at_call 85; refine HC.mono ?_; rintro e w' ⟨rfl, hw⟩; obtain rfl := hw.symm)
    go_ret2
    exact ⟨rfl, Below.refl _ _⟩
  · rw [hp] at HC
    by_cases hz : 300 < s.size
    · have HV : listO s = none := by unfold listO; rw [if_neg (by omega)]
      rw [HV]
      clear hp HV
      go_enter Tryz.func86, Tryz.ntmps86
      go_wp2_with (go_at_call 85; refine HC.mono ?_; rintro e w' ⟨rfl, hw⟩; obtain rfl := hw.symm)
      go_ret2
      exact ⟨rfl, Below.refl _ _⟩
    · have HV : listO s = listL s := by unfold listO; rw [if_pos ⟨hp, by omega⟩]
      rw [HV]
      clear HV hp
      have HL := l3List_any s w hs
      generalize listL s = o at HL
      cases o with
      | none =>
        go_enter Tryz.func86, Tryz.ntmps86
        go_wp2_with (first
          | (go_at_call 85; refine HC.mono ?_; rintro e w' ⟨rfl, hw⟩; obtain rfl := hw.symm)
          | (go_at_call 110; refine HL.mono ?_; rintro e w2 ⟨⟨v, ok, rfl, hok⟩, hb2⟩; obtain rfl : ok = false := hok))
        go_ret2
        exact ⟨rfl, hb2⟩
      | some l =>
        go_enter Tryz.func86, Tryz.ntmps86
        go_wp2_with (first
          | (go_at_call 85; refine HC.mono ?_; rintro e w' ⟨rfl, hw⟩; obtain rfl := hw.symm)
          | (go_at_call 110; refine HL.mono ?_; rintro e w2 ⟨⟨v, ok, rfl, hok⟩, hb2⟩; obtain ⟨hok1, hown⟩ := hok; subst hok1))
        go_ret2
        exact ⟨⟨_, rfl, hown⟩, hb2⟩

end Go.Proofs.YtgidmoncocbfiaaGreatDoor.Lsp

namespace Go.Proofs.YtgidmoncocbfiaaGreatDoor.Mrk
open Go.RowKit
open Go.Proofs.YtgidmoncocbfiaaGreatDoor.Fbs
open Go.Proofs.YtgidmoncocbfiaaGreatDoor.Ows
open Go.Proofs.YtgidmoncocbfiaaGreatDoor.Lsp

/-- A number's digits ahead of others. -/
def dgF : Nat → Nat → List UInt8 → List UInt8
  | 0, _, acc => acc
  | f + 1, k, acc => if k = 0 then acc else dgF f (k / 10) (UInt8.ofNat (48 + k % 10) :: acc)
def mk (k : Nat) : ByteArray := ⟨(109 :: dgF k k []).toArray⟩
theorem dgF_zero (f : Nat) (acc : List UInt8) : dgF f 0 acc = acc := by cases f <;> simp [dgF]
theorem dgF_step {f k : Nat} {acc : List UInt8} (h : 0 < k) : dgF (f + 1) k acc = dgF f (k / 10) (UInt8.ofNat (48 + k % 10) :: acc) := by
  simp only [dgF]; rw [if_neg (by omega)]
theorem byte_of (n : Nat) (h : n < 208) : ((UInt8.ofNat (48 + n)).toNat : Int) = 48 + (n : Int) := by
  rw [UInt8.toNat_ofNat']; omega

theorem text_at (W : World) (b : Nat) (c : UInt8) (hc : W.cell? ⟨b, 0, none⟩ = some (.int .u8 (c.toNat : Int))) : (convert 22 9 (.slice (some ⟨b, 0, none⟩) 1 1)).run Tryz.prog W = .ok (.string ⟨#[c]⟩) W := by
  refine run_convert_bytes_back _ 22 9 5 ⟨b, 0, none⟩ 1 [c] Tryz.underlying22 Tryz.underlying5 Tryz.underlying9 (fun j hj => ?_)
  have h0 : j = 0 := by simpa using hj
  subst h0
  rw [Addr.add_lit]
  exact hc
theorem text_one (w : World) (c : UInt8) (x : Int) (hx : x = (c.toNat : Int)) : (convert 22 9 (.slice (some ⟨w.heap.size, 0, none⟩) 1 1)).run Tryz.prog (w.alloc (.cells #[.int .u8 x] 5)) = .ok (.string ⟨#[c]⟩) (w.alloc (.cells #[.int .u8 x] 5)) := by
  subst hx
  exact text_at _ _ c (by rw [World.cell?_alloc_mark]; rfl)

theorem wrap_dig (n : Nat) : IntKind.u8.wrap (48 + (n : Int) % 10) = 48 + (n : Int) % 10 := by
  have hd : (n : Int) % 10 = ((n % 10 : Nat) : Int) := by omega
  have all : ∀ m : Nat, m < 10 → IntKind.u8.wrap (48 + (m : Int)) = 48 + (m : Int) := by decide
  rw [hd]; exact all _ (by omega)

/-- A row of texts in a block of its own. -/
def RowT (w : World) (g : Nat) (l : List ByteArray) : Prop := g < w.heap.size ∧ (∀ i, w.frozen? ⟨g, i, none⟩ = false) ∧ ∀ i x, l[i]? = some x → w.cell? ⟨g, i, none⟩ = some (.string x)
/-- A list of texts: empty, or in a block from lo on and below hi. -/
def TV (w : World) (a : Option Addr) (l : List ByteArray) (lo hi : Nat) : Prop := l = [] ∨ ∃ g, a = some ⟨g, 0, none⟩ ∧ lo ≤ g ∧ g < hi ∧ RowT w g l

theorem RowT.below {w w' : World} {g : Nat} {l : List ByteArray} (h : RowT w g l) (hb : Below w.heap.size w w') : RowT w' g l :=
  ⟨Nat.lt_of_lt_of_le h.1 hb.size, fun i => (hb.frozen (p := ⟨g, i, none⟩) h.1).trans (h.2.1 i), fun i x hx => (hb.cell (p := ⟨g, i, none⟩) h.1).trans (h.2.2 i x hx)⟩
theorem TV.below {w w' : World} {a : Option Addr} {l : List ByteArray} {lo hi : Nat} (h : TV w a l lo hi) (hb : Below w.heap.size w w') : TV w' a l lo hi := by
  rcases h with h | ⟨g, h1, h2, h3, h4⟩
  · exact .inl h
  · exact .inr ⟨g, h1, h2, h3, h4.below hb⟩
theorem tv_of {w : World} {B : Nat} {v : Value} {l : List ByteArray} (h : textsIn w B v l) : ∃ a cap, v = .slice a l.length cap ∧ TV w a l B w.heap.size := by
  rcases h.2 with ⟨rfl, h0⟩ | ⟨g, cap, cur, rfl, hbg, hg, hnc, hcm, hcs, htake⟩
  · have hl : l = [] := by simpa using h0
    subst hl
    exact ⟨none, 0, rfl, .inl rfl⟩
  · refine ⟨_, _, rfl, .inr ⟨g, rfl, hbg, (Array.getElem?_eq_some_iff.1 hg).1, (Array.getElem?_eq_some_iff.1 hg).1, fun i => by simp [World.frozen?, hg], fun i x hx => textsIn.at h i x hx⟩⟩

theorem same_text (x : ByteArray) : (x.toList == x.toList) = true := by simp

theorem below_drewN (w : World) (n : Nat) : Below w.heap.size w (w.drewN n) := ⟨rfl, rfl, rfl, Nat.le_refl _, fun _ _ => rfl⟩

def marks (k n : Nat) : List ByteArray := (List.range n).map fun i => mk (k + i)
theorem marks_at (k n i : Nat) (h : i < n) : (marks k n)[i]? = some (mk (k + i)) := by
  unfold marks
  rw [List.getElem?_map, List.getElem?_range h]; rfl
theorem marks_len (k n : Nat) : (marks k n).length = n := by simp [marks]

/-- Marks so far: j of n texts of a row turned. -/
def Part (w : World) (g k j n : Nat) : Prop := g < w.heap.size ∧ (∀ i, w.frozen? ⟨g, i, none⟩ = false) ∧ (∀ i, i < j → w.cell? ⟨g, i, none⟩ = some (.string (mk (k + i)))) ∧ ∀ i, j ≤ i → i < n → ∃ x, w.cell? ⟨g, i, none⟩ = some (.string x)
theorem Part.below {w w' : World} {g k j n : Nat} (h : Part w g k j n) (hb : Below w.heap.size w w') : Part w' g k j n := by
  have e : ∀ i, w'.cell? ⟨g, i, none⟩ = w.cell? ⟨g, i, none⟩ := fun i => hb.cell (p := ⟨g, i, none⟩) h.1
  refine ⟨Nat.lt_of_lt_of_le h.1 hb.size, fun i => (hb.frozen (p := ⟨g, i, none⟩) h.1).trans (h.2.1 i), fun i hi => (e i).trans (h.2.2.1 i hi), fun i h1 h2 => ?_⟩
  obtain ⟨x, hx⟩ := h.2.2.2 i h1 h2
  exact ⟨x, (e i).trans hx⟩
theorem Part.step {w : World} {g k j n : Nat} (h : Part w g k j n) (hj : j < n) : Part (w.setCell ⟨g, j, none⟩ (.string (mk (k + j)))) g k (j + 1) n := by
  obtain ⟨h1, h2, h3, h4⟩ := h
  obtain ⟨x0, hx0⟩ := h4 j (Nat.le_refl _) hj
  refine ⟨by simpa [World.setCell] using h1, fun i => by simp [go_sem, h2], fun i hi => ?_, fun i hi hn => ?_⟩
  · by_cases he : i = j
    · subst he; simp [go_sem, hx0]
    · have := h3 i (by omega)
      rw [← this]
      simp [go_sem]
  · obtain ⟨x, hx⟩ := h4 i (by omega) hn
    refine ⟨x, ?_⟩
    rw [← hx]
    simp [go_sem]
theorem Part.row {w : World} {g k n : Nat} (h : Part w g k n n) : RowT w g (marks k n) := by
  refine ⟨h.1, h.2.1, fun i x hx => ?_⟩
  have hi : i < n := by
    have := (List.getElem?_eq_some_iff.1 hx).1
    rwa [marks_len] at this
  rw [marks_at k n i hi] at hx
  cases hx
  exact h.2.2.1 i hi
theorem grown_below {w w1 w2 : World} {row : Option Nat} (h : w.grownBy w1 row) (hb : Below w1.heap.size w1 w2) : w.grownBy w2 row :=
  ⟨hb.os.trans h.os, hb.tape.trans h.tape, hb.output.trans h.output, Nat.le_trans h.size hb.size, fun k hk hr => (hb.block k (Nat.lt_of_lt_of_le hk h.size)).trans (h.block k hk hr)⟩
theorem grown_of {w w1 : World} (row : Option Nat) (hb : Below w.heap.size w w1) : w.grownBy w1 row := ⟨hb.os, hb.tape, hb.output, hb.size, fun k hk _ => hb.block k hk⟩
theorem grown_set {w w1 : World} {g : Nat} (h : w.grownBy w1 (some g)) (j : Nat) (v : Value) : w.grownBy (w1.setCell ⟨g, j, none⟩ v) (some g) :=
  ⟨h.os, h.tape, h.output, by have := h.size; simpa [World.setCell] using this, fun k hk hr => (Below.heap_setCell _ _ _ k (fun e => hr (by rw [e]))).trans (h.block k hk hr)⟩

/-- A list below what has turned is as it was. -/
theorem TV.kept {w w' : World} {a : Option Addr} {l : List ByteArray} {lo hi : Nat} (h : TV w a l lo hi) {row : Option Nat} (hg : w.grownBy w' row) (hr : ∀ g, row = some g → hi ≤ g) : TV w' a l lo hi := by
  rcases h with h | ⟨g, h1, h2, h3, h4, h5, h6⟩
  · exact .inl h
  · have hb : w'.heap[g]? = w.heap[g]? := hg.block g h4 (fun e => by have := hr g e.symm; omega)
    refine .inr ⟨g, h1, h2, h3, Nat.lt_of_lt_of_le h4 hg.size, fun i => ?_, fun i x hx => ?_⟩
    · rw [← h5 i]; unfold World.frozen?; rw [hb]
    · rw [← h6 i x hx]; unfold World.cell?; rw [hb]
theorem below_grown {B : Nat} {w w1 w2 : World} (h : Below B w w1) {row : Option Nat} (hg : w1.grownBy w2 row) (hB : B ≤ w1.heap.size) (hr : ∀ g, row = some g → B ≤ g) : Below B w w2 :=
  h.grown hg hB (fun k e => hr k e)

/-- What is answered, in one shape. -/
def lst (o : Option (List ByteArray)) : List ByteArray := o.getD []
theorem told_tv {w : World} {B : Nat} {e : Ending} {o : Option (List ByteArray)} (h : Lsp.Told w B e o) : ∃ a cap, e = .returned (.tuple #[.slice a (lst o).length cap, .bool o.isSome]) ∧ TV w a (lst o) B w.heap.size := by
  cases o with
  | none => exact ⟨none, 0, h, .inl rfl⟩
  | some l =>
    obtain ⟨v, rfl, hown⟩ := h
    obtain ⟨a, cap, rfl, ht⟩ := tv_of hown
    exact ⟨a, cap, rfl, ht⟩

end Go.Proofs.YtgidmoncocbfiaaGreatDoor.Mrk

