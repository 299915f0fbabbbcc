/-
  Walks: impl.UnquoteOf and spec.UnquoteOf tell the same.
-/
import Derived.Test.YtaplkbkpgdpbaaaDoorFbs
namespace Go.Proofs.YtaplkbkpgdpbaaaDoor.Unq
open Go.RowKit
open Go.Proofs.YtaplkbkpgdpbaaaDoor.Own
open Go.Proofs.YtaplkbkpgdpbaaaDoor.Fbs

/-- What stands within quotes, round by round: up to the place m, from the place k on, acc told so far. -/
def unqF (l : List UInt8) (m : Nat) : Nat → Nat → List UInt8 → Option (List UInt8)
  | 0, _, acc => some acc
  | f + 1, k, acc =>
    if k < m then
      if (l[k]?.getD 0).toNat = 34 then none
      else if (l[k]?.getD 0).toNat = 92 then
        if k + 1 = m then none else unqF l m f (k + 2) (acc ++ [l[k + 1]?.getD 0])
      else unqF l m f (k + 1) (acc ++ [l[k]?.getD 0])
    else some acc

theorem unqF_end {l : List UInt8} {m f k : Nat} {acc : List UInt8} (h : m ≤ k) : unqF l m f k acc = some acc := by
  cases f with
  | zero => rfl
  | succ f => simp only [unqF]; rw [if_neg (by omega)]
theorem unqF_bad {l : List UInt8} {m f k : Nat} {acc : List UInt8} (h : k < m) (hc : (l[k]?.getD 0).toNat = 34) : unqF l m (f + 1) k acc = none := by
  simp only [unqF]; rw [if_pos h, if_pos hc]
theorem unqF_cut {l : List UInt8} {m f k : Nat} {acc : List UInt8} (h : k + 1 = m) (hc : (l[k]?.getD 0).toNat = 92) : unqF l m (f + 1) k acc = none := by
  simp only [unqF]; rw [if_pos (by omega), if_neg (by omega), if_pos hc, if_pos h]
theorem unqF_esc {l : List UInt8} {m f k : Nat} {acc : List UInt8} (h : k + 1 < m) (hc : (l[k]?.getD 0).toNat = 92) : unqF l m (f + 1) k acc = unqF l m f (k + 2) (acc ++ [l[k + 1]?.getD 0]) := by
  simp only [unqF]; rw [if_pos (by omega), if_neg (by omega), if_pos hc, if_neg (by omega)]
theorem unqF_one {l : List UInt8} {m f k : Nat} {acc : List UInt8} (h : k < m) (h1 : (l[k]?.getD 0).toNat ≠ 34) (h2 : (l[k]?.getD 0).toNat ≠ 92) : unqF l m (f + 1) k acc = unqF l m f (k + 1) (acc ++ [l[k]?.getD 0]) := by
  simp only [unqF]; rw [if_pos h, if_neg h1, if_neg h2]

/-- Whether a text stands within quotes. -/
def heldB (l : List UInt8) : Bool := decide (2 ≤ l.length) && decide ((l[0]?.getD 0).toNat = 34) && decide ((l[l.length - 1]?.getD 0).toNat = 34)
def unqO (l : List UInt8) : Option (List UInt8) :=
  if heldB l = true then
    match unqF l (l.length - 1) l.length 1 [] with
    | none => none
    | some r => if r.length ≤ 100 ∧ plainB r = true then some r else none
  else none
def unqV : Option (List UInt8) → Value
  | some r => .tuple #[.string ⟨r.toArray⟩, .bool true]
  | none => .tuple #[.string ⟨#[]⟩, .bool false]
theorem ret_unq {a b : Option (List UInt8)} (h : a = b) : Ending.returned (unqV a) = .returned (unqV b) := by rw [h]

theorem held_facts {s : ByteArray} (h : heldB s.data.toList = true) : ∃ h2 : 2 ≤ s.size, (s[0].toNat : Int) = 34 ∧ (s[s.size - 1].toNat : Int) = 34 := by
  unfold heldB at h
  rw [len_list] at h
  simp only [Bool.and_eq_true, decide_eq_true_eq] at h
  obtain ⟨⟨h1, h2⟩, h3⟩ := h
  refine ⟨h1, ?_, ?_⟩
  · rw [at_list s 0 (by omega)] at h2; omega
  · rw [at_list s (s.size - 1) (by omega)] at h3; omega
theorem held_no {s : ByteArray} (h : heldB s.data.toList = false) : s.size < 2 ∨ ∃ h2 : 2 ≤ s.size, (s[0].toNat : Int) ≠ 34 ∨ ((s[0].toNat : Int) = 34 ∧ (s[s.size - 1].toNat : Int) ≠ 34) := by
  by_cases h2 : 2 ≤ s.size
  · right
    refine ⟨h2, ?_⟩
    unfold heldB at h
    rw [len_list, at_list s 0 (by omega), at_list s (s.size - 1) (by omega), decide_eq_true h2, Bool.true_and] at h
    simp only [Bool.and_eq_false_iff, decide_eq_false_iff_not] at h
    omega
  · left; omega

set_option maxRecDepth 20000 in
set_option maxHeartbeats 800000 in
theorem implUnquote_any (s : ByteArray) (w : World) (hs : s.size ≤ 2000000) :
    Calls Tryd.prog 12 #[.string s] w fun e w' => e = .returned (unqV (unqO s.data.toList)) ∧ Below w.heap.size w w' := by
  cases hh : heldB s.data.toList
  · have HV : unqO s.data.toList = none := by unfold unqO; rw [hh]; rfl
    rw [HV]
    have hn := held_no hh
    clear hh HV
    rcases hn with h | ⟨h2, h | ⟨h0, h⟩⟩
    · go_enter Tryd.func12, Tryd.ntmps12
      go_wp2_with fail
      go_ret2
      exact ⟨rfl, Below.refl _ _⟩
    · have h' : ((s[0].toNat : Int) != 34) = true := by simpa using h
      go_enter Tryd.func12, Tryd.ntmps12
      go_wp2_with fail
      go_ret2
      exact ⟨rfl, Below.refl _ _⟩
    · have h0' : ((s[0].toNat : Int) != 34) = false := by simpa using h0
      have h' : ((s[s.size - 1].toNat : Int) != 34) = true := by simpa using h
      go_enter Tryd.func12, Tryd.ntmps12
      go_wp2_with fail
      go_ret2
      exact ⟨rfl, Below.refl _ _⟩
  · obtain ⟨h2, f0, f1⟩ := held_facts hh
    have HO : Hid (∀ o, unqF s.data.toList (s.size - 1) s.size 1 [] = o → unqO s.data.toList = match o with | none => none | some r => if r.length ≤ 100 ∧ plainB r = true then some r else none) := by
      intro o ho
      unfold unqO
      rw [hh, len_list, ho]; rfl
    clear hh
    have f0' : ((s[0].toNat : Int) != 34) = false := by simpa using f0
    have f1' : ((s[s.size - 1].toNat : Int) != 34) = false := by simpa using f1
    clear f0 f1
    go_enter Tryd.func12, Tryd.ntmps12
    go_wp2_with fail
    go_loopw [5, 6] (fun v i wr => ∃ (k f : Nat) (acc : List UInt8), 1 ≤ k ∧ k ≤ s.size - 1 ∧ s.size - 1 ≤ k + f ∧ acc.length ≤ k ∧ i = .int .i64 k ∧ bytesIn wr w.heap.size v acc ∧ Below w.heap.size w wr ∧ Hid (unqF s.data.toList (s.size - 1) s.size 1 [] = unqF s.data.toList (s.size - 1) f k acc))
      (fun _ i _ => s.size - (intOf i).toNat)
    case atStart => exact ⟨1, s.size, [], by omega, by omega, by omega, by simp, rfl, World.ownsRow_made w #[] 0 (Nat.le_refl _) (by decide) rfl, (Below.refl _ _).alloc (Nat.le_refl _) _, rfl⟩
    case round =>
      obtain ⟨k, f, acc, hk1, hk, hf, hacc, rfl, hown, hbel, HD⟩ := hrel
      have hB := hbel.size
      by_cases hlt : k < s.size - 1
      · have e0 := at_list s k (by omega)
        obtain ⟨f', rfl⟩ : ∃ f', f = f' + 1 := ⟨f - 1, by omega⟩
        have hki : (k : Int) < (s.size : Int) - 1 := by omega
        by_cases h34 : (s[k].toNat : Int) = 34
        · have HR : Hid (Ending.returned (.tuple #[.string ⟨#[]⟩, .bool false]) = .returned (unqV (unqO s.data.toList))) := by
            show _ = _
            rw [HO.out none (by rw [HD.out]; exact unqF_bad hlt (by rw [e0]; omega))]; rfl
          clear HD e0 hown HO
          have h34' : ((s[k].toNat : Int) == 34) = true := by simpa using h34
          go_wp2_with fail
          go_ret2
          exact ⟨HR.out, hbel⟩
        · have h34' : ((s[k].toNat : Int) == 34) = false := by simpa using h34
          by_cases h92 : (s[k].toNat : Int) = 92
          · have h92' : ((s[k].toNat : Int) == 92) = true := by simpa using h92
            by_cases hend : k + 1 = s.size - 1
            · have HR : Hid (Ending.returned (.tuple #[.string ⟨#[]⟩, .bool false]) = .returned (unqV (unqO s.data.toList))) := by
                show _ = _
                rw [HO.out none (by rw [HD.out]; exact unqF_cut hend (by rw [e0]; omega))]; rfl
              clear HD e0 hown HO
              have hx : ((k : Int) + 1 == (s.size : Int) - 1) = true := by simp; omega
              go_wp2_with fail
              go_ret2
              exact ⟨HR.out, hbel⟩
            · have e1 := at_list s (k + 1) (by omega)
              have HD' : Hid (unqF s.data.toList (s.size - 1) s.size 1 [] = unqF s.data.toList (s.size - 1) f' (k + 2) (acc ++ [s[k + 1]])) := by
                show _ = _
                rw [HD.out, unqF_esc (by omega) (by rw [e0]; omega), e1]
              clear HD e0 e1
              have hx : ((k : Int) + 1 == (s.size : Int) - 1) = false := by simp; omega
              go_wp2_with (at_builtin; refine wpList_append_one _ rfl _ _ rfl w.heap.size _ acc (by rfl) hown _ s[k + 1] rfl _ rfl ?q3 ?q4 w hbel ?_)
              case q3 => omega
              case q4 => exact hB
              intro v' w1 hown' hbel'
              clear hown hbel hB
              go_wp2
              go_roundw
              case rel => exact ⟨k + 2, f', _, by omega, by omega, by omega, by simp; omega, by go_num, hown', hbel', HD'⟩
              case measure => simp [intOf]; omega
          · have h92' : ((s[k].toNat : Int) == 92) = false := by simpa using h92
            have HD' : Hid (unqF s.data.toList (s.size - 1) s.size 1 [] = unqF s.data.toList (s.size - 1) f' (k + 1) (acc ++ [s[k]])) := by
              show _ = _
              rw [HD.out, unqF_one hlt (by rw [e0]; omega) (by rw [e0]; omega), e0]
            clear HD e0
            have hx : ((k : Int) == (s.size : Int) - 1) = false := by simp; omega
            go_wp2_with (at_builtin; refine wpList_append_one _ rfl _ _ rfl w.heap.size _ acc (by rfl) hown _ s[k] rfl _ rfl ?q3 ?q4 w hbel ?_)
            case q3 => omega
            case q4 => exact hB
            intro v' w1 hown' hbel'
            clear hown hbel hB
            go_wp2
            go_roundw
            case rel => exact ⟨k + 1, f', _, by omega, by omega, by omega, by simp; omega, by go_num, hown', hbel', HD'⟩
            case measure => simp [intOf]; omega
      · have hki : (s.size : Int) - 1 ≤ (k : Int) := by omega
        have HD' := HO.out (some acc) (by rw [HD.out]; exact unqF_end (by omega))
        have hcv := run_text _ _ _ _ hown
        have hQ := isQuotable_any ⟨acc.toArray⟩ wr
        have hqe : quotable ⟨acc.toArray⟩ = (decide (acc.length ≤ 100) && plainB acc) := by unfold quotable; simp [ByteArray.size]
        rw [hqe] at hQ
        cases hq : decide (acc.length ≤ 100) && plainB acc
        · rw [hq] at hQ
          have HR : Hid (Ending.returned (.tuple #[.string ⟨#[]⟩, .bool false]) = .returned (unqV (unqO s.data.toList))) := by
            show _ = _
            rw [HD']; simp only
            rw [if_neg (by intro h; rw [decide_eq_true h.1, h.2] at hq; cases hq)]; rfl
          clear HD HD' hown HO hqe hq
          generalize (⟨acc.toArray⟩ : ByteArray) = T at hcv hQ
          go_wp2_with (go_at_call 45; refine hQ.mono ?_; rintro e w' ⟨rfl, hw⟩; obtain rfl := hw.symm)
          go_ret2
          exact ⟨HR.out, hbel⟩
        · rw [hq] at hQ
          have HR : Hid (Ending.returned (.tuple #[.string ⟨acc.toArray⟩, .bool true]) = .returned (unqV (unqO s.data.toList))) := by
            show _ = _
            rw [HD']; simp only
            rw [if_pos (by simpa using hq)]; rfl
          clear HD HD' hown HO hqe hq
          generalize (⟨acc.toArray⟩ : ByteArray) = T at hcv hQ HR
          go_wp2_with (go_at_call 45; refine hQ.mono ?_; rintro e w' ⟨rfl, hw⟩; obtain rfl := hw.symm)
          go_ret2
          exact ⟨HR.out, hbel⟩

theorem plain_mem {l : List UInt8} (h : plainB l = true) (j : Nat) (hj : j < l.length) : seenB ((l[j]?.getD 0).toNat : Int) = true := by
  unfold plainB at h
  rw [List.all_eq_true] at h
  have := h l[j] (List.getElem_mem hj)
  rw [List.getElem?_eq_getElem hj]
  exact this
theorem plain_snoc {acc : List UInt8} {c : UInt8} (h : plainB acc = true) (hc : seenB (c.toNat : Int) = true) : plainB (acc ++ [c]) = true := by
  unfold plainB at h ⊢
  rw [List.all_append, h]
  simp [hc]

/-- A text with a byte that can't be seen, within quotes: what is told has it, too, or there is nothing to tell. -/
theorem unqF_plain {l : List UInt8} {m : Nat} : ∀ (f k : Nat) (acc r : List UInt8), m ≤ k + f → unqF l m f k acc = some r → plainB r = true → plainB acc = true ∧ ∀ j, k ≤ j → j < m → seenB ((l[j]?.getD 0).toNat : Int) = true
  | 0, k, acc, r, hm, h, hr => by
    simp only [unqF, Option.some.injEq] at h
    subst h
    exact ⟨hr, fun j h1 h2 => absurd h2 (by omega)⟩
  | f + 1, k, acc, r, hm, h, hr => by
    have hsp : ∀ (c : UInt8), plainB (acc ++ [c]) = true → plainB acc = true ∧ seenB (c.toNat : Int) = true := by
      intro c hc
      unfold plainB at hc ⊢
      rw [List.all_append, Bool.and_eq_true] at hc
      exact ⟨hc.1, by simpa using hc.2⟩
    by_cases hk : k < m
    · by_cases h34 : (l[k]?.getD 0).toNat = 34
      · rw [unqF_bad hk h34] at h; cases h
      · by_cases h92 : (l[k]?.getD 0).toNat = 92
        · by_cases he : k + 1 = m
          · rw [unqF_cut he h92] at h; cases h
          · rw [unqF_esc (by omega) h92] at h
            obtain ⟨a, b⟩ := unqF_plain f (k + 2) _ r (by omega) h hr
            obtain ⟨a1, a2⟩ := hsp _ a
            refine ⟨a1, fun j h1 h2 => ?_⟩
            rcases (show j = k ∨ j = k + 1 ∨ k + 2 ≤ j from by omega) with rfl | rfl | h3
            · rw [h92]; rfl
            · exact a2
            · exact b j h3 h2
        · rw [unqF_one hk h34 h92] at h
          obtain ⟨a, b⟩ := unqF_plain f (k + 1) _ r (by omega) h hr
          obtain ⟨a1, a2⟩ := hsp _ a
          refine ⟨a1, fun j h1 h2 => ?_⟩
          rcases (show j = k ∨ k + 1 ≤ j from by omega) with rfl | h3
          · exact a2
          · exact b j h3 h2
    · rw [unqF_end (by omega)] at h
      simp only [Option.some.injEq] at h
      subst h
      exact ⟨hr, fun j h1 h2 => absurd h2 (by omega)⟩
theorem unq_not_plain {l : List UInt8} (h : plainB l = false) : unqO l = none := by
  unfold unqO
  cases hh : heldB l
  · rfl
  · simp only [if_true]
    cases hu : unqF l (l.length - 1) l.length 1 [] with
    | none => rfl
    | some r =>
      simp only
      by_cases hr : r.length ≤ 100 ∧ plainB r = true
      · exfalso
        obtain ⟨_, b⟩ := unqF_plain l.length 1 [] r (by omega) hu hr.2
        unfold heldB at hh
        simp only [Bool.and_eq_true, decide_eq_true_eq] at hh
        obtain ⟨⟨h1, h2⟩, h3⟩ := hh
        have : plainB l = true := by
          unfold plainB
          refine all_yes fun j hj => ?_
          rcases (show j = 0 ∨ j = l.length - 1 ∨ (1 ≤ j ∧ j < l.length - 1) from by omega) with rfl | rfl | h4
          · rw [h2]; rfl
          · rw [h3]; rfl
          · exact b j h4.1 h4.2
        rw [this] at h; cases h
      · rw [if_neg hr]
/-- Of a text that can be seen what stands within quotes can be, too. -/
theorem unqF_seen {l : List UInt8} {m : Nat} (hl : plainB l = true) (hm : m ≤ l.length) : ∀ (f k : Nat) (acc r : List UInt8), plainB acc = true → unqF l m f k acc = some r → plainB r = true
  | 0, k, acc, r, ha, h => by
    simp only [unqF, Option.some.injEq] at h
    subst h; exact ha
  | f + 1, k, acc, r, ha, h => by
    by_cases hk : k < m
    · by_cases h34 : (l[k]?.getD 0).toNat = 34
      · rw [unqF_bad hk h34] at h; cases h
      · by_cases h92 : (l[k]?.getD 0).toNat = 92
        · by_cases he : k + 1 = m
          · rw [unqF_cut he h92] at h; cases h
          · rw [unqF_esc (by omega) h92] at h
            exact unqF_seen hl hm f (k + 2) _ r (plain_snoc ha (plain_mem hl (k + 1) (by omega))) h
        · rw [unqF_one hk h34 h92] at h
          exact unqF_seen hl hm f (k + 1) _ r (plain_snoc ha (plain_mem hl k (by omega))) h
    · rw [unqF_end (by omega)] at h
      simp only [Option.some.injEq] at h
      subst h; exact ha

theorem shape {w : World} {B : Nat} {v : Value} {l : List UInt8} (h : bytesIn w B v l) : ∃ a c, v = .slice a l.length c := by
  obtain ⟨h1, h2⟩ := h
  rcases h2 with ⟨rfl, h0⟩ | ⟨g, cap, cur, rfl, _⟩
  · exact ⟨none, 0, by rw [h0]⟩
  · exact ⟨_, _, rfl⟩

end Go.Proofs.YtaplkbkpgdpbaaaDoor.Unq
