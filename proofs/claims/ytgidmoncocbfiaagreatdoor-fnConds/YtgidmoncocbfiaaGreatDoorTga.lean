/-
  Pure: tags. Walks of spec: l7Tag, l7Text, TagText, l7Read, ReadTag, StrongSame, WeakSame.
-/
import Derived.Test.YtgidmoncocbfiaaGreatDoorMg1
import Derived.Deep.RegionHeld3
import Derived.Laws.StructEq
namespace Go.Proofs.YtgidmoncocbfiaaGreatDoor.Tga
open Go.RowKit
open Go.Proofs.YtgidmoncocbfiaaGreatDoor.Fbs
open Go.Proofs.YtgidmoncocbfiaaGreatDoor.Unq (heldB held_facts held_no)

/-- A byte of a tag. -/
def okT (c : UInt8) : Bool := decide (33 ≤ c.toNat ∧ c.toNat ≤ 126 ∧ c.toNat ≠ 34 ∧ c.toNat ≠ 92)
/-- A tag's text is good. -/
def tagB (t : ByteArray) : Bool := t.data.toList.all okT && decide (t.size ≤ 60)
/-- A tag told. -/
def tagT (k : Bool) (t : ByteArray) : ByteArray := if k then (⟨#[87, 47, 34]⟩ : ByteArray) ++ t ++ ⟨#[34]⟩ else (⟨#[34]⟩ : ByteArray) ++ t ++ ⟨#[34]⟩
/-- What is within the quotes, of a text that is held in them. -/
def inQ (s : ByteArray) : Option ByteArray := if heldB s.data.toList = true ∧ tagB (s.extract 1 (s.size - 1)) = true then some (s.extract 1 (s.size - 1)) else none
/-- Whether it begins with W/ and more. -/
def weakB (s : ByteArray) : Bool := decide (2 < s.size) && ((s.extract 0 2).toList == [87, 47])
/-- A tag read. -/
def readT (s : ByteArray) : Option (Bool × ByteArray) :=
  if weakB s then (inQ (s.extract 2 s.size)).map fun t => (true, t) else (inQ s).map fun t => (false, t)
def tagV (o : Option (Bool × ByteArray)) : Value := match o with
  | some c => .tuple #[.agg #[.bool c.1, .string c.2], .bool true]
  | none => .tuple #[.agg #[.bool false, .string ⟨#[]⟩], .bool false]
theorem ret_tag {a b : Option (Bool × ByteArray)} (h : a = b) : Ending.returned (tagV a) = .returned (tagV b) := by rw [h]
theorem bad_byte {n : Nat} (h : ¬ (33 ≤ n ∧ n ≤ 126 ∧ n ≠ 34 ∧ n ≠ 92)) : (n : Int) < 33 ∨ (33 ≤ (n : Int) ∧ 126 < (n : Int)) ∨ ((33 ≤ (n : Int) ∧ (n : Int) ≤ 126) ∧ (n : Int) = 34) ∨ ((33 ≤ (n : Int) ∧ (n : Int) ≤ 126) ∧ (n : Int) ≠ 34 ∧ (n : Int) = 92) := by omega

set_option maxRecDepth 20000 in
set_option maxHeartbeats 3200000 in
theorem l7Tag_any (k : Bool) (t : ByteArray) (w : World) (ht : t.size ≤ 2000000) :
    Calls Tryz.prog 59 #[.agg #[.bool k, .string t]] w fun e w' => e = .returned (.bool (tagB t)) ∧ Below w.heap.size w w' := by
  obtain ⟨W, hW⟩ : ∃ W, W = w.alloc (.cells #[.bool k, .string t] 25) := ⟨_, rfl⟩
  have hn : w.heap.size < W.heap.size := by rw [hW]; simp
  have HB : Hid (Below w.heap.size w W) := by rw [hW]; exact (Below.refl _ _).alloc (Nat.le_refl _) _
  have x1 : W.cell? ⟨w.heap.size, 1, none⟩ = some (.string t) := by rw [hW]; simp [go_sem]
  go_enter Tryz.func59, Tryz.ntmps59
  go_wp2_with fail
  rw [← hW]
  clear hW
  go_loopw [3] (fun i wr => ∃ j : Nat, j ≤ t.size ∧ i = .int .i64 j ∧ Hid (∀ q, q < j → okT (t.data.toList[q]?.getD 0) = true) ∧ Hid (Below W.heap.size W wr)) (fun i _ => t.size - (intOf i).toNat)
  case atStart => exact ⟨0, by omega, rfl, fun q hq => absurd hq (by omega), Below.refl _ _⟩
  case round =>
    obtain ⟨j, hj, rfl, HA, HW⟩ := hrel
    have y1 := (HW.out.cell (p := ⟨w.heap.size, 1, none⟩) hn).trans x1
    have HZ : Hid (Below w.heap.size w wr) := HB.out.trans (HW.out.mono HB.out.size)
    clear x1
    by_cases hlt : j < t.size
    · have e0 := at_list t j hlt
      by_cases hc : 33 ≤ t[j].toNat ∧ t[j].toNat ≤ 126 ∧ t[j].toNat ≠ 34 ∧ t[j].toNat ≠ 92
      · have HA' : Hid (∀ q, q < j + 1 → okT (t.data.toList[q]?.getD 0) = true) := by
          intro q hq
          by_cases hjk : q = j
          · subst hjk; rw [e0]; exact decide_eq_true hc
          · exact HA.out q (by omega)
        obtain ⟨c1, c2, c3, c4⟩ := hc
        have d1 : decide ((t[j].toNat : Int) < 33) = false := decide_eq_false (by omega)
        have d2 : decide (126 < (t[j].toNat : Int)) = false := decide_eq_false (by omega)
        have d3 : ((t[j].toNat : Int) == 34) = false := by simp; omega
        have d4 : ((t[j].toNat : Int) == 92) = false := by simp; omega
        clear HA e0 c1 c2 c3 c4
        go_wp2_with fail
        refine ⟨⟨j + 1, by omega, by go_num, HA', HW⟩, ?_⟩
        simp [intOf]; omega
      · have HF : Hid (tagB t = false) := by
          show _ = _
          unfold tagB
          rw [all_no (k := j) (by rw [len_list]; exact hlt) (by rw [e0]; exact decide_eq_false hc)]; rfl
        rcases bad_byte hc with h | ⟨h1, h2⟩ | ⟨⟨h1, h2⟩, h3⟩ | ⟨⟨h1, h2⟩, h3, h4⟩
        · have d1 : decide ((t[j].toNat : Int) < 33) = true := decide_eq_true h
          clear HA e0 hc h
          go_wp2_with fail
          go_ret
          exact ⟨ret_bool HF.out.symm, HZ.out⟩
        · have d1 : decide ((t[j].toNat : Int) < 33) = false := decide_eq_false (by omega)
          have d2 : decide (126 < (t[j].toNat : Int)) = true := decide_eq_true h2
          clear HA e0 hc h1 h2
          go_wp2_with fail
          go_ret
          exact ⟨ret_bool HF.out.symm, HZ.out⟩
        · have d1 : decide ((t[j].toNat : Int) < 33) = false := decide_eq_false (by omega)
          have d2 : decide (126 < (t[j].toNat : Int)) = false := decide_eq_false (by omega)
          have d3 : ((t[j].toNat : Int) == 34) = true := by simpa using h3
          clear HA e0 hc h1 h2 h3
          go_wp2_with fail
          go_ret
          exact ⟨ret_bool HF.out.symm, HZ.out⟩
        · have d1 : decide ((t[j].toNat : Int) < 33) = false := decide_eq_false (by omega)
          have d2 : decide (126 < (t[j].toNat : Int)) = false := decide_eq_false (by omega)
          have d3 : ((t[j].toNat : Int) == 34) = false := by simpa using h3
          have d4 : ((t[j].toNat : Int) == 92) = true := by simpa using h4
          clear HA e0 hc h1 h2 h3 h4
          go_wp2_with fail
          go_ret
          exact ⟨ret_bool HF.out.symm, HZ.out⟩
    · have HF : Hid (tagB t = decide (t.size ≤ 60)) := by
        show _ = _
        unfold tagB
        rw [all_yes (fun q hq => HA.out q (by rw [len_list] at hq; omega)), Bool.true_and]
      clear HA
      go_wp2_with fail
      go_ret
      exact ⟨ret_bool (by rw [HF.out]; exact decide_eq_decide.2 (by omega)), HZ.out⟩

/-! Told and held against one another. -/

set_option maxHeartbeats 1600000 in
theorem l7Text_any (k : Bool) (t : ByteArray) (w : World) (ht : t.size ≤ 2000000) :
    Calls Tryz.prog 43 #[.agg #[.bool k, .string t]] w fun e w' => e = .returned (.string (tagT k t)) ∧ Below w.heap.size w w' := by
  have hb : Hid _ := (Below.refl w.heap.size w).alloc (Nat.le_refl _) (.cells #[.bool k, .string t] 25)
  have c1 : (⟨#[34]⟩ : ByteArray).size = 1 := rfl
  have c3 : (⟨#[87, 47, 34]⟩ : ByteArray).size = 3 := rfl
  cases k
  · have k1 : ¬ 9223372036854775807 < 1 + t.size := by omega
    have k2 : ¬ 9223372036854775807 < 1 + t.size + 1 := by omega
    have HR : Hid (tagT false t = (⟨#[34]⟩ : ByteArray) ++ t ++ ⟨#[34]⟩) := rfl
    go_enter Tryz.func43, Tryz.ntmps43
    go_wp2_with fail
    go_ret
    exact ⟨ret_str HR.out.symm, hb.out⟩
  · have k1 : ¬ 9223372036854775807 < 3 + t.size := by omega
    have k2 : ¬ 9223372036854775807 < 3 + t.size + 1 := by omega
    have HR : Hid (tagT true t = (⟨#[87, 47, 34]⟩ : ByteArray) ++ t ++ ⟨#[34]⟩) := rfl
    go_enter Tryz.func43, Tryz.ntmps43
    go_wp2_with fail
    go_ret
    exact ⟨ret_str HR.out.symm, hb.out⟩

def tagS (k : Bool) (t : ByteArray) : ByteArray := if tagB t then tagT k t else ⟨#[]⟩
/-- Strongly the same. -/
def strongB (k1 : Bool) (t1 : ByteArray) (k2 : Bool) (t2 : ByteArray) : Bool := tagB t1 && tagB t2 && !k1 && !k2 && (t1.toList == t2.toList)
/-- Weakly the same. -/
def sameB (t1 t2 : ByteArray) : Bool := tagB t1 && tagB t2 && (t1.toList == t2.toList)
theorem eq_tag (k1 k2 : Bool) (t1 t2 : ByteArray) (wx : World) : (binOp .eql 25 (.agg #[.bool k1, .string t1]) (.agg #[.bool k2, .string t2])).run Tryz.prog wx = .ok (.bool ((k1 == k2) && (t1.toList == t2.toList))) wx := by
  by_cases ht : t1.toList = t2.toList <;> by_cases hk : k1 = k2
  · subst hk; simp [go_sem, ht]
  · simp [go_sem, ht, hk]
  · subst hk; simp [go_sem, ht]
  · simp [go_sem, ht, hk]

set_option maxRecDepth 20000 in
set_option maxHeartbeats 6400000 in
theorem l7Read_any (s : ByteArray) (w : World) (hs : s.size ≤ 2000000) :
    Calls Tryz.prog 35 #[.string s] w fun e w' => e = .returned (tagV (readT s)) ∧ Below w.heap.size w w' := by
  by_cases hz : 2 < s.size
  · have hd : decide (2 < (s.size : Int)) = true := decide_eq_true (by omega)
    cases hq : ((s.extract 0 2).toList == [87, 47])
    · have HR : Hid (readT s = (inQ s).map fun t => (false, t)) := by
        show _ = _
        unfold readT weakB
        rw [decide_eq_true hz, hq]; rfl
      rw [HR.out]
      clear HR
      have HF : Hid (Below w.heap.size w ((w.alloc (.cells #[.bool false, .string ⟨#[]⟩] 25)).alloc (.cells #[.bool false, .string ⟨#[]⟩] 25))) := ((Below.refl _ _).alloc (Nat.le_refl _) _).alloc (by simp) _
      cases hh : heldB s.data.toList
      · have HV : inQ s = none := by unfold inQ; rw [hh]; rfl
        rw [HV]
        have hn := held_no hh
        clear hh HV
        rcases hn with h | ⟨h2, h | ⟨h0, h⟩⟩
        · omega
        · have h' : ((s[0].toNat : Int) != 34) = true := by simpa using h
          clear h
          go_enter Tryz.func35, Tryz.ntmps35
          go_wp2_with fail
          exact bodyPost_ret (v := .tuple #[.agg #[.bool false, .string ⟨#[]⟩], .bool false]) (by simp [results, Tryz.results35, go_sem]) rfl ⟨rfl, HF.out⟩
        · have h0' : ((s[0].toNat : Int) != 34) = false := by simpa using h0
          have h' : ((s[s.size - 1].toNat : Int) != 34) = true := by simpa using h
          clear h h0
          go_enter Tryz.func35, Tryz.ntmps35
          go_wp2_with fail
          exact bodyPost_ret (v := .tuple #[.agg #[.bool false, .string ⟨#[]⟩], .bool false]) (by simp [results, Tryz.results35, go_sem]) rfl ⟨rfl, HF.out⟩
      · obtain ⟨h2, f0, f1⟩ := held_facts hh
        have f0' : ((s[0].toNat : Int) != 34) = false := by simpa using f0
        have f1' : ((s[s.size - 1].toNat : Int) != 34) = false := by simpa using f1
        have HQ : Hid (inQ s = if tagB (s.extract 1 (s.size - 1)) = true then some (s.extract 1 (s.size - 1)) else none) := by show _ = _; unfold inQ; simp [hh]
        obtain ⟨O, hO⟩ : ∃ O, O = inQ s := ⟨_, rfl⟩
        rw [← hO]
        have HO : Hid (O = if tagB (s.extract 1 (s.size - 1)) = true then some (s.extract 1 (s.size - 1)) else none) := hO.trans HQ.out
        have hTz : (s.extract 1 (s.size - 1)).size ≤ 2000000 := by rw [ByteArray.size_extract]; omega
        have HG : Hid _ := fun wx => l7Tag_any false (s.extract 1 (s.size - 1)) wx hTz
        obtain ⟨W, hW⟩ : ∃ W, W = (w.alloc (.cells #[.bool false, .string ⟨#[]⟩] 25)).alloc (.cells #[.bool false, .string (s.extract 1 (s.size - 1))] 25) := ⟨_, rfl⟩
        have hb1 : Below w.heap.size w W := by rw [hW]; exact ((Below.refl _ _).alloc (Nat.le_refl _) _).alloc (by simp) _
        have hsz : W.heap.size = w.heap.size + 2 := by rw [hW]; simp
        have x0 : W.cell? ⟨w.heap.size, 0, none⟩ = some (.bool false) := by rw [hW]; simp [go_sem]
        have x1 : W.cell? ⟨w.heap.size, 1, none⟩ = some (.string ⟨#[]⟩) := by rw [hW]; simp [go_sem]
        have xf : ∀ i, W.frozen? ⟨w.heap.size, i, none⟩ = false := by intro i; rw [hW]; simp [go_sem]
        have z0 : W.cell? ⟨w.heap.size + 1, 0, none⟩ = some (.bool false) := by rw [hW]; simp [go_sem]
        have z1 : W.cell? ⟨w.heap.size + 1, 1, none⟩ = some (.string (s.extract 1 (s.size - 1))) := by rw [hW]; simp [go_sem]
        clear HQ hh f0 f1 hO
        go_enter Tryz.func35, Tryz.ntmps35
        go_wp2_with fail
        rw [← hW]
        clear hW
        with_reducible refine (HG.out _).mono ?_
        rintro e w2 ⟨rfl, hb2⟩
        have y0 := (hb2.cell (p := ⟨w.heap.size, 0, none⟩) (by show w.heap.size < _; omega)).trans x0
        have y1 := (hb2.cell (p := ⟨w.heap.size, 1, none⟩) (by show w.heap.size < _; omega)).trans x1
        have yf : ∀ i, w2.frozen? ⟨w.heap.size, i, none⟩ = false := fun i => (hb2.frozen (p := ⟨w.heap.size, i, none⟩) (by show w.heap.size < _; omega)).trans (xf i)
        have v0 := (hb2.cell (p := ⟨w.heap.size + 1, 0, none⟩) (by show w.heap.size + 1 < _; omega)).trans z0
        have v1 := (hb2.cell (p := ⟨w.heap.size + 1, 1, none⟩) (by show w.heap.size + 1 < _; omega)).trans z1
        have hb3 : Hid (Below w.heap.size w w2) := hb1.trans (hb2.mono hb1.size)
        have hn2 : w.heap.size + 2 ≤ w2.heap.size := hsz ▸ hb2.size
        clear x0 x1 xf z0 z1 hb2 hsz hb1 HG HF
        generalize s.extract 1 (s.size - 1) = T at *
        cases hB : tagB T
        · have HP : Hid (O = none) := by rw [hB] at HO; exact HO.out
          clear HO
          go_wp2_with fail
          exact bodyPost_ret (v := .tuple #[.agg #[.bool false, .string ⟨#[]⟩], .bool false]) (by simp [results, Tryz.results35, go_sem, y0, y1]) rfl ⟨by rw [HP.out]; rfl, (hb3.out.setCell (p := ⟨w.heap.size, 0, none⟩) (Nat.le_refl _) _).setCell (p := ⟨w.heap.size, 1, none⟩) (Nat.le_refl _) _⟩
        · have HP : Hid (O = some T) := by rw [hB] at HO; exact HO.out
          clear HO
          go_wp2_with fail
          exact bodyPost_ret (v := .tuple #[.agg #[.bool false, .string T], .bool true]) (by simp [results, Tryz.results35, go_sem, y0, y1]) rfl ⟨by rw [HP.out]; rfl, (hb3.out.setCell (p := ⟨w.heap.size, 0, none⟩) (Nat.le_refl _) _).setCell (p := ⟨w.heap.size, 1, none⟩) (Nat.le_refl _) _⟩
    · have HR : Hid (readT s = (inQ (s.extract 2 s.size)).map fun t => (true, t)) := by
        show _ = _
        unfold readT weakB
        rw [decide_eq_true hz, hq]; rfl
      rw [HR.out]
      clear HR
      have hSz : (s.extract 2 s.size).size ≤ 2000000 := by rw [ByteArray.size_extract]; omega
      obtain ⟨S, hS⟩ : ∃ S, s.extract 2 s.size = S := ⟨_, rfl⟩
      rw [hS] at hSz
      rw [hS]
      have HF : Hid (Below w.heap.size w ((w.alloc (.cells #[.bool false, .string ⟨#[]⟩] 25)).alloc (.cells #[.bool true, .string ⟨#[]⟩] 25))) := ((Below.refl _ _).alloc (Nat.le_refl _) _).alloc (by simp) _
      cases hh : heldB S.data.toList
      · have HV : inQ S = none := by unfold inQ; rw [hh]; rfl
        rw [HV]
        have hn := held_no hh
        clear hh HV
        rcases hn with h | ⟨h2, h | ⟨h0, h⟩⟩
        · go_enter Tryz.func35, Tryz.ntmps35
          go_wp2_with fail
          exact bodyPost_ret (v := .tuple #[.agg #[.bool false, .string ⟨#[]⟩], .bool false]) (by simp [results, Tryz.results35, go_sem]) rfl ⟨rfl, HF.out⟩
        · have h' : ((S[0].toNat : Int) != 34) = true := by simpa using h
          clear h
          go_enter Tryz.func35, Tryz.ntmps35
          go_wp2_with fail
          exact bodyPost_ret (v := .tuple #[.agg #[.bool false, .string ⟨#[]⟩], .bool false]) (by simp [results, Tryz.results35, go_sem]) rfl ⟨rfl, HF.out⟩
        · have h0' : ((S[0].toNat : Int) != 34) = false := by simpa using h0
          have h' : ((S[S.size - 1].toNat : Int) != 34) = true := by simpa using h
          clear h h0
          go_enter Tryz.func35, Tryz.ntmps35
          go_wp2_with fail
          exact bodyPost_ret (v := .tuple #[.agg #[.bool false, .string ⟨#[]⟩], .bool false]) (by simp [results, Tryz.results35, go_sem]) rfl ⟨rfl, HF.out⟩
      · obtain ⟨h2, f0, f1⟩ := held_facts hh
        have f0' : ((S[0].toNat : Int) != 34) = false := by simpa using f0
        have f1' : ((S[S.size - 1].toNat : Int) != 34) = false := by simpa using f1
        have HQ : Hid (inQ S = if tagB (S.extract 1 (S.size - 1)) = true then some (S.extract 1 (S.size - 1)) else none) := by show _ = _; unfold inQ; simp [hh]
        obtain ⟨O, hO⟩ : ∃ O, O = inQ S := ⟨_, rfl⟩
        rw [← hO]
        have HO : Hid (O = if tagB (S.extract 1 (S.size - 1)) = true then some (S.extract 1 (S.size - 1)) else none) := hO.trans HQ.out
        have hTz : (S.extract 1 (S.size - 1)).size ≤ 2000000 := by rw [ByteArray.size_extract]; omega
        have HG : Hid _ := fun wx => l7Tag_any true (S.extract 1 (S.size - 1)) wx hTz
        obtain ⟨W, hW⟩ : ∃ W, W = (w.alloc (.cells #[.bool false, .string ⟨#[]⟩] 25)).alloc (.cells #[.bool true, .string (S.extract 1 (S.size - 1))] 25) := ⟨_, rfl⟩
        have hb1 : Below w.heap.size w W := by rw [hW]; exact ((Below.refl _ _).alloc (Nat.le_refl _) _).alloc (by simp) _
        have hsz : W.heap.size = w.heap.size + 2 := by rw [hW]; simp
        have x0 : W.cell? ⟨w.heap.size, 0, none⟩ = some (.bool false) := by rw [hW]; simp [go_sem]
        have x1 : W.cell? ⟨w.heap.size, 1, none⟩ = some (.string ⟨#[]⟩) := by rw [hW]; simp [go_sem]
        have xf : ∀ i, W.frozen? ⟨w.heap.size, i, none⟩ = false := by intro i; rw [hW]; simp [go_sem]
        have z0 : W.cell? ⟨w.heap.size + 1, 0, none⟩ = some (.bool true) := by rw [hW]; simp [go_sem]
        have z1 : W.cell? ⟨w.heap.size + 1, 1, none⟩ = some (.string (S.extract 1 (S.size - 1))) := by rw [hW]; simp [go_sem]
        clear HQ hh f0 f1 hO
        go_enter Tryz.func35, Tryz.ntmps35
        go_wp2_with fail
        rw [← hW]
        clear hW
        with_reducible refine (HG.out _).mono ?_
        rintro e w2 ⟨rfl, hb2⟩
        have y0 := (hb2.cell (p := ⟨w.heap.size, 0, none⟩) (by show w.heap.size < _; omega)).trans x0
        have y1 := (hb2.cell (p := ⟨w.heap.size, 1, none⟩) (by show w.heap.size < _; omega)).trans x1
        have yf : ∀ i, w2.frozen? ⟨w.heap.size, i, none⟩ = false := fun i => (hb2.frozen (p := ⟨w.heap.size, i, none⟩) (by show w.heap.size < _; omega)).trans (xf i)
        have v0 := (hb2.cell (p := ⟨w.heap.size + 1, 0, none⟩) (by show w.heap.size + 1 < _; omega)).trans z0
        have v1 := (hb2.cell (p := ⟨w.heap.size + 1, 1, none⟩) (by show w.heap.size + 1 < _; omega)).trans z1
        have hb3 : Hid (Below w.heap.size w w2) := hb1.trans (hb2.mono hb1.size)
        have hn2 : w.heap.size + 2 ≤ w2.heap.size := hsz ▸ hb2.size
        clear x0 x1 xf z0 z1 hb2 hsz hb1 HG HF
        generalize S.extract 1 (S.size - 1) = T at *
        cases hB : tagB T
        · have HP : Hid (O = none) := by rw [hB] at HO; exact HO.out
          clear HO
          go_wp2_with fail
          exact bodyPost_ret (v := .tuple #[.agg #[.bool false, .string ⟨#[]⟩], .bool false]) (by simp [results, Tryz.results35, go_sem, y0, y1]) rfl ⟨by rw [HP.out]; rfl, (hb3.out.setCell (p := ⟨w.heap.size, 0, none⟩) (Nat.le_refl _) _).setCell (p := ⟨w.heap.size, 1, none⟩) (Nat.le_refl _) _⟩
        · have HP : Hid (O = some T) := by rw [hB] at HO; exact HO.out
          clear HO
          go_wp2_with fail
          exact bodyPost_ret (v := .tuple #[.agg #[.bool true, .string T], .bool true]) (by simp [results, Tryz.results35, go_sem, y0, y1]) rfl ⟨by rw [HP.out]; rfl, (hb3.out.setCell (p := ⟨w.heap.size, 0, none⟩) (Nat.le_refl _) _).setCell (p := ⟨w.heap.size, 1, none⟩) (Nat.le_refl _) _⟩
  · have hd : decide (2 < (s.size : Int)) = false := decide_eq_false (by omega)
    have HR : Hid (readT s = (inQ s).map fun t => (false, t)) := by
      show _ = _
      unfold readT weakB
      rw [decide_eq_false hz]; rfl
    rw [HR.out]
    clear HR
    have HF : Hid (Below w.heap.size w ((w.alloc (.cells #[.bool false, .string ⟨#[]⟩] 25)).alloc (.cells #[.bool false, .string ⟨#[]⟩] 25))) := ((Below.refl _ _).alloc (Nat.le_refl _) _).alloc (by simp) _
    cases hh : heldB s.data.toList
    · have HV : inQ s = none := by unfold inQ; rw [hh]; rfl
      rw [HV]
      have hn := held_no hh
      clear hh HV
      rcases hn with h | ⟨h2, h | ⟨h0, h⟩⟩
      · go_enter Tryz.func35, Tryz.ntmps35
        go_wp2_with fail
        exact bodyPost_ret (v := .tuple #[.agg #[.bool false, .string ⟨#[]⟩], .bool false]) (by simp [results, Tryz.results35, go_sem]) rfl ⟨rfl, HF.out⟩
      · have h' : ((s[0].toNat : Int) != 34) = true := by simpa using h
        clear h
        go_enter Tryz.func35, Tryz.ntmps35
        go_wp2_with fail
        exact bodyPost_ret (v := .tuple #[.agg #[.bool false, .string ⟨#[]⟩], .bool false]) (by simp [results, Tryz.results35, go_sem]) rfl ⟨rfl, HF.out⟩
      · have h0' : ((s[0].toNat : Int) != 34) = false := by simpa using h0
        have h' : ((s[s.size - 1].toNat : Int) != 34) = true := by simpa using h
        clear h h0
        go_enter Tryz.func35, Tryz.ntmps35
        go_wp2_with fail
        exact bodyPost_ret (v := .tuple #[.agg #[.bool false, .string ⟨#[]⟩], .bool false]) (by simp [results, Tryz.results35, go_sem]) rfl ⟨rfl, HF.out⟩
    · obtain ⟨h2, f0, f1⟩ := held_facts hh
      have f0' : ((s[0].toNat : Int) != 34) = false := by simpa using f0
      have f1' : ((s[s.size - 1].toNat : Int) != 34) = false := by simpa using f1
      have HQ : Hid (inQ s = if tagB (s.extract 1 (s.size - 1)) = true then some (s.extract 1 (s.size - 1)) else none) := by show _ = _; unfold inQ; simp [hh]
      obtain ⟨O, hO⟩ : ∃ O, O = inQ s := ⟨_, rfl⟩
      rw [← hO]
      have HO : Hid (O = if tagB (s.extract 1 (s.size - 1)) = true then some (s.extract 1 (s.size - 1)) else none) := hO.trans HQ.out
      have hTz : (s.extract 1 (s.size - 1)).size ≤ 2000000 := by rw [ByteArray.size_extract]; omega
      have HG : Hid _ := fun wx => l7Tag_any false (s.extract 1 (s.size - 1)) wx hTz
      obtain ⟨W, hW⟩ : ∃ W, W = (w.alloc (.cells #[.bool false, .string ⟨#[]⟩] 25)).alloc (.cells #[.bool false, .string (s.extract 1 (s.size - 1))] 25) := ⟨_, rfl⟩
      have hb1 : Below w.heap.size w W := by rw [hW]; exact ((Below.refl _ _).alloc (Nat.le_refl _) _).alloc (by simp) _
      have hsz : W.heap.size = w.heap.size + 2 := by rw [hW]; simp
      have x0 : W.cell? ⟨w.heap.size, 0, none⟩ = some (.bool false) := by rw [hW]; simp [go_sem]
      have x1 : W.cell? ⟨w.heap.size, 1, none⟩ = some (.string ⟨#[]⟩) := by rw [hW]; simp [go_sem]
      have xf : ∀ i, W.frozen? ⟨w.heap.size, i, none⟩ = false := by intro i; rw [hW]; simp [go_sem]
      have z0 : W.cell? ⟨w.heap.size + 1, 0, none⟩ = some (.bool false) := by rw [hW]; simp [go_sem]
      have z1 : W.cell? ⟨w.heap.size + 1, 1, none⟩ = some (.string (s.extract 1 (s.size - 1))) := by rw [hW]; simp [go_sem]
      clear HQ hh f0 f1 hO
      go_enter Tryz.func35, Tryz.ntmps35
      go_wp2_with fail
      rw [← hW]
      clear hW
      with_reducible refine (HG.out _).mono ?_
      rintro e w2 ⟨rfl, hb2⟩
      have y0 := (hb2.cell (p := ⟨w.heap.size, 0, none⟩) (by show w.heap.size < _; omega)).trans x0
      have y1 := (hb2.cell (p := ⟨w.heap.size, 1, none⟩) (by show w.heap.size < _; omega)).trans x1
      have yf : ∀ i, w2.frozen? ⟨w.heap.size, i, none⟩ = false := fun i => (hb2.frozen (p := ⟨w.heap.size, i, none⟩) (by show w.heap.size < _; omega)).trans (xf i)
      have v0 := (hb2.cell (p := ⟨w.heap.size + 1, 0, none⟩) (by show w.heap.size + 1 < _; omega)).trans z0
      have v1 := (hb2.cell (p := ⟨w.heap.size + 1, 1, none⟩) (by show w.heap.size + 1 < _; omega)).trans z1
      have hb3 : Hid (Below w.heap.size w w2) := hb1.trans (hb2.mono hb1.size)
      have hn2 : w.heap.size + 2 ≤ w2.heap.size := hsz ▸ hb2.size
      clear x0 x1 xf z0 z1 hb2 hsz hb1 HG HF
      generalize s.extract 1 (s.size - 1) = T at *
      cases hB : tagB T
      · have HP : Hid (O = none) := by rw [hB] at HO; exact HO.out
        clear HO
        go_wp2_with fail
        exact bodyPost_ret (v := .tuple #[.agg #[.bool false, .string ⟨#[]⟩], .bool false]) (by simp [results, Tryz.results35, go_sem, y0, y1]) rfl ⟨by rw [HP.out]; rfl, (hb3.out.setCell (p := ⟨w.heap.size, 0, none⟩) (Nat.le_refl _) _).setCell (p := ⟨w.heap.size, 1, none⟩) (Nat.le_refl _) _⟩
      · have HP : Hid (O = some T) := by rw [hB] at HO; exact HO.out
        clear HO
        go_wp2_with fail
        exact bodyPost_ret (v := .tuple #[.agg #[.bool false, .string T], .bool true]) (by simp [results, Tryz.results35, go_sem, y0, y1]) rfl ⟨by rw [HP.out]; rfl, (hb3.out.setCell (p := ⟨w.heap.size, 0, none⟩) (Nat.le_refl _) _).setCell (p := ⟨w.heap.size, 1, none⟩) (Nat.le_refl _) _⟩


end Go.Proofs.YtgidmoncocbfiaaGreatDoor.Tga
