/-
  Walks: impl.readChoice: a choice that is read.
-/
import Derived.Test.YtaplkbkpgdpbaaaDoorRwt
import Derived.Test.YtaplkbkpgdpbaaaDoorLof
import Derived.Test.YtaplkbkpgdpbaaaDoorTri
namespace Go.Proofs.YtaplkbkpgdpbaaaDoor.Chc
open Go.RowKit
open Go.Proofs.YtaplkbkpgdpbaaaDoor.Byt
open Go.Proofs.YtaplkbkpgdpbaaaDoor.Fbs
open Go.Proofs.YtaplkbkpgdpbaaaDoor.Fch
open Go.Proofs.YtaplkbkpgdpbaaaDoor.Ctf
open Go.Proofs.YtaplkbkpgdpbaaaDoor.Wgt
open Go.Proofs.YtaplkbkpgdpbaaaDoor.Lof (lowB lowS implLow_any specLow_any lowS_size)
open Go.Proofs.YtaplkbkpgdpbaaaDoor.Tri

/-- No blank at either end. -/
def Cl (l : List UInt8) : Prop := (∀ b, l.head? = some b → b ≠ 32) ∧ (∀ b, l.getLast? = some b → b ≠ 32)
theorem left_id {l : List UInt8} (h : ∀ b, l.head? = some b → b ≠ 32) : Lib.trimLeftB l 32 = l := by
  cases l with
  | nil => rfl
  | cons c r =>
    unfold Lib.trimLeftB
    rw [List.dropWhile_cons, if_neg (by simpa using h c rfl)]
theorem right_id {l : List UInt8} (h : ∀ b, l.getLast? = some b → b ≠ 32) : Lib.trimRightB l 32 = l := by
  have := left_id (l := l.reverse) (by rw [List.head?_reverse]; exact h)
  unfold Lib.trimLeftB at this
  unfold Lib.trimRightB
  rw [this, List.reverse_reverse]
theorem head_drop (l : List UInt8) : ∀ b, (Lib.trimLeftB l 32).head? = some b → b ≠ 32 := by
  intro b hb
  rcases dropW_form (· == 32) l with h | ⟨c, r, h, hc⟩
  · unfold Lib.trimLeftB at hb; rw [h] at hb; cases hb
  · unfold Lib.trimLeftB at hb; rw [h] at hb
    have : c = b := by simpa using hb
    subst this; simpa using hc
theorem cl_trim (l : List UInt8) : Cl (Lib.trimB l 32) := by
  refine ⟨head_drop _, ?_⟩
  rw [← trim_comm]
  unfold Lib.trimRightB
  intro b hb
  rw [List.getLast?_reverse] at hb
  exact head_drop _ b hb
theorem cl_take {l : List UInt8} (h : Cl l) (k : Nat) : ∀ b, (l.take k).head? = some b → b ≠ 32 := by
  intro b hb
  cases k with
  | zero => simp at hb
  | succ k =>
    apply h.1 b
    cases l with
    | nil => simp at hb
    | cons c r => simpa using hb
theorem cl_drop {l : List UInt8} (h : Cl l) (k : Nat) : ∀ b, (l.drop k).getLast? = some b → b ≠ 32 := by
  intro b hb
  apply h.2 b
  rw [List.getLast?_drop] at hb
  split at hb
  · cases hb
  · exact hb
theorem cut_clean {x : ByteArray} (h : Cl x.data.toList) (c : UInt8) : (⟨(Lib.trimRightB (cutA x c).data.toList 32).toArray⟩ : ByteArray) = trimS (cutA x c) ∧ (⟨(Lib.trimLeftB (cutZ x c).data.toList 32).toArray⟩ : ByteArray) = trimS (cutZ x c) := by
  have hA : ∀ b, (cutA x c).data.toList.head? = some b → b ≠ 32 := by
    cases hc : cutI x c with
    | some k =>
      rw [(cut_some hc).1, Lib.extract_from_zero]; exact cl_take h k
    | none => rw [(cut_none hc).1]; exact h.1
  have hZ : ∀ b, (cutZ x c).data.toList.getLast? = some b → b ≠ 32 := by
    cases hc : cutI x c with
    | some k =>
      rw [(cut_some hc).2.1, Lib.extract_to_end]; exact cl_drop h (k + 1)
    | none => rw [(cut_none hc).2.1]; intro b hb; cases hb
  unfold trimS
  constructor
  · rw [← trim_comm, left_id hA]
  · unfold Lib.trimB; rw [right_id hZ]

theorem tok_low (c : UInt8) : tokB ((lowB c).toNat : Int) = tokB (c.toNat : Int) := by
  have all : ∀ n : Nat, n < 256 → tokB ((lowB (UInt8.ofNat n)).toNat : Int) = tokB (n : Int) := by decide +kernel
  have := all c.toNat c.toNat_lt
  rwa [UInt8.ofNat_toNat] at this
theorem token_low (s : ByteArray) : tokenB (lowS s).data.toList = tokenB s.data.toList := by
  have e : (lowS s).data.toList = s.data.toList.map lowB := rfl
  unfold tokenB
  rw [e, List.length_map, List.all_map]
  congr 1
  apply List.all_congr rfl
  intro c
  exact tok_low c

/-- A choice, of a part of a list. -/
def chR (x : ByteArray) : Option (ByteArray × Int) :=
  if tokenB (trimS (cutA x 59)).data.toList = true then
    (if cutB x 59 = true then
      (if Lib.hasPrefix (trimS (cutZ x 59)).data.toList [113, 61] = true ∧ 0 ≤ wS ((trimS (cutZ x 59)).data.toList.drop 2) then some (lowS (trimS (cutA x 59)), wS ((trimS (cutZ x 59)).data.toList.drop 2)) else none)
    else some (lowS (trimS (cutA x 59)), 1000))
  else none
def chV : Option (ByteArray × Int) → Value
  | some (n, w) => .tuple #[.agg #[.string n, .int .i64 w], .bool true]
  | none => .tuple #[.agg #[.string ⟨#[]⟩, .int .i64 0], .bool false]

theorem right_call (s : ByteArray) (w : World) (hs : s.size ≤ 2000000) : Calls Tryd.prog 93 #[.string s, .string ⟨#[32]⟩] w fun e w' => e = .returned (.string ⟨(Lib.trimRightB s.data.toList 32).toArray⟩) ∧ w' = w := by
  refine (Tryd.strings_TrimRight_one s 32 (by decide) w (by omega)).mono ?_
  intro e w' h
  exact h
theorem left_call (s : ByteArray) (w : World) : Calls Tryd.prog 95 #[.string s, .string ⟨#[32]⟩] w fun e w' => e = .returned (.string ⟨(Lib.trimLeftB s.data.toList 32).toArray⟩) ∧ w' = w :=
  Tryd.strings_TrimLeft_one s 32 (by decide) w

theorem bcell {w w1 : World} (hb : Below w.heap.size w w1) : (∀ b i, b < w.heap.size → w1.cell? ⟨b, i, none⟩ = w.cell? ⟨b, i, none⟩) ∧ ∀ b i, b < w.heap.size → w1.frozen? ⟨b, i, none⟩ = w.frozen? ⟨b, i, none⟩ :=
  ⟨fun b i h => hb.cell (p := ⟨b, i, none⟩) h, fun b i h => hb.frozen (p := ⟨b, i, none⟩) h⟩
/-- A block that holds some cells. -/
def Blk (w : World) (b : Nat) (cs : Array Value) : Prop := b < w.heap.size ∧ (∀ i, w.frozen? ⟨b, i, none⟩ = false) ∧ ∀ i, w.cell? ⟨b, i, none⟩ = cs[i]?
theorem Blk.made (w : World) (cs : Array Value) (t : TypeId) : Blk (w.alloc (.cells cs t)) w.heap.size cs :=
  ⟨by simp, fun i => World.frozen?_alloc_at cs t _ i rfl, fun i => World.cell?_alloc_mark w cs t _ i⟩
theorem Blk.below {w w' : World} {b : Nat} {cs : Array Value} (h : Blk w b cs) (hb : Below w.heap.size w w') : Blk w' b cs :=
  ⟨Nat.lt_of_lt_of_le h.1 hb.size, fun i => ((bcell hb).2 b i h.1).trans (h.2.1 i), fun i => ((bcell hb).1 b i h.1).trans (h.2.2 i)⟩
theorem Blk.alloc {w : World} {b : Nat} {cs : Array Value} (h : Blk w b cs) (o : Obj) : Blk (w.alloc o) b cs := h.below ((Below.refl _ _).alloc (Nat.le_refl _) o)
theorem Blk.set {w : World} {b : Nat} {cs : Array Value} (h : Blk w b cs) (j : Nat) (v : Value) (hj : j < cs.size) : Blk (w.setCell ⟨b, j, none⟩ v) b (cs.setIfInBounds j v) := by
  refine ⟨by simpa [World.setCell] using h.1, fun i => by simp [go_sem, h.2.1 i], fun i => ?_⟩
  have hj' : w.cell? ⟨b, j, none⟩ = some cs[j] := by rw [h.2.2 j]; simp [hj]
  by_cases e : i = j
  · subst e
    simp [go_sem, hj', hj]
  · have : (cs.setIfInBounds j v)[i]? = cs[i]? := by rw [Array.getElem?_setIfInBounds_ne (Ne.symm e)]
    rw [this, ← h.2.2 i]
    simp [go_sem]
theorem Blk.other {w : World} {b b' : Nat} {cs : Array Value} (h : Blk w b cs) (hb : b ≠ b') (j : Nat) (v : Value) : Blk (w.setCell ⟨b', j, none⟩ v) b cs := by
  refine ⟨by simpa [World.setCell] using h.1, fun i => by simp [go_sem, h.2.1 i], fun i => ?_⟩
  rw [← h.2.2 i]
  simp [go_sem]

theorem Blk.drewN {w : World} {b : Nat} {cs : Array Value} (h : Blk w b cs) (n : Nat) : Blk (w.drewN n) b cs := h
def prefW (q : ByteArray) : ByteArray := ⟨(Lib.trimPrefix q.data.toList [113, 61]).toArray⟩
theorem prefix_call (q : ByteArray) (w : World) : Calls Tryd.prog 94 #[.string q, .string ⟨#[113, 61]⟩] w fun e w' => e = .returned (.tuple #[.string (prefW q), .bool (Lib.hasPrefix q.data.toList [113, 61])]) ∧ w' = w :=
  Tryd.strings_CutPrefix q ⟨#[113, 61]⟩ w
theorem prefW_size (q : ByteArray) : (prefW q).size ≤ q.size := by
  show (Lib.trimPrefix q.data.toList [113, 61]).toArray.size ≤ q.size
  have := len_list q
  unfold Lib.trimPrefix
  split
  · simp
  · simp
theorem prefW_yes {q : ByteArray} (h : Lib.hasPrefix q.data.toList [113, 61] = true) : (prefW q).data.toList = q.data.toList.drop 2 := by
  show Lib.trimPrefix q.data.toList [113, 61] = _
  unfold Lib.trimPrefix; rw [if_pos h]; rfl

set_option maxHeartbeats 1600000 in
theorem readChoice_any (x : ByteArray) (m : Int) (w : World) (hT : Tab w) (hs : x.size ≤ 2000000) (hx : Cl x.data.toList) (hm : w.cell? ⟨2, 0, none⟩ = some (.int .i64 m)) :
    Calls Tryd.prog 67 #[.string x] w fun e w' => e = .returned (chV (chR x)) ∧ Below w.heap.size w w' := by
  have hz : (cutA x 59).size ≤ x.size ∧ (cutZ x 59).size ≤ x.size := by
    cases hc : cutI x 59 with
    | some k =>
      obtain ⟨e1, e2, e3⟩ := cut_some hc
      rw [e1, e2, ByteArray.size_extract, ByteArray.size_extract]; omega
    | none =>
      obtain ⟨e1, e2, e3⟩ := cut_none hc
      rw [e1, e2]; exact ⟨Nat.le_refl _, Nat.zero_le _⟩
  obtain ⟨t1, t2⟩ := cut_clean hx 59
  have n1 := trimS_size (cutA x 59)
  have n2 := trimS_size (cutZ x 59)
  have hgt := hT.lt
  have hmt := World.block_lt_of_cell? _ _ hm
  have HC : Hid _ := fun w h => cut_call x 59 m w hs h
  have R1 := fun w => right_call (cutA x 59) w (by omega)
  have L1 := fun w => left_call (cutZ x 59) w
  rw [t1] at R1
  rw [t2] at L1
  have HV : Hid (chR x = if tokenB (trimS (cutA x 59)).data.toList = true then
    (if cutB x 59 = true then
      (if Lib.hasPrefix (trimS (cutZ x 59)).data.toList [113, 61] = true ∧ 0 ≤ wS ((trimS (cutZ x 59)).data.toList.drop 2) then some (lowS (trimS (cutA x 59)), wS ((trimS (cutZ x 59)).data.toList.drop 2)) else none)
    else some (lowS (trimS (cutA x 59)), 1000))
  else none) := rfl
  generalize chR x = V at HV ⊢
  generalize trimS (cutA x 59) = A at *
  generalize trimS (cutZ x 59) = Z at *
  generalize cutA x 59 = A0 at *
  generalize cutZ x 59 = Z0 at *
  generalize cutB x 59 = b at *
  have HR1 : Hid _ := R1
  have HL1 : Hid _ := L1
  have hR0 := Blk.made w #[.string ⟨#[]⟩, .int .i64 0] 48
  have hB0 : Below w.heap.size w (w.alloc (.cells #[.string ⟨#[]⟩, .int .i64 0] 48)) := (Below.refl _ _).alloc (Nat.le_refl _) _
  have HM : Hid ((w.alloc (.cells #[.string ⟨#[]⟩, .int .i64 0] 48)).cell? ⟨2, 0, none⟩ = some (.int .i64 m)) := (hB0.cell (p := ⟨2, 0, none⟩) hmt).trans hm
  have HR0 : Hid _ := hR0
  have HM0 : Hid (w.cell? ⟨2, 0, none⟩ = some (.int .i64 m)) := hm
  clear R1 L1 hm t1 t2 hx hR0
  have T1 := fun w h => isToken_any A w h
  have HLo : Hid _ := fun w => implLow_any A w (by omega)
  cases ht : tokenB A.data.toList
  · rw [ht] at T1
    have HT1 : Hid _ := T1
    have HR : Hid (V = none) := by show _ = _; rw [HV.out, ht]; rfl
    clear T1 ht HV HLo HL1
    go_enter Tryd.func67, Tryd.ntmps67
    go_wp2_with fail
    refine (HC.out _ HM.out).mono ?_
    rintro e w1 ⟨rfl, hb1'⟩
    have HR1' : Hid _ := Blk.below HR0.out hb1'
    have hb1 := hB0.trans (hb1'.mono hB0.size)
    clear hb1' HR0 HC
    go_wp2_with fail
    refine (HR1.out _).mono ?_
    rintro e w2 ⟨rfl, hw⟩
    obtain rfl := hw.symm
    go_wp2_with fail
    refine (HT1.out _ (hT.below hb1 hgt)).mono ?_
    rintro e w2 ⟨rfl, hw⟩
    obtain rfl := hw.symm
    obtain ⟨x1, x2, x3⟩ := HR1'.out
    go_wp2_with fail
    exact bodyPost_ret (v := .tuple #[.agg #[.string ⟨#[]⟩, .int .i64 0], .bool false]) (by simp [results, Tryd.results67, go_sem, x3]) rfl ⟨by rw [HR.out]; rfl, (hb1.setCell (Nat.le_refl _) _).setCell (Nat.le_refl _) _⟩
  · rw [ht] at T1
    have HT1 : Hid _ := T1
    have HV : V = _ := HV.out
    rw [if_pos ht] at HV
    clear T1 ht
    generalize lowS A = L at HV HLo
    cases b
    · have HR : Hid (V = some (L, 1000)) := by show _ = _; rw [HV]; rfl
      clear HV HL1
      go_enter Tryd.func67, Tryd.ntmps67
      go_wp2_with fail
      refine (HC.out _ HM.out).mono ?_
      rintro e w1 ⟨rfl, hb1'⟩
      have HR1' : Hid _ := Blk.below HR0.out hb1'
      have hb1 := hB0.trans (hb1'.mono hB0.size)
      clear hb1' HR0 HC
      go_wp2_with fail
      refine (HR1.out _).mono ?_
      rintro e w2 ⟨rfl, hw⟩
      obtain rfl := hw.symm
      go_wp2_with fail
      refine (HT1.out _ (hT.below hb1 hgt)).mono ?_
      rintro e w2 ⟨rfl, hw⟩
      obtain rfl := hw.symm
      go_wp2_with fail
      refine (HLo.out _).mono ?_
      rintro e w2 ⟨rfl, hb2'⟩
      have hRw := Blk.below HR1'.out hb2'
      have hR2 := Blk.alloc (Blk.below HR1'.out hb2') (.cells #[.string L, .int .i64 1000] 48)
      have hb2 := hb1.trans (hb2'.mono hb1.size)
      have hC2 := Blk.made w2 #[.string L, .int .i64 1000] 48
      have hb2a := hb2.alloc hb2.size (.cells #[.string L, .int .i64 1000] 48)
      have HR2 : Hid _ := hR2
      have HC2 : Hid _ := hC2
      have hne : w.heap.size < w2.heap.size := Nat.lt_of_lt_of_le HR1'.out.1 hb2'.size
      have hne1 : ¬ w.heap.size = w2.heap.size := Nat.ne_of_lt hne
      clear hb2' HR1' HLo
      obtain ⟨x1, x2, x3⟩ := hRw
      obtain ⟨y1, y2, y3⟩ := hC2
      have hw2 : w.heap.size ≤ w2.heap.size := Nat.le_of_lt hne
      have hF := Blk.alloc (Blk.set (Blk.set (⟨x1, x2, x3⟩ : Blk w2 w.heap.size #[.string ⟨#[]⟩, .int .i64 0]) 0 (.string L) (by simp)) 1 (.int .i64 1000) (by simp)) (.cells #[.string L, .int .i64 1000] 48)
      obtain ⟨_, _, z3⟩ := hF
      go_wp2_with fail
      exact bodyPost_ret (v := .tuple #[.agg #[.string L, .int .i64 1000], .bool true]) (by simp [results, Tryd.results67, go_sem, z3]) rfl ⟨by rw [HR.out]; rfl, Below.alloc ((hb2.setCell (Nat.le_refl _) _).setCell (Nat.le_refl _) _) (by simpa [World.setCell] using hw2) _⟩
    · rw [if_pos rfl] at HV
      have P1 := fun w => prefix_call Z w
      cases hp : Lib.hasPrefix Z.data.toList [113, 61]
      · rw [hp] at P1
        have HP : Hid _ := P1
        have HR : Hid (V = none) := by show _ = _; rw [HV, hp]; rfl
        clear HV P1 hp
        go_enter Tryd.func67, Tryd.ntmps67
        go_wp2_with fail
        refine (HC.out _ HM.out).mono ?_
        rintro e w1 ⟨rfl, hb1'⟩
        have HR1' : Hid _ := Blk.below HR0.out hb1'
        have hb1 := hB0.trans (hb1'.mono hB0.size)
        clear hb1' HR0 HC
        go_wp2_with fail
        refine (HR1.out _).mono ?_
        rintro e w2 ⟨rfl, hw⟩
        obtain rfl := hw.symm
        go_wp2_with fail
        refine (HT1.out _ (hT.below hb1 hgt)).mono ?_
        rintro e w2 ⟨rfl, hw⟩
        obtain rfl := hw.symm
        go_wp2_with fail
        refine (HLo.out _).mono ?_
        rintro e w2 ⟨rfl, hb2'⟩
        have hRw := Blk.below HR1'.out hb2'
        have hR2 := Blk.alloc (Blk.below HR1'.out hb2') (.cells #[.string L, .int .i64 1000] 48)
        have hb2 := hb1.trans (hb2'.mono hb1.size)
        have hC2 := Blk.made w2 #[.string L, .int .i64 1000] 48
        have hb2a := hb2.alloc hb2.size (.cells #[.string L, .int .i64 1000] 48)
        have HR2 : Hid _ := hR2
        have HC2 : Hid _ := hC2
        have hne : w.heap.size < w2.heap.size := Nat.lt_of_lt_of_le HR1'.out.1 hb2'.size
        have hne1 : ¬ w.heap.size = w2.heap.size := Nat.ne_of_lt hne
        clear hb2' HR1' HLo
        obtain ⟨x1, x2, x3⟩ := hRw
        obtain ⟨y1, y2, y3⟩ := hC2
        go_wp2_with fail
        refine (HL1.out _).mono ?_
        rintro e w3 ⟨rfl, hw⟩
        obtain rfl := hw.symm
        go_wp2_with fail
        refine (HP.out _).mono ?_
        rintro e w3 ⟨rfl, hw⟩
        obtain rfl := hw.symm
        have hw2 : w.heap.size ≤ w2.heap.size := Nat.le_of_lt hne
        have hF := Blk.alloc (Blk.set (Blk.set (⟨x1, x2, x3⟩ : Blk w2 w.heap.size #[.string ⟨#[]⟩, .int .i64 0]) 0 (.string ⟨#[]⟩) (by simp)) 1 (.int .i64 0) (by simp)) (.cells #[.string L, .int .i64 1000] 48)
        obtain ⟨_, _, z3⟩ := hF
        go_wp2_with fail
        exact bodyPost_ret (v := .tuple #[.agg #[.string ⟨#[]⟩, .int .i64 0], .bool false]) (by simp [results, Tryd.results67, go_sem, z3]) rfl ⟨by rw [HR.out]; rfl, Below.alloc ((hb2.setCell (Nat.le_refl _) _).setCell (Nat.le_refl _) _) (by simpa [World.setCell] using hw2) _⟩
      · rw [hp] at P1
        have HP : Hid _ := P1
        have W1 := fun w h k => readWeight_any (prefW Z) m w h (by have := prefW_size Z; omega) k
        rw [prefW_yes hp] at W1
        obtain ⟨W, hW⟩ : ∃ W, W = wS (Z.data.toList.drop 2) := ⟨_, rfl⟩
        rw [← hW] at W1 HV
        generalize prefW Z = PZ at *
        by_cases h0 : 0 ≤ W
        · rw [decide_eq_true h0, show wV W = W from if_pos h0] at W1
          have HW1 : Hid _ := W1
          have HR : Hid (V = some (L, W)) := by show _ = _; rw [HV, hp, if_pos ⟨rfl, h0⟩]
          clear HV P1 hp W1 h0 hW
          go_enter Tryd.func67, Tryd.ntmps67
          go_wp2_with fail
          refine (HC.out _ HM.out).mono ?_
          rintro e w1 ⟨rfl, hb1'⟩
          have HR1' : Hid _ := Blk.below HR0.out hb1'
          have hb1 := hB0.trans (hb1'.mono hB0.size)
          clear hb1' HR0 HC
          go_wp2_with fail
          refine (HR1.out _).mono ?_
          rintro e w2 ⟨rfl, hw⟩
          obtain rfl := hw.symm
          go_wp2_with fail
          refine (HT1.out _ (hT.below hb1 hgt)).mono ?_
          rintro e w2 ⟨rfl, hw⟩
          obtain rfl := hw.symm
          go_wp2_with fail
          refine (HLo.out _).mono ?_
          rintro e w2 ⟨rfl, hb2'⟩
          have hRw := Blk.below HR1'.out hb2'
          have hR2 := Blk.alloc (Blk.below HR1'.out hb2') (.cells #[.string L, .int .i64 1000] 48)
          have hb2 := hb1.trans (hb2'.mono hb1.size)
          have hC2 := Blk.made w2 #[.string L, .int .i64 1000] 48
          have hb2a := hb2.alloc hb2.size (.cells #[.string L, .int .i64 1000] 48)
          have HR2 : Hid _ := hR2
          have HC2 : Hid _ := hC2
          have hne : w.heap.size < w2.heap.size := Nat.lt_of_lt_of_le HR1'.out.1 hb2'.size
          have hne1 : ¬ w.heap.size = w2.heap.size := Nat.ne_of_lt hne
          clear hb2' HR1' HLo
          go_wp2_with fail
          refine (HL1.out _).mono ?_
          rintro e w3 ⟨rfl, hw⟩
          obtain rfl := hw.symm
          go_wp2_with fail
          refine (HP.out _).mono ?_
          rintro e w3 ⟨rfl, hw⟩
          obtain rfl := hw.symm
          go_wp2_with fail
          clear hR2 hC2 hRw
          refine (HW1.out _ (hT.below hb2a hgt) ((hb2a.cell (p := ⟨2, 0, none⟩) hmt).trans HM0.out)).mono ?_
          rintro e w3 ⟨rfl, hb3'⟩
          have hR3 := Blk.below HR2.out hb3'
          have hC3 := Blk.below HC2.out hb3'
          have hb3 := hb2a.trans (hb3'.mono hb2a.size)
          have hw2 : w.heap.size ≤ w2.heap.size := Nat.le_of_lt hne
          clear hb3' HR2 HC2
          obtain ⟨x1, x2, x3⟩ := hR3
          obtain ⟨y1, y2, y3⟩ := hC3
          go_wp2_with fail
          exact bodyPost_ret (v := .tuple #[.agg #[.string L, .int .i64 W], .bool true]) (by simp [results, Tryd.results67, go_sem, x3]) rfl ⟨by rw [HR.out]; rfl, ((hb3.setCell hw2 _).setCell (Nat.le_refl _) _).setCell (Nat.le_refl _) _⟩
        · rw [decide_eq_false h0, show wV W = 0 from if_neg h0] at W1
          have HW1 : Hid _ := W1
          have HR : Hid (V = none) := by show _ = _; rw [HV, if_neg (fun x => h0 x.2)]
          clear HV P1 hp W1 h0 hW
          go_enter Tryd.func67, Tryd.ntmps67
          go_wp2_with fail
          refine (HC.out _ HM.out).mono ?_
          rintro e w1 ⟨rfl, hb1'⟩
          have HR1' : Hid _ := Blk.below HR0.out hb1'
          have hb1 := hB0.trans (hb1'.mono hB0.size)
          clear hb1' HR0 HC
          go_wp2_with fail
          refine (HR1.out _).mono ?_
          rintro e w2 ⟨rfl, hw⟩
          obtain rfl := hw.symm
          go_wp2_with fail
          refine (HT1.out _ (hT.below hb1 hgt)).mono ?_
          rintro e w2 ⟨rfl, hw⟩
          obtain rfl := hw.symm
          go_wp2_with fail
          refine (HLo.out _).mono ?_
          rintro e w2 ⟨rfl, hb2'⟩
          have hRw := Blk.below HR1'.out hb2'
          have hR2 := Blk.alloc (Blk.below HR1'.out hb2') (.cells #[.string L, .int .i64 1000] 48)
          have hb2 := hb1.trans (hb2'.mono hb1.size)
          have hC2 := Blk.made w2 #[.string L, .int .i64 1000] 48
          have hb2a := hb2.alloc hb2.size (.cells #[.string L, .int .i64 1000] 48)
          have HR2 : Hid _ := hR2
          have HC2 : Hid _ := hC2
          have hne : w.heap.size < w2.heap.size := Nat.lt_of_lt_of_le HR1'.out.1 hb2'.size
          have hne1 : ¬ w.heap.size = w2.heap.size := Nat.ne_of_lt hne
          clear hb2' HR1' HLo
          go_wp2_with fail
          refine (HL1.out _).mono ?_
          rintro e w3 ⟨rfl, hw⟩
          obtain rfl := hw.symm
          go_wp2_with fail
          refine (HP.out _).mono ?_
          rintro e w3 ⟨rfl, hw⟩
          obtain rfl := hw.symm
          go_wp2_with fail
          clear hR2 hC2 hRw
          refine (HW1.out _ (hT.below hb2a hgt) ((hb2a.cell (p := ⟨2, 0, none⟩) hmt).trans HM0.out)).mono ?_
          rintro e w3 ⟨rfl, hb3'⟩
          have hR3 := Blk.below HR2.out hb3'
          have hC3 := Blk.below HC2.out hb3'
          have hb3 := hb2a.trans (hb3'.mono hb2a.size)
          have hw2 : w.heap.size ≤ w2.heap.size := Nat.le_of_lt hne
          clear hb3' HR2 HC2
          obtain ⟨x1, x2, x3⟩ := hR3
          obtain ⟨y1, y2, y3⟩ := hC3
          go_wp2_with fail
          exact bodyPost_ret (v := .tuple #[.agg #[.string ⟨#[]⟩, .int .i64 0], .bool false]) (by simp [results, Tryd.results67, go_sem, x3]) rfl ⟨by rw [HR.out]; rfl, ((hb3.setCell hw2 _).setCell (Nat.le_refl _) _).setCell (Nat.le_refl _) _⟩

end Go.Proofs.YtaplkbkpgdpbaaaDoor.Chc
