/-
  Walk: impl.splitUrl (labels and jumps): a text taken apart.
-/
import Derived.Test.YtlgjgdpalflmfaaDoorRdm
import Derived.Test.YtlgjgdpalflmfaaDoorRdc
import Derived.Test.YtlgjgdpalflmfaaDoorRdp
import Derived.Test.YtlgjgdpalflmfaaDoorHop
import Derived.Test.YtlgjgdpalflmfaaDoorFrm
import Derived.Test.YtlgjgdpalflmfaaDoorNrm
import Derived.Test.YtlgjgdpalflmfaaDoorShelf3
import Derived.WalkMore
namespace Go.Proofs.YtlgjgdpalflmfaaDoor.Spl
open Go.RowKit
open Go.Proofs.YtlgjgdpalflmfaaDoor.Hex
open Go.Proofs.YtlgjgdpalflmfaaDoor.Rdm
open Go.Proofs.YtlgjgdpalflmfaaDoor.Hop
open Go.Proofs.YtlgjgdpalflmfaaDoor.Frm
open Go.Proofs.YtlgjgdpalflmfaaDoor.Byt
open Go.Proofs.YtlgjgdpalflmfaaDoor.Rdp
open Go.Proofs.YtlgjgdpalflmfaaDoor.Nrm (Blk Blk.made Blk.below Blk.alloc Blk.set Blk.other Blk.drewN bel_drewN)

def partsV : Option Parts → Value
  | some (sc, h, n, p, q, a) => .tuple #[.agg #[.string sc, .string h, .int .i64 n, .string p, .string q, .bool a], .bool true]
  | none => .tuple #[.agg #[.string ⟨#[]⟩, .string ⟨#[]⟩, .int .i64 0, .string ⟨#[]⟩, .string ⟨#[]⟩, .bool false], .bool false]

def At0 (s : ByteArray) (w : World) (a' : Act) (w' : World) : Prop := ∃ k f : Nat, Fr a' (.string s) undef (.pointer (some ⟨w.heap.size, 0, none⟩)) (.bool false) (.pointer (some ⟨w.heap.size + 1, 0, none⟩)) (.int .i64 k) (.int .i64 0) (.bool false) ∧ k ≤ s.size ∧ s.size ≤ k + f ∧ Blk w' (w.heap.size + 1) #[.string ⟨#[]⟩, .string ⟨#[]⟩, .int .i64 0, .string ⟨#[47]⟩, .string ⟨#[]⟩, .bool false] ∧ Hid (scanF isCol s.data.toList s.data.toList.length 0 = scanF isCol s.data.toList f k)
def At1 (s : ByteArray) (w : World) (a' : Act) (_ : World) : Prop := ∃ x y z : Value, Fr a' (.string s) undef (.pointer (some ⟨w.heap.size, 0, none⟩)) (.bool false) (.pointer (some ⟨w.heap.size + 1, 0, none⟩)) x y z ∧ Hid (splitR s = none)
def At2 (s : ByteArray) (w : World) (a' : Act) (w' : World) : Prop := ∃ (k f h0 : Nat) (sc : ByteArray), Fr a' (.string s) undef (.pointer (some ⟨w.heap.size, 0, none⟩)) (.bool false) (.pointer (some ⟨w.heap.size + 1, 0, none⟩)) (.int .i64 k) (.int .i64 h0) (.bool false) ∧ k ≤ s.size ∧ h0 ≤ k ∧ s.size ≤ k + f ∧ Blk w' (w.heap.size + 1) #[.string sc, .string ⟨#[]⟩, .int .i64 0, .string ⟨#[47]⟩, .string ⟨#[]⟩, .bool false] ∧ Hid (scanF isPart s.data.toList s.data.toList.length h0 = scanF isPart s.data.toList f k) ∧ Hid (splitR s = hostR s sc h0)
def At4 (s : ByteArray) (w : World) (a' : Act) (w' : World) : Prop := ∃ (k f p0 : Nat) (sc h : ByteArray), Fr a' (.string s) undef (.pointer (some ⟨w.heap.size, 0, none⟩)) (.bool false) (.pointer (some ⟨w.heap.size + 1, 0, none⟩)) (.int .i64 k) (.int .i64 p0) (.bool false) ∧ k ≤ s.size ∧ p0 ≤ k ∧ s.size ≤ k + f ∧ Blk w' (w.heap.size + 1) #[.string sc, .string h, .int .i64 0, .string ⟨#[47]⟩, .string ⟨#[]⟩, .bool false] ∧ Hid (scanF noDig s.data.toList s.data.toList.length p0 = scanF noDig s.data.toList f k) ∧ Hid (∀ j, p0 ≤ j → j < k → noDig (s.data.toList[j]?.getD 0) = false) ∧
      Hid (splitR s = match portR (s.extract p0 (scanF noDig s.data.toList s.data.toList.length p0)) with | none => none | some n => pathR s sc h n (scanF noDig s.data.toList s.data.toList.length p0))
def At3 (s : ByteArray) (w : World) (a' : Act) (w' : World) : Prop := ∃ (k n : Nat) (sc h : ByteArray) (x y : Value), Fr a' (.string s) undef (.pointer (some ⟨w.heap.size, 0, none⟩)) (.bool false) (.pointer (some ⟨w.heap.size + 1, 0, none⟩)) (.int .i64 k) x y ∧ k ≤ s.size ∧ Blk w' (w.heap.size + 1) #[.string sc, .string h, .int .i64 n, .string ⟨#[47]⟩, .string ⟨#[]⟩, .bool false] ∧ Hid (splitR s = pathR s sc h n k)
def At5 (s : ByteArray) (w : World) (a' : Act) (w' : World) : Prop := ∃ (k n : Nat) (sc h : ByteArray) (x y : Value), Fr a' (.string s) undef (.pointer (some ⟨w.heap.size, 0, none⟩)) (.bool false) (.pointer (some ⟨w.heap.size + 1, 0, none⟩)) (.int .i64 k) x y ∧ k < s.size ∧ Blk w' (w.heap.size + 1) #[.string sc, .string h, .int .i64 n, .string ⟨#[47]⟩, .string ⟨#[]⟩, .bool false] ∧ Hid (splitR s = some (sc, h, n, slash, s.extract (k + 1) s.size, true))

/-- What holds at each label. -/
def At (s : ByteArray) (w : World) (l : Nat) (a' : Act) (w' : World) : Prop :=
  Below w.heap.size w w' ∧ Blk w' w.heap.size #[.string ⟨#[]⟩, .string ⟨#[]⟩, .int .i64 0, .string ⟨#[]⟩, .string ⟨#[]⟩, .bool false] ∧
  match l with
  | 0 => At0 s w a' w'
  | 1 => At1 s w a' w'
  | 2 => At2 s w a' w'
  | 3 => At3 s w a' w'
  | 4 => At4 s w a' w'
  | 5 => At5 s w a' w'
  | _ => False

def rank (l : Nat) : Nat := match l with | 0 => 5 | 2 => 4 | 4 => 3 | 3 => 2 | _ => 1
def meas (s : ByteArray) (l : Nat) (a' : Act) (_ : World) : Nat := rank l * 3000000 + (s.size - (intOf (a'.tmps.getD 5 undef)).toNat)
theorem scope_named {P : Program} {Q : Exit → Act → World → Prop} {C : Code} {a : Act} {w : World} (h : ∀ c, c = C → (Code.scope c).wp P Q a w) : (Code.scope C).wp P Q a w := h C rfl
theorem wp_of_eq {P : Program} {Q : Exit → Act → World → Prop} {c C : Code} {a : Act} {w : World} (e : c = C) (h : C.wp P Q a w) : c.wp P Q a w := by rw [e]; exact h

theorem six {w : World} {b : Nat} {y0 y1 y2 y3 y4 y5 : Value} (h : Blk w b #[y0, y1, y2, y3, y4, y5]) (x0 x1 x2 x3 x4 x5 : Value) :
    Blk ((((((w.setCell ⟨b, 0, none⟩ x0).setCell ⟨b, 1, none⟩ x1).setCell ⟨b, 2, none⟩ x2).setCell ⟨b, 3, none⟩ x3).setCell ⟨b, 4, none⟩ x4).setCell ⟨b, 5, none⟩ x5) b #[x0, x1, x2, x3, x4, x5] := by
  simpa using (Blk.set (Blk.set (Blk.set (Blk.set (Blk.set (Blk.set h 0 x0 (by simp)) 1 x1 (by simp)) 2 x2 (by simp)) 3 x3 (by simp)) 4 x4 (by simp)) 5 x5 (by simp))
theorem bel6 {B b : Nat} {w0 w : World} (h : Below B w0 w) (hb : B ≤ b) (x0 x1 x2 x3 x4 x5 : Value) :
    Below B w0 ((((((w.setCell ⟨b, 0, none⟩ x0).setCell ⟨b, 1, none⟩ x1).setCell ⟨b, 2, none⟩ x2).setCell ⟨b, 3, none⟩ x3).setCell ⟨b, 4, none⟩ x4).setCell ⟨b, 5, none⟩ x5) :=
  (((((h.setCell hb _).setCell hb _).setCell hb _).setCell hb _).setCell hb _).setCell hb _

theorem ret_ok (s : ByteArray) {w W : World} {E : Exit → Act → World → Prop} {t4 t5 t6 t7 x0 x1 x2 x3 x4 x5 : Value} {ok : Bool}
    (HRT : Hid (∀ a1 w1, bodyPost Tryd.prog Tryd.f45 (fun e w' => e = .returned (partsV (splitR s)) ∧ Below w.heap.size w w') .ret a1 w1 → E .ret a1 w1))
    (hR : Blk W w.heap.size #[x0, x1, x2, x3, x4, x5]) (hp : partsV (splitR s) = .tuple #[.agg #[x0, x1, x2, x3, x4, x5], .bool ok]) (hB : Below w.heap.size w W) {a' : Act} (ha : Fr a' (.string s) undef (.pointer (some ⟨w.heap.size, 0, none⟩)) (.bool ok) t4 t5 t6 t7) : E .ret a' W := by
  obtain ⟨us, rfl⟩ := ha
  have y3 := hR.2.2
  exact HRT.out _ _ (bodyPost_ret (v := .tuple #[.agg #[x0, x1, x2, x3, x4, x5], .bool ok]) (by simp [results, Tryd.results45, go_sem, y3]) rfl ⟨congrArg _ hp.symm, hB⟩)

/-- All that a pass may use of its end. -/
def RetOk (s : ByteArray) (w : World) (E : Exit → Act → World → Prop) : Prop := ∀ a1 w1, bodyPost Tryd.prog Tryd.f45 (fun e w' => e = .returned (partsV (splitR s)) ∧ Below w.heap.size w w') .ret a1 w1 → E .ret a1 w1
def GoOk (s : ByteArray) (w : World) (M : Nat) (E : Exit → Act → World → Prop) : Prop := ∀ l a1 w1, At s w l a1 w1 → meas s l a1 w1 < M → E (.goto l) a1 w1
theorem meas_fr {s : ByteArray} {a' : Act} {w' : World} {v0 v1 v2 v3 v4 v6 v7 : Value} {k : Nat} (h : Fr a' v0 v1 v2 v3 v4 (.int .i64 k) v6 v7) (l : Nat) : meas s l a' w' = rank l * 3000000 + (s.size - k) := by
  obtain ⟨us, rfl⟩ := h
  rfl
theorem meas_le (s : ByteArray) (l : Nat) (a' : Act) (w' : World) : meas s l a' w' ≤ rank l * 3000000 + s.size := by unfold meas; omega

theorem ext_get (s : ByteArray) (i j k : Nat) (_hj : j ≤ s.size) (hk : k < j - i) : (s.extract i j).data.toList[k]?.getD 0 = s.data.toList[i + k]?.getD 0 := by
  rw [ByteArray.data_extract, Array.toList_extract]
  simp only [List.extract, List.getElem?_take, List.getElem?_drop]
  rw [if_pos hk]
theorem at_lt {s : ByteArray} {w w' : World} {l : Nat} {a' : Act} (h : At s w l a' w') : l < 6 := by
  match l, h with
  | 0, _ => omega
  | 1, _ => omega
  | 2, _ => omega
  | 3, _ => omega
  | 4, _ => omega
  | 5, _ => omega
  | n + 6, h => exact absurd h.2.2 id
theorem pre_len {l p : List UInt8} (h : Lib.hasPrefix l p = true) : p.length ≤ l.length :=
  (List.isPrefixOf_iff_prefix.1 h).length_le
theorem hop_eq {P : Program} {E : Exit → Act → World → Prop} {c X r : Code} {l : Nat} {a : Act} {w : World} (h1 : findLabel c l = some (Code.skip.seq X)) (h2 : some (Code.skip.seq r) = findLabel c l) (h : r.wp P E a w) : X.wp P E a w := by
  obtain rfl := (Code.seq.inj (Option.some.inj (h2.trans h1))).2
  exact h

theorem cut_any (s : ByteArray) (m : Int) (w : World) (hs : s.size < 4294967281) (hm : w.cell? ⟨1, 0, none⟩ = some (.int .i64 m)) :
    Calls Tryd.prog 77 #[.string s, .string ⟨#[63]⟩] w fun e w' => e = .returned (.tuple #[.string (Cut.cutA s 63), .string (Cut.cutZ s 63), .bool (Cut.cutB s 63)]) ∧ ∃ n, w' = w.drewN n := by
  refine (Tryd.strings_Cut s ⟨#[63]⟩ m w hs hm).mono ?_
  rintro e w' ⟨h1, h2⟩
  obtain ⟨a, b, c⟩ := Rdc.cut_is s 63
  refine ⟨?_, h2⟩
  rw [h1, ← a, ← b, ← c]

set_option maxRecDepth 100000 in
set_option maxHeartbeats 12800000 in
theorem split_any (s : ByteArray) (m : Int) (w : World) (hT : Tab w) (hm : w.cell? ⟨1, 0, none⟩ = some (.int .i64 m)) (hs : s.size ≤ 2000000) :
    Calls Tryd.prog 45 #[.string s] w fun e w' => e = .returned (partsV (splitR s)) ∧ Below w.heap.size w w' := by
  have htl := hT.lt
  have hml := World.block_lt_of_cell? _ _ hm
  have hlen : s.data.toList.length = s.size := by simp
  go_enter Tryd.func45, Tryd.ntmps45
  go_wp2_with fail
  rename_i Q0
  refine scope_named ?_
  intro c hc
  have L1 : (findLabel c 1).isSome = true := by rw [hc]; rfl
  have L5 : (findLabel c 5).isSome = true := by rw [hc]; rfl
  obtain ⟨r3, h3⟩ : ∃ r, findLabel c 3 = some (Code.skip.seq r) := ⟨_, by rw [hc]; rfl⟩
  have P3 : ∀ (E : Exit → Act → World → Prop) (a' : Act) (w' : World), (∀ a1 w1, bodyPost Tryd.prog Tryd.f45 (fun e w' => e = .returned (partsV (splitR s)) ∧ Below w.heap.size w w') .ret a1 w1 → E .ret a1 w1) →
      (∀ a1 w1, Below w.heap.size w w1 → Blk w1 w.heap.size #[.string ⟨#[]⟩, .string ⟨#[]⟩, .int .i64 0, .string ⟨#[]⟩, .string ⟨#[]⟩, .bool false] → At1 s w a1 w1 → E (.goto 1) a1 w1) → (∀ a1 w1, Below w.heap.size w w1 → Blk w1 w.heap.size #[.string ⟨#[]⟩, .string ⟨#[]⟩, .int .i64 0, .string ⟨#[]⟩, .string ⟨#[]⟩, .bool false] → At5 s w a1 w1 → E (.goto 5) a1 w1) →
      Below w.heap.size w w' → Blk w' w.heap.size #[.string ⟨#[]⟩, .string ⟨#[]⟩, .int .i64 0, .string ⟨#[]⟩, .string ⟨#[]⟩, .bool false] → At3 s w a' w' → r3.wp Tryd.prog E a' w' := by
    intro E a' w' hret hg1 hg5 hB hR hJ
    have HRT : Hid (∀ a1 w1, bodyPost Tryd.prog Tryd.f45 (fun e w' => e = .returned (partsV (splitR s)) ∧ Below w.heap.size w w') .ret a1 w1 → E .ret a1 w1) := hret
    clear hret
    obtain rfl := (Code.seq.inj (Option.some.inj (h3.symm.trans (by rw [hc]; rfl)))).2
    clear h3 hc L1 L5
    obtain ⟨k, n, sc, h, x, y, ⟨us, rfl⟩, hk, hU, HD⟩ := hJ
    by_cases h1 : k = s.size
    · have HV : Hid (splitR s = some (sc, h, n, slash, none0, false)) := by show _ = _; rw [HD.out]; unfold pathR; rw [if_pos (by omega)]
      obtain ⟨u1, u2, u3⟩ := hU
      have hRk := hR
      obtain ⟨y1, y2, y3⟩ := hRk
      have hne : (w.heap.size + 1 = w.heap.size) = False := by simp
      have hne' : (w.heap.size = w.heap.size + 1) = False := by simp
      have hkb : ((k : Int) == (s.size : Int)) = true := beq_iff_eq.2 (by omega)
      clear HD hg1 hg5
      go_wp2_with fail
      exact ret_ok s HRT (six hR _ _ _ _ _ _) (by rw [HV.out]; rfl) (bel6 hB (Nat.le_refl _) _ _ _ _ _ _) (Fr.mk rfl rfl rfl rfl rfl rfl rfl rfl rfl rfl)
    · have hlt : k < s.size := by omega
      have e0 := at_list s k hlt
      have hne : ((k : Int) == (s.size : Int)) = false := beq_eq_false_iff_ne.2 (by omega)
      by_cases hq : s[k].toNat = 63
      · have HV : Hid (splitR s = some (sc, h, n, slash, s.extract (k + 1) s.size, true)) := by show _ = _; rw [HD.out]; unfold pathR; rw [if_neg (by omega), e0, if_pos hq]
        have hc1 : ((s[k].toNat : Int) == 63) = true := beq_iff_eq.2 (by omega)
        clear HD e0 hg1 HRT
        go_wp2_with fail
        go_step3
        refine hg5 _ _ hB hR ⟨k, n, sc, h, x, y, Fr.mk rfl rfl rfl rfl rfl rfl rfl rfl rfl rfl, hlt, hU, HV⟩
      · have hc1 : ((s[k].toNat : Int) == 63) = false := beq_eq_false_iff_ne.2 (by omega)
        by_cases hs7 : s[k].toNat = 47
        · have HV : Hid (splitR s = some (sc, h, n, Cut.cutA (s.extract k s.size) 63, Cut.cutZ (s.extract k s.size) 63, Cut.cutB (s.extract k s.size) 63)) := by show _ = _; rw [HD.out]; unfold pathR; rw [if_neg (by omega), e0, if_neg hq, if_pos hs7]
          have hc2 : ((s[k].toNat : Int) != 47) = false := by simp [hs7]
          have hc3 : ((s[k].toNat : Int) == 47) = true := beq_iff_eq.2 (by omega)
          obtain ⟨u1, u2, u3⟩ := hU
          have hRk := hR
          obtain ⟨y1, y2, y3⟩ := hRk
          have hne : (w.heap.size + 1 = w.heap.size) = False := by simp
          have hne' : (w.heap.size = w.heap.size + 1) = False := by simp
          have hm' : w'.cell? ⟨1, 0, none⟩ = some (.int .i64 m) := (hB.cell hml).trans hm
          have hes : (s.extract k s.size).size < 4294967281 := by rw [ByteArray.size_extract]; omega
          clear HD e0 hg1 hg5
          go_wp2_with (go_at_call 77; refine (cut_any _ m _ hes hm').mono ?_; rintro e w2 ⟨rfl, nq, rfl⟩)
          exact ret_ok s HRT (six (Blk.other (Blk.other (Blk.other (Blk.drewN hR nq) (Nat.ne_of_lt (Nat.lt_succ_self _)) _ _) (Nat.ne_of_lt (Nat.lt_succ_self _)) _ _) (Nat.ne_of_lt (Nat.lt_succ_self _)) _ _) _ _ _ _ _ _) (by rw [HV.out]; rfl) (bel6 (((bel_drewN hB nq).setCell (Nat.le_succ _) _).setCell (Nat.le_succ _) _ |>.setCell (Nat.le_succ _) _) (Nat.le_refl _) _ _ _ _ _ _) (Fr.mk rfl rfl rfl rfl rfl rfl rfl rfl rfl rfl)
        · have HV : Hid (splitR s = none) := by show _ = _; rw [HD.out]; unfold pathR; rw [if_neg (by omega), e0, if_neg hq, if_neg hs7]
          have hc2 : ((s[k].toNat : Int) != 47) = true := bne_iff_ne.2 (by omega)
          have hc3 : ((s[k].toNat : Int) == 47) = false := beq_eq_false_iff_ne.2 (by omega)
          clear HD e0 hg5 HRT
          go_wp2_with fail
          go_step3
          refine hg1 _ _ hB hR ⟨_, _, _, Fr.mk rfl rfl rfl rfl rfl rfl rfl rfl rfl rfl, HV⟩
  obtain ⟨r1, h1⟩ : ∃ r, findLabel c 1 = some (Code.skip.seq r) := ⟨_, by rw [hc]; rfl⟩
  have P1 : ∀ (E : Exit → Act → World → Prop) (a' : Act) (w' : World), (∀ a1 w1, bodyPost Tryd.prog Tryd.f45 (fun e w' => e = .returned (partsV (splitR s)) ∧ Below w.heap.size w w') .ret a1 w1 → E .ret a1 w1) →
      Below w.heap.size w w' → Blk w' w.heap.size #[.string ⟨#[]⟩, .string ⟨#[]⟩, .int .i64 0, .string ⟨#[]⟩, .string ⟨#[]⟩, .bool false] → At1 s w a' w' → r1.wp Tryd.prog E a' w' := by
    intro E a' w' hret hB hR hJ
    have HRT : Hid (∀ a1 w1, bodyPost Tryd.prog Tryd.f45 (fun e w' => e = .returned (partsV (splitR s)) ∧ Below w.heap.size w w') .ret a1 w1 → E .ret a1 w1) := hret
    clear hret
    obtain rfl := (Code.seq.inj (Option.some.inj (h1.symm.trans (by rw [hc]; rfl)))).2
    clear h1 hc h3 P3 L1 L5
    obtain ⟨x, y, z, ⟨us, rfl⟩, HV⟩ := hJ
    have hRk := hR
    obtain ⟨y1, y2, y3⟩ := hRk
    go_wp2_with fail
    exact ret_ok s HRT (six hR _ _ _ _ _ _) (by rw [HV.out]; rfl) (bel6 hB (Nat.le_refl _) _ _ _ _ _ _) (Fr.mk rfl rfl rfl rfl rfl rfl rfl rfl rfl rfl)
  obtain ⟨r5, h5⟩ : ∃ r, findLabel c 5 = some (Code.skip.seq r) := ⟨_, by rw [hc]; rfl⟩
  have P5 : ∀ (E : Exit → Act → World → Prop) (a' : Act) (w' : World), (∀ a1 w1, bodyPost Tryd.prog Tryd.f45 (fun e w' => e = .returned (partsV (splitR s)) ∧ Below w.heap.size w w') .ret a1 w1 → E .ret a1 w1) →
      Below w.heap.size w w' → Blk w' w.heap.size #[.string ⟨#[]⟩, .string ⟨#[]⟩, .int .i64 0, .string ⟨#[]⟩, .string ⟨#[]⟩, .bool false] → At5 s w a' w' → r5.wp Tryd.prog E a' w' := by
    intro E a' w' hret hB hR hJ
    have HRT : Hid (∀ a1 w1, bodyPost Tryd.prog Tryd.f45 (fun e w' => e = .returned (partsV (splitR s)) ∧ Below w.heap.size w w') .ret a1 w1 → E .ret a1 w1) := hret
    clear hret
    obtain rfl := (Code.seq.inj (Option.some.inj (h5.symm.trans (by rw [hc]; rfl)))).2
    clear h5 h1 hc h3 P3 P1 L1 L5
    obtain ⟨k, n, sc, h, x, y, ⟨us, rfl⟩, hk, ⟨u1, u2, u3⟩, HV⟩ := hJ
    have hRk := hR
    obtain ⟨y1, y2, y3⟩ := hRk
    have hne : (w.heap.size + 1 = w.heap.size) = False := by simp
    have hne' : (w.heap.size = w.heap.size + 1) = False := by simp
    go_wp2_with fail
    exact ret_ok s HRT (six (Blk.other (Blk.other hR (Nat.ne_of_lt (Nat.lt_succ_self _)) _ _) (Nat.ne_of_lt (Nat.lt_succ_self _)) _ _) _ _ _ _ _ _) (by rw [HV.out]; rfl) (bel6 ((hB.setCell (Nat.le_succ _) _).setCell (Nat.le_succ _) _) (Nat.le_refl _) _ _ _ _ _ _) (Fr.mk rfl rfl rfl rfl rfl rfl rfl rfl rfl rfl)
  have Q3 : ∀ (E : Exit → Act → World → Prop) (a' : Act) (w' : World) (M : Nat), Hid (RetOk s w E) → Hid (GoOk s w M E) → 6000000 ≤ M → Below w.heap.size w w' → Blk w' w.heap.size #[.string ⟨#[]⟩, .string ⟨#[]⟩, .int .i64 0, .string ⟨#[]⟩, .string ⟨#[]⟩, .bool false] → At3 s w a' w' → r3.wp Tryd.prog E a' w' := by
    intro E a' w' M HRT HG hM hB hR hJ
    exact P3 E a' w' HRT.out (fun a1 w1 x y z => HG.out 1 a1 w1 ⟨x, y, z⟩ (by have := meas_le s 1 a1 w1; simp only [rank] at this; omega)) (fun a1 w1 x y z => HG.out 5 a1 w1 ⟨x, y, z⟩ (by have := meas_le s 5 a1 w1; simp only [rank] at this; omega)) hB hR hJ
  have HE3 : Hid (some (Code.skip.seq r3) = findLabel c 3) := h3.symm
  have HQ3 : Hid (∀ (E : Exit → Act → World → Prop) (a' : Act) (w' : World) (M : Nat), Hid (RetOk s w E) → Hid (GoOk s w M E) → 6000000 ≤ M → Below w.heap.size w w' → Blk w' w.heap.size #[.string ⟨#[]⟩, .string ⟨#[]⟩, .int .i64 0, .string ⟨#[]⟩, .string ⟨#[]⟩, .bool false] → At3 s w a' w' → r3.wp Tryd.prog E a' w') := Q3
  have HCC := hc
  obtain ⟨r4, h4⟩ : ∃ r, findLabel c 4 = some (Code.skip.seq r) := ⟨_, by rw [hc]; rfl⟩
  have P4 : ∀ (E : Exit → Act → World → Prop) (a' : Act) (w' : World) (M : Nat), Hid (RetOk s w E) → Hid (GoOk s w M E) → meas s 4 a' w' ≤ M → Below w.heap.size w w' → Blk w' w.heap.size #[.string ⟨#[]⟩, .string ⟨#[]⟩, .int .i64 0, .string ⟨#[]⟩, .string ⟨#[]⟩, .bool false] → At4 s w a' w' → r4.wp Tryd.prog E a' w' := by
    intro E a' w' M HRT HG hM hB hR hJ
    have HX : ∀ X, findLabel c 3 = some (Code.skip.seq X) → ∀ a w, r3.wp Tryd.prog E a w → X.wp Tryd.prog E a w := fun X h1 a w h => hop_eq h1 HE3.out h
    rw [hc] at HX
    have HX3 := (id HX : Hid _)
    clear HX
    obtain rfl := (Code.seq.inj (Option.some.inj (h4.symm.trans (by rw [hc]; rfl)))).2
    clear h4 h5 h1 hc h3 P3 P1 P5 Q3 L1 L5 HCC HE3
    obtain ⟨k, f, p0, sc, h, hF, hk, hp0, hf, hU, HS, HD, HV⟩ := hJ
    rw [meas_fr hF] at hM
    simp only [rank] at hM
    obtain ⟨us, rfl⟩ := hF
    have hT' : Tab w' := hT.below hB htl
    by_cases hdig : ∃ hlt : k < s.size, 48 ≤ s[k].toNat ∧ s[k].toNat ≤ 57
    · obtain ⟨hlt, hd1, hd2⟩ := hdig
      have e0 := at_list s k hlt
      have hn : noDig (s.data.toList[k]?.getD 0) = false := by rw [e0]; unfold noDig; rw [decide_eq_true hd1, decide_eq_true hd2]; rfl
      obtain ⟨f', rfl⟩ : ∃ f', f = f' + 1 := ⟨f - 1, by omega⟩
      have HS' : Hid (scanF noDig s.data.toList s.data.toList.length p0 = scanF noDig s.data.toList f' (k + 1)) := by
        show _ = _
        rw [HS.out, scan_miss (by omega) hn]
      have HD' : Hid (∀ j, p0 ≤ j → j < k + 1 → noDig (s.data.toList[j]?.getD 0) = false) := by
        intro j x y
        by_cases e : j = k
        · rw [e]; exact hn
        · exact HD.out j x (by omega)
      have hc1 : (decide ((48 : Int) ≤ (s[k].toNat : Int)) && decide ((s[k].toNat : Int) ≤ 57)) = true := by rw [decide_eq_true (by omega), decide_eq_true (by omega)]; rfl
      clear HS HD e0 hn
      go_wp2_with (go_at_call 49; refine (isDigB_any _ _ hT' (byte_bd _).1 (byte_bd _).2).mono ?_; rintro e w2 ⟨rfl, hw2⟩; obtain rfl := hw2.symm)
      go_step3
      refine HG.out 4 _ _ ⟨hB, hR, k + 1, f', p0, sc, h, (Fr.mk rfl rfl rfl rfl rfl rfl rfl rfl rfl rfl), by omega, by omega, by omega, hU, HS', HD', HV⟩ ?_
      rw [meas_fr (k := k + 1) (Fr.mk rfl rfl rfl rfl rfl rfl rfl rfl rfl rfl)]
      simp only [rank]
      omega
    · have hend : scanF noDig s.data.toList s.data.toList.length p0 = k := by
        rw [HS.out]
        by_cases hlt : k < s.size
        · refine scan_hit (by omega) ?_
          rw [at_list s k hlt]
          unfold noDig
          by_cases h1 : 48 ≤ s[k].toNat
          · have h2 : ¬ s[k].toNat ≤ 57 := fun x => hdig ⟨hlt, h1, x⟩
            rw [decide_eq_false h2]; simp
          · rw [decide_eq_false h1]; rfl
        · exact scan_end (by omega)
      have hdd : Hid (∀ j, j < (s.extract p0 k).size → noDig ((s.extract p0 k).data.toList[j]?.getD 0) = false) := by
        intro j hj
        rw [ByteArray.size_extract] at hj
        rw [ext_get s p0 k j hk (by omega)]
        exact HD.out _ (by omega) (by omega)
      have hsz : (s.extract p0 k).size ≤ 2000000 := by rw [ByteArray.size_extract]; omega
      have HV2 : Hid (splitR s = match portR (s.extract p0 k) with | none => none | some n => pathR s sc h n k) := by show _ = _; rw [HV.out, hend]
      have hpk : decide ((p0 : Int) ≤ (k : Int)) = true := decide_eq_true (by omega)
      clear HV HS HD hend
      have hne : (w.heap.size + 1 = w.heap.size) = False := by simp
      have hne' : (w.heap.size = w.heap.size + 1) = False := by simp
      have HU := (id hU : Hid _)
      have HR := (id hR : Hid _)
      clear hU hR
      have hM1 : 6000000 ≤ M := by omega
      by_cases hlt : k < s.size
      · have hc1 : (decide ((48 : Int) ≤ (s[k].toNat : Int)) && decide ((s[k].toNat : Int) ≤ 57)) = false := by
          by_cases h1 : 48 ≤ s[k].toNat
          · have h2 : ¬ s[k].toNat ≤ 57 := fun x => hdig ⟨hlt, h1, x⟩
            rw [decide_eq_false (by omega : ¬ ((s[k].toNat : Int) ≤ 57))]; simp
          · rw [decide_eq_false (by omega : ¬ ((48 : Int) ≤ (s[k].toNat : Int)))]; rfl
        clear hdig
        cases hp : portR (s.extract p0 k) with
        | none =>
          have HV3 : Hid (splitR s = none) := by show _ = _; rw [HV2.out, hp]
          have HC : Hid (Calls Tryd.prog 76 #[.string (s.extract p0 k)] w' fun e w2 => e = .returned (.tuple #[.int .i64 0, .bool false]) ∧ Below w'.heap.size w' w2) := by have := readPort_any _ w' hsz hdd.out; rw [hp] at this; exact this
          clear hp HV2 HX3 HQ3 HRT
          go_wp2_with (first
            | (go_at_call 49; refine (isDigB_any _ _ hT' (byte_bd _).1 (byte_bd _).2).mono ?_; rintro e w2 ⟨rfl, hw2⟩; obtain rfl := hw2.symm)
            | (go_at_call 76; refine HC.out.mono ?_; rintro e w2 ⟨rfl, hb2⟩; have HB2 := (id hb2 : Hid _); obtain ⟨u1, u2, u3⟩ := Blk.below HU.out hb2; clear hb2))
          go_step3
          refine HG.out 1 _ _ ⟨(hB.trans (HB2.out.mono hB.size)).setCell (Nat.le_succ _) _, Blk.other (Blk.below HR.out HB2.out) (Nat.ne_of_lt (Nat.lt_succ_self _)) _ _, _, _, _, (Fr.mk rfl rfl rfl rfl rfl rfl rfl rfl rfl rfl), HV3⟩ ?_
          refine Nat.lt_of_le_of_lt (meas_le _ _ _ _) ?_
          simp only [rank]
          omega
        | some n =>
          have HV3 : Hid (splitR s = pathR s sc h n k) := by show _ = _; rw [HV2.out, hp]
          have HC : Hid (Calls Tryd.prog 76 #[.string (s.extract p0 k)] w' fun e w2 => e = .returned (.tuple #[.int .i64 n, .bool true]) ∧ Below w'.heap.size w' w2) := by have := readPort_any _ w' hsz hdd.out; rw [hp] at this; exact this
          clear hp HV2
          go_wp2_with (first
            | (go_at_call 49; refine (isDigB_any _ _ hT' (byte_bd _).1 (byte_bd _).2).mono ?_; rintro e w2 ⟨rfl, hw2⟩; obtain rfl := hw2.symm)
            | (go_at_call 76; refine HC.out.mono ?_; rintro e w2 ⟨rfl, hb2⟩; have HB2 := (id hb2 : Hid _); obtain ⟨u1, u2, u3⟩ := Blk.below HU.out hb2; clear hb2))
          rename_i KK hKK
          refine wp_label (hKK _ _ ?_)
          exact (HX3.out _ rfl _ _ (HQ3.out E _ _ M HRT HG hM1 ((hB.trans (HB2.out.mono hB.size)).setCell (Nat.le_succ _) _) (Blk.other (Blk.below HR.out HB2.out) (Nat.ne_of_lt (Nat.lt_succ_self _)) _ _) ⟨k, n, sc, h, _, _, (Fr.mk rfl rfl rfl rfl rfl rfl rfl rfl rfl rfl), hk, Blk.set (Blk.below HU.out HB2.out) 2 (.int .i64 n) (by simp), HV3⟩))
      · clear hdig
        cases hp : portR (s.extract p0 k) with
        | none =>
          have HV3 : Hid (splitR s = none) := by show _ = _; rw [HV2.out, hp]
          have HC : Hid (Calls Tryd.prog 76 #[.string (s.extract p0 k)] w' fun e w2 => e = .returned (.tuple #[.int .i64 0, .bool false]) ∧ Below w'.heap.size w' w2) := by have := readPort_any _ w' hsz hdd.out; rw [hp] at this; exact this
          clear hp HV2 HX3 HQ3 HRT
          go_wp2_with (first
            | (go_at_call 49; refine (isDigB_any _ _ hT' (byte_bd _).1 (byte_bd _).2).mono ?_; rintro e w2 ⟨rfl, hw2⟩; obtain rfl := hw2.symm)
            | (go_at_call 76; refine HC.out.mono ?_; rintro e w2 ⟨rfl, hb2⟩; have HB2 := (id hb2 : Hid _); obtain ⟨u1, u2, u3⟩ := Blk.below HU.out hb2; clear hb2))
          go_step3
          refine HG.out 1 _ _ ⟨(hB.trans (HB2.out.mono hB.size)).setCell (Nat.le_succ _) _, Blk.other (Blk.below HR.out HB2.out) (Nat.ne_of_lt (Nat.lt_succ_self _)) _ _, _, _, _, (Fr.mk rfl rfl rfl rfl rfl rfl rfl rfl rfl rfl), HV3⟩ ?_
          refine Nat.lt_of_le_of_lt (meas_le _ _ _ _) ?_
          simp only [rank]
          omega
        | some n =>
          have HV3 : Hid (splitR s = pathR s sc h n k) := by show _ = _; rw [HV2.out, hp]
          have HC : Hid (Calls Tryd.prog 76 #[.string (s.extract p0 k)] w' fun e w2 => e = .returned (.tuple #[.int .i64 n, .bool true]) ∧ Below w'.heap.size w' w2) := by have := readPort_any _ w' hsz hdd.out; rw [hp] at this; exact this
          clear hp HV2
          go_wp2_with (first
            | (go_at_call 49; refine (isDigB_any _ _ hT' (byte_bd _).1 (byte_bd _).2).mono ?_; rintro e w2 ⟨rfl, hw2⟩; obtain rfl := hw2.symm)
            | (go_at_call 76; refine HC.out.mono ?_; rintro e w2 ⟨rfl, hb2⟩; have HB2 := (id hb2 : Hid _); obtain ⟨u1, u2, u3⟩ := Blk.below HU.out hb2; clear hb2))
          rename_i KK hKK
          refine wp_label (hKK _ _ ?_)
          exact (HX3.out _ rfl _ _ (HQ3.out E _ _ M HRT HG hM1 ((hB.trans (HB2.out.mono hB.size)).setCell (Nat.le_succ _) _) (Blk.other (Blk.below HR.out HB2.out) (Nat.ne_of_lt (Nat.lt_succ_self _)) _ _) ⟨k, n, sc, h, _, _, (Fr.mk rfl rfl rfl rfl rfl rfl rfl rfl rfl rfl), hk, Blk.set (Blk.below HU.out HB2.out) 2 (.int .i64 n) (by simp), HV3⟩))
  have HE4 : Hid (some (Code.skip.seq r4) = findLabel c 4) := h4.symm
  have HQ4 : Hid (∀ (E : Exit → Act → World → Prop) (a' : Act) (w' : World) (M : Nat), Hid (RetOk s w E) → Hid (GoOk s w M E) → meas s 4 a' w' ≤ M → Below w.heap.size w w' → Blk w' w.heap.size #[.string ⟨#[]⟩, .string ⟨#[]⟩, .int .i64 0, .string ⟨#[]⟩, .string ⟨#[]⟩, .bool false] → At4 s w a' w' → r4.wp Tryd.prog E a' w') := P4
  obtain ⟨r2, h2⟩ : ∃ r, findLabel c 2 = some (Code.skip.seq r) := ⟨_, by rw [hc]; rfl⟩
  have P2 : ∀ (E : Exit → Act → World → Prop) (a' : Act) (w' : World) (M : Nat), Hid (RetOk s w E) → Hid (GoOk s w M E) → meas s 2 a' w' ≤ M → Below w.heap.size w w' → Blk w' w.heap.size #[.string ⟨#[]⟩, .string ⟨#[]⟩, .int .i64 0, .string ⟨#[]⟩, .string ⟨#[]⟩, .bool false] → At2 s w a' w' → r2.wp Tryd.prog E a' w' := by
    intro E a' w' M HRT HG hM hB hR hJ
    have HX : ∀ X, findLabel c 4 = some (Code.skip.seq X) → ∀ a w, r4.wp Tryd.prog E a w → X.wp Tryd.prog E a w := fun X h1 a w h => hop_eq h1 HE4.out h
    rw [hc] at HX
    have HX4 := (id HX : Hid _)
    clear HX
    obtain rfl := (Code.seq.inj (Option.some.inj (h2.symm.trans (by rw [hc]; rfl)))).2
    clear h2 h4 h5 h1 hc h3 P3 P1 P5 P4 Q3 L1 L5 HCC HE3 HE4 HQ3
    obtain ⟨k, f, h0, sc, hF, hk, hh0, hf, hU, HS, HV⟩ := hJ
    rw [meas_fr hF] at hM
    simp only [rank] at hM
    obtain ⟨us, rfl⟩ := hF
    have hne : (w.heap.size + 1 = w.heap.size) = False := by simp
    have hne' : (w.heap.size = w.heap.size + 1) = False := by simp
    have hpk : decide ((h0 : Int) ≤ (k : Int)) = true := decide_eq_true (by omega)
    by_cases hlt : k < s.size
    · have e0 := at_list s k hlt
      by_cases h58 : s[k].toNat = 58
      · have hend : scanF isPart s.data.toList s.data.toList.length h0 = k := by
          rw [HS.out]
          refine scan_hit (by omega) ?_
          rw [e0]; unfold isPart isCol; rw [beq_iff_eq.2 h58]; rfl
        have HV2 : Hid (splitR s = match portR (s.extract (k + 1) (scanF noDig s.data.toList s.data.toList.length (k + 1))) with | none => none | some n => pathR s sc (s.extract h0 k) n (scanF noDig s.data.toList s.data.toList.length (k + 1))) := by
          show _ = _
          rw [HV.out]
          unfold hostR
          simp only [hend]
          rw [if_neg (by rw [e0]; omega)]
          cases portR (s.extract (k + 1) (scanF noDig s.data.toList s.data.toList.length (k + 1))) <;> rfl
        have hc1 : ((s[k].toNat : Int) != 58) = false := by simp [h58]
        have hks : ((k : Int) == (s.size : Int)) = false := beq_eq_false_iff_ne.2 (by omega)
        clear HS HV hend e0
        have HU := (id hU : Hid _)
        obtain ⟨u1, u2, u3⟩ := hU
        have HR := (id hR : Hid _)
        go_wp2_with fail
        rename_i KK hKK
        refine wp_label (hKK _ _ ?_)
        exact (HX4.out _ rfl _ _ (HQ4.out E _ _ M HRT HG (by rw [meas_fr (k := k + 1) (Fr.mk rfl rfl rfl rfl rfl rfl rfl rfl rfl rfl)]; simp only [rank]; omega) (hB.setCell (Nat.le_succ _) _) (Blk.other HR.out (Nat.ne_of_lt (Nat.lt_succ_self _)) _ _) ⟨k + 1, s.data.toList.length, k + 1, sc, s.extract h0 k, (Fr.mk rfl rfl rfl rfl rfl rfl rfl rfl rfl rfl), by omega, by omega, by omega, Blk.set HU.out 1 (.string (s.extract h0 k)) (by simp), rfl, fun j x y => by omega, HV2⟩))
      · have hc1 : ((s[k].toNat : Int) != 58) = true := bne_iff_ne.2 (by omega)
        by_cases hpt : s[k].toNat = 47 ∨ s[k].toNat = 63
        · have hend : scanF isPart s.data.toList s.data.toList.length h0 = k := by
            rw [HS.out]
            refine scan_hit (by omega) ?_
            rw [e0]; unfold isPart isEnd
            rcases hpt with x | x
            · rw [beq_iff_eq.2 x]; simp
            · rw [beq_iff_eq.2 x]; simp
          have HV2 : Hid (splitR s = pathR s sc (s.extract h0 k) 0 k) := by
            show _ = _
            rw [HV.out]
            unfold hostR
            simp only [hend]
            rw [if_pos (by rw [e0]; omega)]
          have hks : ((k : Int) == (s.size : Int)) = false := beq_eq_false_iff_ne.2 (by omega)
          clear HS HV hend e0 HX4 HQ4 HRT
          have HU := (id hU : Hid _)
          obtain ⟨u1, u2, u3⟩ := hU
          have HR := (id hR : Hid _)
          rcases hpt with x | x
          · have hc2 : ((s[k].toNat : Int) != 47) = false := by simp [x]
            go_wp2_with fail
            go_step3
            exact HG.out 3 _ _ ⟨hB.setCell (Nat.le_succ _) _, Blk.other HR.out (Nat.ne_of_lt (Nat.lt_succ_self _)) _ _, k, 0, sc, s.extract h0 k, _, _, (Fr.mk rfl rfl rfl rfl rfl rfl rfl rfl rfl rfl), by omega, Blk.set HU.out 1 (.string (s.extract h0 k)) (by simp), HV2⟩ (by rw [meas_fr (k := k) (Fr.mk rfl rfl rfl rfl rfl rfl rfl rfl rfl rfl)]; simp only [rank]; omega)
          · have hc2 : ((s[k].toNat : Int) != 47) = true := bne_iff_ne.2 (by omega)
            have hc3 : ((s[k].toNat : Int) != 63) = false := by simp [x]
            go_wp2_with fail
            go_step3
            exact HG.out 3 _ _ ⟨hB.setCell (Nat.le_succ _) _, Blk.other HR.out (Nat.ne_of_lt (Nat.lt_succ_self _)) _ _, k, 0, sc, s.extract h0 k, _, _, (Fr.mk rfl rfl rfl rfl rfl rfl rfl rfl rfl rfl), by omega, Blk.set HU.out 1 (.string (s.extract h0 k)) (by simp), HV2⟩ (by rw [meas_fr (k := k) (Fr.mk rfl rfl rfl rfl rfl rfl rfl rfl rfl rfl)]; simp only [rank]; omega)
        · have hn : isPart (s.data.toList[k]?.getD 0) = false := by
            rw [e0]; unfold isPart isCol isEnd
            rw [beq_eq_false_iff_ne.2 h58, beq_eq_false_iff_ne.2 (fun x => hpt (Or.inl x)), beq_eq_false_iff_ne.2 (fun x => hpt (Or.inr x))]; rfl
          obtain ⟨f', rfl⟩ : ∃ f', f = f' + 1 := ⟨f - 1, by omega⟩
          have HS' : Hid (scanF isPart s.data.toList s.data.toList.length h0 = scanF isPart s.data.toList f' (k + 1)) := by
            show _ = _
            rw [HS.out, scan_miss (by omega) hn]
          have hc2 : ((s[k].toNat : Int) != 47) = true := bne_iff_ne.2 (by omega)
          have hc3 : ((s[k].toNat : Int) != 63) = true := bne_iff_ne.2 (by omega)
          clear HS e0 hn HX4 HQ4 HRT
          go_wp2_with fail
          go_step3
          refine HG.out 2 _ _ ⟨hB, hR, k + 1, f', h0, sc, (Fr.mk rfl rfl rfl rfl rfl rfl rfl rfl rfl rfl), by omega, by omega, by omega, hU, HS', HV⟩ ?_
          rw [meas_fr (k := k + 1) (Fr.mk rfl rfl rfl rfl rfl rfl rfl rfl rfl rfl)]
          simp only [rank]
          omega
    · have hend : scanF isPart s.data.toList s.data.toList.length h0 = k := by
        rw [HS.out]; exact scan_end (by omega)
      have HV2 : Hid (splitR s = pathR s sc (s.extract h0 k) 0 k) := by
        show _ = _
        rw [HV.out]
        unfold hostR
        simp only [hend]
        rw [if_pos (Or.inl (by omega))]
      have hks : ((k : Int) == (s.size : Int)) = true := beq_iff_eq.2 (by omega)
      clear HS HV hend HX4 HQ4 HRT
      have HU := (id hU : Hid _)
      obtain ⟨u1, u2, u3⟩ := hU
      have HR := (id hR : Hid _)
      go_wp2_with fail
      go_step3
      exact HG.out 3 _ _ ⟨hB.setCell (Nat.le_succ _) _, Blk.other HR.out (Nat.ne_of_lt (Nat.lt_succ_self _)) _ _, k, 0, sc, s.extract h0 k, _, _, (Fr.mk rfl rfl rfl rfl rfl rfl rfl rfl rfl rfl), by omega, Blk.set HU.out 1 (.string (s.extract h0 k)) (by simp), HV2⟩ (by rw [meas_fr (k := k) (Fr.mk rfl rfl rfl rfl rfl rfl rfl rfl rfl rfl)]; simp only [rank]; omega)
  have HE2 : Hid (some (Code.skip.seq r2) = findLabel c 2) := h2.symm
  have HQ2 : Hid (∀ (E : Exit → Act → World → Prop) (a' : Act) (w' : World) (M : Nat), Hid (RetOk s w E) → Hid (GoOk s w M E) → meas s 2 a' w' ≤ M → Below w.heap.size w w' → Blk w' w.heap.size #[.string ⟨#[]⟩, .string ⟨#[]⟩, .int .i64 0, .string ⟨#[]⟩, .string ⟨#[]⟩, .bool false] → At2 s w a' w' → r2.wp Tryd.prog E a' w') := P2
  obtain ⟨r0, h0⟩ : ∃ r, findLabel c 0 = some (Code.skip.seq r) := ⟨_, by rw [hc]; rfl⟩
  have P0 : ∀ (E : Exit → Act → World → Prop) (a' : Act) (w' : World) (M : Nat), Hid (RetOk s w E) → Hid (GoOk s w M E) → meas s 0 a' w' ≤ M → Below w.heap.size w w' → Blk w' w.heap.size #[.string ⟨#[]⟩, .string ⟨#[]⟩, .int .i64 0, .string ⟨#[]⟩, .string ⟨#[]⟩, .bool false] → At0 s w a' w' → r0.wp Tryd.prog E a' w' := by
    intro E a' w' M HRT HG hM hB hR hJ
    have HX : ∀ X, findLabel c 2 = some (Code.skip.seq X) → ∀ a w, r2.wp Tryd.prog E a w → X.wp Tryd.prog E a w := fun X h1 a w h => hop_eq h1 HE2.out h
    rw [hc] at HX
    have HX2 := (id HX : Hid _)
    clear HX
    obtain rfl := (Code.seq.inj (Option.some.inj (h0.symm.trans (by rw [hc]; rfl)))).2
    clear h0 h2 h4 h5 h1 hc h3 P3 P1 P5 P4 P2 Q3 L1 L5 HCC HE3 HE4 HQ3 HQ4 HE2
    obtain ⟨k, f, hF, hk, hf, hU, HS⟩ := hJ
    rw [meas_fr hF] at hM
    simp only [rank] at hM
    obtain ⟨us, rfl⟩ := hF
    have hne : (w.heap.size + 1 = w.heap.size) = False := by simp
    have hne' : (w.heap.size = w.heap.size + 1) = False := by simp
    by_cases hlp : ∃ hlt : k < s.size, s[k].toNat ≠ 58
    · obtain ⟨hlt, h58⟩ := hlp
      have e0 := at_list s k hlt
      have hn : isCol (s.data.toList[k]?.getD 0) = false := by
        rw [e0]; unfold isCol; exact beq_eq_false_iff_ne.2 h58
      obtain ⟨f', rfl⟩ : ∃ f', f = f' + 1 := ⟨f - 1, by omega⟩
      have HS' : Hid (scanF isCol s.data.toList s.data.toList.length 0 = scanF isCol s.data.toList f' (k + 1)) := by
        show _ = _
        rw [HS.out, scan_miss (by omega) hn]
      have hc1 : ((s[k].toNat : Int) != 58) = true := bne_iff_ne.2 (by omega)
      clear HS e0 hn HX2 HQ2 HRT
      go_wp2_with fail
      go_step3
      refine HG.out 0 _ _ ⟨hB, hR, k + 1, f', (Fr.mk rfl rfl rfl rfl rfl rfl rfl rfl rfl rfl), by omega, by omega, hU, HS'⟩ ?_
      rw [meas_fr (k := k + 1) (Fr.mk rfl rfl rfl rfl rfl rfl rfl rfl rfl rfl)]
      simp only [rank]
      omega
    · have hend : scanF isCol s.data.toList s.data.toList.length 0 = k := by
        rw [HS.out]
        by_cases hlt : k < s.size
        · refine scan_hit (by omega) ?_
          rw [at_list s k hlt]; unfold isCol
          exact beq_iff_eq.2 (Classical.byContradiction fun x => hlp ⟨hlt, x⟩)
        · exact scan_end (by omega)
      cases hpre : Lib.hasPrefix (s.extract k s.size).data.toList [58, 47, 47] with
      | false =>
        have HV : Hid (splitR s = none) := by
          show _ = _
          unfold splitR
          simp only [hend]
          rw [hpre]; rfl
        have HC : Hid (Calls Tryd.prog 43 #[.string (s.extract k s.size), .string ⟨#[58, 47, 47]⟩] w' fun e w2 => e = .returned (.bool false) ∧ w2 = w') := by
          have := Tryd.strings_HasPrefix (s.extract k s.size) ⟨#[58, 47, 47]⟩ w'
          rw [show (⟨#[58, 47, 47]⟩ : ByteArray).data.toList = [58, 47, 47] from rfl, hpre] at this
          exact this
        clear HS hend hpre HX2 HQ2 HRT
        by_cases hlt : k < s.size
        · have hc1 : ((s[k].toNat : Int) != 58) = false := by
            have : s[k].toNat = 58 := Classical.byContradiction fun x => hlp ⟨hlt, x⟩
            simp [this]
          clear hlp
          go_wp2_with (go_at_call 43; refine HC.out.mono ?_; rintro e w2 ⟨rfl, hw2⟩; obtain rfl := hw2.symm)
          go_step3
          exact HG.out 1 _ _ ⟨hB, hR, _, _, _, (Fr.mk rfl rfl rfl rfl rfl rfl rfl rfl rfl rfl), HV⟩ (Nat.lt_of_le_of_lt (meas_le _ _ _ _) (by simp only [rank]; omega))
        · clear hlp
          go_wp2_with (go_at_call 43; refine HC.out.mono ?_; rintro e w2 ⟨rfl, hw2⟩; obtain rfl := hw2.symm)
          go_step3
          exact HG.out 1 _ _ ⟨hB, hR, _, _, _, (Fr.mk rfl rfl rfl rfl rfl rfl rfl rfl rfl rfl), HV⟩ (Nat.lt_of_le_of_lt (meas_le _ _ _ _) (by simp only [rank]; omega))
      | true =>
        have hk3 : k + 3 ≤ s.size := by
          have := pre_len hpre
          simp only [List.length_cons, List.length_nil, Array.length_toList] at this
          have e : (s.extract k s.size).data.size = s.size - k := by show (s.extract k s.size).size = _; rw [ByteArray.size_extract]; omega
          omega
        have HV : Hid (splitR s = hostR s (s.extract 0 k) (k + 3)) := by
          show _ = _
          unfold splitR
          simp only [hend]
          rw [hpre]; rfl
        have HC : Hid (Calls Tryd.prog 43 #[.string (s.extract k s.size), .string ⟨#[58, 47, 47]⟩] w' fun e w2 => e = .returned (.bool true) ∧ w2 = w') := by
          have := Tryd.strings_HasPrefix (s.extract k s.size) ⟨#[58, 47, 47]⟩ w'
          rw [show (⟨#[58, 47, 47]⟩ : ByteArray).data.toList = [58, 47, 47] from rfl, hpre] at this
          exact this
        have hlt : k < s.size := by omega
        have hc1 : ((s[k].toNat : Int) != 58) = false := by
          have : s[k].toNat = 58 := Classical.byContradiction fun x => hlp ⟨hlt, x⟩
          simp [this]
        clear HS hend hpre hlp
        have HU := (id hU : Hid _)
        obtain ⟨u1, u2, u3⟩ := hU
        have HR := (id hR : Hid _)
        go_wp2_with (go_at_call 43; refine HC.out.mono ?_; rintro e w2 ⟨rfl, hw2⟩; obtain rfl := hw2.symm)
        rename_i KK hKK
        refine wp_label (hKK _ _ ?_)
        exact (HX2.out _ rfl _ _ (HQ2.out E _ _ M HRT HG (by rw [meas_fr (k := k + 3) (Fr.mk rfl rfl rfl rfl rfl rfl rfl rfl rfl rfl)]; simp only [rank]; omega) (hB.setCell (Nat.le_succ _) _) (Blk.other HR.out (Nat.ne_of_lt (Nat.lt_succ_self _)) _ _) ⟨k + 3, s.data.toList.length, k + 3, s.extract 0 k, (Fr.mk rfl rfl rfl rfl rfl rfl rfl rfl rfl rfl), by omega, by omega, by omega, Blk.set HU.out 0 (.string (s.extract 0 k)) (by simp), rfl, HV⟩))
  have hsome : ∀ l a1 w1, At s w l a1 w1 → (findLabel c l).isSome = true := by
    intro l a1 w1 h
    match l, h with
    | 0, _ => rw [h0]; rfl
    | 1, _ => rw [h1]; rfl
    | 2, _ => rw [h2]; rfl
    | 3, _ => rw [h3]; rfl
    | 4, _ => rw [h4]; rfl
    | 5, _ => rw [h5]; rfl
    | n + 6, h => exact absurd h.2.2 id
  refine scope_hops (At s w) (meas s) ?_ ?_
  · have HRT : Hid (RetOk s w (ends c (At s w) Q0)) := fun a1 w1 h => h
    have HG : Hid (GoOk s w 100000000 (ends c (At s w) Q0)) := fun l a1 w1 h _ => ⟨hsome _ _ _ h, h⟩
    have HX : ∀ X, findLabel c 0 = some (Code.skip.seq X) → ∀ a1 w1, r0.wp Tryd.prog (ends c (At s w) Q0) a1 w1 → X.wp Tryd.prog (ends c (At s w) Q0) a1 w1 := fun X h1 a1 w1 h => hop_eq h1 h0.symm h
    have HP0 := (id (P0 (ends c (At s w) Q0)) : Hid _)
    generalize ends c (At s w) Q0 = E at HRT HG HX HP0 ⊢
    rw [hc] at HX
    have HX0 := (id HX : Hid _)
    clear HX
    refine wp_of_eq hc ?_
    clear h0 h2 h4 h5 h1 hc h3 P3 P1 P5 P4 P2 P0 Q3 L1 L5 HCC HE3 HE4 HQ3 HQ4 HE2 HQ2 hsome
    go_wp2_with fail
    rename_i KK hKK
    have hz : ∀ o cs t, Blk ((w.alloc o).alloc (.cells cs t)) (w.heap.size + 1) cs := fun o cs t => by
      have h := Blk.made (w.alloc o) cs t
      rwa [World.size_alloc] at h
    refine wp_label (hKK _ _ ?_)
    have hX := HX0.out
    clear HX0
    refine hX _ (by rfl) _ _ ?_
    exact (HP0.out _ _ 100000000 HRT HG (Nat.le_trans (meas_le _ _ _ _) (by simp only [rank]; omega)) (((Below.refl _ _).alloc (Nat.le_refl _) _).alloc (by simp) _) (Blk.alloc (Blk.made w _ _) _) ⟨0, s.data.toList.length, (Fr.mk rfl rfl rfl rfl rfl rfl rfl rfl rfl rfl), Nat.zero_le _, by omega, hz _ _ _, rfl⟩)
  · intro l rest hr a w' hJ
    have HG : GoOk s w (meas s l a w') (ends c (fun l' a' w'' => At s w l' a' w'' ∧ meas s l' a' w'' < meas s l a w') Q0) := fun l' a1 w1 hA hlt => ⟨hsome _ _ _ hA, hA, hlt⟩
    have HRT : RetOk s w (ends c (fun l' a' w'' => At s w l' a' w'' ∧ meas s l' a' w'' < meas s l a w') Q0) := fun a1 w1 h => h
    clear hc HCC HE3 HE4 HE2 HQ3 HQ4 HQ2 L1 L5 hsome
    have hl6 := at_lt hJ
    obtain ⟨hB, hR, hJ⟩ := hJ
    by_cases e0 : l = 0
    · subst e0
      obtain rfl := Option.some.inj (h0.symm.trans hr)
      exact wp_seq (wp_skip (P0 _ _ _ _ HRT HG (Nat.le_refl _) hB hR hJ))
    by_cases e1 : l = 1
    · subst e1
      obtain rfl := Option.some.inj (h1.symm.trans hr)
      exact wp_seq (wp_skip (P1 _ _ _ HRT hB hR hJ))
    by_cases e2 : l = 2
    · subst e2
      obtain rfl := Option.some.inj (h2.symm.trans hr)
      exact wp_seq (wp_skip (P2 _ _ _ _ HRT HG (Nat.le_refl _) hB hR hJ))
    by_cases e3 : l = 3
    · subst e3
      obtain rfl := Option.some.inj (h3.symm.trans hr)
      exact wp_seq (wp_skip (Q3 _ _ _ _ HRT HG (by unfold meas; simp only [rank]; omega) hB hR hJ))
    by_cases e4 : l = 4
    · subst e4
      obtain rfl := Option.some.inj (h4.symm.trans hr)
      exact wp_seq (wp_skip (P4 _ _ _ _ HRT HG (Nat.le_refl _) hB hR hJ))
    by_cases e5 : l = 5
    · subst e5
      obtain rfl := Option.some.inj (h5.symm.trans hr)
      exact wp_seq (wp_skip (P5 _ _ _ HRT hB hR hJ))
    omega

end Go.Proofs.YtlgjgdpalflmfaaDoor.Spl
