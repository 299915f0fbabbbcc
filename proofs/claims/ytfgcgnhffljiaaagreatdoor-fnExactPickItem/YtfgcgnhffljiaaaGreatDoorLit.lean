/-
  Walks: impl.eachPart: what a list's parts are, one by one.
-/
import Derived.RangeFuncNested
import Derived.RangeFuncBound
import Derived.RangeFuncCalls
import Derived.RangeFuncLeaves
import Derived.RangeFuncBox
import Derived.Shelf.Abstract
import Derived.Shelf.RegionOpen
import Derived.WalkKit
import Derived.OwnWalkIn
import Derived.TacticsInMore
import Derived.LoopNIn
import Derived.LoopIn
import Derived.Maps.AppendAt
import Derived.Lib.SmallJoins
import Derived.Test.YtfgcgnhffljiaaaGreatDoorLsp
import Derived.Test.YtfgcgnhffljiaaaGreatDoorShelf
namespace Go.Proofs.YtfgcgnhffljiaaaGreatDoor.Lit
open Go.RowKit Go.Shelf
open Go.Proofs.YtfgcgnhffljiaaaGreatDoor.Fbs
open Go.Proofs.YtfgcgnhffljiaaaGreatDoor.Tri
open Go.Proofs.YtfgcgnhffljiaaaGreatDoor.Lsp
open Go.Proofs.YtfgcgnhffljiaaaGreatDoor.Ows
attribute [local go_sem] Oper.semAt_some

/-- The parts of a list, one by one, and whether their quotes are closed: from the place i on, the part begun at 'fr'. -/
def onePart (x : ByteArray) (b : Bool) : List (ByteArray × Bool) := if x.size = 0 then [] else [(x, b)]
def pairF (s : ByteArray) : Nat → Nat → Nat → Bool → List (ByteArray × Bool)
  | 0, _, _, _ => []
  | f + 1, i, fr, op =>
    if i < s.size then
      if op = true ∧ (at0 s i).toNat = 92 then pairF s f (i + 2) fr op
      else if (at0 s i).toNat = 34 then pairF s f (i + 1) fr (!op)
      else if op = false ∧ (at0 s i).toNat = 44 then onePart (trimS (s.extract fr i)) true ++ pairF s f (i + 1) (i + 1) op
      else pairF s f (i + 1) fr op
    else onePart (trimS (s.extract fr s.size)) (!op)
def pairL (s : ByteArray) : List (ByteArray × Bool) := pairF s (s.size + 2) 0 0 false

theorem pairF_esc {s : ByteArray} {f i fr : Nat} (h : i < s.size) (hc : (at0 s i).toNat = 92) : pairF s (f + 1) i fr true = pairF s f (i + 2) fr true := by
  simp only [pairF]; rw [if_pos h, if_pos (by simp [hc])]
theorem pairF_quote {s : ByteArray} {f i fr : Nat} {op : Bool} (h : i < s.size) (hc : (at0 s i).toNat = 34) : pairF s (f + 1) i fr op = pairF s f (i + 1) fr (!op) := by
  simp only [pairF]; rw [if_pos h, if_neg (by omega), if_pos hc]
theorem pairF_comma {s : ByteArray} {f i fr : Nat} (h : i < s.size) (hc : (at0 s i).toNat = 44) : pairF s (f + 1) i fr false = onePart (trimS (s.extract fr i)) true ++ pairF s f (i + 1) (i + 1) false := by
  simp only [pairF]; rw [if_pos h, if_neg (by simp), if_neg (by omega), if_pos (by simp [hc])]
theorem pairF_one {s : ByteArray} {f i fr : Nat} {op : Bool} (h : i < s.size) (h1 : ¬ (op = true ∧ (at0 s i).toNat = 92)) (h2 : (at0 s i).toNat ≠ 34) (h3 : ¬ (op = false ∧ (at0 s i).toNat = 44)) : pairF s (f + 1) i fr op = pairF s f (i + 1) fr op := by
  simp only [pairF]; rw [if_pos h, if_neg h1, if_neg h2, if_neg h3]
theorem pairF_end {s : ByteArray} {f i fr : Nat} {op : Bool} (h : s.size ≤ i) : pairF s (f + 1) i fr op = onePart (trimS (s.extract fr s.size)) (!op) := by
  simp only [pairF]; rw [if_neg (by omega)]
theorem one_none {x : ByteArray} {b : Bool} (h : x.size = 0) : onePart x b = [] := by unfold onePart; rw [if_pos h]
theorem one_some {x : ByteArray} {b : Bool} (h : x.size ≠ 0) : onePart x b = [(x, b)] := by unfold onePart; rw [if_neg h]

abbrev encs (p : ByteArray × Bool) : Array Value := #[.string p.1, .bool p.2]
/-- What a round keeps: the text's box. -/
def Kp (Bs : Nat) (W W' : World) : Prop := W'.cell? ⟨Bs, 0, none⟩ = W.cell? ⟨Bs, 0, none⟩

theorem grown_drew (W : World) : W.grownBy W.drew none := ⟨rfl, rfl, rfl, Nat.le_refl _, fun _ _ _ => rfl⟩

theorem trim_call (s : ByteArray) (w : World) (hs : s.size ≤ 2000000) : Calls Tryz.prog 118 #[.string s, .string ⟨#[32]⟩] w fun e w' => e = .returned (.string (trimS s)) ∧ (w' = w ∨ w' = w.drew) :=
  Tryz.strings_Trim_one s 32 (by decide) w (by omega)

set_option maxRecDepth 100000 in
set_option maxHeartbeats 4000000 in
theorem each_in (n : Nat) (hn : 1 ≤ n) (l Bs : Nat) (s : ByteArray) (hs : s.size ≤ 2000000) (J Jx : List (ByteArray × Bool) → World → Prop)
    (hY : ∀ pre x W, J pre W → pre.length < (pairL s).length → YieldAt Fence.wide (n - 1) Tryz.prog l (encs x) W fun e W' =>
      (e = .returned (.bool true) ∧ J (pre ++ [x]) W' ∧ Kp Bs W W') ∨ (e = .returned (.bool false) ∧ Jx (pre ++ [x]) W'))
    (W : World) (hJd : ∀ pre W1, J pre W1 → J pre W1.drew) (hBs : W.cell? ⟨Bs, 0, none⟩ = some (.string s)) (h0 : J [] W) :
    CallsIn Fence.wide n Tryz.prog 117 #[.func (.yield l) #[] #[], .pointer (some ⟨Bs, 0, none⟩)] W fun e W' => (∃ v, e = .returned v) ∧
      ((∃ ys, ys = pairL s ∧ J ys W') ∨ (∃ pre, pre <+: pairL s ∧ Jx pre W')) := by
  refine callsIn_of_wp Tryz.func117 rfl trivial ?_ rfl
  simp only [Tryz.ntmps117, List.size_toArray, List.length_cons, List.length_nil, Nat.reduceAdd, Nat.reduceSub, Array.replicate_succ, Array.replicate_zero, List.push_toArray, List.append_toArray, List.nil_append, List.cons_append]
  gi_wp2
  gi_loopw [3, 4, 5] (fun fr op i wr => ∃ (k m f : Nat) (ob : Bool) (pre : List (ByteArray × Bool)), i = .int .i64 k ∧ fr = .int .i64 m ∧ op = .bool ob ∧ k ≤ s.size + 1 ∧ m ≤ k ∧ m ≤ s.size ∧ s.size + 2 ≤ k + f ∧ wr.cell? ⟨Bs, 0, none⟩ = some (.string s) ∧ Hid (pairL s = pre ++ pairF s f k m ob) ∧ Hid (J pre wr))
    (fun _ _ i _ => s.size + 2 - (intOf i).toNat)
  case atStart => exact ⟨0, 0, s.size + 2, false, [], rfl, rfl, rfl, by omega, by omega, by omega, by omega, hBs, rfl, h0⟩
  case round =>
    obtain ⟨k, m, f, ob, pre, rfl, rfl, rfl, hk, hm, hms, hf, hc, HD, HJ⟩ := hrel
    obtain ⟨f', rfl⟩ : ∃ f', f = f' + 1 := ⟨f - 1, by omega⟩
    have HW : Hid (∀ w2, (w2 = wr ∨ w2 = wr.drew) → J pre w2 ∧ w2.cell? ⟨Bs, 0, none⟩ = some (.string s)) := by
      rintro w2 (rfl | rfl)
      · exact ⟨HJ.out, hc⟩
      · exact ⟨hJd _ _ HJ.out, hc⟩
    by_cases hlt : k < s.size
    · have e0 : at0 s k = s[k] := at_list s k hlt
      by_cases h92 : ob = true ∧ (s[k].toNat : Int) = 92
      · obtain ⟨rfl, h92⟩ := h92
        have HD' : Hid (pairL s = pre ++ pairF s f' (k + 2) m true) := by show _ = _; rw [HD.out, pairF_esc hlt (by rw [e0]; omega)]
        have k92 : ((s[k].toNat : Int) == 92) = true := by simpa using h92
        clear HD HW e0
        gi_wp2
        go_roundw
        case rel => exact ⟨k + 2, m, f', true, pre, by go_num, rfl, rfl, by omega, by omega, by omega, by omega, hc, HD', HJ⟩
        case measure => simp [intOf]; omega
      · have HN : Hid (∀ P : Prop, (ob = false → P) → (ob = true → (s[k].toNat : Int) ≠ 92 → P) → P) := by
          intro P p1 p2
          cases ob
          · exact p1 rfl
          · exact p2 rfl (fun e => h92 ⟨rfl, e⟩)
        clear h92
        by_cases h34 : (s[k].toNat : Int) = 34
        · have HD' : Hid (pairL s = pre ++ pairF s f' (k + 1) m (!ob)) := by show _ = _; rw [HD.out, pairF_quote hlt (by rw [e0]; omega)]
          have k34 : ((s[k].toNat : Int) == 34) = true := by simpa using h34
          have k92 : ((s[k].toNat : Int) == 92) = false := by simp; omega
          clear HD HW e0 HN
          cases ob
          all_goals
            gi_wp2
            go_roundw
            case rel => exact ⟨k + 1, m, f', _, pre, by go_num, rfl, rfl, by omega, by omega, by omega, by omega, hc, HD', HJ⟩
            case measure => simp [intOf]; omega
        · have k34 : ((s[k].toNat : Int) == 34) = false := by simpa using h34
          refine HN.out _ (fun hob => ?_) (fun hob h92 => ?_)
          · subst hob
            by_cases h44 : (s[k].toNat : Int) = 44
            · have k44 : ((s[k].toNat : Int) == 44) = true := by simpa using h44
              have HTk : Hid (∀ w, Calls Tryz.prog 118 #[.string (s.extract m k), .string ⟨#[32]⟩] w fun e w' => e = .returned (.string (trimS (s.extract m k))) ∧ (w' = w ∨ w' = w.drew)) := fun w => trim_call _ w (by rw [ByteArray.size_extract]; omega)
              have HD1 : Hid (pairL s = pre ++ (onePart (trimS (s.extract m k)) true ++ pairF s f' (k + 1) (k + 1) false)) := by show _ = _; rw [HD.out, pairF_comma hlt (by rw [e0]; omega)]
              clear HD e0 HN
              generalize trimS (s.extract m k) = T at HTk HD1
              by_cases hz : T.size = 0
              · have hT := empty_cmp hz
                have HD' : Hid (pairL s = pre ++ pairF s f' (k + 1) (k + 1) false) := by show _ = _; rw [HD1.out, one_none hz]; rfl
                clear HD1 hz
                gi_wp2_with (refine ⟨trivial, ?_⟩; gi_at_call 118; refine (callsIn_wide.2 (HTk.out wr)).mono ?_; rintro e w2 ⟨rfl, hw2⟩; obtain ⟨hJ2, hB2⟩ := HW.out w2 hw2)
                refine ⟨fun _ h => (by cases h), ?_⟩
                gi_wp2
                go_roundw
                case rel => exact ⟨k + 1, k + 1, f', false, pre, by go_num, by go_num, rfl, by omega, by omega, by omega, by omega, hB2, HD', hJ2⟩
                case measure => simp [intOf]; omega
              · have hT := some_cmp hz
                have HD' : Hid (pairL s = (pre ++ [(T, true)]) ++ pairF s f' (k + 1) (k + 1) false) := by show _ = _; rw [HD1.out, one_some hz]; simp
                have hlen : pre.length < (pairL s).length := by rw [HD'.out]; simp
                have hpre : pre ++ [(T, true)] <+: pairL s := ⟨_, HD'.out.symm⟩
                clear HD1 hz
                gi_wp2_with (refine ⟨trivial, ?_⟩; gi_at_call 118; refine (callsIn_wide.2 (HTk.out wr)).mono ?_; rintro e w2 ⟨rfl, hw2⟩; obtain ⟨hJ2, hB2⟩ := HW.out w2 hw2; obtain ⟨f1, t1, a1, b1, hy1, hR1⟩ := hY pre (T, true) w2 hJ2 hlen; dsimp only [encs] at hy1)
                refine hR1.mono ?_
                rintro e W3 (⟨rfl, hJ3, hk3⟩ | ⟨rfl, hJx3⟩)
                · have hc3 := Eq.trans hk3 hB2
                  gi_wp2
                  go_roundw
                  case rel => exact ⟨k + 1, k + 1, f', false, _, by go_num, by go_num, rfl, by omega, by omega, by omega, by omega, hc3, HD', hJ3⟩
                  case measure => simp [intOf]; omega
                · gi_wp2
                  refine bodyPost_ret (results_none rfl _ _ _) rfl ?_
                  exact ⟨⟨_, rfl⟩, .inr ⟨_, hpre, hJx3⟩⟩
            · have k44 : ((s[k].toNat : Int) == 44) = false := by simpa using h44
              have HD' : Hid (pairL s = pre ++ pairF s f' (k + 1) m false) := by show _ = _; rw [HD.out, pairF_one hlt (by simp) (by rw [e0]; omega) (by rw [e0]; omega)]
              clear HD HW e0 HN
              gi_wp2
              go_roundw
              case rel => exact ⟨k + 1, m, f', false, pre, by go_num, rfl, rfl, by omega, by omega, by omega, by omega, hc, HD', HJ⟩
              case measure => simp [intOf]; omega
          · subst hob
            have k92 : ((s[k].toNat : Int) == 92) = false := by simpa using h92
            have HD' : Hid (pairL s = pre ++ pairF s f' (k + 1) m true) := by show _ = _; rw [HD.out, pairF_one hlt (by rw [e0]; omega) (by rw [e0]; omega) (by simp)]
            clear HD HW e0 HN
            gi_wp2
            go_roundw
            case rel => exact ⟨k + 1, m, f', true, pre, by go_num, rfl, rfl, by omega, by omega, by omega, by omega, hc, HD', HJ⟩
            case measure => simp [intOf]; omega
    · have HTk : Hid (∀ w, Calls Tryz.prog 118 #[.string (s.extract m s.size), .string ⟨#[32]⟩] w fun e w' => e = .returned (.string (trimS (s.extract m s.size))) ∧ (w' = w ∨ w' = w.drew)) := fun w => trim_call _ w (by rw [ByteArray.size_extract]; omega)
      have HD1 : Hid (pairL s = pre ++ onePart (trimS (s.extract m s.size)) (!ob)) := by show _ = _; rw [HD.out, pairF_end (by omega)]
      clear HD
      generalize trimS (s.extract m s.size) = T at HTk HD1
      by_cases hz : T.size = 0
      · have hT := empty_cmp hz
        have HD' : Hid (pre = pairL s) := by show _ = _; rw [HD1.out, one_none hz, List.append_nil]
        clear HD1 hz
        gi_wp2_with (refine ⟨trivial, ?_⟩; gi_at_call 118; refine (callsIn_wide.2 (HTk.out wr)).mono ?_; rintro e w2 ⟨rfl, hw2⟩; obtain ⟨hJ2, hB2⟩ := HW.out w2 hw2)
        go_end0
        exact ⟨⟨_, rfl⟩, .inl ⟨pre, HD'.out, hJ2⟩⟩
      · have hT := some_cmp hz
        have HD' : Hid (pairL s = pre ++ [(T, !ob)]) := by show _ = _; rw [HD1.out, one_some hz]
        have hlen : pre.length < (pairL s).length := by rw [HD'.out]; simp
        clear HD1 hz
        gi_wp2_with (refine ⟨trivial, ?_⟩; gi_at_call 118; refine (callsIn_wide.2 (HTk.out wr)).mono ?_; rintro e w2 ⟨rfl, hw2⟩; obtain ⟨hJ2, hB2⟩ := HW.out w2 hw2; obtain ⟨f1, t1, a1, b1, hy1, hR1⟩ := hY pre (T, !ob) w2 hJ2 hlen; dsimp only [encs] at hy1)
        refine hR1.mono ?_
        rintro e W3 (⟨rfl, hJ3, hk3⟩ | ⟨rfl, hJx3⟩)
        · gi_wp2
          go_end0
          exact ⟨⟨_, rfl⟩, .inl ⟨_, HD'.out.symm, hJ3⟩⟩
        · gi_wp2
          go_end0
          exact ⟨⟨_, rfl⟩, .inr ⟨_, ⟨[], by rw [List.append_nil]; exact HD'.out.symm⟩, hJx3⟩⟩

set_option maxHeartbeats 1000000 in
/-- eachPart: the text is boxed; the function value captures the box. -/
theorem maker_in (n : Nat) (s : ByteArray) (w : World) :
    CallsIn Fence.wide n Tryz.prog 84 #[.string s] w fun e w' => e = .returned (.func (.func 117) #[] #[.pointer (some ⟨w.heap.size, 0, none⟩)]) ∧ w' = w.alloc (.cells #[.string s] 9) := by
  refine callsIn_of_wp Tryz.func84 rfl trivial ?_ rfl
  simp only [Tryz.ntmps84, List.size_toArray, List.length_cons, List.length_nil, Nat.reduceAdd, Nat.reduceSub, Array.replicate_succ, Array.replicate_zero, List.push_toArray, List.append_toArray, List.nil_append, List.cons_append]
  gi_wp2
  go_ret
  exact ⟨rfl, rfl⟩

theorem each_stops (n : Nat) (hn : 1 ≤ n) (Bs : Nat) (s : ByteArray) (hs : s.size ≤ 2000000) (w : World) (hB : Bs < w.heap.size) (hc : w.cell? ⟨Bs, 0, none⟩ = some (.string s)) :
    SeqStopsK Fence.wide n Tryz.prog 117 #[.pointer (some ⟨Bs, 0, none⟩)] encs (Kp Bs) (fun ys => ys = pairL s) (fun pre => pre <+: pairL s) (pairL s).length w := fun l J Jx W hW hJ _ hY h0 =>
  each_in n hn l Bs s hs J Jx hY W (fun pre W1 hj => hJ pre W1 W1.drew none hj (grown_drew W1) (fun _ e => nomatch e)) ((hW.cell (p := ⟨Bs, 0, none⟩) hB).trans hc) h0

/-- The first append onto a list that is empty and has no room: the new list lies beyond all that lay. -/
theorem first_run (w : World) (ty : TypeId) (a0 : Addr) (X : ByteArray) (ad : Addr) (c : Nat) (hc : w.cell? (ad.add 0) = some (.string X)) :
    ∃ v' w', (Builtin.append_ #[26, 26] ty #[.slice (some a0) 0 0, .slice (some ad) 1 c]).run Tryz.prog w = .ok v' w' ∧ w'.ownsRow w.heap.size 9 1 v' 1 [.string X] ∧ w.grownBy w' none := by
  obtain ⟨i0, hi, hz0, hz1, hz2⟩ := info_parts info9
  have hr := run_append_grow (P := Tryz.prog) w 26 ty 9 i0 (.string ⟨#[]⟩) Tryz.underlying26 hi hz0 a0 0 0 [] (by simp) (fun j v h => by simp at h) ad 1 c [.string X] (by rw [hz1]; rfl)
    (by intro j u hj; match j, hj with | 0, hj => simp at hj; subst hj; exact hc) (by omega) (by omega) (growslice_fits (by omega) (by rw [hz2]; decide))
  have hge := grownCap_ge w (0 + 1) 0 9
  have hle := grownCap_le_maxLen w (0 + 1) 0 9 (by decide)
  refine ⟨_, _, hr, ⟨rfl, .inr ⟨w.heap.size, _, _, rfl, Nat.le_refl _, heap_alloc_new w.drew _, hge, hle, ?_, ?_⟩⟩, ⟨rfl, rfl, rfl, by simp, fun k hk _ => heap_alloc_old w.drew _ k hk⟩⟩
  · rw [Array.size_append, Array.size_append, size_zeroCells, show (Value.string ⟨#[]⟩).cells.size = 1 from rfl]
    simp only [List.size_toArray, List.length_nil, List.length_cons]
    omega
  · simp

theorem wpListIn_first {F : Fence} {n : Nat} (w : World) {ops : Array Oper} {rest : List Oper} {o : Oper} {a : Act} {Q : Exit → Act → World → Prop}
    (hg : o.guard = none) (s x : Operand) (hop : o.op = Op.call { callee := Callee.builtin Builtin.append, args := #[s, x], argTypes := #[26, 26] })
    (a0 : Addr) (X : ByteArray) (ad : Addr) (c : Nat) (hs : a.eval s = .slice (some a0) 0 0) (hx : a.eval x = .slice (some ad) 1 c) (hc : w.cell? (ad.add 0) = some (.string X))
    (hK : ∀ v' w', w'.ownsRow w.heap.size 9 1 v' 1 [.string X] → w.grownBy w' none → wpListIn F n Tryz.prog ops Q rest (a.put o.dst v') w') :
    wpListIn F n Tryz.prog ops Q (o :: rest) a w := by
  refine wpListIn_plain hg fun K hK' => ?_
  obtain ⟨v', w', hrun, r1, r2⟩ := first_run w o.type a0 X ad c hc
  unfold Oper.wpIn
  refine ⟨?_, ?_⟩
  · simp [Oper.about, hop, resolve, Target.leads, Sem.run_pure]
  · rw [Oper.semAt_plain F _ _ (by rw [hop]; intro c hc'; cases hc')]
    simp [execOp, hop, resolve, invoke, builtin, hs, hx, hrun, Result.andThen]
    exact hK' _ _ (hK v' w' r1 r2)

def allB (l : List (ByteArray × Bool)) : Bool := l.all (·.2)
theorem allB_snoc (l : List (ByteArray × Bool)) (x : ByteArray × Bool) : allB (l ++ [x]) = (allB l && x.2) := by simp [allB]

/-- What parts holds: nothing yet, in the block that was made for it; or those so far, in later memory. -/
def Held (H : Nat) (pre : List (ByteArray × Bool)) (W : World) (v : Value) : Prop :=
  (pre = [] ∧ v = .slice (some ⟨H + 1 + 1, 0, none⟩) 0 0 ∧ W.ownsRow H 9 1 v 0 []) ∨ (W.ownsRow (H + 5) 9 1 v pre.length (pre.map fun x => Value.string x.1))
theorem held_own (H Bx : Nat) : Own (fun (pre : List (ByteArray × Bool)) W => ∃ v, Boxed W Bx 26 v ∧ Held H pre W v) := by
  rintro pre X Y row ⟨v, hv, h⟩ hg hrow
  rcases h with ⟨h1, h2, h3⟩ | h
  · obtain ⟨v2, h4, h5, h6⟩ := holdsRow_own H Bx 26 9 1 (fun _ : List (ByteArray × Bool) => 0) (fun _ => []) (fun _ v' => v' = v) pre X Y row ⟨v, hv, h3, rfl⟩ hg hrow
    subst h6
    exact ⟨v2, h4, .inl ⟨h1, h2, h5⟩⟩
  · obtain ⟨v2, h3, h4, _⟩ := holdsRow_own (H + 5) Bx 26 9 1 (fun p : List (ByteArray × Bool) => p.length) (fun p => p.map fun x => Value.string x.1) (fun _ v' => v' = v) pre X Y row ⟨v, hv, h, rfl⟩ hg hrow
    exact ⟨v2, h3, .inr h4⟩

theorem kp_step {W w1 : World} {Bs B : Nat} {tmp : Obj} {row : Option Nat} (hg : (W.alloc tmp).grownBy w1 row) (hne : some Bs ≠ row) (hlt : Bs < W.heap.size) (hB : Bs ≠ B) (v' : Value) : Kp Bs W (w1.setCell ⟨B, 0, none⟩ v') := by
  have e : (w1.setCell ⟨B, 0, none⟩ v').heap[Bs]? = W.heap[Bs]? :=
    (Below.heap_setCell _ _ _ _ hB).trans ((hg.block Bs (by simp; omega) hne).trans (Below.heap_alloc W tmp Bs hlt))
  unfold Kp World.cell?
  rw [e]

/-- One part more: what the walk owes behind the append and the store. -/
theorem stepped {w W w1 : World} {H : Nat} {v v' z0 z1 : Value} {row : Option Nat} {k : Nat} {ys : List Value} {tmp : Obj}
    (hv : Boxed W (H + 1 + 1 + 1) 26 v) (r0 : Boxed W H 26 z0) (r1 : Boxed W (H + 1) 4 z1) (hB : Below H w W) (hs : H + 5 ≤ W.heap.size)
    (hrow : ∀ g, row = some g → H + 5 ≤ g ∧ ∃ cur, (W.alloc tmp).heap[g]? = some (.cells cur 9 (0, 0)))
    (hgrow : (W.alloc tmp).grownBy w1 row) (hown' : w1.ownsRow (H + 5) 9 1 v' k ys) :
    Boxed w1 (H + 1 + 1 + 1) 26 v ∧ KeepsOthers W (w1.setCell ⟨H + 1 + 1 + 1, 0, none⟩ v') ∧ Kp (H + 1 + 1 + 1 + 1) W (w1.setCell ⟨H + 1 + 1 + 1, 0, none⟩ v') ∧
      Boxed (w1.setCell ⟨H + 1 + 1 + 1, 0, none⟩ v') (H + 1 + 1 + 1) 26 v' ∧ (w1.setCell ⟨H + 1 + 1 + 1, 0, none⟩ v').ownsRow (H + 5) 9 1 v' k ys ∧
      Boxed (w1.setCell ⟨H + 1 + 1 + 1, 0, none⟩ v') H 26 z0 ∧ Boxed (w1.setCell ⟨H + 1 + 1 + 1, 0, none⟩ v') (H + 1) 4 z1 ∧ Below H w (w1.setCell ⟨H + 1 + 1 + 1, 0, none⟩ v') ∧ H + 5 ≤ (w1.setCell ⟨H + 1 + 1 + 1, 0, none⟩ v').heap.size := by
  have hne : ∀ b, b < H + 5 → some b ≠ row := by
    intro b hb e
    have := (hrow b e.symm).1
    omega
  have hv1 : Boxed w1 (H + 1 + 1 + 1) 26 v := (hv.alloc tmp).kept hgrow (hne _ (by omega))
  have h0 : Boxed w1 H 26 z0 := (r0.alloc tmp).kept hgrow (hne _ (by omega))
  have h1 : Boxed w1 (H + 1) 4 z1 := (r1.alloc tmp).kept hgrow (hne _ (by omega))
  have hsz : (W.alloc tmp).heap.size ≤ w1.heap.size := hgrow.size
  simp only [World.size_alloc] at hsz
  refine ⟨hv1, ?_, kp_step hgrow (hne _ (by omega)) (by omega) (by omega) v', hv1.set v', hown'.kept (grownBy_setCell' w1 _ v') (.inr (hv1.not_row (by decide) hown').symm), h0.other (by omega) _, h1.other (by omega) _, ?_, ?_⟩
  · refine ((KeepsOthers.alloc W tmp).trans (KeepsOthers.of_grownBy hgrow fun j o ej hj => ?_)).trans (KeepsOthers.setCell _ _ _)
    obtain ⟨_, cur, hcur⟩ := hrow j ej
    rw [hcur] at hj; cases hj; rfl
  · exact ((hB.alloc (show H ≤ W.heap.size by omega) tmp).grown hgrow (by simp; omega) (fun k e => by have := (hrow k e).1; omega)).setCell (p := ⟨H + 1 + 1 + 1, 0, none⟩) (show H ≤ H + 1 + 1 + 1 by omega) _
  · have : (w1.setCell ⟨H + 1 + 1 + 1, 0, none⟩ v').heap.size = w1.heap.size := by simp [World.setCell]
    omega

theorem row_facts {W : World} {H : Nat} {v : Value} {k : Nat} {xs : List Value} (h : W.ownsRow (H + 5) 9 1 v k xs) : ∀ g, v.ownBlock = some g → H + 5 ≤ g ∧ ∃ cur, W.heap[g]? = some (.cells cur 9 (0, 0)) := by
  intro g hg
  rcases h.2 with ⟨rfl, _⟩ | ⟨g', cap, cur, rfl, hb, hgb, _⟩
  · simp [Value.ownBlock] at hg
  · obtain rfl : g' = g := by simpa [Value.ownBlock] using hg
    exact ⟨hb, cur, hgb⟩

theorem one_len (x : ByteArray) (b : Bool) : (onePart x b).length ≤ 1 := by unfold onePart; split <;> simp
theorem pairF_len (s : ByteArray) : ∀ (f i fr : Nat) (op : Bool), (pairF s f i fr op).length ≤ f
  | 0, _, _, _ => Nat.le_refl _
  | f + 1, i, fr, op => by
    simp only [pairF]
    have a1 := pairF_len s f (i + 2) fr op
    have a2 := pairF_len s f (i + 1) fr (!op)
    have a3 := pairF_len s f (i + 1) (i + 1) op
    have a4 := pairF_len s f (i + 1) fr op
    have o1 := one_len (trimS (s.extract fr i)) true
    have o2 := one_len (trimS (s.extract fr s.size)) (!op)
    split
    · split
      · omega
      · split
        · omega
        · split
          · rw [List.length_append]; omega
          · omega
    · omega
theorem pair_len (s : ByteArray) (hs : s.size ≤ 2000000) : (pairL s).length ≤ 3000000 := by
  have := pairF_len s (s.size + 2) 0 0 false
  unfold pairL
  omega

theorem trim_some {s : ByteArray} {fr : Nat} (h : ∃ j, fr ≤ j ∧ j < s.size ∧ (at0 s j).toNat = 34) : (trimS (s.extract fr s.size)).size ≠ 0 := by
  obtain ⟨j, h1, h2, h3⟩ := h
  intro h0
  have hl := len_list s
  have e : (s.extract fr s.size).data.toList = s.data.toList.drop fr := by
    rw [ByteArray.data_extract, Array.toList_extract, List.extract_eq_take_drop]
    rw [List.take_of_length_le (by rw [List.length_drop]; omega)]
  have hmem : s.data.toList[j]'(by omega) ∈ (s.extract fr s.size).data.toList := by
    rw [e]
    apply List.mem_of_getElem? (i := j - fr)
    rw [List.getElem?_drop, show fr + (j - fr) = j from by omega, List.getElem?_eq_getElem (by omega)]
  have hne : (s.data.toList[j]'(by omega)) ≠ 32 := by
    intro h4
    unfold at0 at h3
    rw [List.getElem?_eq_getElem (by omega), Option.getD_some, h4] at h3
    exact absurd h3 (by decide)
  have hnil : Lib.trimB (s.extract fr s.size).data.toList 32 = [] := by
    have : (Lib.trimB (s.extract fr s.size).data.toList 32).toArray.size = 0 := h0
    rw [List.size_toArray] at this
    exact List.eq_nil_of_length_eq_zero this
  generalize (s.extract fr s.size).data.toList = l at hmem hnil
  unfold Lib.trimB Lib.trimLeftB Lib.trimRightB at hnil
  have hall := (dropW_nil_iff _ _).1 hnil
  rcases dropW_form (· == (32 : UInt8)) l.reverse with h5 | ⟨c, r, h5, h6⟩
  · have := (dropW_nil_iff _ _).1 h5 _ (List.mem_reverse.2 hmem)
    exact hne (by simpa using this)
  · have := hall c (by rw [h5]; simp)
    rw [h6] at this; cases this

theorem list_pair_at (s : ByteArray) : ∀ (f i fr : Nat) (op : Bool) (acc : List ByteArray), s.size + 1 ≤ i + f → i ≤ s.size → fr ≤ i → (op = true → ∃ j, fr ≤ j ∧ j < i ∧ (at0 s j).toNat = 34) →
    listF s f i fr op acc = if allB (pairF s (f + 1) i fr op) = true then some (acc ++ (pairF s (f + 1) i fr op).map (·.1)) else none
  | 0, i, _, _, _, h, h2, _, _ => absurd h2 (by omega)
  | f + 1, i, fr, op, acc, hf, hi, hfr, hop => by
    have hopen : op = true → allB (onePart (trimS (s.extract fr s.size)) (!op)) = false := by
      intro h
      obtain ⟨j, h1, h2, h3⟩ := hop h
      rw [one_some (trim_some ⟨j, h1, by omega, h3⟩), h]; rfl
    by_cases hlt : i < s.size
    · by_cases h44 : (at0 s i).toNat = 44 ∧ op = false
      · obtain ⟨h44, rfl⟩ := h44
        rw [listF_comma hlt h44, pairF_comma hlt h44, list_pair_at s f (i + 1) (i + 1) false _ (by omega) (by omega) (Nat.le_refl _) (fun h => by cases h)]
        by_cases hz : (trimS (s.extract fr i)).size = 0
        · rw [one_none hz]; unfold addT; rw [if_pos hz]; rfl
        · have e : ∀ R, allB ([(trimS (s.extract fr i), true)] ++ R) = allB R := fun R => by simp [allB]
          rw [one_some hz, e]; unfold addT; rw [if_neg hz]
          simp
      · by_cases h34 : (at0 s i).toNat = 34
        · rw [listF_quote hlt h34, pairF_quote hlt h34, list_pair_at s f (i + 1) fr (!op) acc (by omega) (by omega) (by omega) (fun _ => ⟨i, hfr, by omega, h34⟩)]
        · by_cases h92 : (at0 s i).toNat = 92 ∧ op = true
          · obtain ⟨h92, rfl⟩ := h92
            rw [pairF_esc hlt h92]
            by_cases he : i + 1 = s.size
            · rw [listF_cut he h92, pairF_end (by omega), if_neg (by rw [hopen rfl]; simp)]
            · rw [listF_esc (by omega) h92, list_pair_at s f (i + 2) fr true acc (by omega) (by omega) (by omega) (fun h => by obtain ⟨j, a, b, c⟩ := hop h; exact ⟨j, a, by omega, c⟩)]
          · rw [listF_one hlt h44 h34 h92, pairF_one hlt (fun h => h92 ⟨h.2, h.1⟩) h34 (fun h => h44 ⟨h.2, h.1⟩), list_pair_at s f (i + 1) fr op acc (by omega) (by omega) (by omega) (fun h => by obtain ⟨j, a, b, c⟩ := hop h; exact ⟨j, a, by omega, c⟩)]
    · obtain rfl : i = s.size := by omega
      rw [pairF_end (Nat.le_refl _)]
      cases op
      · rw [listF_end (Nat.le_refl _)]
        by_cases hz : (trimS (s.extract fr s.size)).size = 0
        · rw [one_none hz]; unfold addT; rw [if_pos hz]; simp [allB]
        · rw [one_some hz]; unfold addT; rw [if_neg hz]; simp [allB]
      · rw [listF_open (Nat.le_refl _), if_neg (by rw [hopen rfl]; simp)]
theorem list_pairs (s : ByteArray) : listL s = if allB (pairL s) = true then some ((pairL s).map (·.1)) else none := by
  have := list_pair_at s (s.size + 1) 0 0 false [] (by omega) (by omega) (Nat.le_refl _) (fun h => by cases h)
  exact this

set_option maxRecDepth 100000 in
set_option maxHeartbeats 4000000 in
theorem partsOf_in (n : Nat) (hn : 3 ≤ n) (s : ByteArray) (hs : s.size ≤ 2000000) (w : World) :
    CallsIn Fence.wide n Tryz.prog 43 #[.string s] w fun e w' => Lsp.Told w' w.heap.size e (listL s) ∧ Below w.heap.size w w' := by
  have h1 : 1 ≤ n := by omega
  obtain ⟨i0, hi, hz0, hz1, hz2⟩ := info_parts info9
  refine callsIn_of_wp_marks Tryz.func43 rfl trivial ?_ rfl
  simp only [Tryz.ntmps43, List.size_toArray, List.length_cons, List.length_nil, Nat.reduceAdd, Nat.reduceSub, Array.replicate_succ, Array.replicate_zero, List.push_toArray, List.append_toArray, List.nil_append, List.cons_append]
  gi_wp2_with (refine ⟨trivial, ?_⟩; gi_at_call 84; refine (maker_in (n - 1) s _).mono ?_; rintro e w' ⟨rfl, rfl⟩)
  have b0 := ((((Boxed.new w 26 (.slice none 0 0)).alloc (.cells #[.bool false] 4)).alloc (.cells #[] 9)).alloc (.cells #[.slice (some ⟨w.heap.size + 1 + 1, 0, none⟩) 0 0] 26)).alloc (.cells #[.string s] 9)
  have b1 := (((Boxed.new (w.alloc (.cells #[.slice none 0 0] 26)) 4 (.bool false)).alloc (.cells #[] 9)).alloc (.cells #[.slice (some ⟨w.heap.size + 1 + 1, 0, none⟩) 0 0] 26)).alloc (.cells #[.string s] 9)
  have b3 := (Boxed.new (((w.alloc (.cells #[.slice none 0 0] 26)).alloc (.cells #[.bool false] 4)).alloc (.cells #[] 9)) 26 (.slice (some ⟨w.heap.size + 1 + 1, 0, none⟩) 0 0)).alloc (.cells #[.string s] 9)
  have b4 := Boxed.new ((((w.alloc (.cells #[.slice none 0 0] 26)).alloc (.cells #[.bool false] 4)).alloc (.cells #[] 9)).alloc (.cells #[.slice (some ⟨w.heap.size + 1 + 1, 0, none⟩) 0 0] 26)) 9 (.string s)
  have b2 := ((World.ownsRow_made (base := w.heap.size) (e := 9) (size := 1) ((w.alloc (.cells #[.slice none 0 0] 26)).alloc (.cells #[.bool false] 4)) #[] 0 (by simp; omega) (by decide) rfl).alloc (.cells #[.slice (some ⟨w.heap.size + 1 + 1, 0, none⟩) 0 0] 26)).alloc (.cells #[.string s] 9)
  simp only [World.size_alloc] at b0 b1 b2 b3 b4
  have hB0 : Below w.heap.size w (((((w.alloc (.cells #[.slice none 0 0] 26)).alloc (.cells #[.bool false] 4)).alloc (.cells #[] 9)).alloc (.cells #[.slice (some ⟨w.heap.size + 1 + 1, 0, none⟩) 0 0] 26)).alloc (.cells #[.string s] 9)) := (((((Below.refl _ w).alloc (Nat.le_refl _) _).alloc (by simp) _).alloc (by simp; omega) _).alloc (by simp; omega) _).alloc (by simp; omega) _
  have hsz : (((((w.alloc (.cells #[.slice none 0 0] 26)).alloc (.cells #[.bool false] 4)).alloc (.cells #[] 9)).alloc (.cells #[.slice (some ⟨w.heap.size + 1 + 1, 0, none⟩) 0 0] 26)).alloc (.cells #[.string s] 9)).heap.size = w.heap.size + 5 := by simp
  have HLP := list_pairs s
  generalize (((((w.alloc (.cells #[.slice none 0 0] 26)).alloc (.cells #[.bool false] 4)).alloc (.cells #[] 9)).alloc (.cells #[.slice (some ⟨w.heap.size + 1 + 1, 0, none⟩) 0 0] 26)).alloc (.cells #[.string s] 9)) = W0 at b0 b1 b2 b3 b4 hB0 hsz ⊢
  refine wpIn_rangeFunc_ownG rfl h1 (gf := 117) (lb := #[.pointer (some ⟨w.heap.size + 1 + 1 + 1 + 1, 0, none⟩)]) rfl trivial (enters_of Tryz.func117 (by kernel_rfl) rfl)
    (each_stops (n - 1) (by omega) (w.heap.size + 1 + 1 + 1 + 1) s hs W0 (by omega) b4.cell) (fun h k => Eq.trans k h) (fun W l o o' hl h hc hw => (belowK_b (Nat.le_refl W0.heap.size) W l o o' hl h hc hw).cell (p := ⟨w.heap.size + 1 + 1 + 1 + 1, 0, none⟩) (by show w.heap.size + 1 + 1 + 1 + 1 < W0.heap.size; omega)) (Below.refl _ _) (fun _ => rfl)
    (fun pre W => (∃ v, Boxed W (w.heap.size + 1 + 1 + 1) 26 v ∧ Held w.heap.size pre W v) ∧ allB pre = true ∧ Boxed W w.heap.size 26 (.slice none 0 0) ∧ Boxed W (w.heap.size + 1) 4 (.bool false) ∧ Below w.heap.size w W ∧ w.heap.size + 5 ≤ W.heap.size)
    (fun c pre W => (c = .ret ∧ allB pre = false) ∧ Boxed W w.heap.size 26 (.slice none 0 0) ∧ Boxed W (w.heap.size + 1) 4 (.bool false) ∧ Below w.heap.size w W)
    (OwnFrom.and (Own.from (held_own w.heap.size (w.heap.size + 1 + 1 + 1)) _) (OwnFrom.and (ownFrom_pure _ (fun pre => allB pre = true)) (OwnFrom.and (Own.from (boxed_own _ _ (fun _ => .slice none 0 0)) _) (OwnFrom.and (Own.from (boxed_own _ _ (fun _ => .bool false)) _) (OwnFrom.and (ownFrom_below (Nat.le_refl _) (by omega)) (fun _ _ _ _ hs hg _ => Nat.le_trans hs hg.size))))))
    (fun c => OwnFrom.and (ownFrom_pure _ (fun pre => c = .ret ∧ allB pre = false)) (OwnFrom.and (Own.from (boxed_own _ _ (fun _ => .slice none 0 0)) _) (OwnFrom.and (Own.from (boxed_own _ _ (fun _ => .bool false)) _) (ownFrom_below (Nat.le_refl _) (by omega)))))
    ⟨⟨_, b3, .inl ⟨rfl, rfl, b2⟩⟩, rfl, b0, b1, hB0, by omega⟩
    (fun x => { tmps := #[.string s, undef, .pointer (some ⟨w.heap.size, 0, none⟩), .pointer (some ⟨w.heap.size + 1, 0, none⟩), .pointer (some ⟨w.heap.size + 1 + 1 + 1, 0, none⟩), .string x.1, .bool x.2, .slice (some ⟨w.heap.size + 1 + 1, 0, none⟩) 0 0, .string s, .func (.func 117) #[] #[.pointer (some ⟨w.heap.size + 1 + 1 + 1 + 1, 0, none⟩)], .string x.1, .bool x.2, undef, undef, undef, undef, undef, undef, undef], defers := [] }) ?assign ?body ?done ?stop
  case assign =>
    intro l x W K hK
    gi_wp2
    exact hK
  case body =>
    rintro l pre ⟨x, xb⟩ W ⟨⟨v, hv, hrow⟩, hall, r0, r1, hB, hsW⟩ hlt
    have hc := hv.cell
    have c0 := r0.cell
    have f0 := r0.frozen
    have c1 := r1.cell
    have f1 := r1.frozen
    cases xb
    · clear hc hv hrow
      gi_wp2
      exact ⟨((KeepsOthers.setCell _ _ _).trans (KeepsOthers.setCell _ _ _)).from _, ⟨rfl, by rw [allB_snoc]; simp⟩, (r0.set _).other (by omega) _, (r1.other (by omega) _).set _, (hB.setCell (p := ⟨w.heap.size, 0, none⟩) (Nat.le_refl _) _).setCell (p := ⟨w.heap.size + 1, 0, none⟩) (Nat.le_succ _) _⟩
    · have hall' : allB (pre ++ [(x, true)]) = true := by rw [allB_snoc, hall]; rfl
      clear c0 f0 c1 f1
      rcases hrow with ⟨rfl, hve, _⟩ | hown
      · have HVE : Hid (v = .slice (some ⟨w.heap.size + 1 + 1, 0, none⟩) 0 0) := hve
        clear hve
        gi_wp2_with (gi_at_builtin; refine wpListIn_first _ rfl _ _ rfl ⟨w.heap.size + 1 + 1, 0, none⟩ x ⟨W.heap.size, 0, none⟩ 1 HVE.out rfl (cell_one_new _ _ _ 0 _ rfl) ?_; intro v' w1 hown' hgrow; go_loud (have hown5 := Go.Joins.ownsRow_le hown' (base' := w.heap.size + 5) (by simp; omega)); obtain ⟨hv1, hk2, hkp, hv2, hr2, q0, q1, hb2, hs2⟩ := stepped (row := none) hv r0 r1 hB hsW (fun g e => nomatch e) hgrow hown5; obtain ⟨g', cap', rfl⟩ := ownsRow_succ (k := 0) hown'; have hc1 := hv1.cell; have hf1 := hv1.frozen)
        exact ⟨hk2.from _, hkp, ⟨_, hv2, .inr hr2⟩, hall', q0, q1, hb2, hs2⟩
      · have hRF := row_facts (hown.alloc (.cells #[.string x] 9))
        have hplen : pre.length ≤ 3000000 := by have := pair_len s hs; omega
        gi_wp2_with (gi_at_builtin; refine wpListIn_append_own _ rfl _ _ 26 rfl (w.heap.size + 5) 9 i0 (.string ⟨#[]⟩) 1 16 Tryz.underlying26 hi hz0 hz1 hz2 rfl (by decide) _ _ _ rfl (hown.alloc _) ⟨W.heap.size, 0, none⟩ 1 1 [.string x] rfl rfl (cell_one_new _ _ _) (by simp [Value.oneCell']) (by unfold maxLen; omega) (by omega) (by simp; omega) ?_; intro v' w1 hown' hgrow _; obtain ⟨hv1, hk2, hkp, hv2, hr2, q0, q1, hb2, hs2⟩ := stepped hv r0 r1 hB hsW hRF hgrow hown'; obtain ⟨g', cap', rfl⟩ := ownsRow_succ hown'; have hc1 := hv1.cell; have hf1 := hv1.frozen)
        exact ⟨hk2.from _, hkp, ⟨_, hv2, .inr (by simpa using hr2)⟩, hall', q0, q1, hb2, hs2⟩
  case done =>
    rintro D ys W hD rfl ⟨⟨v, hv, hrow⟩, hall, r0, r1, hB, hsW⟩ hK
    have HV : listL s = some ((pairL s).map (·.1)) := by rw [HLP, if_pos hall]
    have hown : W.ownsRow w.heap.size 9 1 v (pairL s).length ((pairL s).map fun x => Value.string x.1) := by
      rcases hrow with ⟨h1, _, h3⟩ | h
      · rw [h1]; exact h3
      · exact Go.Joins.ownsRow_le h (by omega)
    clear HLP hall hrow
    obtain ⟨a0, cp, rfl⟩ : ∃ a c, v = .slice a (pairL s).length c := by
      rcases hown.2 with ⟨rfl, h0⟩ | ⟨g, cap, cur, rfl, _⟩
      · exact ⟨none, 0, by rw [h0]⟩
      · exact ⟨_, _, rfl⟩
    have hc := hv.cell
    have c0 := r0.cell
    have f0 := r0.frozen
    have c1 := r1.cell
    have f1 := r1.frozen
    have hk := (KeepsOthers.setCell W ⟨w.heap.size, 0, none⟩ (.slice a0 (pairL s).length cp)).trans (KeepsOthers.setCell _ ⟨w.heap.size + 1, 0, none⟩ (.bool true))
    have hK' := hk.same D _ hK rfl
    have q0 := ((r0.set (.slice a0 (pairL s).length cp)).other (B' := w.heap.size + 1) (by omega) (.bool true))
    have q1 := ((r1.other (B' := w.heap.size) (by omega) (.slice a0 (pairL s).length cp)).set (.bool true))
    have hDn : ∀ b, b < w.heap.size + 5 → some b ≠ some D := by intro b hb e; cases e; omega
    have q0' := (q0.kept (grownBy_putObj' _ D (.deferred none)) (hDn _ (by omega))).cell
    have q1' := (q1.kept (grownBy_putObj' _ D (.deferred none)) (hDn _ (by omega))).cell
    have hB' := ((hB.setCell (p := ⟨w.heap.size, 0, none⟩) (Nat.le_refl _) (.slice a0 (pairL s).length cp)).setCell (p := ⟨w.heap.size + 1, 0, none⟩) (Nat.le_succ _) (.bool true)).trans (belowK_b (w := w) (Nat.le_refl _) _ D _ (.deferred none) (by omega) hK' rfl rfl)
    have hown2 := (hown.kept (grownBy_setCell' W w.heap.size (.slice a0 (pairL s).length cp)) (.inr (r0.not_row (by decide) hown).symm))
    have r1b := r1.other (B' := w.heap.size) (by omega) (.slice a0 (pairL s).length cp)
    have hown3 := (hown2.kept (grownBy_setCell' _ (w.heap.size + 1) (.bool true)) (.inr (r1b.not_row (by decide) hown2).symm))
    have hown4 := ownsRow_putObj hown3 (.deferred none) hK' rfl
    clear hown hown2 hown3 r1b hv
    gi_wp2
    refine ⟨by simp, .inl ⟨_, _, rfl, run_takeDeferred hK', ?_⟩⟩
    refine ⟨.tuple #[.slice a0 (pairL s).length cp, .bool true], by simp [results, Tryz.f43, go_sem, q0', q1'], ?_, hB'⟩
    rw [HV]
    refine ⟨_, rfl, ?_⟩
    show World.ownsRow _ _ _ _ _ _ _
    rw [List.length_map, List.map_map]
    exact hown4
  case stop =>
    rintro D c pre W hD hpre ⟨⟨rfl, hall⟩, r0, r1, hB⟩ hK
    have HV : listL s = none := by
      rw [HLP, if_neg]
      intro h
      obtain ⟨t, ht⟩ := hpre
      rw [← ht] at h
      simp only [allB, List.all_append, Bool.and_eq_true] at h
      unfold allB at hall
      rw [h.1] at hall; cases hall
    clear HLP hall
    have hDn : ∀ b, b < w.heap.size + 5 → some b ≠ some D := by intro b hb e; cases e; omega
    have q0' := (r0.kept (grownBy_putObj' _ D (.deferred none)) (hDn _ (by omega))).cell
    have q1' := (r1.kept (grownBy_putObj' _ D (.deferred none)) (hDn _ (by omega))).cell
    gi_wp2
    refine ⟨by simp, .inl ⟨_, _, rfl, run_takeDeferred hK, ?_⟩⟩
    refine ⟨.tuple #[.slice none 0 0, .bool false], by simp [results, Tryz.f43, go_sem, q0', q1'], by rw [HV]; rfl, hB.trans (belowK_b (w := w) (Nat.le_refl _) W D _ _ (by omega) hK rfl rfl)⟩

theorem partsOf_any (s : ByteArray) (w : World) (hs : s.size ≤ 2000000) : Calls Tryz.prog 43 #[.string s] w fun e w' => Lsp.Told w' w.heap.size e (listL s) ∧ Below w.heap.size w w' :=
  callsIn_wide.1 (partsOf_in 3 (Nat.le_refl _) s hs w)

theorem implList_any (s : ByteArray) (w : World) (hs : s.size ≤ 2000000) :
    Calls Tryz.prog 161 #[.string s] w fun e w' => Lsp.Told w' w.heap.size e (listO s) ∧ Below w.heap.size w w' := by
  have HC := isPlain_any s w hs
  by_cases hz : 300 < s.size
  · have HV : listO s = none := by unfold listO; rw [if_neg (by omega)]
    rw [HV]
    clear HC
    go_enter Tryz.func161, Tryz.ntmps161
    go_wp2_with fail
    go_ret2
    exact ⟨rfl, Below.refl _ _⟩
  · cases hp : plainB s.data.toList
    · rw [hp] at HC
      have HV : listO s = none := by unfold listO; rw [hp]; rfl
      rw [HV]
      go_enter Tryz.func161, Tryz.ntmps161
      go_wp2_with (go_at_call 109; refine HC.mono ?_; rintro e w' ⟨rfl, hw⟩; obtain rfl := hw.symm)
      go_ret2
      exact ⟨rfl, Below.refl _ _⟩
    · rw [hp] at HC
      have HV : listO s = listL s := by unfold listO; rw [if_pos ⟨hp, by omega⟩]
      rw [HV]
      have HP := partsOf_any s w hs
      clear HV hp
      generalize listL s = o at HP
      cases o with
      | none =>
        go_enter Tryz.func161, Tryz.ntmps161
        go_wp2_with (first
          | (go_at_call 109; refine HC.mono ?_; rintro e w' ⟨rfl, hw⟩; obtain rfl := hw.symm)
          | (go_at_call 43; refine HP.mono ?_; rintro e w2 ⟨he, hb2⟩; obtain rfl := (show e = _ from he)))
        go_ret2
        exact ⟨rfl, hb2⟩
      | some l =>
        go_enter Tryz.func161, Tryz.ntmps161
        go_wp2_with (first
          | (go_at_call 109; refine HC.mono ?_; rintro e w' ⟨rfl, hw⟩; obtain rfl := hw.symm)
          | (go_at_call 43; refine HP.mono ?_; rintro e w2 ⟨⟨v, rfl, hown⟩, hb2⟩))
        go_ret2
        exact ⟨⟨_, rfl, hown⟩, hb2⟩

end Go.Proofs.YtfgcgnhffljiaaaGreatDoor.Lit
