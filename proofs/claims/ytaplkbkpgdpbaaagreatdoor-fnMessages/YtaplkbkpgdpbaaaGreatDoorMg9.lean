/-
  The first line of a request, plain; walk: impl.requestTold.
  The fields of a head; walk: impl.fieldsTold.
  A request comes back from its bytes, and of a cut one nothing is taken: its words, its fields, its body.
  errors.As by its contracts at the target that the program hands it: a fault of a message; walk: impl.codeOf.
-/
import Derived.Test.YtaplkbkpgdpbaaaGreatDoorMg8
import Derived.Test.YtaplkbkpgdpbaaaGreatDoorMg4
import Derived.Test.YtaplkbkpgdpbaaaGreatDoorRqt
import Derived.Test.YtaplkbkpgdpbaaaGreatDoorMg6
import Derived.Test.YtaplkbkpgdpbaaaGreatDoorRqk
import Derived.LaidEql
import Derived.Stop.Asserts
import Derived.RowKitTokens
namespace Go.Proofs.YtaplkbkpgdpbaaaGreatDoor.Tkr
open Go.RowKit Go.Lib
open Go.Proofs.YtaplkbkpgdpbaaaGreatDoor
open Go.Proofs.YtaplkbkpgdpbaaaGreatDoor.Fbs
open Go.Proofs.YtaplkbkpgdpbaaaGreatDoor.Ows
open Go.Proofs.YtaplkbkpgdpbaaaGreatDoor.Hdl (mkB texts_new)
open Go.Proofs.YtaplkbkpgdpbaaaGreatDoor.Rqb (vers Own4)

/-- The words of a line. -/
def wordsB (s : ByteArray) : List ByteArray := splitB ⟨#[32]⟩ 0 (countB s ⟨#[32]⟩) s
theorem words_one {s : ByteArray} (h : Ctf.cutB s 32 = false) : wordsB s = [s] := by
  have hi : indexB s ⟨#[32]⟩ = -1 := by
    cases hc : Ctf.cutI s 32 with
    | some k => rw [(Ctf.cut_some hc).2.2] at h; cases h
    | none =>
      have e := Ctf.first_no _ _ (by omega) hc
      refine index_past (s := s.data.toList) (sub := [32]) (i := s.data.toList.length) (by simp) (fun j hj => ?_) (by simp)
      rw [Ctf.occ_one _ _ _ hj]
      have := e j (Nat.zero_le _) hj
      simpa using this
  exact splitB_miss _ _ _ _ hi
theorem words_more {s : ByteArray} (h : Ctf.cutB s 32 = true) : wordsB s = Ctf.cutA s 32 :: wordsB (Ctf.cutZ s 32) := by
  cases hc : Ctf.cutI s 32 with
  | none => rw [(Ctf.cut_none hc).2.2] at h; cases h
  | some k =>
    obtain ⟨q1, q2, q3⟩ := Ctf.cut_some hc
    obtain ⟨a, b, d, e⟩ := Ctf.first_spec _ _ _ hc
    have hi : indexB s ⟨#[32]⟩ = k := by
      refine index_hit (sub := [32]) (fun j hj => ?_) (by omega) ?_
      · rw [Ctf.occ_one _ _ _ (by omega)]
        have := e j (Nat.zero_le _) hj
        simpa using this
      · rw [Ctf.occ_one _ _ _ b, d]; simp
    unfold wordsB
    rw [countB_hit s ⟨#[32]⟩ k (by decide) hi, Nat.add_comm, splitB_hit _ _ _ _ _ hi, q1, q2]
    rfl
theorem words_some (s : ByteArray) : 1 ≤ (wordsB s).length := by
  unfold wordsB
  rw [splitB_all _ (by decide) 0 _ s rfl]; omega
/-- The words of a first line, where it has three and the last is the version. -/
def lineO (s : ByteArray) : Option (ByteArray × ByteArray) :=
  if Ctf.cutB s 32 = true ∧ Ctf.cutB (Ctf.cutZ s 32) 32 = true ∧ Ctf.cutZ (Ctf.cutZ s 32) 32 = vers then some (Ctf.cutA s 32, Ctf.cutA (Ctf.cutZ s 32) 32) else none
theorem vers_list : vers.toList = [72, 84, 84, 80, 47, 49, 46, 49] := by rw [Fgd.list_of]; rfl
theorem vers_one : Ctf.cutB vers 32 = false := by decide
theorem line_words (s : ByteArray) : (∃ M T, lineO s = some (M, T) ∧ wordsB s = [M, T, vers]) ∨ (lineO s = none ∧ ((wordsB s).length ≠ 3 ∨ ∃ M T V, wordsB s = [M, T, V] ∧ V ≠ vers)) := by
  cases h1 : Ctf.cutB s 32
  · refine .inr ⟨by unfold lineO; rw [if_neg (by simp [h1])], .inl (by rw [words_one h1]; simp)⟩
  · cases h2 : Ctf.cutB (Ctf.cutZ s 32) 32
    · refine .inr ⟨by unfold lineO; rw [if_neg (by simp [h2])], .inl (by rw [words_more h1, words_one h2]; simp)⟩
    · have hw : wordsB s = Ctf.cutA s 32 :: Ctf.cutA (Ctf.cutZ s 32) 32 :: wordsB (Ctf.cutZ (Ctf.cutZ s 32) 32) := by rw [words_more h1, words_more h2]
      by_cases h3 : Ctf.cutZ (Ctf.cutZ s 32) 32 = vers
      · exact .inl ⟨_, _, by unfold lineO; rw [if_pos ⟨h1, h2, h3⟩], by rw [hw, h3, words_one vers_one]⟩
      · refine .inr ⟨by unfold lineO; rw [if_neg (fun h => h3 h.2.2)], ?_⟩
        cases h4 : Ctf.cutB (Ctf.cutZ (Ctf.cutZ s 32) 32) 32
        · exact .inr ⟨_, _, _, by rw [hw, words_one h4], h3⟩
        · refine .inl ?_
          rw [hw, words_more h4]
          have := words_some (Ctf.cutZ (Ctf.cutZ (Ctf.cutZ s 32) 32) 32)
          simp only [List.length_cons]
          omega

/-- What stands in a request whose first line was told. -/
def toldM (s : ByteArray) : ByteArray × ByteArray := match lineO s with | some x => x | none => (⟨#[]⟩, ⟨#[]⟩)

theorem split_words (s : ByteArray) (m : Int) (w : World) (hs : s.size ≤ 2000000) (hm : w.cell? ⟨3, 0, none⟩ = some (.int .i64 m)) :
    Calls Tryz.prog 124 #[.string s, .string ⟨#[32]⟩] w fun e w' => (∃ x, e = .returned x ∧ textsIn w' w.heap.size x (wordsB s)) ∧ Below w.heap.size w w' := by
  refine (Tryz.strings_Split s ⟨#[32]⟩ m w (by omega) hm (by decide)).mono ?_
  rintro e w' ⟨rfl, rfl⟩
  have hc := countB_le ⟨#[32]⟩ (by decide) s.size s (Nat.le_refl _)
  have hcl := splitB_all ⟨#[32]⟩ (by decide) 0 _ s rfl
  refine ⟨⟨_, rfl, ?_⟩, (Below.refl _ _).alloc (Nat.le_refl _) _⟩
  rw [← hcl]
  exact texts_new w _ _ (Nat.le_refl _) (by rw [hcl]; unfold maxLen; omega)

set_option maxHeartbeats 1600000 in
theorem requestTold_any (s : ByteArray) (m : Int) (w : World) (hs : s.size ≤ 2000000) (hm : w.cell? ⟨3, 0, none⟩ = some (.int .i64 m)) :
    Calls Tryz.prog 85 #[.string s] w fun e w' => e = .returned (.agg #[.string (toldM s).1, .string (toldM s).2, .slice none 0 0, .string ⟨#[]⟩]) ∧ Below w.heap.size w w' := by
  have HS : Hid (∀ w, w.cell? ⟨3, 0, none⟩ = some (.int .i64 m) → Calls Tryz.prog 124 #[.string s, .string ⟨#[32]⟩] w fun e w' => (∃ x, e = .returned x ∧ textsIn w' w.heap.size x (wordsB s)) ∧ Below w.heap.size w w') := fun w h => split_words s m w hs h
  have hb1 : Below w.heap.size w (w.alloc (.cells #[.string ⟨#[]⟩, .string ⟨#[]⟩, .slice none 0 0, .string ⟨#[]⟩] 25)) := (Below.refl _ _).alloc (Nat.le_refl _) _
  have HO : Hid (Own4 (w.alloc (.cells #[.string ⟨#[]⟩, .string ⟨#[]⟩, .slice none 0 0, .string ⟨#[]⟩] 25)) w.heap.size (.string ⟨#[]⟩) (.string ⟨#[]⟩) (.slice none 0 0) (.string ⟨#[]⟩)) := Rqb.Own4.made w _ _ _ _ _
  have hm1 := (hb1.cell (p := ⟨3, 0, none⟩) (World.block_lt_of_cell? _ _ hm)).trans hm
  rcases line_words s with ⟨M, T, h1, h2⟩ | ⟨h1, h2⟩
  · have e : toldM s = (M, T) := by unfold toldM; rw [h1]
    rw [e]
    rw [h2] at HS
    have hvs : (vers.toList == [72, 84, 84, 80, 47, 49, 46, 49]) = true := by rw [vers_list]; rfl
    go_enter Tryz.func85, Tryz.ntmps85
    go_wp2_with fail
    refine (HS.out _ hm1).mono ?_
    rintro e w2 ⟨⟨x, rfl, hown⟩, hb2⟩
    obtain ⟨a1, c1, rfl, hlc, _, hne⟩ := textsIn.form hown
    obtain ⟨g, rfl, _, hg⟩ := hne (by simp)
    have t0 := textsIn.at hown 0 _ rfl
    have t1 := textsIn.at hown 1 _ rfl
    have t2 := textsIn.at hown 2 _ rfl
    have hb12 := hb1.trans (hb2.mono hb1.size)
    obtain ⟨f2, p0, p1, p2, p3⟩ := HO.out.below hb2
    go_wp2_with fail
    go_region
    all_goals
      go_wp2_with fail
      exact bodyPost_ret (v := .agg #[.string M, .string T, .slice none 0 0, .string ⟨#[]⟩]) (by simp [results, Tryz.results85, go_sem, p0, p1, p2, p3]) rfl ⟨rfl, (((hb12.drew.setCell (Nat.le_refl _) _).setCell (Nat.le_refl _) _).setCell (Nat.le_refl _) _).setCell (Nat.le_refl _) _⟩
  · have e : toldM s = (⟨#[]⟩, ⟨#[]⟩) := by unfold toldM; rw [h1]
    rw [e]
    rcases h2 with h2 | ⟨M, T, V, h2, hV⟩
    · have hne : (((wordsB s).length : Int) != 3) = true := by rw [bne_iff_ne]; omega
      generalize wordsB s = ws at HS hne h2
      go_enter Tryz.func85, Tryz.ntmps85
      go_wp2_with fail
      refine (HS.out _ hm1).mono ?_
      rintro e w2 ⟨⟨x, rfl, hown⟩, hb2⟩
      obtain ⟨a1, c1, rfl, hlc, _, _⟩ := textsIn.form hown
      have hb12 := hb1.trans (hb2.mono hb1.size)
      obtain ⟨f2, p0, p1, p2, p3⟩ := HO.out.below hb2
      go_wp2_with fail
      exact bodyPost_ret (v := .agg #[.string ⟨#[]⟩, .string ⟨#[]⟩, .slice none 0 0, .string ⟨#[]⟩]) (by simp [results, Tryz.results85, go_sem, p0, p1, p2, p3]) rfl ⟨rfl, (((hb12.setCell (Nat.le_refl _) _).setCell (Nat.le_refl _) _).setCell (Nat.le_refl _) _).setCell (Nat.le_refl _) _⟩
    · rw [h2] at HS
      have hvs : (V.toList == [72, 84, 84, 80, 47, 49, 46, 49]) = false := by
        rw [beq_eq_false_iff_ne]
        intro e
        apply hV
        have h := (Kls.text_cmp V vers).symm.trans (show (V.toList == vers.toList) = true by rw [e, vers_list]; rfl)
        exact of_decide_eq_true h
      go_enter Tryz.func85, Tryz.ntmps85
      go_wp2_with fail
      refine (HS.out _ hm1).mono ?_
      rintro e w2 ⟨⟨x, rfl, hown⟩, hb2⟩
      obtain ⟨a1, c1, rfl, hlc, _, hne⟩ := textsIn.form hown
      obtain ⟨g, rfl, _, hg⟩ := hne (by simp)
      have t0 := textsIn.at hown 0 _ rfl
      have t1 := textsIn.at hown 1 _ rfl
      have t2 := textsIn.at hown 2 _ rfl
      have hb12 := hb1.trans (hb2.mono hb1.size)
      obtain ⟨f2, p0, p1, p2, p3⟩ := HO.out.below hb2
      go_wp2_with fail
      exact bodyPost_ret (v := .agg #[.string ⟨#[]⟩, .string ⟨#[]⟩, .slice none 0 0, .string ⟨#[]⟩]) (by simp [results, Tryz.results85, go_sem, p0, p1, p2, p3]) rfl ⟨rfl, (((hb12.setCell (Nat.le_refl _) _).setCell (Nat.le_refl _) _).setCell (Nat.le_refl _) _).setCell (Nat.le_refl _) _⟩

end Go.Proofs.YtaplkbkpgdpbaaaGreatDoor.Tkr

namespace Go.Proofs.YtaplkbkpgdpbaaaGreatDoor.Tkr
open Go.RowKit
open Go.Proofs.YtaplkbkpgdpbaaaGreatDoor
open Go.Proofs.YtaplkbkpgdpbaaaGreatDoor.Fbs
open Go.Proofs.YtaplkbkpgdpbaaaGreatDoor.Ows
open Go.Proofs.YtaplkbkpgdpbaaaGreatDoor.Fdb
open Go.Proofs.YtaplkbkpgdpbaaaGreatDoor.Tri (trimS)

/-- The field that a line tells. -/
def fldO (x : ByteArray) : ByteArray × ByteArray := (if Ctf.cutB x 58 = true then Ctf.cutA x 58 else ⟨#[]⟩, trimS (Ctf.cutZ x 58))
/-- A row of texts from a place of a block on. -/
def RowO (w : World) (g o : Nat) (l : List ByteArray) : Prop := g < w.heap.size ∧ ∀ j x, l[j]? = some x → w.cell? ⟨g, o + j, none⟩ = some (.string x)
theorem RowO.below {w w' : World} {g o : Nat} {l : List ByteArray} (h : RowO w g o l) (hb : Below w.heap.size w w') : RowO w' g o l :=
  ⟨Nat.lt_of_lt_of_le h.1 hb.size, fun j x hx => (hb.cell (p := ⟨g, o + j, none⟩) h.1).trans (h.2 j x hx)⟩

theorem trim_call (V : ByteArray) (w : World) (hV : V.size ≤ 2000000) :
    Calls Tryz.prog 126 #[.string V, .string ⟨#[32]⟩] w fun e w' => e = .returned (.string (trimS V)) ∧ Below w.heap.size w w' := by
  refine (Tryz.strings_Trim_one V 32 (by decide) w (by omega)).mono ?_
  rintro e w' ⟨rfl, rfl | rfl⟩
  · exact ⟨rfl, Below.refl _ _⟩
  · exact ⟨rfl, (Below.refl _ _).drew⟩
theorem cut_call (s : ByteArray) (c : UInt8) (m : Int) (w : World) (hs : s.size ≤ 2000000) (hm : w.cell? ⟨3, 0, none⟩ = some (.int .i64 m)) :
    Calls Tryz.prog 125 #[.string s, .string ⟨#[c]⟩] w fun e w' => e = .returned (.tuple #[.string (Ctf.cutA s c), .string (Ctf.cutZ s c), .bool (Ctf.cutB s c)]) ∧ Below w.heap.size w w' := by
  refine (Tryz.strings_Cut s ⟨#[c]⟩ m w (by omega) hm).mono ?_
  rintro e w' ⟨rfl, n, rfl⟩
  obtain ⟨c1, c2, c3⟩ := Ctf.cut_is s c
  refine ⟨?_, Ctf.below_drewN w n⟩
  rw [← c1, ← c2, ← c3]
theorem cutZ_size (x : ByteArray) (c : UInt8) : (Ctf.cutZ x c).size ≤ x.size := by
  cases h : Ctf.cutI x c with
  | some k => rw [(Ctf.cut_some h).2.1, ByteArray.size_extract]; omega
  | none => rw [(Ctf.cut_none h).2.1]; exact Nat.zero_le _

set_option maxRecDepth 20000 in
set_option maxHeartbeats 1600000 in
theorem fieldsTold_any (g o ca : Nat) (l : List ByteArray) (m : Int) (w : World) (hl : l.length ≤ 900000) (hz : ∀ x ∈ l, x.size ≤ 2000000) (hm : w.cell? ⟨3, 0, none⟩ = some (.int .i64 m)) (ha : RowO w g o l) :
    Calls Tryz.prog 86 #[.slice (some ⟨g, o, none⟩) l.length ca] w fun e w' => (∃ x, e = .returned x ∧ fieldsIn w' w.heap.size x (l.map fldO)) ∧ Below w.heap.size w w' := by
  have hml := World.block_lt_of_cell? _ _ hm
  have HM : Hid (w.cell? ⟨3, 0, none⟩ = some (.int .i64 m)) := hm
  have GA : Hid (RowO w g o l) := ha
  clear ha hm
  go_enter Tryz.func86, Tryz.ntmps86
  go_wp2_with fail
  go_loopw [3, 12] (fun v i wr => ∃ k : Nat, k ≤ l.length ∧ i = .int .i64 k ∧ fieldsIn wr w.heap.size v ((l.take k).map fldO) ∧ Below w.heap.size w wr) (fun _ i _ => l.length - (intOf i).toNat)
  case atStart => exact ⟨0, Nat.zero_le _, rfl, fieldsIn.made w _ (Nat.le_refl _), (Below.refl _ _).alloc (Nat.le_refl _) _⟩
  case round =>
    obtain ⟨k, hk, rfl, hown, hbel⟩ := hrel
    by_cases hlt : k < l.length
    · have hc := (GA.out.below hbel).2 k l[k] (List.getElem?_eq_getElem hlt)
      have hs := hz l[k] (List.getElem_mem hlt)
      have HTK : Hid ((l.take (k + 1)).map fldO = (l.take k).map fldO ++ [fldO l[k]]) := by
        show _ = _; rw [List.take_succ_eq_append_getElem hlt, List.map_append]; rfl
      have hacc : ((l.take k).map fldO).length ≤ 900000 := by simp; omega
      have hzs := cutZ_size l[k] 58
      have HCut : Hid _ := fun w h => cut_call l[k] 58 m w (by omega) h
      have HTr : Hid _ := fun w => trim_call (Ctf.cutZ l[k] 58) w (by omega)
      have hm1 := (hbel.cell (p := ⟨3, 0, none⟩) hml).trans HM.out
      generalize (l.take k).map fldO = acc at *
      unfold fldO at HTK
      generalize trimS (Ctf.cutZ l[k] 58) = V at *
      clear hs hzs
      have hB := hbel.size
      cases hb : Ctf.cutB l[k] 58
      · rw [hb] at HTK HCut
        have HTK' : Hid ((l.take (k + 1)).map fldO = acc ++ [(⟨#[]⟩, V)]) := HTK
        clear HTK hb
        go_wp2_with fail
        refine (HCut.out _ hm1).mono ?_
        rintro e w2 ⟨rfl, hb2⟩
        have hbel2 := hbel.trans (hb2.mono hB)
        have hown2 := hown.below hb2
        clear hown hbel hb2 hc hm1
        go_wp2_with fail
        refine (HTr.out _).mono ?_
        rintro e w3 ⟨rfl, hb3⟩
        have hB2 := hbel2.size
        have hbel3 := hbel2.trans (hb3.mono hB2)
        have hown3 := hown2.below hb3
        have hB3 := hbel3.size
        clear hown2 hbel2 hb3
        go_wp2_with (at_builtin; go_loud (refine wpList_append_field w3 rfl _ _ rfl w.heap.size _ acc (by rfl) hown3 _ _ 1 (by rfl) ?q3 hB3 w.heap.size (Nat.le_refl _) w hbel3 ?_))
        case q3 => omega
        intro v' w6 hown6 hbel6
        go_wp2_with fail
        go_roundw
        case rel => exact ⟨k + 1, by omega, by go_num, by rw [HTK'.out]; exact hown6, hbel6⟩
        case measure => simp [intOf]; omega
      · rw [hb] at HTK HCut
        have HTK' : Hid ((l.take (k + 1)).map fldO = acc ++ [(Ctf.cutA l[k] 58, V)]) := HTK
        clear HTK hb
        go_wp2_with fail
        refine (HCut.out _ hm1).mono ?_
        rintro e w2 ⟨rfl, hb2⟩
        have hbel2 := hbel.trans (hb2.mono hB)
        have hown2 := hown.below hb2
        clear hown hbel hb2 hc hm1
        go_wp2_with fail
        refine (HTr.out _).mono ?_
        rintro e w3 ⟨rfl, hb3⟩
        have hB2 := hbel2.size
        have hbel3 := hbel2.trans (hb3.mono hB2)
        have hown3 := hown2.below hb3
        have hB3 := hbel3.size
        clear hown2 hbel2 hb3
        go_wp2_with (at_builtin; go_loud (refine wpList_append_field w3 rfl _ _ rfl w.heap.size _ acc (by rfl) hown3 _ _ 1 (by rfl) ?q3 hB3 w.heap.size (Nat.le_refl _) w hbel3 ?_))
        case q3 => omega
        intro v' w6 hown6 hbel6
        go_wp2_with fail
        go_roundw
        case rel => exact ⟨k + 1, by omega, by go_num, by rw [HTK'.out]; exact hown6, hbel6⟩
        case measure => simp [intOf]; omega
    · obtain rfl : k = l.length := by omega
      rw [List.take_length] at hown
      go_wp2_with fail
      go_ret
      exact ⟨⟨_, rfl, hown⟩, hbel⟩

end Go.Proofs.YtaplkbkpgdpbaaaGreatDoor.Tkr

namespace Go.Proofs.YtaplkbkpgdpbaaaGreatDoor.Tor
open Go.RowKit
open Go.Lib
open Go.Proofs.YtaplkbkpgdpbaaaGreatDoor.Fbs
open Go.Proofs.YtaplkbkpgdpbaaaGreatDoor.Fch
open Go.Proofs.YtaplkbkpgdpbaaaGreatDoor.Tri
open Go.Proofs.YtaplkbkpgdpbaaaGreatDoor.Fvs
open Go.Proofs.YtaplkbkpgdpbaaaGreatDoor.Hdl
open Go.Proofs.YtaplkbkpgdpbaaaGreatDoor.Tkr
open Go.Proofs.YtaplkbkpgdpbaaaGreatDoor.Rqb
open Go.Proofs.YtaplkbkpgdpbaaaGreatDoor.Lnp
open Go.Proofs.YtaplkbkpgdpbaaaGreatDoor.Fgd (goodF edgeB)

theorem cut_at (A Z : ByteArray) (c : UInt8) (h : ∀ x ∈ A.data.toList, x ≠ c) : Ctf.cutB (A ++ ⟨#[c]⟩ ++ Z) c = true ∧ Ctf.cutA (A ++ ⟨#[c]⟩ ++ Z) c = A ∧ Ctf.cutZ (A ++ ⟨#[c]⟩ ++ Z) c = Z := by
  obtain ⟨s, hs⟩ : ∃ s, s = A ++ ⟨#[c]⟩ ++ Z := ⟨_, rfl⟩
  rw [← hs]
  have hd : s.data.toList = A.data.toList ++ c :: Z.data.toList := by rw [hs]; simp
  have hA : A.data.toList.length = A.size := by simp
  have hZ : Z.data.toList.length = Z.size := by simp
  have hl : s.data.toList.length = A.size + (Z.size + 1) := by rw [hd, List.length_append, List.length_cons, hA, hZ]
  have hsz : s.size = A.size + (Z.size + 1) := by rw [← hl]; simp
  have at1 : ∀ j, j < A.size → s.data.toList[j]?.getD 0 ≠ c := by
    intro j hj
    have hj' : j < A.data.toList.length := by omega
    rw [hd, List.getElem?_append_left hj', List.getElem?_eq_getElem hj', Option.getD_some]
    exact h _ (List.getElem_mem hj')
  have at2 : s.data.toList[A.size]?.getD 0 = c := by
    rw [hd, List.getElem?_append_right (by omega), hA, Nat.sub_self]; rfl
  cases hc : Ctf.cutI s c with
  | none => exact absurd at2 (Ctf.first_no _ _ (by omega) hc A.size (Nat.zero_le _) (by omega))
  | some r =>
    obtain ⟨_, h2, h3, h4⟩ := Ctf.first_spec _ _ _ hc
    have hr : r = A.size := by
      rcases Nat.lt_trichotomy r A.size with h | h | h
      · exact absurd h3 (at1 r h)
      · exact h
      · exact absurd at2 (h4 A.size (Nat.zero_le _) h)
    subst hr
    obtain ⟨q1, q2, q3⟩ := Ctf.cut_some hc
    refine ⟨q3, ?_, ?_⟩
    · rw [q1, mkB_extract, hd, List.drop_zero, Nat.sub_zero, List.take_append_of_le_length (by omega), List.take_of_length_le (by omega), mkB_list]
    · rw [q2, mkB_extract, hd]
      have e : (A.data.toList ++ c :: Z.data.toList).drop (A.size + 1) = Z.data.toList := by
        rw [← List.drop_drop, ← hA, List.drop_left]; rfl
      rw [e, List.take_of_length_le (by omega), mkB_list]

theorem tok_bytes : ∀ n : Nat, n < 256 → tokB (n : Int) = true → n ≠ 13 ∧ n ≠ 32 ∧ n ≠ 58 := by decide +kernel
theorem token_bytes {l : List UInt8} (h : tokenB l = true) : ∀ c ∈ l, c ≠ 13 ∧ c ≠ 32 ∧ c ≠ 58 := by
  intro c hc
  unfold tokenB at h
  rw [Bool.and_eq_true, List.all_eq_true] at h
  obtain ⟨a, b, d⟩ := tok_bytes c.toNat c.toNat_lt (h.2 c hc)
  exact ⟨fun e => a (by rw [e]; rfl), fun e => b (by rw [e]; rfl), fun e => d (by rw [e]; rfl)⟩
theorem plain_bytes {l : List UInt8} (h : plainB l = true) : ∀ c ∈ l, c ≠ 13 := by
  intro c hc e
  unfold plainB at h
  rw [List.all_eq_true] at h
  have := h c hc
  rw [e] at this
  exact absurd this (by decide)
theorem solid_bytes {l : List UInt8} (h : solidL l = true) : ∀ c ∈ l, c ≠ 13 ∧ c ≠ 32 := by
  intro c hc
  unfold solidL at h
  rw [List.all_eq_true] at h
  have hx := h c hc
  exact ⟨fun e => absurd (by rw [e] at hx; exact hx) (by decide), fun e => absurd (by rw [e] at hx; exact hx) (by decide)⟩

theorem trim_behind {v : List UInt8} (h : edgeB v = true) : Lib.trimB (32 :: v) 32 = v := by
  unfold edgeB at h
  rw [Bool.or_eq_true] at h
  rcases h with h | h
  · have : v = [] := List.length_eq_zero_iff.1 (of_decide_eq_true h)
    subst this; rfl
  · rw [Bool.and_eq_true] at h
    have h0 := of_decide_eq_true h.1
    have h1 := of_decide_eq_true h.2
    rcases List.eq_nil_or_concat v with rfl | ⟨r, z, hv⟩
    · rfl
    · have hz : z ≠ 32 := by
        rw [hv, List.concat_eq_append] at h1
        intro e
        apply h1
        rw [List.length_append, List.length_singleton, Nat.add_sub_cancel, List.getElem?_append_right (Nat.le_refl _), Nat.sub_self, e]; rfl
      unfold Lib.trimB
      have e1 : Lib.trimRightB (32 :: v) 32 = 32 :: v := by
        unfold Lib.trimRightB
        rw [hv, List.concat_eq_append, ← List.cons_append, List.reverse_append, List.reverse_singleton, List.singleton_append, List.dropWhile_cons, if_neg (by simpa using hz)]
        simp
      rw [e1]
      unfold Lib.trimLeftB
      rw [List.dropWhile_cons, if_pos (by decide)]
      cases v with
      | nil => rfl
      | cons a w =>
        have ha : a ≠ 32 := by
          intro e
          apply h0
          rw [e]; rfl
        rw [List.dropWhile_cons, if_neg (by simpa using ha)]
theorem fld_line {c : ByteArray × ByteArray} (h : goodF c.1 c.2 = true) : fldO (lineS c) = c ∧ ∀ x ∈ (lineS c).data.toList, x ≠ 13 := by
  unfold goodF at h
  simp only [Bool.and_eq_true] at h
  have ht := token_bytes h.1.1.1
  have hl : lineS c = c.1 ++ ⟨#[58]⟩ ++ (⟨#[32]⟩ ++ c.2) := by
    unfold lineS colon
    apply ByteArray.ext; apply Array.ext'; simp
  obtain ⟨k1, k2, k3⟩ := cut_at c.1 (⟨#[32]⟩ ++ c.2) 58 (fun x hx => (ht x hx).2.2)
  rw [← hl] at k1 k2 k3
  refine ⟨?_, ?_⟩
  · unfold fldO
    rw [if_pos k1, k2, k3]
    have e : trimS (⟨#[32]⟩ ++ c.2) = c.2 := by
      unfold trimS
      have hd : ((⟨#[32]⟩ : ByteArray) ++ c.2).data.toList = 32 :: c.2.data.toList := by simp
      rw [hd, trim_behind h.2]
    rw [e]
  · intro x hx
    have hd : (lineS c).data.toList = c.1.data.toList ++ 58 :: 32 :: c.2.data.toList := by unfold lineS colon; simp
    rw [hd] at hx
    rcases List.mem_append.1 hx with hx | hx
    · exact (ht x hx).1
    · rcases List.mem_cons.1 hx with rfl | hx
      · decide
      · rcases List.mem_cons.1 hx with rfl | hx
        · decide
        · exact plain_bytes h.1.2 x hx
theorem first_told {M T : ByteArray} (hM : mthB M = true) (hT : tgtB T = true) : toldM (firstR M T) = (M, T) ∧ ∀ x ∈ (firstR M T).data.toList, x ≠ 13 := by
  unfold mthB at hM
  unfold tgtB at hT
  simp only [Bool.and_eq_true] at hM hT
  have hm := token_bytes hM.1
  have ht := solid_bytes hT.1
  have hl : firstR M T = M ++ ⟨#[32]⟩ ++ (T ++ ⟨#[32]⟩ ++ vers) := by
    unfold firstR spc3
    apply ByteArray.ext; simp
  obtain ⟨k1, k2, k3⟩ := cut_at M (T ++ ⟨#[32]⟩ ++ vers) 32 (fun x hx => (hm x hx).2.1)
  obtain ⟨j1, j2, j3⟩ := cut_at T vers 32 (fun x hx => (ht x hx).2)
  rw [← hl] at k1 k2 k3
  refine ⟨?_, ?_⟩
  · unfold toldM lineO
    rw [k3, if_pos ⟨k1, j1, j3⟩, k2, j2]
  · intro x hx
    have hd : (firstR M T).data.toList = M.data.toList ++ 32 :: (T.data.toList ++ 32 :: vers.data.toList) := by rw [hl]; simp
    rw [hd] at hx
    rcases List.mem_append.1 hx with hx | hx
    · exact (hm x hx).1
    · rcases List.mem_cons.1 hx with rfl | hx
      · decide
      · rcases List.mem_append.1 hx with hx | hx
        · exact (ht x hx).1
        · rcases List.mem_cons.1 hx with rfl | hx
          · decide
          · have : ∀ y ∈ vers.data.toList, y ≠ 13 := by decide
            exact this x hx

end Go.Proofs.YtaplkbkpgdpbaaaGreatDoor.Tor

namespace Go.Proofs.YtaplkbkpgdpbaaaGreatDoor.Asf
open Go.RowKit Go.Extern.Stop Go.Stop Go.Extern
open Go.Proofs.YtaplkbkpgdpbaaaGreatDoor.Lnp (fault)
open Go.Proofs.YtaplkbkpgdpbaaaGreatDoor.Rqb (errV err_none err_some)

/-- errors.As(nil, target). -/
theorem as_nil (t : Value) (w : World) :
    Calls Tryz.prog 88 #[.nilIface, t] w fun e w' => e = .returned (.bool false) ∧ w' = w := by
  go_enter Tryz.func88, Tryz.ntmps88
  go_wp2
  go_ret
  exact ⟨rfl, rfl⟩

/-- The handle of a type, and a Value of a type at a place. -/
abbrev hd (t : TypeId) : Value := .pointer (some ⟨9, t, none⟩)
abbrev val (t : TypeId) (a : Addr) (f : Int) : Value := .agg #[hd t, .pointer (some a), .int .u64 f]

theorem valueOfP (t : Addr) (w : World) : (ReflectliteValue.unpack (.iface 112 (.pointer (some t)))).run Tryz.prog w
    = .ok (val 112 ⟨w.heap.size, 0, none⟩ 150) (w.alloc (.cells #[.pointer (some t)] 112)) := by kernel_rfl
theorem typeP (a : Addr) (w : World) : (ReflectliteValue.methodAny (ReflectliteValue.valueError "reflectlite.Value.Type" 0) (fun t _ _ _ => ReflectliteType.toType t) #[val 112 a 150]).run Tryz.prog w
    = .ok (.iface 158 (.agg #[hd 112])) w := by kernel_rfl
theorem methodKind (h : Value) (w : World) : (Go.method 357 158 (.agg #[h]) "Kind").run Tryz.prog w = .ok (212, h) w := by kernel_rfl
theorem kindP (w : World) : ((ReflectliteType.abiMethod fun t => (fun a : Nat => Value.int IntKind.u8 (a : Int)) <$> Rtype.kind t) #[hd 112]).run Tryz.prog w = .ok (.int .u8 22) w := by kernel_rfl
theorem kindS (w : World) : ((ReflectliteType.abiMethod fun t => (fun a : Nat => Value.int IntKind.u8 (a : Int)) <$> Rtype.kind t) #[hd 104]).run Tryz.prog w = .ok (.int .u8 25) w := by kernel_rfl

theorem partsP (a : Addr) (w : World) : (ReflectliteValue.parts (val 112 a 150)).run Tryz.prog w = .ok (some (112, a, 150)) w := by kernel_rfl
theorem isNilP (a p : Addr) (W : World) (ha : W.cell? a = some (.pointer (some p))) :
    (ReflectliteValue.method (ReflectliteValue.valueError "reflectlite.Value.IsNil" 0) ReflectliteValue.isNil #[val 112 a 150]).run Tryz.prog W = .ok (.bool false) W := by
  show Sem.run _ (Bind.bind (ReflectliteValue.parts (val 112 a 150)) _) _ = _
  simp only [Sem.run_bind, partsP, Result.andThen]
  simp [ReflectliteValue.isNil, loadVar, isAgg, underlying, Tryz.underlying112, ha, Result.andThen]

theorem methodElem (h : Value) (w : World) : (Go.method 357 158 (.agg #[h]) "Elem").run Tryz.prog w = .ok (223, .agg #[h]) w := by kernel_rfl
theorem methodImplements (h : Value) (w : World) : (Go.method 357 158 (.agg #[h]) "Implements").run Tryz.prog w = .ok (224, .agg #[h]) w := by kernel_rfl
theorem methodAssignableTo (h : Value) (w : World) : (Go.method 357 158 (.agg #[h]) "AssignableTo").run Tryz.prog w = .ok (221, .agg #[h]) w := by kernel_rfl
theorem elemP (w : World) : (ReflectliteType.method ReflectliteType.elem #[.agg #[hd 112]]).run Tryz.prog w = .ok (.iface 158 (.agg #[hd 104])) w := by kernel_rfl
theorem implementsS (w : World) : (ReflectliteType.relation "Implements" ReflectliteType.implements_ #[.agg #[hd 104], .iface 158 (.agg #[hd 63])]).run Tryz.prog w = .ok (.bool true) w := by kernel_rfl
theorem typeOfS (v : Value) (w : World) : (ReflectliteType.typeOf #[.iface 104 v]).run Tryz.prog w = .ok (.iface 158 (.agg #[hd 104])) w := by kernel_rfl
theorem assignableS (w : World) : (ReflectliteType.relation "AssignableTo" ReflectliteType.assignableTo #[.agg #[hd 104], .iface 158 (.agg #[hd 104])]).run Tryz.prog w = .ok (.bool true) w := by kernel_rfl
theorem valueOfS (c : Int) (w : World) : (ReflectliteValue.unpack (.iface 104 (.agg #[.int .i64 c]))).run Tryz.prog w
    = .ok (val 104 ⟨w.heap.size, 0, none⟩ 153) (w.alloc (.cells #[.int .i64 c] 104)) := by kernel_rfl
theorem elemOfP (w : World) : (Rtype.elem? 112).run Tryz.prog w = .ok (some 104) w := by kernel_rfl
theorem mkS (p : Addr) (w : World) : (ReflectliteValue.mk 104 p ReflectliteValue.flagAddr).run Tryz.prog w = .ok (val 104 p 409) w := by kernel_rfl
theorem elemV (a p : Addr) (W : World) (ha : W.cell? a = some (.pointer (some p))) :
    (ReflectliteValue.method (ReflectliteValue.valueError "reflectlite.Value.Elem" 0) ReflectliteValue.elem #[val 112 a 150]).run Tryz.prog W
      = .ok (val 104 p 409) W := by
  show Sem.run _ (Bind.bind (ReflectliteValue.parts (val 112 a 150)) _) _ = _
  simp only [Sem.run_bind, partsP, Result.andThen]
  simp [ReflectliteValue.elem, loadVar, isAgg, underlying, Tryz.underlying112, ha, Result.andThen, elemOfP, mkS]
theorem partsA (a : Addr) (w : World) : (ReflectliteValue.parts (val 104 a 409)).run Tryz.prog w = .ok (some (104, a, 409)) w := by kernel_rfl
theorem partsS (a : Addr) (w : World) : (ReflectliteValue.parts (val 104 a 153)).run Tryz.prog w = .ok (some (104, a, 153)) w := by kernel_rfl
theorem directS (w : World) : (Rtype.directlyAssignable 104 104).run Tryz.prog w = .ok true w := by kernel_rfl
theorem loadS (b : Nat) (c : Int) (W : World) (hb : W.cell? ⟨b, 0, none⟩ = some (.int .i64 c)) : (loadVar 104 ⟨b, 0, none⟩).run Tryz.prog W = .ok (.agg #[.int .i64 c]) W := by
  have h1 : (loadCells ⟨b, 0, none⟩ 1).run Tryz.prog W = .ok #[.int .i64 c] W :=
    run_loadCells_list (P := Tryz.prog) (w := W) ⟨b, 0, none⟩ [.int .i64 c] (fun j v h => by
      match j, h with
      | 0, h => cases h; exact hb)
  simp [loadVar, isAgg, underlying, Tryz.underlying104, h1, Result.andThen]
theorem storeS (t : Nat) (c : Int) (old : Value) (W : World) (ht : W.cell? ⟨t, 0, none⟩ = some old) (hf : W.frozen? ⟨t, 0, none⟩ = false) : (storeVar 104 ⟨t, 0, none⟩ (.agg #[.int .i64 c])).run Tryz.prog W = .ok () (W.setCell ⟨t, 0, none⟩ (.int .i64 c)) := by
  simp [storeVar, Value.cells, storeCells, Addr.add]
  rw [run_store Tryz.prog W ⟨t, 0, none⟩ _ _ (by rfl)]
  simp [ht, hf]
theorem setS (ta b : Nat) (c : Int) (old : Value) (W : World) (hb : W.cell? ⟨b, 0, none⟩ = some (.int .i64 c)) (ht : W.cell? ⟨ta, 0, none⟩ = some old) (hf : W.frozen? ⟨ta, 0, none⟩ = false) :
    (ReflectliteValue.set #[val 104 ⟨ta, 0, none⟩ 409, val 104 ⟨b, 0, none⟩ 153]).run Tryz.prog W
      = .ok (.tuple #[]) (W.setCell ⟨ta, 0, none⟩ (.int .i64 c)) := by
  show Sem.run _ (Bind.bind (ReflectliteValue.parts (val 104 ⟨ta, 0, none⟩ 409)) (fun p => Bind.bind (ReflectliteValue.parts (val 104 ⟨b, 0, none⟩ 153)) _)) _ = _
  simp only [Sem.run_bind, partsA, partsS, Result.andThen]
  simp [ReflectliteValue.flagAddr, loadS b c W hb, Result.andThen, directS, storeS ta c old W ht hf]

end Go.Proofs.YtaplkbkpgdpbaaaGreatDoor.Asf

