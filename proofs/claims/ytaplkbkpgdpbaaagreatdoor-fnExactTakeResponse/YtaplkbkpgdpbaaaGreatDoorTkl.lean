/-
  The first line of a request, plain; walk: impl.requestTold.
-/
import Derived.Test.YtaplkbkpgdpbaaaGreatDoorHdi
import Derived.Test.YtaplkbkpgdpbaaaGreatDoorCtf
import Derived.Test.YtaplkbkpgdpbaaaGreatDoorRqt
namespace Go.Proofs.YtaplkbkpgdpbaaaGreatDoor.Tkr
open Go.RowKit Go.Lib
open Go.Proofs.YtaplkbkpgdpbaaaGreatDoor
open Go.Proofs.YtaplkbkpgdpbaaaGreatDoor.Fbs
open Go.Proofs.YtaplkbkpgdpbaaaGreatDoor.Ows
open Go.Proofs.YtaplkbkpgdpbaaaGreatDoor.Hdl (mkB texts_new)
open Go.Proofs.YtaplkbkpgdpbaaaGreatDoor.Rqb (vers Own4)

/-- The words of a line. -/
def wordsB (s : ByteArray) : List ByteArray := splitB ⟨#[32]⟩ 0 (countB s ⟨#[32]⟩) s
theorem words_one {s : ByteArray} (h : Ctf.cutB s 32 = false) : wordsB s = [s] := by
  have hi : indexB s ⟨#[32]⟩ = -1 := by
    cases hc : Ctf.cutI s 32 with
    | some k => rw [(Ctf.cut_some hc).2.2] at h; cases h
    | none =>
      have e := Ctf.first_no _ _ (by omega) hc
      refine index_past (s := s.data.toList) (sub := [32]) (i := s.data.toList.length) (by simp) (fun j hj => ?_) (by simp)
      rw [Ctf.occ_one _ _ _ hj]
      have := e j (Nat.zero_le _) hj
      simpa using this
  exact splitB_miss _ _ _ _ hi
theorem words_more {s : ByteArray} (h : Ctf.cutB s 32 = true) : wordsB s = Ctf.cutA s 32 :: wordsB (Ctf.cutZ s 32) := by
  cases hc : Ctf.cutI s 32 with
  | none => rw [(Ctf.cut_none hc).2.2] at h; cases h
  | some k =>
    obtain ⟨q1, q2, q3⟩ := Ctf.cut_some hc
    obtain ⟨a, b, d, e⟩ := Ctf.first_spec _ _ _ hc
    have hi : indexB s ⟨#[32]⟩ = k := by
      refine index_hit (sub := [32]) (fun j hj => ?_) (by omega) ?_
      · rw [Ctf.occ_one _ _ _ (by omega)]
        have := e j (Nat.zero_le _) hj
        simpa using this
      · rw [Ctf.occ_one _ _ _ b, d]; simp
    unfold wordsB
    rw [countB_hit s ⟨#[32]⟩ k (by decide) hi, Nat.add_comm, splitB_hit _ _ _ _ _ hi, q1, q2]
    rfl
theorem words_some (s : ByteArray) : 1 ≤ (wordsB s).length := by
  unfold wordsB
  rw [splitB_all _ (by decide) 0 _ s rfl]; omega
/-- The words of a first line, where it has three and the last is the version. -/
def lineO (s : ByteArray) : Option (ByteArray × ByteArray) :=
  if Ctf.cutB s 32 = true ∧ Ctf.cutB (Ctf.cutZ s 32) 32 = true ∧ Ctf.cutZ (Ctf.cutZ s 32) 32 = vers then some (Ctf.cutA s 32, Ctf.cutA (Ctf.cutZ s 32) 32) else none
theorem vers_list : vers.toList = [72, 84, 84, 80, 47, 49, 46, 49] := by rw [Fgd.list_of]; rfl
theorem vers_one : Ctf.cutB vers 32 = false := by decide
theorem line_words (s : ByteArray) : (∃ M T, lineO s = some (M, T) ∧ wordsB s = [M, T, vers]) ∨ (lineO s = none ∧ ((wordsB s).length ≠ 3 ∨ ∃ M T V, wordsB s = [M, T, V] ∧ V ≠ vers)) := by
  cases h1 : Ctf.cutB s 32
  · refine .inr ⟨by unfold lineO; rw [if_neg (by simp [h1])], .inl (by rw [words_one h1]; simp)⟩
  · cases h2 : Ctf.cutB (Ctf.cutZ s 32) 32
    · refine .inr ⟨by unfold lineO; rw [if_neg (by simp [h2])], .inl (by rw [words_more h1, words_one h2]; simp)⟩
    · have hw : wordsB s = Ctf.cutA s 32 :: Ctf.cutA (Ctf.cutZ s 32) 32 :: wordsB (Ctf.cutZ (Ctf.cutZ s 32) 32) := by rw [words_more h1, words_more h2]
      by_cases h3 : Ctf.cutZ (Ctf.cutZ s 32) 32 = vers
      · exact .inl ⟨_, _, by unfold lineO; rw [if_pos ⟨h1, h2, h3⟩], by rw [hw, h3, words_one vers_one]⟩
      · refine .inr ⟨by unfold lineO; rw [if_neg (fun h => h3 h.2.2)], ?_⟩
        cases h4 : Ctf.cutB (Ctf.cutZ (Ctf.cutZ s 32) 32) 32
        · exact .inr ⟨_, _, _, by rw [hw, words_one h4], h3⟩
        · refine .inl ?_
          rw [hw, words_more h4]
          have := words_some (Ctf.cutZ (Ctf.cutZ (Ctf.cutZ s 32) 32) 32)
          simp only [List.length_cons]
          omega

/-- What stands in a request whose first line was told. -/
def toldM (s : ByteArray) : ByteArray × ByteArray := match lineO s with | some x => x | none => (⟨#[]⟩, ⟨#[]⟩)

theorem split_words (s : ByteArray) (m : Int) (w : World) (hs : s.size ≤ 2000000) (hm : w.cell? ⟨3, 0, none⟩ = some (.int .i64 m)) :
    Calls Tryz.prog 124 #[.string s, .string ⟨#[32]⟩] w fun e w' => (∃ x, e = .returned x ∧ textsIn w' w.heap.size x (wordsB s)) ∧ Below w.heap.size w w' := by
  refine (Tryz.strings_Split s ⟨#[32]⟩ m w (by omega) hm (by decide)).mono ?_
  rintro e w' ⟨rfl, rfl⟩
  have hc := countB_le ⟨#[32]⟩ (by decide) s.size s (Nat.le_refl _)
  have hcl := splitB_all ⟨#[32]⟩ (by decide) 0 _ s rfl
  refine ⟨⟨_, rfl, ?_⟩, (Below.refl _ _).alloc (Nat.le_refl _) _⟩
  rw [← hcl]
  exact texts_new w _ _ (Nat.le_refl _) (by rw [hcl]; unfold maxLen; omega)

set_option maxHeartbeats 1600000 in
theorem requestTold_any (s : ByteArray) (m : Int) (w : World) (hs : s.size ≤ 2000000) (hm : w.cell? ⟨3, 0, none⟩ = some (.int .i64 m)) :
    Calls Tryz.prog 85 #[.string s] w fun e w' => e = .returned (.agg #[.string (toldM s).1, .string (toldM s).2, .slice none 0 0, .string ⟨#[]⟩]) ∧ Below w.heap.size w w' := by
  have HS : Hid (∀ w, w.cell? ⟨3, 0, none⟩ = some (.int .i64 m) → Calls Tryz.prog 124 #[.string s, .string ⟨#[32]⟩] w fun e w' => (∃ x, e = .returned x ∧ textsIn w' w.heap.size x (wordsB s)) ∧ Below w.heap.size w w') := fun w h => split_words s m w hs h
  have hb1 : Below w.heap.size w (w.alloc (.cells #[.string ⟨#[]⟩, .string ⟨#[]⟩, .slice none 0 0, .string ⟨#[]⟩] 25)) := (Below.refl _ _).alloc (Nat.le_refl _) _
  have HO : Hid (Own4 (w.alloc (.cells #[.string ⟨#[]⟩, .string ⟨#[]⟩, .slice none 0 0, .string ⟨#[]⟩] 25)) w.heap.size (.string ⟨#[]⟩) (.string ⟨#[]⟩) (.slice none 0 0) (.string ⟨#[]⟩)) := Rqb.Own4.made w _ _ _ _ _
  have hm1 := (hb1.cell (p := ⟨3, 0, none⟩) (World.block_lt_of_cell? _ _ hm)).trans hm
  rcases line_words s with ⟨M, T, h1, h2⟩ | ⟨h1, h2⟩
  · have e : toldM s = (M, T) := by unfold toldM; rw [h1]
    rw [e]
    rw [h2] at HS
    have hvs : (vers.toList == [72, 84, 84, 80, 47, 49, 46, 49]) = true := by rw [vers_list]; rfl
    go_enter Tryz.func85, Tryz.ntmps85
    go_wp2_with fail
    refine (HS.out _ hm1).mono ?_
    rintro e w2 ⟨⟨x, rfl, hown⟩, hb2⟩
    obtain ⟨a1, c1, rfl, hlc, _, hne⟩ := textsIn.form hown
    obtain ⟨g, rfl, _, hg⟩ := hne (by simp)
    have t0 := textsIn.at hown 0 _ rfl
    have t1 := textsIn.at hown 1 _ rfl
    have t2 := textsIn.at hown 2 _ rfl
    have hb12 := hb1.trans (hb2.mono hb1.size)
    obtain ⟨f2, p0, p1, p2, p3⟩ := HO.out.below hb2
    go_wp2_with fail
    go_region
    all_goals
      go_wp2_with fail
      exact bodyPost_ret (v := .agg #[.string M, .string T, .slice none 0 0, .string ⟨#[]⟩]) (by simp [results, Tryz.results85, go_sem, p0, p1, p2, p3]) rfl ⟨rfl, (((hb12.drew.setCell (Nat.le_refl _) _).setCell (Nat.le_refl _) _).setCell (Nat.le_refl _) _).setCell (Nat.le_refl _) _⟩
  · have e : toldM s = (⟨#[]⟩, ⟨#[]⟩) := by unfold toldM; rw [h1]
    rw [e]
    rcases h2 with h2 | ⟨M, T, V, h2, hV⟩
    · have hne : (((wordsB s).length : Int) != 3) = true := by rw [bne_iff_ne]; omega
      generalize wordsB s = ws at HS hne h2
      go_enter Tryz.func85, Tryz.ntmps85
      go_wp2_with fail
      refine (HS.out _ hm1).mono ?_
      rintro e w2 ⟨⟨x, rfl, hown⟩, hb2⟩
      obtain ⟨a1, c1, rfl, hlc, _, _⟩ := textsIn.form hown
      have hb12 := hb1.trans (hb2.mono hb1.size)
      obtain ⟨f2, p0, p1, p2, p3⟩ := HO.out.below hb2
      go_wp2_with fail
      exact bodyPost_ret (v := .agg #[.string ⟨#[]⟩, .string ⟨#[]⟩, .slice none 0 0, .string ⟨#[]⟩]) (by simp [results, Tryz.results85, go_sem, p0, p1, p2, p3]) rfl ⟨rfl, (((hb12.setCell (Nat.le_refl _) _).setCell (Nat.le_refl _) _).setCell (Nat.le_refl _) _).setCell (Nat.le_refl _) _⟩
    · rw [h2] at HS
      have hvs : (V.toList == [72, 84, 84, 80, 47, 49, 46, 49]) = false := by
        rw [beq_eq_false_iff_ne]
        intro e
        apply hV
        have h := (Kls.text_cmp V vers).symm.trans (show (V.toList == vers.toList) = true by rw [e, vers_list]; rfl)
        exact of_decide_eq_true h
      go_enter Tryz.func85, Tryz.ntmps85
      go_wp2_with fail
      refine (HS.out _ hm1).mono ?_
      rintro e w2 ⟨⟨x, rfl, hown⟩, hb2⟩
      obtain ⟨a1, c1, rfl, hlc, _, hne⟩ := textsIn.form hown
      obtain ⟨g, rfl, _, hg⟩ := hne (by simp)
      have t0 := textsIn.at hown 0 _ rfl
      have t1 := textsIn.at hown 1 _ rfl
      have t2 := textsIn.at hown 2 _ rfl
      have hb12 := hb1.trans (hb2.mono hb1.size)
      obtain ⟨f2, p0, p1, p2, p3⟩ := HO.out.below hb2
      go_wp2_with fail
      exact bodyPost_ret (v := .agg #[.string ⟨#[]⟩, .string ⟨#[]⟩, .slice none 0 0, .string ⟨#[]⟩]) (by simp [results, Tryz.results85, go_sem, p0, p1, p2, p3]) rfl ⟨rfl, (((hb12.setCell (Nat.le_refl _) _).setCell (Nat.le_refl _) _).setCell (Nat.le_refl _) _).setCell (Nat.le_refl _) _⟩

end Go.Proofs.YtaplkbkpgdpbaaaGreatDoor.Tkr
