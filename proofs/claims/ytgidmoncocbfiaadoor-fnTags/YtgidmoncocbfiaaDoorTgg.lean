/-
  Pure: two tags told in a list are told again. What is the same, both ways.
-/
import Derived.Test.YtgidmoncocbfiaaDoorLpv
import Derived.Test.YtgidmoncocbfiaaDoorTgc
import Derived.Test.YtgidmoncocbfiaaDoorTgx
namespace Go.Proofs.YtgidmoncocbfiaaDoor.Tgx
open Go.RowKit
open Go.Proofs.YtgidmoncocbfiaaDoor.Fbs
open Go.Proofs.YtgidmoncocbfiaaDoor.Tga Go.Proofs.YtgidmoncocbfiaaDoor.Tgb
open Go.Proofs.YtgidmoncocbfiaaDoor.Lpu

/-- The bytes of a tag told. -/
def tagL (k : Bool) (t : ByteArray) : List UInt8 := (if k then [87, 47] else []) ++ 34 :: (t.data.toList ++ [34])
theorem tagT_list (k : Bool) (t : ByteArray) : (tagT k t).data.toList = tagL k t := by
  unfold tagT tagL
  cases k <;> simp
theorem run_inn : ∀ l : List UInt8, l.all okT = true → run .inn l = some .inn
  | [], _ => rfl
  | c :: r, h => by
    rw [List.all_cons, Bool.and_eq_true] at h
    have hc := of_decide_eq_true h.1
    rw [run_cons, if_neg (by simp)]
    show run (if c.toNat = 34 then .out else if c.toNat = 92 then .esc else .inn) r = _
    rw [if_neg hc.2.2.1, if_neg hc.2.2.2]
    exact run_inn r h.2
theorem tag_okT {t : ByteArray} (h : tagB t = true) : t.data.toList.all okT = true ∧ t.size ≤ 60 := by
  unfold tagB at h
  rw [Bool.and_eq_true] at h
  exact ⟨h.1, of_decide_eq_true h.2⟩
theorem part_tag (k : Bool) {t : ByteArray} (h : tagB t = true) : Part (tagL k t) := by
  unfold Part tagL
  have e : run .out (if k then [87, 47] else ([] : List UInt8)) = some .out := by cases k <;> rfl
  rw [run_app, e]
  show run .out (34 :: (t.data.toList ++ [34])) = _
  rw [run_cons, if_neg (by decide)]
  show run .inn (t.data.toList ++ [34]) = _
  rw [run_app, run_inn _ (tag_okT h).1]
  rfl
theorem part_blank {p : List UInt8} (h : Part p) : Part (32 :: p) := by
  unfold Part at h ⊢
  rw [run_cons, if_neg (by decide)]
  exact h
theorem trim_ends (c : UInt8) (m : List UInt8) (hc : c ≠ 32) : Lib.trimB (c :: (m ++ [34])) 32 = c :: (m ++ [34]) := by
  have e : Lib.trimRightB (c :: (m ++ [34])) 32 = c :: (m ++ [34]) := by
    unfold Lib.trimRightB
    rw [show c :: (m ++ [34]) = (c :: m) ++ [34] from rfl, List.reverse_append]
    show (List.dropWhile _ (34 :: (c :: m).reverse)).reverse = _
    rw [List.dropWhile_cons]
    simp
  unfold Lib.trimB
  rw [e]
  unfold Lib.trimLeftB
  rw [List.dropWhile_cons]
  simp [hc]
theorem trim_blank (c : UInt8) (m : List UInt8) (hc : c ≠ 32) : Lib.trimB (32 :: c :: (m ++ [34])) 32 = c :: (m ++ [34]) := by
  have e : Lib.trimRightB (32 :: c :: (m ++ [34])) 32 = 32 :: c :: (m ++ [34]) := by
    unfold Lib.trimRightB
    rw [show 32 :: c :: (m ++ [34]) = (32 :: c :: m) ++ [34] from rfl, List.reverse_append]
    show (List.dropWhile _ (34 :: (32 :: c :: m).reverse)).reverse = _
    rw [List.dropWhile_cons]
    simp
  unfold Lib.trimB
  rw [e]
  unfold Lib.trimLeftB
  rw [List.dropWhile_cons]
  simp [hc]
theorem tagL_form (k : Bool) (t : ByteArray) : ∃ c m, tagL k t = c :: (m ++ [34]) ∧ c ≠ 32 := by
  unfold tagL
  cases k
  · exact ⟨34, t.data.toList, rfl, by decide⟩
  · exact ⟨87, 47 :: 34 :: t.data.toList, by simp, by decide⟩
theorem trim_tag (k : Bool) (t : ByteArray) : Lib.trimB (tagL k t) 32 = tagL k t ∧ Lib.trimB (32 :: tagL k t) 32 = tagL k t := by
  obtain ⟨c, m, e, hc⟩ := tagL_form k t
  rw [e]
  exact ⟨trim_ends c m hc, trim_blank c m hc⟩
theorem plain_tag (k : Bool) {t : ByteArray} (h : tagB t = true) : plainB (tagL k t) = true := by
  unfold tagL plainB
  have ht : t.data.toList.all (fun c => seenB (c.toNat : Int)) = true := by
    rw [List.all_eq_true]
    intro c hc
    have := of_decide_eq_true (List.all_eq_true.1 (tag_okT h).1 c hc)
    unfold seenB
    rw [decide_eq_true (by omega), decide_eq_true (by omega)]; rfl
  cases k
  · simp only [Bool.false_eq_true, if_false, List.nil_append, List.all_cons, List.all_append, ht]
    rfl
  · simp only [if_true, List.cons_append, List.nil_append, List.all_cons, List.all_append, ht]
    rfl
theorem tagT_size (k : Bool) {t : ByteArray} (h : tagB t = true) : 2 ≤ (tagT k t).size ∧ (tagT k t).size ≤ 64 := by
  have e1 : (tagT k t).data.toList.length = (tagT k t).size := by simp
  have e2 : t.data.toList.length = t.size := by simp
  have := (tag_okT h).2
  rw [tagT_list] at e1
  unfold tagL at e1
  cases k
  · simp only [Bool.false_eq_true, if_false, List.nil_append, List.length_cons, List.length_append, List.length_nil] at e1
    omega
  · simp only [if_true, List.cons_append, List.nil_append, List.length_cons, List.length_append, List.length_nil] at e1
    omega
theorem mk_tag (k : Bool) (t : ByteArray) : (⟨(tagL k t).toArray⟩ : ByteArray) = tagT k t := by
  rw [← tagT_list]

/-- Two tags in a list. -/
theorem two_tags (k1 k2 : Bool) {t1 t2 : ByteArray} (h1 : tagB t1 = true) (h2 : tagB t2 = true) : Lsp.listO ((tagT k1 t1 ++ ⟨#[44, 32]⟩) ++ tagT k2 t2) = some [tagT k1 t1, tagT k2 t2] := by
  have hl : ((tagT k1 t1 ++ ⟨#[44, 32]⟩) ++ tagT k2 t2).data.toList = jn [tagL k1 t1, 32 :: tagL k2 t2] := by
    show _ = tagL k1 t1 ++ 44 :: (32 :: tagL k2 t2)
    rw [← tagT_list, ← tagT_list]
    simp
  have hs : ((tagT k1 t1 ++ ⟨#[44, 32]⟩) ++ tagT k2 t2).size ≤ 300 := by
    have c2 : (⟨#[44, 32]⟩ : ByteArray).size = 2 := rfl
    rw [ByteArray.size_append, ByteArray.size_append, c2]
    have a := (tagT_size k1 h1).2
    have b := (tagT_size k2 h2).2
    omega
  have hp : plainB ((tagT k1 t1 ++ ⟨#[44, 32]⟩) ++ tagT k2 t2).data.toList = true := by
    rw [hl]
    show plainB (tagL k1 t1 ++ 44 :: (32 :: tagL k2 t2)) = true
    have a := plain_tag k1 h1
    have b := plain_tag k2 h2
    unfold plainB at a b ⊢
    rw [List.all_append, a, List.all_cons, List.all_cons, b]
    rfl
  unfold Lsp.listO
  rw [if_pos ⟨hp, hs⟩, listL_spl, hl, spl_jn _ (by simp) (by
    intro p hp
    simp only [List.mem_cons, List.not_mem_nil, or_false] at hp
    rcases hp with rfl | rfl
    · exact part_tag k1 h1
    · exact part_blank (part_tag k2 h2))]
  show some (clean [tagL k1 t1, 32 :: tagL k2 t2]) = _
  unfold clean
  rw [List.map_cons, List.map_cons, List.map_nil, (trim_tag k1 t1).1, (trim_tag k2 t2).2, mk_tag, mk_tag]
  have a := (tagT_size k1 h1).1
  have b := (tagT_size k2 h2).1
  rw [List.filter_cons, if_pos (by simp; intro e; rw [e] at a; exact absurd a (by decide)), List.filter_cons, if_pos (by simp; intro e; rw [e] at b; exact absurd b (by decide)), List.filter_nil]
theorem two_kind (k1 k2 : Bool) {t1 t2 : ByteArray} (h1 : tagB t1 = true) (h2 : tagB t2 = true) : kindR (Lsp.listO ((tagT k1 t1 ++ ⟨#[44, 32]⟩) ++ tagT k2 t2)) = 2 ∧ tagsR (Lsp.listO ((tagT k1 t1 ++ ⟨#[44, 32]⟩) ++ tagT k2 t2)) = [(k1, t1), (k2, t2)] := by
  have hk : kindR (some [tagT k1 t1, tagT k2 t2]) = 2 := by
    apply kind_tags (by simp) (by simp)
    · unfold starB
      simp
    · unfold okAll
      simp [read_tag k1 h1, read_tag k2 h2]
  rw [two_tags k1 k2 h1 h2]
  refine ⟨hk, ?_⟩
  unfold tagsR
  rw [if_pos hk]
  show outs [tagT k1 t1, tagT k2 t2] = _
  unfold outs
  simp [read_tag k1 h1, read_tag k2 h2]

theorem same_comm (t1 t2 : ByteArray) : sameB t1 t2 = sameB t2 t1 := by
  unfold sameB
  rw [Bool.and_comm (tagB t1), Bool.beq_comm]
theorem strong_comm (k1 : Bool) (t1 : ByteArray) (k2 : Bool) (t2 : ByteArray) : strongB k1 t1 k2 t2 = strongB k2 t2 k1 t1 := by
  unfold strongB
  rw [Bool.and_comm (tagB t1), Bool.beq_comm (a := t1.toList)]
  cases k1 <;> cases k2 <;> simp
theorem strong_weak {k1 : Bool} {t1 : ByteArray} {k2 : Bool} {t2 : ByteArray} (h : strongB k1 t1 k2 t2 = true) : sameB t1 t2 = true := by
  unfold strongB at h
  unfold sameB
  revert h
  cases tagB t1 <;> cases tagB t2 <;> cases k1 <;> cases k2 <;> simp
theorem strong_self (k : Bool) {t : ByteArray} (h : tagB t = true) : strongB k t k t = !k := by
  unfold strongB
  rw [h]
  cases k <;> simp

end Go.Proofs.YtgidmoncocbfiaaDoor.Tgx
