/-
  The law FnChunks: what is told of chunks again, of cut ones, and of hex digits again (pure).
-/
import Derived.Test.YtimfcbjgoilnpaaDoorFep
import Derived.Test.YtimfcbjgoilnpaaDoorCqr
import Derived.Test.YtimfcbjgoilnpaaDoorHxw
namespace Go.Proofs.YtimfcbjgoilnpaaDoor.Fkp
open Go.RowKit
open Go.Proofs.YtimfcbjgoilnpaaDoor.Byt (hexv)
open Go.Proofs.YtimfcbjgoilnpaaDoor.Chp
open Go.Proofs.YtimfcbjgoilnpaaDoor.Ckm (chk chkL sumS sumS_take sumS_le pcs pcs_parts ckS ck_yes)
open Go.Proofs.YtimfcbjgoilnpaaDoor.Hxn
open Go.Proofs.YtimfcbjgoilnpaaDoor.Hxt (hexT hexT_pos hexT_len)
open Go.Proofs.YtimfcbjgoilnpaaDoor.Hxu (htB htS ht_yes)
open Go.Proofs.YtimfcbjgoilnpaaDoor.Rkb (rcL len_eq)
open Go.Proofs.YtimfcbjgoilnpaaDoor.Cqs (rcS rcQ rcC)

/-- All pieces, one behind another. -/
def allT (l : List ByteArray) : ByteArray := ⟨(l.flatMap fun x => x.data.toList).toArray⟩
theorem allT_nil : allT [] = ⟨#[]⟩ := rfl
theorem allT_take (l : List ByteArray) (k : Nat) (h : k < l.length) : allT (l.take k) ++ l[k] = allT (l.take (k + 1)) := by
  unfold allT
  rw [List.take_succ_eq_append_getElem h, List.flatMap_append]
  apply ByteArray.ext
  simp
theorem allT_size (l : List ByteArray) : (allT l).size = sumS l := by
  unfold allT
  show (List.toArray _).size = _
  rw [List.size_toArray]
  unfold sumS
  induction l with
  | nil => rfl
  | cons x l ih => simp [ih]
theorem chkL_ge : ∀ l : List ByteArray, l.length ≤ (chkL l).length
  | [] => Nat.le_refl _
  | x :: l => by
    have := chkL_ge l
    have h2 : (chkL (x :: l)).length = (chk x).length + (chkL l).length := by simp [chkL]
    have h3 : 1 ≤ (chk x).length := by unfold chk; simp; omega
    simp only [List.length_cons]
    omega

theorem ck_size {l : List ByteArray} (h : pcs l = true) : (ckS l).size = (chkL l).length + 5 := by
  rw [ck_yes h]
  show (List.toArray _).size = _
  rw [List.size_toArray]
  simp
theorem ck_bound {l : List ByteArray} (h : pcs l = true) : (ckS l).size ≤ 800 := by
  obtain ⟨h1, h2, h3⟩ := pcs_parts h
  have hx : ∀ x ∈ l, x.size ≤ 300 := by
    intro x hx
    obtain ⟨j, hj, rfl⟩ := List.getElem_of_mem hx
    have := Ckm.sumS_at l j hj
    omega
  have := Ckm.chkL_len l hx l.length (Nat.le_refl _)
  rw [List.take_length] at this
  rw [ck_size h]
  omega
theorem again (l : List ByteArray) (h : pcs l = true) : rcS (ckS l ++ ⟨#[109, 111, 114, 101]⟩) = allT l ∧ rcQ (ckS l ++ ⟨#[109, 111, 114, 101]⟩) = (ckS l).size ∧ rcC (ckS l ++ ⟨#[109, 111, 114, 101]⟩) = 0 := by
  obtain ⟨h1, h2, h3⟩ := pcs_parts h
  have hne : ∀ x ∈ l, x.size ≠ 0 := by
    intro x hx
    obtain ⟨j, hj, rfl⟩ := List.getElem_of_mem hx
    exact h2 j hj
  have hs : (ckS l ++ ⟨#[109, 111, 114, 101]⟩).data.toList = chkL l ++ (48 :: 13 :: 10 :: 13 :: 10 :: [109, 111, 114, 101]) := by
    rw [ck_yes h]; simp
  have hz : (ckS l ++ ⟨#[109, 111, 114, 101]⟩).size = (ckS l).size + 4 := by rw [ByteArray.size_append]; rfl
  have hge := chkL_ge l
  have e : rcL (ckS l ++ ⟨#[109, 111, 114, 101]⟩) = (l.flatMap (fun x => x.data.toList), (ckS l).size, 0) := by
    unfold rcL
    rw [hs, chunks_again l [109, 111, 114, 101] [] 0 0 _ hne (by simpa using h3) (by omega) (by rw [hz, ck_size h]; omega), ck_size h]
    simp
  unfold rcS rcQ rcC
  rw [e]
  exact ⟨rfl, rfl, rfl⟩
theorem cut (l : List ByteArray) (h : pcs l = true) (i : Nat) (hi : i < (ckS l).size) : rcS ((ckS l).extract 0 i) = ⟨#[]⟩ ∧ rcQ ((ckS l).extract 0 i) = 0 ∧ rcC ((ckS l).extract 0 i) = 1 := by
  obtain ⟨h1, h2, h3⟩ := pcs_parts h
  have hne : ∀ x ∈ l, x.size ≠ 0 := by
    intro x hx
    obtain ⟨j, hj, rfl⟩ := List.getElem_of_mem hx
    exact h2 j hj
  have hs : ((ckS l).extract 0 i).data.toList = (chkL l ++ [48, 13, 10, 13, 10]).take i := by
    rw [Hdg.ext_list, List.drop_zero, ck_yes h]
  have hge := chkL_ge l
  have e : rcL ((ckS l).extract 0 i) = ([], 0, 1) := by
    unfold rcL
    have hz : ((ckS l).extract 0 i).size = i := by rw [ByteArray.size_extract]; omega
    have hsz := ck_size h
    -- the fuel is of no matter where it is more than the text's bytes
    rw [hs, chunks_fuel _ ((chkL l).length + 6) _ _ _ _ (by rw [← hs, len_eq]; omega) (by rw [← hs, len_eq, hz]; omega)]
    exact chunks_cut l [] 0 0 _ i hne (by simpa using h3) (by omega) (by omega) (by omega)
  unfold rcS rcQ rcC
  rw [e]
  exact ⟨rfl, rfl, rfl⟩

theorem hex_back (n : Nat) (h : n < 65536) : hxV (htS (n : Int)) = .tuple #[.int .i64 (n : Int), .bool true] := by
  rw [(ht_yes h).2]
  have hl : (⟨(hexT n).toArray⟩ : ByteArray).data.toList = hexT n := by simp
  have hz : (⟨(hexT n).toArray⟩ : ByteArray).size = (hexT n).length := by show (List.toArray _).size = _; simp
  have hp := hexT_pos n
  have h4 := hexT_len 3 n (by omega)
  have hall : hxAll (hexT n) = true := by
    unfold hxAll
    rw [List.all_eq_true]
    intro c hc
    exact decide_eq_true (hex_all n c hc).1
  rw [hx_yes (hxB_good (by omega) (by omega) (by rw [hl]; exact hall)), hl, hex_val]

end Go.Proofs.YtimfcbjgoilnpaaDoor.Fkp
