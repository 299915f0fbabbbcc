/-
  Of a good response's bytes, whatever stands behind them, the same response is taken; and the same of a request's.
-/
import Derived.Test.YtaplkbkpgdpbaaaGreatDoorMg10
import Derived.Test.YtaplkbkpgdpbaaaGreatDoorTpi
import Derived.Test.YtaplkbkpgdpbaaaGreatDoorRpb
namespace Go.Proofs.YtaplkbkpgdpbaaaGreatDoor.Tor
open Go.RowKit
open Go.Lib
open Go.Proofs.YtaplkbkpgdpbaaaGreatDoor.Fbs
open Go.Proofs.YtaplkbkpgdpbaaaGreatDoor.Fch
open Go.Proofs.YtaplkbkpgdpbaaaGreatDoor.Tri
open Go.Proofs.YtaplkbkpgdpbaaaGreatDoor.Fvs
open Go.Proofs.YtaplkbkpgdpbaaaGreatDoor.Hdl
open Go.Proofs.YtaplkbkpgdpbaaaGreatDoor.Tkr
open Go.Proofs.YtaplkbkpgdpbaaaGreatDoor.Rqb
open Go.Proofs.YtaplkbkpgdpbaaaGreatDoor.Lnp
open Go.Proofs.YtaplkbkpgdpbaaaGreatDoor.Fgd (goodF edgeB)
open Go.Proofs.YtaplkbkpgdpbaaaGreatDoor.Fdb (fieldsIn FV fv_of)
open Go.Proofs.YtaplkbkpgdpbaaaGreatDoor.Rsb (stB rsC rsB rs_is firstP)
open Go.Proofs.YtaplkbkpgdpbaaaGreatDoor.Num (num num_more num_one)
open Go.Proofs.YtaplkbkpgdpbaaaGreatDoor.Wgt (rdL)
open Go.Proofs.YtaplkbkpgdpbaaaGreatDoor.Tpr

theorem num3 {n : Nat} (h1 : 100 ≤ n) (h2 : n ≤ 599) : (num n).data.toList = [UInt8.ofNat (48 + n / 100), UInt8.ofNat (48 + n / 10 % 10), UInt8.ofNat (48 + n % 10)] := by
  rw [num_more (show ¬ n < 10 by omega), num_more (show ¬ n / 10 < 10 by omega), num_one (show n / 10 / 10 < 10 by omega)]
  simp [Nat.div_div_eq_div_mul]
theorem dig3 : ∀ n : Nat, n < 600 → 100 ≤ n → rdL [UInt8.ofNat (48 + n / 100), UInt8.ofNat (48 + n / 10 % 10), UInt8.ofNat (48 + n % 10)] 0 = (n : Int) ∧ ∀ c ∈ [UInt8.ofNat (48 + n / 100), UInt8.ofNat (48 + n / 10 % 10), UInt8.ofNat (48 + n % 10)], c ≠ 13 ∧ c ≠ 32 := by decide +kernel

theorem first_toldP {S : Int} {R : ByteArray} (hS : stB S = true) (hR : rsnB R = true) : toldP (firstP S R) = (S, R) ∧ ∀ x ∈ (firstP S R).data.toList, x ≠ 13 := by
  unfold stB at hS
  unfold rsnB at hR
  simp only [Bool.and_eq_true, decide_eq_true_eq] at hS hR
  obtain ⟨n, rfl⟩ := Int.eq_ofNat_of_zero_le (show 0 ≤ S by omega)
  obtain ⟨d1, d2⟩ := dig3 n (by omega) (by omega)
  have hn := num3 (n := n) (by omega) (by omega)
  rw [← hn] at d1 d2
  have hz : (num n).size = 3 := by
    have : (num n).data.toList.length = (num n).size := by simp
    rw [← this, hn]; rfl
  have hl : firstP (n : Int) R = vers ++ ⟨#[32]⟩ ++ (num n ++ ⟨#[32]⟩ ++ R) := by
    unfold firstP spc3
    rw [Int.toNat_natCast]
    apply ByteArray.ext; simp
  obtain ⟨k1, k2, k3⟩ := cut_at vers (num n ++ ⟨#[32]⟩ ++ R) 32 (by decide)
  obtain ⟨j1, j2, j3⟩ := cut_at (num n) R 32 (fun x hx => (d2 x hx).2)
  rw [← hl] at k1 k2 k3
  have hp := plain_bytes hR.1
  refine ⟨?_, ?_⟩
  · rw [told_yes (s := firstP (n : Int) R) ⟨⟨k1, k2⟩, by rw [k3]; exact j1, by rw [k3, j2]; exact hz⟩, k3, j2, j3, d1]
  · intro x hx
    have hd : (firstP (n : Int) R).data.toList = vers.data.toList ++ 32 :: ((num n).data.toList ++ 32 :: R.data.toList) := by rw [hl]; simp
    rw [hd] at hx
    rcases List.mem_append.1 hx with hx | hx
    · have : ∀ y ∈ vers.data.toList, y ≠ 13 := by decide
      exact this x hx
    · rcases List.mem_cons.1 hx with rfl | hx
      · decide
      · rcases List.mem_append.1 hx with hx | hx
        · exact (d2 x hx).1
        · rcases List.mem_cons.1 hx with rfl | hx
          · decide
          · exact hp x hx

theorem rs_parts {S : Int} {R : ByteArray} {l : List (ByteArray × ByteArray)} {B : ByteArray} (h : rsB S R l B = true) : stB S = true ∧ rsnB R = true ∧ goodL l = true ∧ frB l B = true ∧ (headS (firstP S R) l).size ≤ 2000 := by
  unfold rsB at h
  simp only [Bool.and_eq_true] at h
  exact ⟨h.1, h.2.1, h.2.2.1, h.2.2.2.1, by have := of_decide_eq_true h.2.2.2.2; omega⟩

/-- What is taken of a text that begins with a good response's bytes. -/
theorem take_toldP {S : Int} {R : ByteArray} {l : List (ByteArray × ByteArray)} {B : ByteArray} (h : rsB S R l B = true) (s : ByteArray) (r : List UInt8) (hs : s.data.toList = (headS (firstP S R) l).data.toList ++ (B.data.toList ++ r)) :
    cutO s = some (firstP S R :: l.map lineS, (headS (firstP S R) l).size) ∧ tpM (firstP S R :: l.map lineS) = (S, R) ∧ tkF (firstP S R :: l.map lineS) = l ∧ tkB s (firstP S R :: l.map lineS) (headS (firstP S R) l).size = B ∧ tpC s (firstP S R :: l.map lineS) (headS (firstP S R) l).size = 0 := by
  obtain ⟨h1, h2, h3, h4, h5⟩ := rs_parts h
  obtain ⟨_, hg⟩ := good_all h3
  obtain ⟨f1, f2⟩ := first_toldP h1 h2
  obtain ⟨b1, b2, _⟩ := fr_parts h3 h4
  have hc := (cut_head _ l s _ hs f2 (fun x hx => (fld_line (hg x hx)).2) h5).1
  have hM : tpM (firstP S R :: l.map lineS) = (S, R) := f1
  have hF : tkF (firstP S R :: l.map lineS) = l := map_fld hg
  have hH : (headS (firstP S R) l).data.toList.length = (headS (firstP S R) l).size := by simp
  have hBl : B.data.toList.length = B.size := by simp
  have hSl : s.data.toList.length = s.size := by simp
  have hB : tkB s (firstP S R :: l.map lineS) (headS (firstP S R) l).size = B := by
    unfold tkB bodyO
    rw [hF, b2]
    have hr : s.extract (headS (firstP S R) l).size s.size = mkB (B.data.toList ++ r) := by
      have hsl : s.size = (headS (firstP S R) l).data.toList.length + (B.data.toList ++ r).length := by rw [← hSl, hs, List.length_append]
      rw [mkB_extract, hs, ← hH, List.drop_left, List.take_of_length_le (by omega)]
    rw [hr]
    have hz : (mkB (B.data.toList ++ r)).size = B.size + r.length := by unfold mkB; show (B.data.toList ++ r).toArray.size = _; rw [List.size_toArray, List.length_append, hBl]
    rw [hz]
    show (mkB (B.data.toList ++ r)).extract 0 (min (B.size : Int).toNat (B.size + r.length)) = B
    rw [show min (B.size : Int).toNat (B.size + r.length) = B.size by omega, mkB_extract]
    have hd : (mkB (B.data.toList ++ r)).data.toList = B.data.toList ++ r := by unfold mkB; simp
    rw [hd, List.drop_zero, Nat.sub_zero, List.take_append_of_le_length (by omega), List.take_of_length_le (by omega), mkB_list]
  refine ⟨hc, hM, hF, hB, ?_⟩
  unfold tpC
  rw [hM, hF, hB]
  have := rs_is S R l B
  rw [h] at this
  exact of_decide_eq_true this.symm

theorem more_told {M T : ByteArray} {l : List (ByteArray × ByteArray)} {B : ByteArray} (h : rqB M T l B = true) (X : ByteArray) {w : World} {lo : Nat} {e : Ending} (he : ToldR w lo e (fun c => .int .i64 c) (headS (firstR M T) l ++ B ++ X)) :
    ∃ (a : Option Addr) (q : Nat), e = .returned (.tuple #[.agg #[.string M, .string T, .slice a l.length q, .string B], .int .i64 ((headS (firstR M T) l ++ B).size : Int), .int .i64 0]) ∧ FV w a l lo w.heap.size := by
  obtain ⟨t1, t2, t3, t4, t5⟩ := take_told h (headS (firstR M T) l ++ B ++ X) X.data.toList (by simp)
  unfold ToldR at he
  rw [t1] at he
  dsimp only at he
  rw [t5, if_pos rfl, t2, t3, t4] at he
  obtain ⟨x, rfl, hx⟩ := he
  obtain ⟨a, q, rfl, hv⟩ := fv_of hx
  refine ⟨a, q, ?_, hv⟩
  rw [ByteArray.size_append]
  rfl
theorem more_toldP {S : Int} {R : ByteArray} {l : List (ByteArray × ByteArray)} {B : ByteArray} (h : rsB S R l B = true) (X : ByteArray) {w : World} {lo : Nat} {e : Ending} (he : ToldP w lo e (fun c => .int .i64 c) (headS (firstP S R) l ++ B ++ X)) :
    ∃ (a : Option Addr) (q : Nat), e = .returned (.tuple #[.agg #[.int .i64 S, .string R, .slice a l.length q, .string B], .int .i64 ((headS (firstP S R) l ++ B).size : Int), .int .i64 0]) ∧ FV w a l lo w.heap.size := by
  obtain ⟨t1, t2, t3, t4, t5⟩ := take_toldP h (headS (firstP S R) l ++ B ++ X) X.data.toList (by simp)
  unfold ToldP at he
  rw [t1] at he
  dsimp only at he
  rw [t5, if_pos rfl, t2, t3, t4] at he
  obtain ⟨x, rfl, hx⟩ := he
  obtain ⟨a, q, rfl, hv⟩ := fv_of hx
  refine ⟨a, q, ?_, hv⟩
  rw [ByteArray.size_append]
  rfl

end Go.Proofs.YtaplkbkpgdpbaaaGreatDoor.Tor
