/-
  A reader of chunks in memory; walks: (*chunkReader).takeSize.
-/
import Derived.Test.YtimfcbjgoilnpaaDoorHxr
import Derived.Test.YtimfcbjgoilnpaaDoorOwn
import Derived.Test.YtimfcbjgoilnpaaDoorCur
namespace Go.Proofs.YtimfcbjgoilnpaaDoor.Rkb
open Go.RowKit
open Go.Proofs.YtimfcbjgoilnpaaDoor.Byt
open Go.Proofs.YtimfcbjgoilnpaaDoor.Hex
open Go.Proofs.YtimfcbjgoilnpaaDoor.Hxn
open Go.Proofs.YtimfcbjgoilnpaaDoor.Own
open Go.Proofs.YtimfcbjgoilnpaaDoor.Rka (hxN hxN_le hxN_at)
open Go.Proofs.YtimfcbjgoilnpaaDoor.Hdg (dgs dgs_size dgs_list dgs_all size_ne ahead_any ext_list)
open Go.Proofs.YtimfcbjgoilnpaaDoor.Hxr (implReadHex_any all_of)

theorem slice_of {w : World} {B : Nat} {v : Value} {l : List UInt8} (h : bytesIn w B v l) : ∃ o c, v = .slice o l.length c := by
  rcases h.2 with ⟨rfl, h0⟩ | ⟨g, cap, cur, rfl, _⟩
  · obtain rfl : l = [] := by simpa using h0
    exact ⟨_, _, rfl⟩
  · exact ⟨_, _, rfl⟩
theorem bytes_set {w : World} {B : Nat} {v : Value} {l : List UInt8} (h : bytesIn w B v l) {R : Nat} (hR : R < B) (o : Nat) (u : Value) : bytesIn (w.setCell ⟨R, o, none⟩ u) B v l := by
  refine ⟨h.1, ?_⟩
  rcases h.2 with hn | ⟨g, cap, cur, rfl, hbg, hg, rest⟩
  · exact .inl hn
  · exact .inr ⟨g, cap, cur, rfl, hbg, (Below.heap_setCell _ _ _ _ (by simp; omega)).trans hg, rest⟩
theorem bytes_drew {w : World} {B : Nat} {v : Value} {l : List UInt8} (h : bytesIn w B v l) (n : Nat) : bytesIn (w.drewN n) B v l := by
  refine ⟨h.1, ?_⟩
  rcases h.2 with hn | ⟨g, cap, cur, rfl, hbg, hg, rest⟩
  · exact .inl hn
  · exact .inr ⟨g, cap, cur, rfl, hbg, hg, rest⟩

theorem bset {R : Nat} {W w : World} (h : Below R W w) (o : Nat) (u : Value) : Below R W (w.setCell ⟨R, o, none⟩ u) := h.setCell (Nat.le_refl _) _

/-- The reader at block R: what it has yet to read, its state, the size, the pieces, the body. -/
def Rdr (w : World) (R : Nat) (t : ByteArray) (x n p : Int) (b : List UInt8) : Prop :=
  w.cell? ⟨R, 0, none⟩ = some (.string t) ∧ w.cell? ⟨R, 1, none⟩ = some (.int .i64 x) ∧ w.cell? ⟨R, 2, none⟩ = some (.int .i64 n) ∧ w.cell? ⟨R, 3, none⟩ = some (.int .i64 p) ∧
    (∃ v, w.cell? ⟨R, 4, none⟩ = some v ∧ bytesIn w (R + 1) v b) ∧ ∀ i, w.frozen? ⟨R, i, none⟩ = false
theorem Rdr.lt {w : World} {R : Nat} {t : ByteArray} {x n p : Int} {b : List UInt8} (h : Rdr w R t x n p b) : R < w.heap.size := World.block_lt_of_cell? w ⟨R, 0, none⟩ h.1
theorem Rdr.put0 {w : World} {R : Nat} {t : ByteArray} {x n p : Int} {b : List UInt8} (h : Rdr w R t x n p b) (t' : ByteArray) : Rdr (w.setCell ⟨R, 0, none⟩ (.string t')) R t' x n p b := by
  obtain ⟨h0, h1, h2, h3, ⟨v, h4, hb⟩, hf⟩ := h
  exact ⟨by simp [go_sem, h0], by simp [go_sem, h1], by simp [go_sem, h2], by simp [go_sem, h3], ⟨v, by simp [go_sem, h4], bytes_set hb (by omega) _ _⟩, fun i => by simp [go_sem, hf]⟩
theorem Rdr.put1 {w : World} {R : Nat} {t : ByteArray} {x n p : Int} {b : List UInt8} (h : Rdr w R t x n p b) (x' : Int) : Rdr (w.setCell ⟨R, 1, none⟩ (.int .i64 x')) R t x' n p b := by
  obtain ⟨h0, h1, h2, h3, ⟨v, h4, hb⟩, hf⟩ := h
  exact ⟨by simp [go_sem, h0], by simp [go_sem, h1], by simp [go_sem, h2], by simp [go_sem, h3], ⟨v, by simp [go_sem, h4], bytes_set hb (by omega) _ _⟩, fun i => by simp [go_sem, hf]⟩
theorem Rdr.put2 {w : World} {R : Nat} {t : ByteArray} {x n p : Int} {b : List UInt8} (h : Rdr w R t x n p b) (n' : Int) : Rdr (w.setCell ⟨R, 2, none⟩ (.int .i64 n')) R t x n' p b := by
  obtain ⟨h0, h1, h2, h3, ⟨v, h4, hb⟩, hf⟩ := h
  exact ⟨by simp [go_sem, h0], by simp [go_sem, h1], by simp [go_sem, h2], by simp [go_sem, h3], ⟨v, by simp [go_sem, h4], bytes_set hb (by omega) _ _⟩, fun i => by simp [go_sem, hf]⟩
theorem Rdr.put3 {w : World} {R : Nat} {t : ByteArray} {x n p : Int} {b : List UInt8} (h : Rdr w R t x n p b) (p' : Int) : Rdr (w.setCell ⟨R, 3, none⟩ (.int .i64 p')) R t x n p' b := by
  obtain ⟨h0, h1, h2, h3, ⟨v, h4, hb⟩, hf⟩ := h
  exact ⟨by simp [go_sem, h0], by simp [go_sem, h1], by simp [go_sem, h2], by simp [go_sem, h3], ⟨v, by simp [go_sem, h4], bytes_set hb (by omega) _ _⟩, fun i => by simp [go_sem, hf]⟩
theorem Rdr.drewN {w : World} {R : Nat} {t : ByteArray} {x n p : Int} {b : List UInt8} (h : Rdr w R t x n p b) (m : Nat) : Rdr (w.drewN m) R t x n p b := by
  obtain ⟨h0, h1, h2, h3, ⟨v, h4, hb⟩, hf⟩ := h
  exact ⟨h0, h1, h2, h3, ⟨v, h4, bytes_drew hb m⟩, hf⟩

set_option maxHeartbeats 800000 in
theorem takeSize_more (R : Nat) (t : ByteArray) (x n p : Int) (b : List UInt8) (w : World) (hT : Tab w) (hR : Rdr w R t x n p b) (hs : t.size ≤ 4000000) (h : hxN t.data.toList = t.size) (h4 : t.size ≤ 4) :
    Calls Tryd.prog 39 #[.pointer (some ⟨R, 0, none⟩)] w fun e w' => e = .returned (.int .i64 1) ∧ w' = w := by
  have HD : Hid (∀ wx, Tab wx → Calls Tryd.prog 51 #[.string t] wx fun e w' => e = .returned (.string t) ∧ w' = wx) := by
    intro wx h'
    have := ahead_any t wx h' hs
    rwa [dgs_all h] at this
  have HT : Hid (Tab w) := hT
  obtain ⟨c0, _⟩ := hR
  clear hT h
  go_enter Tryd.func39, Tryd.ntmps39
  go_wp2_with (go_at_call 51; refine (HD.out _ HT.out).mono ?_; rintro e w1 ⟨rfl, hw⟩; obtain rfl := hw.symm)
  go_ret
  exact ⟨rfl, rfl⟩

set_option maxHeartbeats 800000 in
theorem takeSize_none (R : Nat) (t : ByteArray) (x n p : Int) (b : List UInt8) (w : World) (hT : Tab w) (hR : Rdr w R t x n p b) (hs : t.size ≤ 4000000) (h : (hxN t.data.toList = 0 ∧ t.size ≠ 0) ∨ 4 < hxN t.data.toList) :
    Calls Tryd.prog 39 #[.pointer (some ⟨R, 0, none⟩)] w fun e w' => e = .returned (.int .i64 2) ∧ w' = w := by
  have HD : Hid (∀ wx, Tab wx → Calls Tryd.prog 51 #[.string t] wx fun e w' => e = .returned (.string (dgs t)) ∧ w' = wx) := fun wx h' => ahead_any t wx h' hs
  have hz := dgs_size t
  have hle := hxN_le t.data.toList
  have hlt : t.data.toList.length = t.size := by simp
  have HX : Hid (∀ wx, Tab wx → Calls Tryd.prog 31 #[.string (dgs t)] wx fun e w' => e = .returned (.tuple #[.int .i64 0, .bool false]) ∧ w' = wx) := by
    intro wx h'
    have := implReadHex_any (dgs t) wx h' (by omega)
    rwa [hx_no (by rcases h with h | h; · exact hxB_short (by omega)
                   · exact hxB_long (by omega))] at this
  have HT : Hid (Tab w) := hT
  obtain ⟨c0, _⟩ := hR
  by_cases he : hxN t.data.toList = t.size
  · have h4 : 4 < t.size := by omega
    rw [dgs_all he] at HD HX
    clear hT h hz hle hlt he
    go_enter Tryd.func39, Tryd.ntmps39
    go_wp2_with (first
      | (go_at_call 51; refine (HD.out _ HT.out).mono ?_; rintro e w1 ⟨rfl, hw⟩; obtain rfl := hw.symm)
      | (go_at_call 31; refine (HX.out _ HT.out).mono ?_; rintro e w1 ⟨rfl, hw⟩; obtain rfl := hw.symm))
    go_ret
    exact ⟨rfl, rfl⟩
  · have hq : ((dgs t).toList == t.toList) = false := size_ne (by omega)
    generalize dgs t = D at HD HX hq
    clear hT h hz hle hlt he
    go_enter Tryd.func39, Tryd.ntmps39
    go_wp2_with (first
      | (go_at_call 51; refine (HD.out _ HT.out).mono ?_; rintro e w1 ⟨rfl, hw⟩; obtain rfl := hw.symm)
      | (go_at_call 31; refine (HX.out _ HT.out).mono ?_; rintro e w1 ⟨rfl, hw⟩; obtain rfl := hw.symm))
    go_ret
    exact ⟨rfl, rfl⟩

/-- The calls of takeSize where there are 1 to 4 digits and more behind them. -/
theorem some_facts (t : ByteArray) (hs : t.size ≤ 4000000) (h1 : 1 ≤ hxN t.data.toList) (h4 : hxN t.data.toList ≤ 4) (hl : hxN t.data.toList < t.size) :
    (∀ wx, Tab wx → Calls Tryd.prog 51 #[.string t] wx fun e w' => e = .returned (.string (dgs t)) ∧ w' = wx) ∧
    (∀ wx, Tab wx → Calls Tryd.prog 31 #[.string (dgs t)] wx fun e w' => e = .returned (.tuple #[.int .i64 (hxL (t.data.toList.take (hxN t.data.toList)) : Nat), .bool true]) ∧ w' = wx) ∧
    ((dgs t).toList == t.toList) = false ∧ (dgs t).size = hxN t.data.toList := by
  have hz := dgs_size t
  have hxd : hxN (dgs t).data.toList = (dgs t).size := by
    refine Rka.hxN_is _ _ (by simp) (fun j hj => ?_) (fun h => absurd h (by simp))
    have hj' : j < hxN t.data.toList := by omega
    rw [dgs_list, List.getElem?_take_of_lt hj']
    exact hxN_at _ _ hj'
  refine ⟨fun wx h => ahead_any t wx h hs, fun wx h => ?_, size_ne (by omega), hz⟩
  have := implReadHex_any (dgs t) wx h (by omega)
  rwa [hx_yes (hxB_good (by omega) (by omega) (all_of hxd)), dgs_list] at this

set_option maxHeartbeats 800000 in
theorem takeSize_great (R : Nat) (t : ByteArray) (x n p : Int) (b : List UInt8) (w : World) (hT : Tab w) (hR : Rdr w R t x n p b) (hs : t.size ≤ 4000000) (h1 : 1 ≤ hxN t.data.toList) (h4 : hxN t.data.toList ≤ 4) (hl : hxN t.data.toList < t.size)
    (hb : b.length ≤ 300) (hp0 : 0 ≤ p) (hp : p ≤ 60) (h : 300 < b.length + hxL (t.data.toList.take (hxN t.data.toList)) ∨ (0 < hxL (t.data.toList.take (hxN t.data.toList)) ∧ p = 60)) :
    Calls Tryd.prog 39 #[.pointer (some ⟨R, 0, none⟩)] w fun e w' => e = .returned (.int .i64 2) ∧ Below R w w' := by
  obtain ⟨HD0, HX0, hq, hz⟩ := some_facts t hs h1 h4 hl
  have hbd : hxL (t.data.toList.take (hxN t.data.toList)) < 65536 := by
    have := hxL_bd t (hxN t.data.toList) (by omega)
    exact Nat.lt_of_lt_of_le this (Nat.le_trans (Nat.pow_le_pow_right (by omega) h4) (by decide))
  have hlt := hR.lt
  obtain ⟨c0, c1, c2, c3, ⟨v, c4, hv⟩, hf⟩ := hR
  obtain ⟨o, c, rfl⟩ := slice_of hv
  generalize hxL (t.data.toList.take (hxN t.data.toList)) = m at *
  generalize dgs t = D at *
  have HD : Hid _ := HD0
  have HX : Hid _ := HX0
  have HT : Hid (Tab w) := hT
  by_cases hgr : 300 < b.length + m
  · clear hT h hz h1 h4 hl HD0 HX0 hv
    go_enter Tryd.func39, Tryd.ntmps39
    go_wp2_with (first
      | (go_at_call 51; refine (HD.out _ HT.out).mono ?_; rintro e w1 ⟨rfl, hw⟩; obtain rfl := hw.symm)
      | (go_at_call 31; refine (HX.out _ HT.out).mono ?_; rintro e w1 ⟨rfl, hw⟩; obtain rfl := hw.symm))
    go_ret
    exact ⟨rfl, Below.refl _ _⟩
  · obtain ⟨hm, rfl⟩ : 0 < m ∧ p = 60 := by rcases h with h | h; · omega
                                            · exact h
    clear hT h hz h1 h4 hl HD0 HX0 hv
    go_enter Tryd.func39, Tryd.ntmps39
    go_wp2_with (first
      | (go_at_call 51; refine (HD.out _ HT.out).mono ?_; rintro e w1 ⟨rfl, hw⟩; obtain rfl := hw.symm)
      | (go_at_call 31; refine (HX.out _ HT.out).mono ?_; rintro e w1 ⟨rfl, hw⟩; obtain rfl := hw.symm))
    go_ret
    exact ⟨rfl, bset (Below.refl R w) _ _⟩

set_option maxHeartbeats 800000 in
theorem takeSize_goes (R : Nat) (t : ByteArray) (n : Int) (p : Nat) (b : List UInt8) (w : World) (hT : Tab w) (hR : Rdr w R t 0 n p b) (hs : t.size ≤ 4000000) (h1 : 1 ≤ hxN t.data.toList) (h4 : hxN t.data.toList ≤ 4) (hl : hxN t.data.toList < t.size)
    (hb : b.length ≤ 300) (hp : p ≤ 60) (h : ¬ (300 < b.length + hxL (t.data.toList.take (hxN t.data.toList)) ∨ (0 < hxL (t.data.toList.take (hxN t.data.toList)) ∧ p = 60))) :
    Calls Tryd.prog 39 #[.pointer (some ⟨R, 0, none⟩)] w fun e w' => e = .returned (.int .i64 0) ∧ Below R w w' ∧ ∃ P : Nat, P ≤ 60 ∧ (0 < hxL (t.data.toList.take (hxN t.data.toList)) → P = p + 1) ∧ Rdr w' R (t.extract (hxN t.data.toList) t.size) 1 (hxL (t.data.toList.take (hxN t.data.toList)) : Nat) P b := by
  obtain ⟨HD0, HX0, hq, hz⟩ := some_facts t hs h1 h4 hl
  have HRd : Hid (Rdr w R t 0 n p b) := hR
  rw [← dgs_list] at h ⊢
  rw [← dgs_list] at HX0
  rw [← hz]
  rw [← hz] at h1 h4 hl
  have hlt := hR.lt
  obtain ⟨c0, c1, c2, c3, ⟨v, c4, hv⟩, hf⟩ := hR
  obtain ⟨o, c, rfl⟩ := slice_of hv
  clear hz
  generalize hxL (dgs t).data.toList = m at *
  generalize dgs t = D at *
  have HD : Hid _ := HD0
  have HX : Hid _ := HX0
  have HT : Hid (Tab w) := hT
  have hg1 : b.length + m ≤ 300 := by omega
  by_cases hm : 0 < m
  · have hg2 : p < 60 := by omega
    clear hT h h1 h4 HD0 HX0 hv
    go_enter Tryd.func39, Tryd.ntmps39
    go_wp2_with (first
      | (go_at_call 51; refine (HD.out _ HT.out).mono ?_; rintro e w1 ⟨rfl, hw⟩; obtain rfl := hw.symm)
      | (go_at_call 31; refine (HX.out _ HT.out).mono ?_; rintro e w1 ⟨rfl, hw⟩; obtain rfl := hw.symm))
    go_ret
    exact ⟨rfl, bset (bset (bset (bset (Below.refl R w) _ _) _ _) _ _) _ _, p + 1, by omega, fun _ => rfl, ((((HRd.out).put3 _).put2 _).put0 _).put1 _⟩
  · obtain rfl : m = 0 := by omega
    clear hT h h1 h4 HD0 HX0 hv
    go_enter Tryd.func39, Tryd.ntmps39
    go_wp2_with (first
      | (go_at_call 51; refine (HD.out _ HT.out).mono ?_; rintro e w1 ⟨rfl, hw⟩; obtain rfl := hw.symm)
      | (go_at_call 31; refine (HX.out _ HT.out).mono ?_; rintro e w1 ⟨rfl, hw⟩; obtain rfl := hw.symm))
    go_ret
    exact ⟨rfl, bset (bset (bset (Below.refl R w) _ _) _ _) _ _, p, hp, fun h => absurd h (by omega), (((HRd.out).put2 _).put0 _).put1 _⟩

end Go.Proofs.YtimfcbjgoilnpaaDoor.Rkb
