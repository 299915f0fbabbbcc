/-
  Walk: impl.takeResponse.
-/
import Derived.Test.YtaplkbkpgdpbaaaGreatDoorTpl
import Derived.Test.YtaplkbkpgdpbaaaGreatDoorTki
import Derived.Test.YtaplkbkpgdpbaaaGreatDoorRsk
namespace Go.Proofs.YtaplkbkpgdpbaaaGreatDoor.Tpr
open Go.RowKit Go.Lib
open Go.Proofs.YtaplkbkpgdpbaaaGreatDoor
open Go.Proofs.YtaplkbkpgdpbaaaGreatDoor.Fbs
open Go.Proofs.YtaplkbkpgdpbaaaGreatDoor.Fch
open Go.Proofs.YtaplkbkpgdpbaaaGreatDoor.Ows
open Go.Proofs.YtaplkbkpgdpbaaaGreatDoor.Fdb
open Go.Proofs.YtaplkbkpgdpbaaaGreatDoor.Fvs
open Go.Proofs.YtaplkbkpgdpbaaaGreatDoor.Lnp
open Go.Proofs.YtaplkbkpgdpbaaaGreatDoor.Hdl (mkB cutO cdS cutHead_any)
open Go.Proofs.YtaplkbkpgdpbaaaGreatDoor.Rqb (errV Own4 err_none err_some)
open Go.Proofs.YtaplkbkpgdpbaaaGreatDoor.Rsb (PowT rsC checkResponse_any)
open Go.Proofs.YtaplkbkpgdpbaaaGreatDoor.Num (tab_below tab_lt)
open Go.Proofs.YtaplkbkpgdpbaaaGreatDoor.Tkr (tkF tkB bodyO bodyTold_any fieldsTold_any fldO fld_size cut_lines ff_form ff_set own_set own_other set_size cds_ne RowO cutZ_size cutA_size)

/-- The status and the reason that are taken. -/
def tpM (ls : List ByteArray) : Int × ByteArray := toldP (ls.headD ⟨#[]⟩)
def tpC (s : ByteArray) (ls : List ByteArray) (at_ : Nat) : Int := rsC (tpM ls).1 (tpM ls).2 (tkF ls) (tkB s ls at_)
theorem toldP_size (x : ByteArray) : (toldP x).2.size ≤ x.size := by
  unfold toldP
  cases h : statO x with
  | none => exact Nat.zero_le _
  | some p =>
    unfold statO at h
    split at h
    · obtain rfl := Option.some.inj h
      exact Nat.le_trans (cutZ_size _ 32) (cutZ_size x 32)
    · cases h

/-- What a take leaves, the fault as 'v' tells it. -/
def ToldP (w : World) (B : Nat) (e : Ending) (v : Int → Value) (s : ByteArray) : Prop :=
  match cutO s with
  | none => e = .returned (.tuple #[.agg #[.int .i64 0, .string ⟨#[]⟩, .slice none 0 0, .string ⟨#[]⟩], .int .i64 0, v (cdS s)])
  | some (ls, n) => if tpC s ls n = 0 then ∃ x, e = .returned (.tuple #[.agg #[.int .i64 (tpM ls).1, .string (tpM ls).2, x, .string (tkB s ls n)], .int .i64 ((n : Int) + (tkB s ls n).size), v 0]) ∧ fieldsIn w B x (tkF ls)
    else e = .returned (.tuple #[.agg #[.int .i64 0, .string ⟨#[]⟩, .slice none 0 0, .string ⟨#[]⟩], .int .i64 0, v (tpC s ls n)])
theorem toldP_none {w : World} {B : Nat} {e : Ending} {v : Int → Value} {s : ByteArray} (h : cutO s = none) (he : e = .returned (.tuple #[.agg #[.int .i64 0, .string ⟨#[]⟩, .slice none 0 0, .string ⟨#[]⟩], .int .i64 0, v (cdS s)])) : ToldP w B e v s := by
  unfold ToldP; rw [h]; exact he
theorem toldP_bad {w : World} {B : Nat} {e : Ending} {v : Int → Value} {s : ByteArray} {ls : List ByteArray} {n : Nat} (h : cutO s = some (ls, n)) (hc : tpC s ls n ≠ 0) (he : e = .returned (.tuple #[.agg #[.int .i64 0, .string ⟨#[]⟩, .slice none 0 0, .string ⟨#[]⟩], .int .i64 0, v (tpC s ls n)])) : ToldP w B e v s := by
  unfold ToldP; rw [h]; show if _ then _ else _; rw [if_neg hc]; exact he
theorem toldP_good {w : World} {B : Nat} {e : Ending} {v : Int → Value} {s : ByteArray} {ls : List ByteArray} {n : Nat} (h : cutO s = some (ls, n)) (hc : tpC s ls n = 0) (x : Value) (he : e = .returned (.tuple #[.agg #[.int .i64 (tpM ls).1, .string (tpM ls).2, x, .string (tkB s ls n)], .int .i64 ((n : Int) + (tkB s ls n).size), v 0])) (hf : fieldsIn w B x (tkF ls)) : ToldP w B e v s := by
  unfold ToldP; rw [h]; show if _ then _ else _; rw [if_pos hc]; exact ⟨x, he, hf⟩

set_option maxRecDepth 20000 in
set_option maxHeartbeats 3200000 in
theorem takeResponse_any (s : ByteArray) (m : Int) (b : Addr) (w : World) (hs : s.size ≤ 1048576) (hT : Tab w) (hE : w.cell? ⟨0, 0, none⟩ = some (sent b)) (hm : w.cell? ⟨3, 0, none⟩ = some (.int .i64 m)) (hP : PowT w) :
    Calls Tryz.prog 57 #[.string s] w fun e w' => ToldP w' w.heap.size e errV s ∧ Below w.heap.size w w' := by
  have hgt := hT.lt
  have het := World.block_lt_of_cell? _ _ hE
  have hml := World.block_lt_of_cell? _ _ hm
  have HT : Hid (Tab w) := hT
  have HE : Hid (w.cell? ⟨0, 0, none⟩ = some (sent b)) := hE
  have HM : Hid (w.cell? ⟨3, 0, none⟩ = some (.int .i64 m)) := hm
  have hgp := tab_lt hP
  have HPw : Hid (PowT w) := hP
  clear hT hE hm hP
  obtain ⟨W, hW⟩ : ∃ W, W = w.alloc (.cells #[.int .i64 0, .string ⟨#[]⟩, .slice none 0 0, .string ⟨#[]⟩] 36) := ⟨_, rfl⟩
  have hb1 : Below w.heap.size w W := by rw [hW]; exact (Below.refl _ _).alloc (Nat.le_refl _) _
  have HO : Hid (Own4 W w.heap.size (.int .i64 0) (.string ⟨#[]⟩) (.slice none 0 0) (.string ⟨#[]⟩)) := by rw [hW]; exact Rqb.Own4.made w _ _ _ _ _
  have HCt := cutHead_any s m W (by omega) ((hb1.cell (p := ⟨3, 0, none⟩) hml).trans HM.out)
  cases hc : cutO s with
  | none =>
    have HC1 : Hid (Calls Tryz.prog 84 #[.string s] W fun e w' => e = .returned (.tuple #[.slice none 0 0, .int .i64 0, .iface 104 (.agg #[.int .i64 (cdS s)])]) ∧ Below W.heap.size W w') := by
      refine HCt.mono ?_
      rintro e w' ⟨h, hb⟩
      unfold Hdl.ToldH at h
      rw [hc] at h
      exact ⟨by rw [← err_some (cds_ne s)]; exact h, hb⟩
    have HF : Hid (∀ w' B, ToldP w' B (.returned (.tuple #[.agg #[.int .i64 0, .string ⟨#[]⟩, .slice none 0 0, .string ⟨#[]⟩], .int .i64 0, .iface 104 (.agg #[.int .i64 (cdS s)])])) errV s) := fun w' B => toldP_none hc (by rw [err_some (cds_ne s)])
    clear HCt hc
    go_enter Tryz.func57, Tryz.ntmps57
    go_wp2_with fail
    rw [← hW]
    clear hW
    refine (Calls.mono HC1.out ?_)
    rintro e w2 ⟨rfl, hb2⟩
    have hb12 := hb1.trans (hb2.mono hb1.size)
    obtain ⟨f2, p0, p1, p2, p3⟩ := HO.out.below hb2
    go_wp2_with fail
    exact bodyPost_ret (v := .tuple #[.agg #[.int .i64 0, .string ⟨#[]⟩, .slice none 0 0, .string ⟨#[]⟩], .int .i64 0, .iface 104 (.agg #[.int .i64 (cdS s)])]) (by simp [results, Tryz.results57, go_sem, p0, p1, p2, p3]) rfl ⟨HF.out _ _, (((hb12.setCell (Nat.le_refl _) _).setCell (Nat.le_refl _) _).setCell (Nat.le_refl _) _).setCell (Nat.le_refl _) _⟩
  | some p =>
    obtain ⟨ls, n⟩ := p
    obtain ⟨hl0, hll, hlz, hn2, hns⟩ := cut_lines hc
    have HC1 : Hid (Calls Tryz.prog 84 #[.string s] W fun e w' => (∃ x, e = .returned (.tuple #[x, .int .i64 n, .nilIface]) ∧ textsIn w' W.heap.size x ls) ∧ Below W.heap.size W w') := by
      refine HCt.mono ?_
      rintro e w' ⟨h, hb⟩
      unfold Hdl.ToldH at h
      rw [hc] at h
      exact ⟨h, hb⟩
    have HG : Hid (∀ w' B x, tpC s ls n = 0 → fieldsIn w' B x (tkF ls) → ToldP w' B (.returned (.tuple #[.agg #[.int .i64 (tpM ls).1, .string (tpM ls).2, x, .string (tkB s ls n)], .int .i64 ((n : Int) + (tkB s ls n).size), .nilIface])) errV s) := fun w' B x h hf => toldP_good hc h x rfl hf
    have HBd : Hid (∀ w' B, tpC s ls n ≠ 0 → ToldP w' B (.returned (.tuple #[.agg #[.int .i64 0, .string ⟨#[]⟩, .slice none 0 0, .string ⟨#[]⟩], .int .i64 0, .iface 104 (.agg #[.int .i64 (tpC s ls n)])])) errV s) := fun w' B h => toldP_bad hc h (by rw [err_some h])
    clear HCt hc
    cases ls with
    | nil => exact absurd rfl hl0
    | cons l0 xs =>
      have hF : tkF (l0 :: xs) = xs.map fldO := rfl
      have hM : tpM (l0 :: xs) = toldP l0 := rfl
      have hBO : tkB s (l0 :: xs) n = bodyO (s.extract n s.size) (xs.map fldO) := rfl
      have hCO : tpC s (l0 :: xs) n = rsC (toldP l0).1 (toldP l0).2 (xs.map fldO) (bodyO (s.extract n s.size) (xs.map fldO)) := rfl
      rw [hF, hM, hBO, hCO] at HG
      rw [hCO] at HBd
      have hz0 := hlz l0 (by simp)
      have hzx : ∀ x ∈ xs, x.size ≤ 2000000 := fun x hx => by have := hlz x (by simp [hx]); omega
      have tz2 := toldP_size l0
      have hzF : SzF (xs.map fldO) := by
        intro c hc
        obtain ⟨x, hx, rfl⟩ := List.mem_map.1 hc
        have h1 := fld_size x
        have h2 := hzx x hx
        omega
      have hxl : xs.length ≤ 900000 := by simp only [List.length_cons] at hll; omega
      have hes : (s.extract n s.size).size ≤ 2000000 := by rw [ByteArray.size_extract]; omega
      have HRT : Hid _ := fun w h1 h => responseTold_any l0 m w h1 (by omega) h
      have HFT : Hid _ := fun g o ca w h1 h2 => fieldsTold_any g o ca xs m w hxl hzx h1 h2
      have HBT : Hid _ := fun a ca w lo hi h1 h2 h3 h4 => bodyTold_any (s.extract n s.size) a ca (xs.map fldO) b w lo hi hes h1 h2 hzF h3 h4
      have HCR : Hid _ := fun a ca w lo hi h1 hp h2 h3 h4 => checkResponse_any (toldP l0).1 (toldP l0).2 (bodyO (s.extract n s.size) (xs.map fldO)) a ca (xs.map fldO) b w lo hi h1 hp h2 (by omega) hzF h3 h4
      have hBz : (bodyO (s.extract n s.size) (xs.map fldO)).size ≤ 2000000 := by unfold bodyO; rw [ByteArray.size_extract]; omega
      generalize bodyO (s.extract n s.size) (xs.map fldO) = BB at hBz HG HBd HBT HCR
      generalize xs.map fldO = FF at HG HBd HBT HCR HFT
      generalize toldP l0 = MT at HG HBd HRT HCR
      obtain ⟨M, T⟩ := MT
      dsimp only at HG HBd HRT HCR
      clear hF hM hBO hCO tz2 hzF hzx hlz hz0 hes
      go_enter Tryz.func57, Tryz.ntmps57
      go_wp2_with fail
      rw [← hW]
      clear hW
      refine (Calls.mono HC1.out ?_)
      rintro e w2 ⟨⟨x, rfl, hown⟩, hb2⟩
      have hb12 := hb1.trans (hb2.mono hb1.size)
      have HO2 : Hid (Own4 w2 w.heap.size (.int .i64 0) (.string ⟨#[]⟩) (.slice none 0 0) (.string ⟨#[]⟩)) := HO.out.below hb2
      obtain ⟨a1, c1, rfl, hlc, _, hne⟩ := textsIn.form hown
      obtain ⟨g, rfl, _, hg⟩ := hne (by simp)
      have t0 := textsIn.at hown 0 l0 rfl
      have HRow : Hid (RowO w2 g 1 xs) := ⟨hg, fun j x h => textsIn.at hown (1 + j) x (by rw [Nat.add_comm]; exact h)⟩
      have hm2 := (hb12.cell (p := ⟨3, 0, none⟩) hml).trans HM.out
      have hT2 := HT.out.below hb12 hgt
      clear hown hne hb2 HO
      go_wp2_with fail
      refine (HRT.out _ hT2 hm2).mono ?_
      rintro e w3 ⟨rfl, hb3⟩
      have HO3 : Hid (Own4 w3 w.heap.size (.int .i64 0) (.string ⟨#[]⟩) (.slice none 0 0) (.string ⟨#[]⟩)) := HO2.out.below hb3
      have hb13 := hb12.trans (hb3.mono hb12.size)
      obtain ⟨w4, hw4⟩ : ∃ w4, w4 = w3.alloc (.cells #[.int .i64 M, .string T, .slice none 0 0, .string ⟨#[]⟩] 36) := ⟨_, rfl⟩
      have hb34 : Below w3.heap.size w3 w4 := by rw [hw4]; exact (Below.refl _ _).alloc (Nat.le_refl _) _
      have hs4 : w4.heap.size = w3.heap.size + 1 := by rw [hw4]; simp
      have HX4 : Hid (Own4 w4 w3.heap.size (.int .i64 M) (.string T) (.slice none 0 0) (.string ⟨#[]⟩)) := by rw [hw4]; exact Rqb.Own4.made w3 _ _ _ _ _
      have HO4 : Hid (Own4 w4 w.heap.size (.int .i64 0) (.string ⟨#[]⟩) (.slice none 0 0) (.string ⟨#[]⟩)) := HO3.out.below hb34
      have hb14 := hb13.trans (hb34.mono hb13.size)
      have hR4 : RowO w4 g 1 xs := (HRow.out.below hb3).below hb34
      have HR4 : Hid (∀ o, o = 1 ∨ xs.length = 0 → RowO w4 g o xs) := fun o h => by
        rcases h with rfl | h
        · exact hR4
        · obtain rfl := List.eq_nil_of_length_eq_zero h
          exact ⟨hR4.1, fun j x h => by simp at h⟩
      clear hR4
      have hm4 := (hb14.cell (p := ⟨3, 0, none⟩) hml).trans HM.out
      have hws : w.heap.size < w3.heap.size := World.block_lt_of_cell? _ _ HO3.out.2.1
      clear hb3 hb12 HO2 HO3 HRow hb34 hb13 hm2 hT2 t0
      go_wp2_with fail
      all_goals
        rw [← hw4]
        clear hw4
        refine (HFT.out _ _ _ _ hm4 (HR4.out _ (by first | exact .inl rfl | exact .inr (by simp only [List.length_cons] at hlc; omega)))).mono ?_
        rintro e w5 ⟨⟨x5, rfl, hF5⟩, hb5⟩
        obtain ⟨a5, c5, rfl, hlc5, hV5⟩ := ff_form hF5
        have HX5 : Hid (Own4 w5 w3.heap.size (.int .i64 M) (.string T) (.slice none 0 0) (.string ⟨#[]⟩)) := HX4.out.below hb5
        have HO5 : Hid (Own4 w5 w.heap.size (.int .i64 0) (.string ⟨#[]⟩) (.slice none 0 0) (.string ⟨#[]⟩)) := HO4.out.below hb5
        have hb15 := hb14.trans (hb5.mono hb14.size)
        obtain ⟨w6, hw6⟩ : ∃ w6, w6 = w5.setCell ⟨w3.heap.size, 2, none⟩ (.slice a5 FF.length c5) := ⟨_, rfl⟩
        have HX6 : Hid (Own4 w6 w3.heap.size (.int .i64 M) (.string T) (.slice a5 FF.length c5) (.string ⟨#[]⟩)) := by rw [hw6]; exact (own_set HX5.out _).1
        have HO6 : Hid (Own4 w6 w.heap.size (.int .i64 0) (.string ⟨#[]⟩) (.slice none 0 0) (.string ⟨#[]⟩)) := by rw [hw6]; exact own_other HO5.out hws _
        have hF6 : fieldsIn w6 w4.heap.size (.slice a5 FF.length c5) FF := by rw [hw6]; exact ff_set hF5 (by omega) _
        have hV6 : FV w6 a5 FF w4.heap.size w5.heap.size := by rw [hw6]; exact Rqb.fv_set hV5 (by omega) _
        have hb16 : Below w.heap.size w w6 := by rw [hw6]; exact hb15.setCell (p := ⟨w3.heap.size, 2, none⟩) (Nat.le_of_lt hws) _
        have hsz6 : w6.heap.size = w5.heap.size := by rw [hw6]; exact set_size _ _ _
        have hT6 := HT.out.below hb16 hgt
        have hE6 := (hb16.cell (p := ⟨0, 0, none⟩) het).trans HE.out
        have hsz5 := hb5.size
        obtain ⟨f5, q0, q1, q2, q3⟩ := HX5.out
        clear hb5 hb14 HX4 HO4 hF5 hV5 hm4 HR4 HO5
        go_wp2_with fail
        rw [← hw6]
        clear hw6 f5 q0 q1 q2 q3
        obtain ⟨f6, r0, r1, r2, r3⟩ := HX6.out
        go_region_with (go_at_call 87; go_loud (refine (HBT.out _ _ _ _ _ (by exact hT6) (by exact hE6) hlc5 (by exact hV6)).mono ?_; rintro e w7 ⟨rfl, hb7'⟩; have hb7 : Below w6.heap.size w6 w7 := (by first | exact hb7' | exact (Below.refl _ _).drew.trans hb7'); obtain ⟨f7, q0, q1, q2, q3⟩ := HX6.out.below hb7; clear hb7'))
        clear f6 r0 r1 r2 r3
        have HX7 : Hid (Own4 w7 w3.heap.size (.int .i64 M) (.string T) (.slice a5 FF.length c5) (.string ⟨#[]⟩)) := HX6.out.below hb7
        have HO7 : Hid (Own4 w7 w.heap.size (.int .i64 0) (.string ⟨#[]⟩) (.slice none 0 0) (.string ⟨#[]⟩)) := HO6.out.below hb7
        have hb17 := hb16.trans (hb7.mono hb16.size)
        have hF7 := hF6.below hb7
        have hV7 := hV6.below hb7
        obtain ⟨w8, hw8⟩ : ∃ w8, w8 = w7.setCell ⟨w3.heap.size, 3, none⟩ (.string BB) := ⟨_, rfl⟩
        have HX8 : Hid (Own4 w8 w3.heap.size (.int .i64 M) (.string T) (.slice a5 FF.length c5) (.string BB)) := by rw [hw8]; exact (own_set HX7.out _).2
        have HO8 : Hid (Own4 w8 w.heap.size (.int .i64 0) (.string ⟨#[]⟩) (.slice none 0 0) (.string ⟨#[]⟩)) := by rw [hw8]; exact own_other HO7.out hws _
        have hF8 : fieldsIn w8 w4.heap.size (.slice a5 FF.length c5) FF := by rw [hw8]; exact ff_set hF7 (by omega) _
        have hV8 : FV w8 a5 FF w4.heap.size w5.heap.size := by rw [hw8]; exact Rqb.fv_set hV7 (by omega) _
        have hb18 : Below w.heap.size w w8 := by rw [hw8]; exact hb17.setCell (p := ⟨w3.heap.size, 3, none⟩) (Nat.le_of_lt hws) _
        have hT8 := HT.out.below hb18 hgt
        have hE8 := (hb18.cell (p := ⟨0, 0, none⟩) het).trans HE.out
        clear hb7 hb16 HX6 HO6 hF6 hV6 hT6 hE6 HO7 hF7 hV7 hb15 HX5
        have hP8 := tab_below HPw.out hb18 hgp
        have hCR := HCR.out a5 c5 w8 _ _ hT8 hP8 hE8 hlc5 hV8
        rw [← hw8]
        obtain ⟨f8, s0, s1, s2, s3⟩ := HX8.out
        have HFF : Hid (fieldsIn w8 w4.heap.size (.slice a5 FF.length c5) FF) := hF8
        clear hw8 q0 q1 q2 q3 hT8 hP8 hE8 hV8 hF8 hb17 HCR HFT HBT HRT hsz6 HX7
        have hws8 : w3.heap.size < w4.heap.size := by omega
        by_cases h0 : rsC M T FF BB = 0
        · rw [h0, err_none] at hCR
          have HCR1 : Hid _ := hCR
          have HGG : Hid (∀ w' B x, fieldsIn w' B x FF → ToldP w' B (.returned (.tuple #[.agg #[.int .i64 M, .string T, x, .string BB], .int .i64 ((n : Int) + BB.size), .nilIface])) errV s) := fun w' B x hf => HG.out w' B x h0 hf
          clear hCR HG HBd h0
          go_wp2_with fail
          refine (Calls.mono HCR1.out ?_)
          rintro e w9 ⟨rfl, hb9⟩
          have hb19 := hb18.trans (hb9.mono hb18.size)
          obtain ⟨f9, s0', s1', s2', s3'⟩ := HX8.out.below hb9
          obtain ⟨g9, p0, p1, p2, p3⟩ := HO8.out.below hb9
          have HF9 : Hid (fieldsIn w9 w4.heap.size (.slice a5 FF.length c5) FF) := HFF.out.below hb9
          clear s0 s1 s2 s3 f8 hb9
          go_wp2_with fail
          have hne : w3.heap.size ≠ w.heap.size := by omega
          go_region
          all_goals
            go_wp2_with fail
            exact bodyPost_ret (v := .tuple #[.agg #[.int .i64 M, .string T, .slice a5 FF.length c5, .string BB], .int .i64 ((n : Int) + BB.size), .nilIface]) (by simp [results, Tryz.results57, go_sem, p0, p1, p2, p3]) rfl ⟨HGG.out _ _ _ ((ff_set (ff_set (ff_set (ff_set (show fieldsIn w9.drew w4.heap.size _ FF from HF9.out) (by omega) _) (by omega) _) (by omega) _) (by omega) _).base (by omega)), (((hb19.drew.setCell (Nat.le_refl _) _).setCell (Nat.le_refl _) _).setCell (Nat.le_refl _) _).setCell (Nat.le_refl _) _⟩
        · rw [err_some h0] at hCR
          have HCR1 : Hid _ := hCR
          have HBB : Hid (∀ w' B, ToldP w' B (.returned (.tuple #[.agg #[.int .i64 0, .string ⟨#[]⟩, .slice none 0 0, .string ⟨#[]⟩], .int .i64 0, .iface 104 (.agg #[.int .i64 (rsC M T FF BB)])])) errV s) := fun w' B => HBd.out w' B h0
          generalize rsC M T FF BB = CC at *
          clear hCR HG HBd h0
          go_wp2_with fail
          refine (Calls.mono HCR1.out ?_)
          rintro e w9 ⟨rfl, hb9⟩
          have hb19 := hb18.trans (hb9.mono hb18.size)
          obtain ⟨g9, p0, p1, p2, p3⟩ := HO8.out.below hb9
          clear s0 s1 s2 s3 f8 hb9
          go_wp2_with fail
          exact bodyPost_ret (v := .tuple #[.agg #[.int .i64 0, .string ⟨#[]⟩, .slice none 0 0, .string ⟨#[]⟩], .int .i64 0, .iface 104 (.agg #[.int .i64 CC])]) (by simp [results, Tryz.results57, go_sem, p0, p1, p2, p3]) rfl ⟨HBB.out _ _, (((hb19.setCell (Nat.le_refl _) _).setCell (Nat.le_refl _) _).setCell (Nat.le_refl _) _).setCell (Nat.le_refl _) _⟩

end Go.Proofs.YtaplkbkpgdpbaaaGreatDoor.Tpr
