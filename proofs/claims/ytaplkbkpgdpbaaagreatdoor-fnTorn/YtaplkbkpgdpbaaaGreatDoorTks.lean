/-
  Walk: spec.l4Rest.
-/
import Derived.Test.YtaplkbkpgdpbaaaGreatDoorTki
namespace Go.Proofs.YtaplkbkpgdpbaaaGreatDoor.Tkr
open Go.RowKit
open Go.Proofs.YtaplkbkpgdpbaaaGreatDoor
open Go.Proofs.YtaplkbkpgdpbaaaGreatDoor.Fbs
open Go.Proofs.YtaplkbkpgdpbaaaGreatDoor.Fch
open Go.Proofs.YtaplkbkpgdpbaaaGreatDoor.Ows
open Go.Proofs.YtaplkbkpgdpbaaaGreatDoor.Fdb
open Go.Proofs.YtaplkbkpgdpbaaaGreatDoor.Fvs
open Go.Proofs.YtaplkbkpgdpbaaaGreatDoor.Lnp
open Go.Proofs.YtaplkbkpgdpbaaaGreatDoor.Fgd (goodF specGoodF_any)
open Go.Proofs.YtaplkbkpgdpbaaaGreatDoor.Tri (trimS l3Trim_any)
open Go.Proofs.YtaplkbkpgdpbaaaGreatDoor.Rqb (fbC tenc lnN fb_bad fb_enc fb_len fb_rest)

/-- A line that tells a good field that isn't a transfer-encoding. -/
def okX (x : ByteArray) : Bool := Ctf.cutB x 58 && (goodF (Ctf.cutA x 58) (trimS (Ctf.cutZ x 58)) && !isN tenc (Ctf.cutA x 58, trimS (Ctf.cutZ x 58)))
theorem fld_is {x : ByteArray} (h : Ctf.cutB x 58 = true) : fldO x = (Ctf.cutA x 58, trimS (Ctf.cutZ x 58)) := by unfold fldO; rw [if_pos h]
theorem fb_three {l : List (ByteArray × ByteArray)} {B : ByteArray} (h : goodL l = false ∨ valsOf tenc l ≠ []) : fbC l B = 3 := by
  cases hg : goodL l
  · exact fb_bad hg
  · rcases h with h | h
    · rw [hg] at h; cases h
    · exact fb_enc hg h
theorem rest_bad {xs : List ByteArray} {B : ByteArray} {k : Nat} (hk : k < xs.length) (h : okX xs[k] = false ∨ 40 ≤ k) : fbC (xs.map fldO) B = 3 := by
  refine fb_three ?_
  have hk' : k < (xs.map fldO).length := by simpa using hk
  rcases h with h | h
  · unfold okX at h
    cases hc : Ctf.cutB xs[k] 58
    · refine .inl (goodL_no hk' ?_)
      have e : ((xs.map fldO)[k]).1 = ⟨#[]⟩ := by simp [fldO, hc]
      unfold goodF
      rw [e]
      rfl
    · rw [hc, Bool.true_and] at h
      have e : (xs.map fldO)[k] = (Ctf.cutA xs[k] 58, trimS (Ctf.cutZ xs[k] 58)) := by simp [fld_is hc]
      cases hg : goodF (Ctf.cutA xs[k] 58) (trimS (Ctf.cutZ xs[k] 58))
      · refine .inl (goodL_no hk' ?_)
        rw [e]; exact hg
      · rw [hg, Bool.true_and] at h
        refine .inr ?_
        have hi : isN tenc (Ctf.cutA xs[k] 58, trimS (Ctf.cutZ xs[k] 58)) = true := by simpa using h
        intro e2
        unfold valsOf at e2
        rw [List.map_eq_nil_iff, List.filter_eq_nil_iff] at e2
        have := e2 _ (List.getElem_mem hk')
        rw [e] at this
        exact this hi
  · refine .inl ?_
    unfold goodL
    rw [decide_eq_false (by simp; omega), Bool.false_and]
theorem rest_good {xs : List ByteArray} (hl : xs.length ≤ 40) (h : ∀ j, (hj : j < xs.length) → okX xs[j] = true) : goodL (xs.map fldO) = true ∧ valsOf tenc (xs.map fldO) = [] := by
  have each : ∀ j, (hj : j < xs.length) → fldO xs[j] = (Ctf.cutA xs[j] 58, trimS (Ctf.cutZ xs[j] 58)) ∧ goodF (Ctf.cutA xs[j] 58) (trimS (Ctf.cutZ xs[j] 58)) = true ∧ isN tenc (Ctf.cutA xs[j] 58, trimS (Ctf.cutZ xs[j] 58)) = false := by
    intro j hj
    have := h j hj
    unfold okX at this
    simp only [Bool.and_eq_true, Bool.not_eq_true'] at this
    exact ⟨fld_is this.1, this.2.1, this.2.2⟩
  constructor
  · rw [goodL_yes (fun k hk => by
      have hk' : k < xs.length := by simpa using hk
      have e := each k hk'
      rw [List.getElem_map, e.1]; exact e.2.1)]
    exact decide_eq_true (by simpa using hl)
  · unfold valsOf
    rw [List.map_eq_nil_iff, List.filter_eq_nil_iff]
    intro c hc
    obtain ⟨x, hx, rfl⟩ := List.mem_map.1 hc
    obtain ⟨j, hj, rfl⟩ := List.getElem_of_mem hx
    rw [(each j hj).1, (each j hj).2.2]
    simp

theorem ln_ge {l : List (ByteArray × ByteArray)} : lnV l = -2 ∨ -1 ≤ lnV l := by
  by_cases h : lnV l = -2
  · exact .inl h
  · refine .inr ?_
    unfold lnV at h ⊢
    rw [lenV_parts _ _ (by decide)] at h ⊢
    cases hp : partsV (valsOf clen l) with
    | none => rw [hp] at h; exact absurd rfl h
    | some q =>
      rw [hp] at h
      exact lenF_low q _ (by decide) h
theorem cut_body (s : ByteArray) (a n : Nat) (h : a + n ≤ s.size) : (s.extract a s.size).extract 0 n = s.extract a (a + n) := by
  rw [Hdl.mkB_extract, Hdl.mkB_extract s a (a + n)]
  congr 1
  rw [List.drop_zero, Nat.sub_zero, Nat.add_sub_cancel_left]
  have e : (s.extract a s.size).data.toList = (s.data.toList.drop a).take (s.size - a) := by rw [Hdl.mkB_extract]; simp [Hdl.mkB]
  rw [e, List.take_take]
  congr 1
  omega
/-- What the rest is, by the length that is told: below 0 or too great, not all there, or there. -/
theorem rest_ways {s : ByteArray} {at_ : Nat} {l : List (ByteArray × ByteArray)} (hat : at_ ≤ s.size) (hg : goodL l = true) (hv : valsOf tenc l = []) :
    ((lnN l < 0 ∨ 300 < lnN l) ∧ fbC l (bodyO (s.extract at_ s.size) l) = 4) ∨ ∃ n : Nat, lnN l = n ∧ n ≤ 300 ∧ ((s.size < at_ + n ∧ fbC l (bodyO (s.extract at_ s.size) l) = 1) ∨ (at_ + n ≤ s.size ∧ fbC l (bodyO (s.extract at_ s.size) l) = 0 ∧ bodyO (s.extract at_ s.size) l = s.extract at_ (at_ + n) ∧ (bodyO (s.extract at_ s.size) l).size = n)) := by
  rcases (ln_ge : lnV l = -2 ∨ -1 ≤ lnV l) with h2 | h1
  · have e : lnN l = -2 := by unfold lnN; rw [if_neg (by omega), h2]
    exact .inl ⟨.inl (by omega), fb_len hg hv h2⟩
  · have h2 : lnV l ≠ -2 := by omega
    have hN : 0 ≤ lnN l := by unfold lnN; split <;> omega
    by_cases h3 : 300 < lnN l
    · exact .inl ⟨.inr h3, by rw [fb_rest hg hv h2, if_pos h3]⟩
    · obtain ⟨n, hn⟩ := Int.eq_ofNat_of_zero_le hN
      have hO : (lnO l).1 = n := by
        by_cases hm : lnV l = -1
        · rw [lnO_none hg hm]
          have : lnN l = 0 := if_pos hm
          show (0 : Int) = n
          omega
        · rw [lnO_is hg (by omega)]
          have : lnN l = lnV l := if_neg hm
          show lnV l = n
          omega
      have hb : bodyO (s.extract at_ s.size) l = (s.extract at_ s.size).extract 0 (min n (s.extract at_ s.size).size) := by unfold bodyO; rw [hO, Int.toNat_natCast]
      have hes : (s.extract at_ s.size).size = s.size - at_ := by rw [ByteArray.size_extract]; omega
      have hbs : (bodyO (s.extract at_ s.size) l).size = min n (s.size - at_) := by rw [hb, ByteArray.size_extract, hes]; omega
      refine .inr ⟨n, hn, by omega, ?_⟩
      by_cases h4 : at_ + n ≤ s.size
      · refine .inr ⟨h4, ?_, ?_, by omega⟩
        · rw [fb_rest hg hv h2, if_neg h3, if_neg (by omega)]
        · rw [hb, hes, Nat.min_eq_left (by omega), cut_body s at_ n h4]
      · exact .inl ⟨by omega, by rw [fb_rest hg hv h2, if_neg h3, if_pos (by omega)]⟩

/-- What the rest of a head and a body leave. -/
def RestT (w : World) (B : Nat) (e : Ending) (s : ByteArray) (at_ : Nat) (xs : List ByteArray) : Prop :=
  if fbC (xs.map fldO) (bodyO (s.extract at_ s.size) (xs.map fldO)) = 0 then ∃ x, e = .returned (.tuple #[x, .string (bodyO (s.extract at_ s.size) (xs.map fldO)), .int .i64 ((at_ : Int) + (bodyO (s.extract at_ s.size) (xs.map fldO)).size), .int .i64 0]) ∧ fieldsIn w B x (xs.map fldO)
  else e = .returned (.tuple #[.slice none 0 0, .string ⟨#[]⟩, .int .i64 0, .int .i64 (fbC (xs.map fldO) (bodyO (s.extract at_ s.size) (xs.map fldO)))])
theorem restT_bad {w : World} {B : Nat} {e : Ending} {s : ByteArray} {at_ : Nat} {xs : List ByteArray} (h : fbC (xs.map fldO) (bodyO (s.extract at_ s.size) (xs.map fldO)) ≠ 0) (he : e = .returned (.tuple #[.slice none 0 0, .string ⟨#[]⟩, .int .i64 0, .int .i64 (fbC (xs.map fldO) (bodyO (s.extract at_ s.size) (xs.map fldO)))])) : RestT w B e s at_ xs := by
  unfold RestT; rw [if_neg h]; exact he
theorem restT_good {w : World} {B : Nat} {e : Ending} {s : ByteArray} {at_ : Nat} {xs : List ByteArray} (h : fbC (xs.map fldO) (bodyO (s.extract at_ s.size) (xs.map fldO)) = 0) (x : Value) (he : e = .returned (.tuple #[x, .string (bodyO (s.extract at_ s.size) (xs.map fldO)), .int .i64 ((at_ : Int) + (bodyO (s.extract at_ s.size) (xs.map fldO)).size), .int .i64 0])) (hf : fieldsIn w B x (xs.map fldO)) : RestT w B e s at_ xs := by
  unfold RestT; rw [if_pos h]; exact ⟨x, he, hf⟩

set_option maxRecDepth 20000 in
set_option maxHeartbeats 3200000 in
theorem l4Rest_any (s : ByteArray) (g o ca at_ : Nat) (xs : List ByteArray) (w : World) (hs : s.size ≤ 1048576) (hat : at_ ≤ s.size) (_hl : xs.length ≤ 900000) (hz : ∀ x ∈ xs, x.size ≤ 2000000) (ha : RowO w g o xs) :
    Calls Tryz.prog 64 #[.string s, .slice (some ⟨g, o, none⟩) xs.length ca, .int .i64 at_] w fun e w' => RestT w' w.heap.size e s at_ xs ∧ Below w.heap.size w w' := by
  have GA : Hid (RowO w g o xs) := ha
  have H3 : Hid (∀ k, (hk : k < xs.length) → (okX xs[k] = false ∨ 40 ≤ k) → fbC (xs.map fldO) (bodyO (s.extract at_ s.size) (xs.map fldO)) = 3) := fun k hk h => rest_bad hk h
  have HG : Hid (xs.length ≤ 40 → (∀ j, (hj : j < xs.length) → okX xs[j] = true) → goodL (xs.map fldO) = true ∧ valsOf tenc (xs.map fldO) = []) := rest_good
  have HF3 : Hid (∀ w' e, fbC (xs.map fldO) (bodyO (s.extract at_ s.size) (xs.map fldO)) = 3 → e = .returned (.tuple #[.slice none 0 0, .string ⟨#[]⟩, .int .i64 0, .int .i64 3]) → RestT w' w.heap.size e s at_ xs) := fun w' e h he => restT_bad (by rw [h]; decide) (by rw [h]; exact he)
  clear ha
  go_enter Tryz.func64, Tryz.ntmps64
  go_wp2_with fail
  go_loopw [10, 20] (fun v i wr => ∃ k : Nat, k ≤ xs.length ∧ k ≤ 40 ∧ i = .int .i64 k ∧ fieldsIn wr w.heap.size v ((xs.take k).map fldO) ∧ Below w.heap.size w wr ∧ Hid (∀ j, (hj : j < xs.length) → j < k → okX xs[j] = true)) (fun _ i _ => xs.length - (intOf i).toNat)
  case atStart => exact ⟨0, Nat.zero_le _, Nat.zero_le _, rfl, fieldsIn.nil w _, Below.refl _ _, fun j _ h => absurd h (by omega)⟩
  case round =>
    obtain ⟨k, hk, hk40, rfl, hown, hbel, HOK⟩ := hrel
    by_cases hlt : k < xs.length
    · have hc := (GA.out.below hbel).2 k xs[k] (List.getElem?_eq_getElem hlt)
      have hzx := hz xs[k] (List.getElem_mem hlt)
      have HTK : Hid ((xs.take (k + 1)).map fldO = (xs.take k).map fldO ++ [fldO xs[k]]) := by
        show _ = _; rw [List.take_succ_eq_append_getElem hlt, List.map_append]; rfl
      have hacc : ((xs.take k).map fldO).length = k := by simp; omega
      have hzs := cutZ_size xs[k] 58
      have hza := cutA_size xs[k] 58
      have hzv := Tri.trimS_size (Ctf.cutZ xs[k] 58)
      have HCut : Hid _ := fun w => Ctf.l1Cut_any xs[k] 58 w (by omega)
      have HTr : Hid (∀ w, Calls Tryz.prog 104 #[.string (Ctf.cutZ xs[k] 58)] w fun e w' => e = .returned (.string (trimS (Ctf.cutZ xs[k] 58))) ∧ Below w.heap.size w w') := fun w => (l3Trim_any (Ctf.cutZ xs[k] 58) w (by omega)).mono (fun e w' h => ⟨h.1, by rw [h.2]; exact Below.refl _ _⟩)
      have HGF : Hid _ := fun w => specGoodF_any (Ctf.cutA xs[k] 58) (trimS (Ctf.cutZ xs[k] 58)) w (by omega) (by omega)
      have HIs : Hid _ := fun w => l3Is_any (Ctf.cutA xs[k] 58) (trimS (Ctf.cutZ xs[k] 58)) tenc w (by omega) (by decide)
      have HB3 : Hid (okX xs[k] = false ∨ 40 ≤ k → fbC (xs.map fldO) (bodyO (s.extract at_ s.size) (xs.map fldO)) = 3) := H3.out k hlt
      have HOkX : Hid (okX xs[k] = (Ctf.cutB xs[k] 58 && (goodF (Ctf.cutA xs[k] 58) (trimS (Ctf.cutZ xs[k] 58)) && !isN tenc (Ctf.cutA xs[k] 58, trimS (Ctf.cutZ xs[k] 58))))) := rfl
      have HFx : Hid (Ctf.cutB xs[k] 58 = true → fldO xs[k] = (Ctf.cutA xs[k] 58, trimS (Ctf.cutZ xs[k] 58))) := fld_is
      have hB := hbel.size
      generalize Ctf.cutA xs[k] 58 = N at *
      generalize trimS (Ctf.cutZ xs[k] 58) = V at *
      clear hzs hza hzv
      cases hcb : Ctf.cutB xs[k] 58
      · have HR : Hid (∀ w', RestT w' w.heap.size (.returned (.tuple #[.slice none 0 0, .string ⟨#[]⟩, .int .i64 0, .int .i64 3])) s at_ xs) := fun w' => HF3.out _ _ (HB3.out (.inl (by rw [HOkX.out, hcb]; rfl))) rfl
        rw [hcb] at HCut
        clear HTK HB3 HOkX HFx hcb hzx
        go_wp2_with fail
        refine (HCut.out _).mono ?_
        rintro e w2 ⟨rfl, hb2⟩
        have hbel2 := hbel.trans (hb2.mono hB)
        have hown2 := hown.below hb2
        clear hown hbel hb2 hc
        go_wp2_with fail
        refine (HTr.out _).mono ?_
        rintro e w3 ⟨rfl, hb3⟩
        have hB2 := hbel2.size
        have hbel3 := hbel2.trans (hb3.mono hB2)
        have hown3 := hown2.below hb3
        have hB3 := hbel3.size
        clear hown2 hbel2 hb3
        have hbel4 := hbel3.alloc hB3 (.cells #[.string N, .string V] 102)
        go_wp2_with fail
        exact bodyPost_ret (v := .tuple #[.slice none 0 0, .string ⟨#[]⟩, .int .i64 0, .int .i64 3]) (by simp [results, Tryz.results64, go_sem]) rfl ⟨HR.out _, hbel4⟩
      have hfx := HFx.out hcb
      rw [hcb] at HCut HOkX
      cases hgf : goodF N V
      · have HR : Hid (∀ w', RestT w' w.heap.size (.returned (.tuple #[.slice none 0 0, .string ⟨#[]⟩, .int .i64 0, .int .i64 3])) s at_ xs) := fun w' => HF3.out _ _ (HB3.out (.inl (by rw [HOkX.out, hgf]; rfl))) rfl
        rw [hgf] at HGF
        clear HTK HB3 HOkX HFx hcb hzx hgf hfx
        go_wp2_with fail
        refine (HCut.out _).mono ?_
        rintro e w2 ⟨rfl, hb2⟩
        have hbel2 := hbel.trans (hb2.mono hB)
        have hown2 := hown.below hb2
        clear hown hbel hb2 hc
        go_wp2_with fail
        refine (HTr.out _).mono ?_
        rintro e w3 ⟨rfl, hb3⟩
        have hB2 := hbel2.size
        have hbel3 := hbel2.trans (hb3.mono hB2)
        have hown3 := hown2.below hb3
        have hB3 := hbel3.size
        clear hown2 hbel2 hb3
        obtain ⟨w4, hw4⟩ : ∃ w4, w4 = w3.alloc (.cells #[.string N, .string V] 102) := ⟨_, rfl⟩
        have hb34 : Below w3.heap.size w3 w4 := by rw [hw4]; exact (Below.refl _ _).alloc (Nat.le_refl _) _
        have hbel4 := hbel3.trans (hb34.mono hB3)
        have hown4 := hown3.below hb34
        have hB4 := hbel4.size
        have n0 : w4.cell? ⟨w3.heap.size, 0, none⟩ = some (.string N) := by rw [hw4, World.cell?_alloc_mark]; rfl
        have n1 : w4.cell? ⟨w3.heap.size, 1, none⟩ = some (.string V) := by rw [hw4, World.cell?_alloc_mark]; rfl
        have hn4 : w3.heap.size < w4.heap.size := World.block_lt_of_cell? _ _ n0
        clear hown3 hb34
        go_wp2_with fail
        rw [← hw4]
        clear hw4
        refine (HGF.out _).mono ?_
        rintro e w5 ⟨rfl, hb5⟩
        have hbel5 := hbel4.trans (hb5.mono hB4)
        have hown5 := hown4.below hb5
        have hB5 := hbel5.size
        have m0 := (hb5.cell (p := ⟨w3.heap.size, 0, none⟩) hn4).trans n0
        have m1 := (hb5.cell (p := ⟨w3.heap.size, 1, none⟩) hn4).trans n1
        have hn5 := Nat.lt_of_lt_of_le hn4 hb5.size
        clear hown4 hbel4 hb5 n0 n1
        go_wp2_with fail
        exact bodyPost_ret (v := .tuple #[.slice none 0 0, .string ⟨#[]⟩, .int .i64 0, .int .i64 3]) (by simp [results, Tryz.results64, go_sem]) rfl ⟨HR.out _, hbel5⟩
      rw [hgf] at HGF HOkX
      by_cases h40 : k = 40
      · have HR : Hid (∀ w', RestT w' w.heap.size (.returned (.tuple #[.slice none 0 0, .string ⟨#[]⟩, .int .i64 0, .int .i64 3])) s at_ xs) := fun w' => HF3.out _ _ (HB3.out (.inr (by omega))) rfl
        have hl40 : (((xs.take k).map fldO).length : Int) = 40 := by omega
        obtain ⟨a1, c1, hv, _, _⟩ := ff_form hown
        subst hv
        have he40 : ((((xs.take k).map fldO).length : Int) == 40) = true := by rw [beq_iff_eq]; exact hl40
        generalize ((xs.take k).map fldO) = acc at *
        clear HTK HB3 HOkX HFx hcb hzx hgf hfx hacc h40 hl40
        go_wp2_with fail
        refine (HCut.out _).mono ?_
        rintro e w2 ⟨rfl, hb2⟩
        have hbel2 := hbel.trans (hb2.mono hB)
        have hown2 := hown.below hb2
        clear hown hbel hb2 hc
        go_wp2_with fail
        refine (HTr.out _).mono ?_
        rintro e w3 ⟨rfl, hb3⟩
        have hB2 := hbel2.size
        have hbel3 := hbel2.trans (hb3.mono hB2)
        have hown3 := hown2.below hb3
        have hB3 := hbel3.size
        clear hown2 hbel2 hb3
        obtain ⟨w4, hw4⟩ : ∃ w4, w4 = w3.alloc (.cells #[.string N, .string V] 102) := ⟨_, rfl⟩
        have hb34 : Below w3.heap.size w3 w4 := by rw [hw4]; exact (Below.refl _ _).alloc (Nat.le_refl _) _
        have hbel4 := hbel3.trans (hb34.mono hB3)
        have hown4 := hown3.below hb34
        have hB4 := hbel4.size
        have n0 : w4.cell? ⟨w3.heap.size, 0, none⟩ = some (.string N) := by rw [hw4, World.cell?_alloc_mark]; rfl
        have n1 : w4.cell? ⟨w3.heap.size, 1, none⟩ = some (.string V) := by rw [hw4, World.cell?_alloc_mark]; rfl
        have hn4 : w3.heap.size < w4.heap.size := World.block_lt_of_cell? _ _ n0
        clear hown3 hb34
        go_wp2_with fail
        rw [← hw4]
        clear hw4
        refine (HGF.out _).mono ?_
        rintro e w5 ⟨rfl, hb5⟩
        have hbel5 := hbel4.trans (hb5.mono hB4)
        have hown5 := hown4.below hb5
        have hB5 := hbel5.size
        have m0 := (hb5.cell (p := ⟨w3.heap.size, 0, none⟩) hn4).trans n0
        have m1 := (hb5.cell (p := ⟨w3.heap.size, 1, none⟩) hn4).trans n1
        have hn5 := Nat.lt_of_lt_of_le hn4 hb5.size
        clear hown4 hbel4 hb5 n0 n1
        go_wp2_with fail
        exact bodyPost_ret (v := .tuple #[.slice none 0 0, .string ⟨#[]⟩, .int .i64 0, .int .i64 3]) (by simp [results, Tryz.results64, go_sem]) rfl ⟨HR.out _, hbel5⟩
      obtain ⟨a1, c1, hv, _, _⟩ := ff_form hown
      subst hv
      have he40 : ((((xs.take k).map fldO).length : Int) == 40) = false := by rw [beq_eq_false_iff_ne]; omega
      cases his : isN tenc (N, V)
      · have hok : okX xs[k] = true := by rw [HOkX.out, his]; rfl
        rw [hfx] at HTK
        rw [his] at HIs
        have HOK' : Hid (∀ j, (hj : j < xs.length) → j < k + 1 → okX xs[j] = true) := by
          intro j hj h
          by_cases e : j = k
          · subst e; exact hok
          · exact HOK.out j hj (by omega)
        have hal : ((xs.take k).map fldO).length ≤ 900000 := by omega
        generalize ((xs.take k).map fldO) = acc at *
        clear HB3 HOkX HFx hcb hzx hgf hfx hacc his hok HOK
        go_wp2_with fail
        refine (HCut.out _).mono ?_
        rintro e w2 ⟨rfl, hb2⟩
        have hbel2 := hbel.trans (hb2.mono hB)
        have hown2 := hown.below hb2
        clear hown hbel hb2 hc
        go_wp2_with fail
        refine (HTr.out _).mono ?_
        rintro e w3 ⟨rfl, hb3⟩
        have hB2 := hbel2.size
        have hbel3 := hbel2.trans (hb3.mono hB2)
        have hown3 := hown2.below hb3
        have hB3 := hbel3.size
        clear hown2 hbel2 hb3
        obtain ⟨w4, hw4⟩ : ∃ w4, w4 = w3.alloc (.cells #[.string N, .string V] 102) := ⟨_, rfl⟩
        have hb34 : Below w3.heap.size w3 w4 := by rw [hw4]; exact (Below.refl _ _).alloc (Nat.le_refl _) _
        have hbel4 := hbel3.trans (hb34.mono hB3)
        have hown4 := hown3.below hb34
        have hB4 := hbel4.size
        have n0 : w4.cell? ⟨w3.heap.size, 0, none⟩ = some (.string N) := by rw [hw4, World.cell?_alloc_mark]; rfl
        have n1 : w4.cell? ⟨w3.heap.size, 1, none⟩ = some (.string V) := by rw [hw4, World.cell?_alloc_mark]; rfl
        have hn4 : w3.heap.size < w4.heap.size := World.block_lt_of_cell? _ _ n0
        clear hown3 hb34
        go_wp2_with fail
        rw [← hw4]
        clear hw4
        refine (HGF.out _).mono ?_
        rintro e w5 ⟨rfl, hb5⟩
        have hbel5 := hbel4.trans (hb5.mono hB4)
        have hown5 := hown4.below hb5
        have hB5 := hbel5.size
        have m0 := (hb5.cell (p := ⟨w3.heap.size, 0, none⟩) hn4).trans n0
        have m1 := (hb5.cell (p := ⟨w3.heap.size, 1, none⟩) hn4).trans n1
        have hn5 := Nat.lt_of_lt_of_le hn4 hb5.size
        clear hown4 hbel4 hb5 n0 n1
        go_wp2_with fail
        refine (HIs.out _).mono ?_
        rintro e w6 ⟨rfl, hb6⟩
        have hbel6 := hbel5.trans (hb6.mono hB5)
        have hown6 := hown5.below hb6
        have hB6 := hbel6.size
        have l0 := (hb6.cell (p := ⟨w3.heap.size, 0, none⟩) hn5).trans m0
        have l1 := (hb6.cell (p := ⟨w3.heap.size, 1, none⟩) hn5).trans m1
        clear hown5 hbel5 hb6 m0 m1
        go_wp2_with (at_builtin; go_loud (refine wpList_append_field w6 rfl _ _ rfl w.heap.size _ acc (by rfl) hown6 _ _ 1 (by rfl) ?q3 hB6 w.heap.size (Nat.le_refl _) w hbel6 ?_))
        case q3 => omega
        intro v' w7 hown7 hbel7
        go_wp2_with fail
        go_roundw
        case rel => exact ⟨k + 1, by omega, by omega, by go_num, by rw [HTK.out]; exact hown7, hbel7, HOK'⟩
        case measure => simp [intOf]; omega
      · have HR : Hid (∀ w', RestT w' w.heap.size (.returned (.tuple #[.slice none 0 0, .string ⟨#[]⟩, .int .i64 0, .int .i64 3])) s at_ xs) := fun w' => HF3.out _ _ (HB3.out (.inl (by rw [HOkX.out, his]; rfl))) rfl
        rw [his] at HIs
        generalize ((xs.take k).map fldO) = acc at *
        clear HTK HB3 HOkX HFx hcb hzx hgf hfx hacc his
        go_wp2_with fail
        refine (HCut.out _).mono ?_
        rintro e w2 ⟨rfl, hb2⟩
        have hbel2 := hbel.trans (hb2.mono hB)
        have hown2 := hown.below hb2
        clear hown hbel hb2 hc
        go_wp2_with fail
        refine (HTr.out _).mono ?_
        rintro e w3 ⟨rfl, hb3⟩
        have hB2 := hbel2.size
        have hbel3 := hbel2.trans (hb3.mono hB2)
        have hown3 := hown2.below hb3
        have hB3 := hbel3.size
        clear hown2 hbel2 hb3
        obtain ⟨w4, hw4⟩ : ∃ w4, w4 = w3.alloc (.cells #[.string N, .string V] 102) := ⟨_, rfl⟩
        have hb34 : Below w3.heap.size w3 w4 := by rw [hw4]; exact (Below.refl _ _).alloc (Nat.le_refl _) _
        have hbel4 := hbel3.trans (hb34.mono hB3)
        have hown4 := hown3.below hb34
        have hB4 := hbel4.size
        have n0 : w4.cell? ⟨w3.heap.size, 0, none⟩ = some (.string N) := by rw [hw4, World.cell?_alloc_mark]; rfl
        have n1 : w4.cell? ⟨w3.heap.size, 1, none⟩ = some (.string V) := by rw [hw4, World.cell?_alloc_mark]; rfl
        have hn4 : w3.heap.size < w4.heap.size := World.block_lt_of_cell? _ _ n0
        clear hown3 hb34
        go_wp2_with fail
        rw [← hw4]
        clear hw4
        refine (HGF.out _).mono ?_
        rintro e w5 ⟨rfl, hb5⟩
        have hbel5 := hbel4.trans (hb5.mono hB4)
        have hown5 := hown4.below hb5
        have hB5 := hbel5.size
        have m0 := (hb5.cell (p := ⟨w3.heap.size, 0, none⟩) hn4).trans n0
        have m1 := (hb5.cell (p := ⟨w3.heap.size, 1, none⟩) hn4).trans n1
        have hn5 := Nat.lt_of_lt_of_le hn4 hb5.size
        clear hown4 hbel4 hb5 n0 n1
        go_wp2_with fail
        refine (HIs.out _).mono ?_
        rintro e w6 ⟨rfl, hb6⟩
        have hbel6 := hbel5.trans (hb6.mono hB5)
        clear hown5 hb6 m0 m1
        go_wp2_with fail
        exact bodyPost_ret (v := .tuple #[.slice none 0 0, .string ⟨#[]⟩, .int .i64 0, .int .i64 3]) (by simp [results, Tryz.results64, go_sem]) rfl ⟨HR.out _, hbel6⟩
    · obtain rfl : k = xs.length := by omega
      rw [List.take_length] at hown
      obtain ⟨hg, hv⟩ := HG.out hk40 (fun j hj => HOK.out j hj hj)
      have hzF : SzF (xs.map fldO) := by
        intro c hc
        obtain ⟨x, hx, rfl⟩ := List.mem_map.1 hc
        have h1 := fld_size x
        have h2 := hz x hx
        omega
      obtain ⟨a1, c1, hve, _, hV⟩ := ff_form hown
      subst hve
      have HLn : Hid _ := l4Length_any a1 c1 (xs.map fldO) wr _ _ hg hzF hV
      have HBad : Hid (∀ c w', fbC (xs.map fldO) (bodyO (s.extract at_ s.size) (xs.map fldO)) = c → c ≠ 0 → RestT w' w.heap.size (.returned (.tuple #[.slice none 0 0, .string ⟨#[]⟩, .int .i64 0, .int .i64 c])) s at_ xs) := fun c w' h h0 => restT_bad (by omega) (by rw [h])
      have HGd : Hid (∀ w' (n : Nat) x, fbC (xs.map fldO) (bodyO (s.extract at_ s.size) (xs.map fldO)) = 0 → bodyO (s.extract at_ s.size) (xs.map fldO) = s.extract at_ (at_ + n) → (bodyO (s.extract at_ s.size) (xs.map fldO)).size = n → fieldsIn w' w.heap.size x (xs.map fldO) → RestT w' w.heap.size (.returned (.tuple #[x, .string (s.extract at_ (at_ + n)), .int .i64 ((at_ : Int) + n), .int .i64 0])) s at_ xs) := fun w' n x h0 hb hs2 hf => restT_good h0 x (by rw [hs2, hb]) hf
      have hW := rest_ways hat hg hv
      have hT : (lnV (xs.map fldO) = -1 ∧ lnN (xs.map fldO) = 0) ∨ (lnV (xs.map fldO) ≠ -1 ∧ lnN (xs.map fldO) = lnV (xs.map fldO)) := by unfold lnN; by_cases h : lnV (xs.map fldO) = -1 <;> simp [h]
      have HIn : Hid _ := fun w => l1In_any (lnN (xs.map fldO)) 0 300 w
      have HFF : Hid (fieldsIn wr w.heap.size (.slice a1 (xs.map fldO).length c1) (xs.map fldO)) := hown
      clear HG H3 HF3 hg hv hzF hown hV HOK hk40 GA
      generalize lnN (xs.map fldO) = N at hW hT HIn
      generalize lnV (xs.map fldO) = T at HLn hT
      generalize (bodyO (s.extract at_ s.size) (xs.map fldO)) = BB at HBad HGd hW
      generalize fbC (xs.map fldO) BB = CC at HBad HGd hW
      generalize (xs.map fldO) = FF at *
      rcases hW with ⟨hN, hC⟩ | ⟨n, hN, hn3, hw1 | ⟨hw1, hC, hBe, hBs⟩⟩
      · have hin : (decide ((0 : Int) ≤ N) && decide (N ≤ 300)) = false := by
          rcases hN with h | h
          · rw [decide_eq_false (by omega)]; rfl
          · rw [decide_eq_false (show ¬ N ≤ 300 by omega), Bool.and_false]
        rw [hin] at HIn
        have HR : Hid (∀ w', RestT w' w.heap.size (.returned (.tuple #[.slice none 0 0, .string ⟨#[]⟩, .int .i64 0, .int .i64 4])) s at_ xs) := fun w' => HBad.out 4 w' hC (by decide)
        clear HBad HGd hin hC
        rcases hT with ⟨hT, hT2⟩ | ⟨hT, hT2⟩
        · subst hT hT2
          omega
        · subst hT2
          have hq : (N == -1) = false := by rw [beq_eq_false_iff_ne]; exact hT
          clear hN hT
          go_wp2_with fail
          refine (Calls.mono HLn.out ?_)
          rintro e w2 ⟨rfl, hb2'⟩
          have hb2 := hbel.trans (hb2'.mono hbel.size)
          go_wp2_with fail
          refine (HIn.out _).mono ?_
          rintro e w3 ⟨rfl, hw⟩
          obtain rfl := hw.symm
          go_wp2_with fail
          exact bodyPost_ret (v := .tuple #[.slice none 0 0, .string ⟨#[]⟩, .int .i64 0, .int .i64 4]) (by simp [results, Tryz.results64, go_sem]) rfl ⟨HR.out _, hb2⟩
      · obtain ⟨hw1, hC⟩ := hw1
        subst hN
        have hin : (decide ((0 : Int) ≤ (n : Int)) && decide ((n : Int) ≤ 300)) = true := by rw [decide_eq_true (by omega), decide_eq_true (by omega)]; rfl
        rw [hin] at HIn
        have HR : Hid (∀ w', RestT w' w.heap.size (.returned (.tuple #[.slice none 0 0, .string ⟨#[]⟩, .int .i64 0, .int .i64 1])) s at_ xs) := fun w' => HBad.out 1 w' hC (by decide)
        have hd : decide ((s.size : Int) - (at_ : Int) < (n : Int)) = true := decide_eq_true (by omega)
        clear HBad HGd hin hC
        rcases hT with ⟨hT, hT2⟩ | ⟨hT, hT2⟩
        · omega
        · subst hT2
          have hq : ((n : Int) == -1) = false := by rw [beq_eq_false_iff_ne]; exact hT
          clear hT
          go_wp2_with fail
          refine (Calls.mono HLn.out ?_)
          rintro e w2 ⟨rfl, hb2'⟩
          have hb2 := hbel.trans (hb2'.mono hbel.size)
          go_wp2_with fail
          refine (HIn.out _).mono ?_
          rintro e w3 ⟨rfl, hw⟩
          obtain rfl := hw.symm
          go_wp2_with fail
          exact bodyPost_ret (v := .tuple #[.slice none 0 0, .string ⟨#[]⟩, .int .i64 0, .int .i64 1]) (by simp [results, Tryz.results64, go_sem]) rfl ⟨HR.out _, hb2⟩
      · subst hN
        have hin : (decide ((0 : Int) ≤ (n : Int)) && decide ((n : Int) ≤ 300)) = true := by rw [decide_eq_true (by omega), decide_eq_true (by omega)]; rfl
        rw [hin] at HIn
        have hd : decide ((s.size : Int) - (at_ : Int) < (n : Int)) = false := decide_eq_false (by omega)
        have HR : Hid (∀ w' x, fieldsIn w' w.heap.size x FF → RestT w' w.heap.size (.returned (.tuple #[x, .string (s.extract at_ (at_ + n)), .int .i64 ((at_ : Int) + n), .int .i64 0])) s at_ xs) := fun w' x hf => HGd.out w' n x hC hBe hBs hf
        clear HBad HGd hin hC hBe hBs
        rcases hT with ⟨hT, hT2⟩ | ⟨hT, hT2⟩
        · obtain rfl : n = 0 := by omega
          subst hT
          clear hT2
          have hex : s.extract at_ (at_ + 0) = ByteArray.empty := Fbs.empty_of (by rw [ByteArray.size_extract]; omega)
          rw [hex] at HR
          have HR0 : Hid (∀ w' x, fieldsIn w' w.heap.size x FF → RestT w' w.heap.size (.returned (.tuple #[x, .string ByteArray.empty, .int .i64 (at_ : Int), .int .i64 0])) s at_ xs) := fun w' x hf => by
            have := HR.out w' x hf
            rwa [show (at_ : Int) + ((0 : Nat) : Int) = (at_ : Int) from by omega] at this
          clear HR hex
          go_wp2_with fail
          refine (Calls.mono HLn.out ?_)
          rintro e w2 ⟨rfl, hb2'⟩
          have hb2 := hbel.trans (hb2'.mono hbel.size)
          go_wp2_with fail
          refine (HIn.out _).mono ?_
          rintro e w3 ⟨rfl, hw⟩
          obtain rfl := hw.symm
          go_wp2_with fail
          have hF2 : Hid (fieldsIn w2 w.heap.size (.slice a1 FF.length c1) FF) := HFF.out.below hb2'
          clear hb2'
          go_region
          all_goals
            go_wp2_with fail
            exact bodyPost_ret (v := .tuple #[.slice a1 FF.length c1, .string ByteArray.empty, .int .i64 (at_ : Int), .int .i64 0]) (by simp [results, Tryz.results64, go_sem]) rfl ⟨HR0.out _ _ (by exact hF2.out), hb2.drew⟩
        · subst hT2
          have hq : ((n : Int) == -1) = false := by rw [beq_eq_false_iff_ne]; exact hT
          clear hT
          go_wp2_with fail
          refine (Calls.mono HLn.out ?_)
          rintro e w2 ⟨rfl, hb2'⟩
          have hb2 := hbel.trans (hb2'.mono hbel.size)
          go_wp2_with fail
          refine (HIn.out _).mono ?_
          rintro e w3 ⟨rfl, hw⟩
          obtain rfl := hw.symm
          go_wp2_with fail
          have hF2 : Hid (fieldsIn w2 w.heap.size (.slice a1 FF.length c1) FF) := HFF.out.below hb2'
          clear hb2'
          go_region
          all_goals
            go_wp2_with fail
            exact bodyPost_ret (v := .tuple #[.slice a1 FF.length c1, .string (s.extract at_ (at_ + n)), .int .i64 ((at_ : Int) + n), .int .i64 0]) (by simp [results, Tryz.results64, go_sem]) rfl ⟨HR.out _ _ (by exact hF2.out), hb2.drew⟩

end Go.Proofs.YtaplkbkpgdpbaaaGreatDoor.Tkr
