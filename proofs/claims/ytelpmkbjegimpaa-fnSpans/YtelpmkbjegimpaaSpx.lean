/-
  Pure: texts pasted. Walk: spec.PasteSpans.
-/
import Derived.Test.YtelpmkbjegimpaaSpy
import Derived.Test.YtelpmkbjegimpaaMrk
import Derived.Laws.MakeOwn
import Derived.RegionTactic
import Derived.ChangeAlike
namespace Go.Proofs.Ytelpmkbjegimpaa.Spb
open Go.RowKit
open Go.Proofs.Ytelpmkbjegimpaa.Spp
open Go.Proofs.Ytelpmkbjegimpaa.Mrk (TV)
open Go.Proofs.Ytelpmkbjegimpaa.Own (bytesIn run_text)

/-- So many bytes of a text written from a place on. -/
def putB (B : List UInt8) (F : Nat) (p : ByteArray) (k : Nat) : List UInt8 := (List.range k).foldl (fun B j => B.set (F + j) (p.data.getD j 0)) B
theorem put_more (B : List UInt8) (F : Nat) (p : ByteArray) (k : Nat) : putB B F p (k + 1) = (putB B F p k).set (F + k) (p.data.getD k 0) := by
  unfold putB
  rw [List.range_succ, List.foldl_append]; rfl
theorem put_len (B : List UInt8) (F : Nat) (p : ByteArray) : ∀ k, (putB B F p k).length = B.length
  | 0 => rfl
  | k + 1 => by rw [put_more, List.length_set, put_len B F p k]
def pasteZ (Z : List ((Int × Int) × ByteArray)) (B : List UInt8) : List UInt8 := Z.foldl (fun B z => putB B z.1.1.toNat z.2 z.2.size) B
theorem pasteZ_len : ∀ (Z : List ((Int × Int) × ByteArray)) (B : List UInt8), (pasteZ Z B).length = B.length
  | [], _ => rfl
  | z :: Z, B => by show (pasteZ Z _).length = _; rw [pasteZ_len Z, put_len]
theorem pasteZ_take (Z : List ((Int × Int) × ByteArray)) (B : List UInt8) (i : Nat) (h : i < Z.length) : pasteZ (Z.take (i + 1)) B = putB (pasteZ (Z.take i) B) Z[i].1.1.toNat Z[i].2 Z[i].2.size := by
  unfold pasteZ
  rw [List.take_succ_eq_append_getElem h, List.foldl_append]; rfl
def fitZ (Z : List ((Int × Int) × ByteArray)) : Bool := Z.all (fun z => decide ((z.2.size : Int) = z.1.2 - z.1.1))
/-- What PasteSpans may paste, and answers. -/
def pasteH (size : Int) (l : List (Int × Int)) (ps : List ByteArray) : Bool := (decide (0 ≤ size) && decide (size ≤ 300)) && (withinL l size && decide (ps.length = l.length))
def pasteB (size : Int) (l : List (Int × Int)) (ps : List ByteArray) : Bool := pasteH size l ps && fitZ (l.zip ps)
def pasteS (size : Int) (l : List (Int × Int)) (ps : List ByteArray) : ByteArray := if pasteB size l ps then ⟨(pasteZ (l.zip ps) (List.replicate size.toNat 46)).toArray⟩ else ⟨#[]⟩
theorem paste_no {size : Int} {l : List (Int × Int)} {ps : List ByteArray} (h : pasteB size l ps = false) : pasteS size l ps = ⟨#[]⟩ := by unfold pasteS; rw [h]; rfl
theorem paste_yes {size : Int} {l : List (Int × Int)} {ps : List ByteArray} (h : pasteB size l ps = true) : pasteS size l ps = ⟨(pasteZ (l.zip ps) (List.replicate size.toNat 46)).toArray⟩ := by unfold pasteS; rw [h]; rfl
theorem ret_sb {s t : ByteArray} {a b : Bool} (h : s = t) (h2 : a = b) : Ending.returned (.tuple #[.string s, .bool a]) = .returned (.tuple #[.string t, .bool b]) := by rw [h, h2]
theorem made_bytes (w : World) (B k : Nat) (hb : B ≤ w.heap.size) (hk : k ≤ 300) : bytesIn (w.alloc (.cells (madeCells #[.int .u8 0] k) 5)) B (.slice (some ⟨w.heap.size, 0, none⟩) k k) (List.replicate k 0) := by
  have e : (madeCells #[.int .u8 0] k) = Array.replicate k (.int .u8 0) := by
    apply Array.ext
    · simp [madeCells]
    · intro i h1 h2; simp [madeCells, Nat.mod_one]
  refine ⟨by simp, .inr ⟨w.heap.size, k, _, by simp, hb, heap_alloc_new w _, by simp, ?_, by rw [e]; simp, ?_⟩⟩
  · unfold maxLen; omega
  · rw [e]; simp

theorem bytes_set {w : World} {B g n c : Nat} {L : List UInt8} (h : bytesIn w B (.slice (some ⟨g, 0, none⟩) n c) L) (hn : n = L.length) (j : Nat) (u : UInt8) : bytesIn (w.setCell ⟨g, j, none⟩ (.int .u8 (u.toNat : Int))) B (.slice (some ⟨g, 0, none⟩) n c) (L.set j u) := by
  unfold bytesIn at h ⊢
  rw [← hn] at h
  rw [List.length_set, ← hn, List.map_set]
  exact (World.ownsRow.stored h j (.int .u8 (u.toNat : Int))).1
theorem bytes_cell {w : World} {B g n c : Nat} {L : List UInt8} (h : bytesIn w B (.slice (some ⟨g, 0, none⟩) n c) L) (hn : n = L.length) (j : Nat) (hj : j < n) : w.frozen? ⟨g, j, none⟩ = false ∧ (∃ x, w.cell? ⟨g, j, none⟩ = some x) ∧ g < w.heap.size ∧ B ≤ g := by
  unfold bytesIn at h
  rw [← hn] at h
  obtain ⟨u, hu⟩ : ∃ u, L[j]? = some u := ⟨L[j]'(by omega), List.getElem?_eq_getElem (by omega)⟩
  have e1 := World.ownsRow.cells h (g := g) rfl j _ (by rw [List.getElem?_map, hu]; rfl)
  rw [Addr.add_lit, Nat.zero_add] at e1
  have e2 := h.lt g rfl
  exact ⟨World.ownsRow.frozenAt (n := n) (cap := c) h j, ⟨_, e1⟩, e2.2, e2.1⟩
theorem bdrew {R : Nat} {W w : World} (h : Below R W w) : Below R W w.drew := ⟨h.os, h.tape, h.output, h.size, h.block⟩
theorem byte_at (p : ByteArray) (k : Nat) (h : k < p.size) : p.data.getD k 0 = p[k] := by
  unfold Array.getD
  rw [dif_pos (show k < p.data.size from h)]; rfl
theorem dots_set (i n : Nat) (h : i < n) : (List.replicate i (46 : UInt8) ++ List.replicate (n - i) 0).set i 46 = List.replicate (i + 1) 46 ++ List.replicate (n - (i + 1)) 0 := by
  rw [List.set_append_right _ _ (by simp), List.length_replicate, Nat.sub_self, show n - i = (n - (i + 1)) + 1 by omega, List.replicate_succ, List.set_cons_zero, List.replicate_succ', List.append_assoc]; rfl

set_option maxHeartbeats 3200000 in
theorem specPaste_any (size : Int) (a : Option Addr) (ca : Nat) (l : List (Int × Int)) (b : Option Addr) (cb : Nat) (ps : List ByteArray) (w : World) (lo hi lo' hi' : Nat) (hl : l.length ≤ 2000000) (_ : ps.length ≤ 2000000) (hps : ∀ p ∈ ps, p.size ≤ 2000000) (ha : PV w a l lo hi) (hb : TV w b ps lo' hi') :
    Calls Try.prog 27 #[.int .i64 size, .slice a l.length ca, .slice b ps.length cb] w fun e w' => e = .returned (.tuple #[.string (pasteS size l ps), .bool (pasteB size l ps)]) ∧ Below w.heap.size w w' := by
  have HV : Hid (PV w a l lo hi) := ha
  have HP : Hid (TV w b ps lo' hi') := hb
  have HG : Hid _ := fun wx hx => l6Within_any a ca l size wx lo hi hl hx
  clear ha hb
  by_cases hsz : 0 ≤ size ∧ size ≤ 300
  rotate_left
  · have hB : pasteB size l ps = false := by
      unfold pasteB pasteH
      by_cases h0 : 0 ≤ size
      · rw [decide_eq_true h0, decide_eq_false (by omega)]; rfl
      · rw [decide_eq_false h0]; rfl
    have HI : Hid (size < 0 ∨ 300 < size) := by show _ ∨ _; omega
    rw [hB, paste_no hB]
    clear hB hsz
    go_enter Try.func27, Try.ntmps27
    go_wp2_with (go_at_call 36; refine (in_no _ _ _ _ HI.out).mono ?_; rintro e w' ⟨rfl, hw⟩; obtain rfl := hw.symm)
    go_ret2
    exact ⟨rfl, Below.refl _ _⟩
  have HI : Hid (0 ≤ size ∧ size ≤ 300) := hsz
  cases hwi : withinL l size
  · have hB : pasteB size l ps = false := by unfold pasteB pasteH; rw [hwi]; simp
    rw [hwi] at HG
    rw [hB, paste_no hB]
    clear hB hsz hwi
    go_enter Try.func27, Try.ntmps27
    go_wp2_with (first
      | (go_at_call 36; refine (in_yes _ _ _ _ HI.out.1 HI.out.2).mono ?_; rintro e w' ⟨rfl, hw⟩; obtain rfl := hw.symm)
      | (go_at_call 40; refine (HG.out _ HV.out).mono ?_; rintro e w2 ⟨rfl, hb2⟩))
    go_ret2
    exact ⟨rfl, hb2⟩
  rw [hwi] at HG
  obtain ⟨hgl, hin⟩ := withinL_parts hwi
  by_cases hlen : ps.length = l.length
  rotate_left
  · have hB : pasteB size l ps = false := by unfold pasteB pasteH; rw [decide_eq_false hlen]; simp
    rw [hB, paste_no hB]
    have hd : ((ps.length : Int) != (l.length : Int)) = true := by rw [bne_iff_ne]; omega
    clear hB hsz hwi hin hlen
    go_enter Try.func27, Try.ntmps27
    go_wp2_with (first
      | (go_at_call 36; refine (in_yes _ _ _ _ HI.out.1 HI.out.2).mono ?_; rintro e w' ⟨rfl, hw⟩; obtain rfl := hw.symm)
      | (go_at_call 40; refine (HG.out _ HV.out).mono ?_; rintro e w2 ⟨rfl, hb2⟩))
    go_ret2
    exact ⟨rfl, hb2⟩
  have hH : pasteH size l ps = true := by unfold pasteH; rw [decide_eq_true hsz.1, decide_eq_true hsz.2, hwi, decide_eq_true hlen]; rfl
  have hBe : pasteB size l ps = fitZ (l.zip ps) := by unfold pasteB; rw [hH, Bool.true_and]
  obtain ⟨n, rfl⟩ : ∃ n : Nat, size = n := ⟨size.toNat, by omega⟩
  obtain ⟨hl12, hgood⟩ := goodL_parts hgl
  have HBe : Hid _ := hBe
  have HGd : Hid _ := hgood
  have HIn : Hid _ := hin
  have HPs : Hid _ := hps
  have hn3 : n ≤ 300 := by omega
  clear hH hBe hgood hin hps hwi hgl hsz hl
  obtain ⟨i0, hi0, hz0, hz1, hz2⟩ := info_parts Own.info5
  go_enter Try.func27, Try.ntmps27
  have hmk := fun wx => run_make (P := Try.prog) wx 22 5 i0 _ Try.underlying22 hi0 hz0 .i64 .i64 (n : Int) (n : Int) (by omega) (by omega) (by rw [hz2]; omega) (by omega)
  have HM : Hid (∀ wx, (Instr.makeSlice 22 (.int .i64 (n : Int)) (.int .i64 (n : Int))).run Try.prog wx = .ok (.slice (some ⟨wx.heap.size, 0, none⟩) n n) (wx.alloc (.cells (madeCells #[.int .u8 0] n) 5))) := by
    intro wx
    have := hmk wx
    rw [hz1, Int.toNat_natCast, Nat.mul_one] at this
    exact this
  clear hmk hi0 hz0 hz1 hz2
  go_wp2_with (first
      | (go_at_call 36; refine (in_yes _ _ _ _ HI.out.1 HI.out.2).mono ?_; rintro e w' ⟨rfl, hw⟩; obtain rfl := hw.symm)
      | (go_at_call 40; refine (HG.out _ HV.out).mono ?_; rintro e w2 ⟨rfl, hb2⟩; obtain ⟨w3, hw3⟩ : ∃ w3, w3 = w2.alloc (.cells (madeCells #[.int .u8 0] n) 5) := ⟨_, rfl⟩; have hmk := HM.out w2; have hown : bytesIn w3 w.heap.size (.slice (some ⟨w2.heap.size, 0, none⟩) n n) (List.replicate n 0) := (by rw [hw3]; exact made_bytes w2 _ n hb2.size hn3); have hb3 : Below w.heap.size w w3 := (by rw [hw3]; exact hb2.alloc hb2.size _); have hg2 : w.heap.size ≤ w2.heap.size := hb2.size; rw [← hw3] at hmk; clear hw3 hb2 HM HG))
  obtain ⟨g, hg⟩ : ∃ g, g = w2.heap.size := ⟨_, rfl⟩
  rw [← hg] at hown hg2
  rw [← hg]
  clear hg hmk
  have HO3 : Hid (bytesIn w3 w.heap.size (.slice (some ⟨g, 0, none⟩) n n) (List.replicate n 0)) := hown
  have HB3 : Hid (Below w.heap.size w w3) := hb3
  clear hown hb3
  go_loopw [33] (fun c wr => ∃ i : Nat, i ≤ n ∧ c = .int .i64 i ∧ Hid (bytesIn wr w.heap.size (.slice (some ⟨g, 0, none⟩) n n) (List.replicate i 46 ++ List.replicate (n - i) 0)) ∧ Hid (Below w.heap.size w wr)) (fun c _ => n - (intOf c).toNat)
  case atStart => exact ⟨0, by omega, rfl, HO3, HB3⟩
  case round =>
    obtain ⟨i, hi, rfl, HO, HB⟩ := hrel
    clear HO3 HB3
    by_cases hlt : i < n
    · obtain ⟨f1, ⟨x, f2⟩, f3, f4⟩ := bytes_cell HO.out (by simp; omega) i hlt
      go_wp2_with fail
      refine ⟨⟨i + 1, by omega, by go_num, (?_ : bytesIn _ _ _ _), (?_ : Below _ _ _)⟩, ?_⟩
      · have := bytes_set HO.out (by simp; omega) i 46
        rw [dots_set i n hlt] at this
        exact this
      · exact HB.out.setCell (p := ⟨g, i, none⟩) hg2 _
      · simp [intOf]; omega
    · obtain rfl : i = n := by omega
      have HO4 : Hid (bytesIn wr w.heap.size (.slice (some ⟨g, 0, none⟩) i i) (List.replicate i 46)) := by
        have := HO.out
        rw [Nat.sub_self, List.replicate_zero, List.append_nil] at this
        exact this
      clear HO
      go_wp2_with fail
      obtain ⟨w4, hw4⟩ : ∃ w4, w4 = wr := ⟨_, rfl⟩
      subst hw4
      have hZl : (l.zip ps).length = l.length := by rw [List.length_zip]; omega
      obtain ⟨Z, hZ⟩ : ∃ Z, Z = l.zip ps := ⟨_, rfl⟩
      have HZ : Hid (Z = l.zip ps) := hZ
      rw [← hZ] at hZl HBe
      clear hZ
      have HZL : Hid (Z.length = l.length) := hZl
      clear hZl
      go_loopw [42] (fun c wr => ∃ j : Nat, j ≤ l.length ∧ c = .int .i64 j ∧ Hid (bytesIn wr w.heap.size (.slice (some ⟨g, 0, none⟩) i i) (pasteZ (Z.take j) (List.replicate i 46))) ∧ Hid (Below w.heap.size w wr) ∧ Hid (∀ x, (hx : x < Z.length) → x < j → (Z[x].2.size : Int) = Z[x].1.2 - Z[x].1.1)) (fun c _ => l.length - (intOf c).toNat)
      case atStart => exact ⟨0, by omega, rfl, HO4, HB, fun x _ h => absurd h (by omega)⟩
      case round =>
        obtain ⟨j, hj, rfl, HO, HB5, HF⟩ := hrel
        obtain ⟨W1, hW1⟩ : ∃ W1, W1 = wr := ⟨_, rfl⟩
        subst hW1
        clear HO4 HB
        by_cases hlt2 : j < l.length
        · obtain ⟨ga, rfl, hga, hc, hd⟩ := row_at (HV.out.below HB5.out) hlt2
          obtain ⟨gb, rfl, hgb, hcb⟩ : ∃ gb, b = some ⟨gb, 0, none⟩ ∧ gb < w.heap.size ∧ w.cell? ⟨gb, j, none⟩ = some (.string (ps[j]'(by omega))) := by
            rcases HP.out with h | ⟨gb, h1, _, _, h4⟩
            · rw [h] at hlen; simp at hlen; omega
            · exact ⟨gb, h1, h4.1, h4.2.2 j _ (List.getElem?_eq_getElem (by omega))⟩
          obtain ⟨F, T, hFT⟩ : ∃ F T, l[j] = (F, T) := ⟨_, _, rfl⟩
          obtain ⟨p, hpj⟩ : ∃ p, p = ps[j]'(by omega) := ⟨_, rfl⟩
          have hz : Z[j]'(by have := HZL.out; omega) = ((F, T), p) := by
            have := HZ.out
            subst this
            rw [List.getElem_zip, hFT, hpj]
          have hps := HPs.out p (by rw [hpj]; exact List.getElem_mem _)
          obtain ⟨n1, n2, n3⟩ := HGd.out _ (List.getElem_mem hlt2)
          have n4 := HIn.out _ (List.getElem_mem hlt2)
          rw [← hpj] at hcb
          rw [hFT] at hc hd n1 n2 n3 n4
          dsimp only at hc hd n1 n2 n3 n4
          have HCb : Hid (w.cell? ⟨gb, j, none⟩ = some (.string p)) := hcb
          have hcb1 := (HB5.out.cell (p := ⟨gb, j, none⟩) hgb).trans HCb.out
          have Hz : Hid _ := hz
          have hs1 : (W1.alloc (.cells #[.int .i64 F, .int .i64 T] 32)).heap.size = W1.heap.size + 1 := by simp
          have HO6 : Hid (bytesIn (W1.alloc (.cells #[.int .i64 F, .int .i64 T] 32)) w.heap.size (.slice (some ⟨g, 0, none⟩) i i) (pasteZ (Z.take j) (List.replicate i 46))) := World.ownsRow.alloc HO.out _
          have HB6 : Hid (Below w.heap.size w (W1.alloc (.cells #[.int .i64 F, .int .i64 T] 32))) := HB5.out.alloc HB5.out.size _
          have hgW : g < W1.heap.size := by
            have := HO.out.lt g rfl
            exact this.2
          have hcb2 := (HB6.out.cell (p := ⟨gb, j, none⟩) hgb).trans HCb.out
          clear hz hpj hFT hcb HO HB5
          by_cases hfit : (p.size : Int) = T - F
          · have hdf : ((p.size : Int) != T - F) = false := by rw [bne_eq_false_iff_eq]; exact hfit
            go_wp2_with fail
            go_quiet (fail)
            go_wp2_with fail
            obtain ⟨wx, hwx⟩ : ∃ wx, wx = (W1.alloc (.cells #[.int .i64 F, .int .i64 T] 32)).drewN nq := ⟨_, rfl⟩
            have HOx : Hid (bytesIn wx w.heap.size (.slice (some ⟨g, 0, none⟩) i i) (pasteZ (Z.take j) (List.replicate i 46))) := by rw [hwx]; exact HO6.out.below (bdrewN (Below.refl _ _) _)
            have HBx : Hid (Below w.heap.size w wx) := by rw [hwx]; exact bdrewN HB6.out _
            have X0 : Hid (wx.cell? ⟨W1.heap.size, 0, none⟩ = some (.int .i64 F)) := by rw [hwx]; show (W1.alloc _).cell? _ = _; simp [go_sem]
            rw [← hwx]
            clear hwx HO6 HB6 hs1 hcb1 hcb2 hc hd
            go_loopw [12] (fun c wr => ∃ k : Nat, k ≤ p.size ∧ c = .int .i64 k ∧ Hid (bytesIn wr w.heap.size (.slice (some ⟨g, 0, none⟩) i i) (putB (pasteZ (Z.take j) (List.replicate i 46)) F.toNat p k)) ∧ Hid (Below w.heap.size w wr) ∧ Hid (wr.cell? ⟨W1.heap.size, 0, none⟩ = some (.int .i64 F))) (fun c _ => p.size - (intOf c).toNat)
            case atStart => exact ⟨0, by omega, rfl, HOx, HBx, X0⟩
            case round =>
              obtain ⟨k, hk, rfl, HO7, HB7, X7⟩ := hrel
              clear HOx HBx X0
              have hcb7 := (HB7.out.cell (p := ⟨gb, j, none⟩) hgb).trans HCb.out
              by_cases hkl : k < p.size
              · have x7 := X7.out
                have hLn : (putB (pasteZ (Z.take j) (List.replicate i 46)) F.toNat p k).length = i := by rw [put_len, pasteZ_len, List.length_replicate]
                obtain ⟨f, hf⟩ : ∃ f : Nat, F = f := ⟨F.toNat, by omega⟩
                subst hf
                rw [Int.toNat_natCast] at HO7 hLn
                obtain ⟨f1, ⟨x, f2⟩, f3, f4⟩ := bytes_cell HO7.out hLn.symm (f + k) (by omega)
                go_wp2_with fail
                go_region
                all_goals (go_wp2_with fail)
                all_goals
                  refine ⟨⟨k + 1, by omega, by go_num, (?_ : bytesIn _ _ _ _), (?_ : Below _ _ _), (?_ : _ = _)⟩, ?_⟩
                  · have e : putB (pasteZ (Z.take j) (List.replicate i 46)) (f : Int).toNat p (k + 1) = (putB (pasteZ (Z.take j) (List.replicate i 46)) f p k).set (f + k) p[k] := by rw [Int.toNat_natCast, put_more, byte_at p k hkl]
                    rw [e]
                    exact (bytes_set HO7.out hLn.symm (f + k) p[k]).below (bdrew (Below.refl _ _))
                  · exact bdrew (HB7.out.setCell (p := ⟨g, f + k, none⟩) hg2 _)
                  · show (wr.setCell _ _).cell? _ = _
                    have hne : W1.heap.size ≠ g := by omega
                    have hne2 : g ≠ W1.heap.size := by omega
                    simp [go_sem]
                    exact X7.out
                  · simp [intOf]; omega
              · obtain rfl : k = p.size := by omega
                have HOn : Hid (bytesIn wr w.heap.size (.slice (some ⟨g, 0, none⟩) i i) (pasteZ (Z.take (j + 1)) (List.replicate i 46))) := by
                  show bytesIn _ _ _ _
                  rw [pasteZ_take Z _ j (by have := HZL.out; omega), Hz.out]
                  exact HO7.out
                have HFn : Hid (∀ x, (hx : x < Z.length) → x < j + 1 → (Z[x].2.size : Int) = Z[x].1.2 - Z[x].1.1) := by
                  intro x hx h
                  by_cases e : x = j
                  · subst e; rw [Hz.out]; exact hfit
                  · exact HF.out x hx (by omega)
                clear HF
                go_wp2_with fail
                refine ⟨⟨j + 1, by omega, by go_num, HOn, HB7, HFn⟩, ?_⟩
                simp [intOf]; omega
          · have hdf : ((p.size : Int) != T - F) = true := by rw [bne_iff_ne]; exact hfit
            have HR : Hid (fitZ Z = false) := by
              show _ = _
              unfold fitZ
              rw [List.all_eq_false]
              refine ⟨Z[j]'(by have := HZL.out; omega), List.getElem_mem _, ?_⟩
              rw [Hz.out]
              simp; exact hfit
            clear HF
            go_wp2_with fail
            go_quiet (fail)
            go_wp2_with fail
            go_ret2
            refine ⟨?_, bdrewN HB6.out _⟩
            have hB := HBe.out.trans HR.out
            exact ret_sb (paste_no hB).symm hB.symm
        · obtain rfl : j = l.length := by omega
          have HR : Hid (pasteB (i : Int) l ps = true) := by
            show _ = _
            rw [HBe.out]
            unfold fitZ
            rw [List.all_eq_true]
            intro z hz
            obtain ⟨x, hx, rfl⟩ := List.getElem_of_mem hz
            exact decide_eq_true (HF.out x hx (by have := HZL.out; omega))
          have hE : Z.take l.length = Z := by rw [← HZL.out]; exact List.take_length
          have hcv := run_text _ _ _ W1 (by have := HO.out; rw [hE] at this; have e := pasteZ_len Z (List.replicate i 46); exact this)
          clear hE
          go_wp2_with fail
          go_ret2
          refine ⟨ret_sb (s := ⟨(pasteZ Z (List.replicate i 46)).toArray⟩) (a := true) ?_ HR.out.symm, HB5.out⟩
          rw [paste_yes HR.out, ← HZ.out, Int.toNat_natCast]

end Go.Proofs.Ytelpmkbjegimpaa.Spb
