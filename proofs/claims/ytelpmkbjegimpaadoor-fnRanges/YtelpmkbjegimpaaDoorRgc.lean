/-
  Pure: parts stand within the text; so both readings tell the same where digits don't run long; what was told is read again.
-/
import Derived.Test.YtelpmkbjegimpaaDoorRgb
namespace Go.Proofs.YtelpmkbjegimpaaDoor.Rgb
open Go.RowKit
open Go.Proofs.YtelpmkbjegimpaaDoor.Rga
open Go.Proofs.YtelpmkbjegimpaaDoor.Ctf (cutA cutZ cutB cutI cut_some cut_none)
open Go.Proofs.YtelpmkbjegimpaaDoor.Lsp (listL)
open Go.Proofs.YtelpmkbjegimpaaDoor.Lpu
open Go.Proofs.YtelpmkbjegimpaaDoor.Num (num)
open Go.Proofs.YtelpmkbjegimpaaDoor.Srt
open Go.Proofs.YtelpmkbjegimpaaDoor.Spp (goodL goodL_parts)

def Within (p s : List UInt8) : Prop := ∃ u v, s = u ++ p ++ v
theorem Within.refl (p : List UInt8) : Within p p := ⟨[], [], by simp⟩
theorem Within.trans {a b c : List UInt8} (h : Within a b) (k : Within b c) : Within a c := by
  obtain ⟨u, v, rfl⟩ := h
  obtain ⟨x, y, rfl⟩ := k
  exact ⟨x ++ u, v ++ y, by simp⟩
theorem spl_within : ∀ (l : List UInt8) (q : St) (cur : List UInt8) (ps : List (List UInt8)), spl q cur l = some ps → ∀ p ∈ ps, Within p (cur ++ l)
  | [], q, cur, ps, h, p, hp => by
    unfold spl at h
    split at h
    · cases h
      have : p = cur := by simpa using hp
      subst this
      exact ⟨[], [], by simp⟩
    · cases h
  | c :: r, q, cur, ps, h, p, hp => by
    unfold spl at h
    split at h
    · cases hr : spl .out [] r with
      | none => rw [hr] at h; cases h
      | some qs =>
        rw [hr] at h
        have : ps = cur :: qs := (Option.some.inj h).symm
        subst this
        rcases List.mem_cons.1 hp with rfl | hp
        · exact ⟨[], c :: r, by simp⟩
        · obtain ⟨u, v, e⟩ := spl_within r .out [] qs hr p hp
          exact ⟨cur ++ c :: u, v, by rw [List.nil_append] at e; rw [e]; simp⟩
    · obtain ⟨u, v, e⟩ := spl_within r _ _ ps h p hp
      exact ⟨u, v, by rw [← e]; simp⟩
theorem trim_within (q : List UInt8) : Within (Lib.trimB q 32) q := by
  have h1 : Within (Lib.trimLeftB (Lib.trimRightB q 32) 32) (Lib.trimRightB q 32) := by
    refine ⟨(Lib.trimRightB q 32).takeWhile (· == 32), [], ?_⟩
    unfold Lib.trimLeftB
    rw [List.append_nil, List.takeWhile_append_dropWhile]
  have h2 : Within (Lib.trimRightB q 32) q := by
    refine ⟨[], (q.reverse.takeWhile (· == 32)).reverse, ?_⟩
    unfold Lib.trimRightB
    rw [List.nil_append, ← List.reverse_append, List.takeWhile_append_dropWhile, List.reverse_reverse]
  exact h1.trans h2
theorem list_within {s : ByteArray} {l : List ByteArray} (h : listL s = some l) : ∀ x ∈ l, Within x.data.toList s.data.toList := by
  intro x hx
  rw [listL_spl] at h
  cases hq : spl .out [] s.data.toList with
  | none => rw [hq] at h; cases h
  | some ps =>
    rw [hq] at h
    have : l = clean ps := (Option.some.inj h).symm
    subst this
    unfold clean at hx
    rw [List.mem_filter, List.mem_map] at hx
    obtain ⟨⟨q, hqm, rfl⟩, _⟩ := hx
    have := spl_within _ _ _ _ hq q hqm
    rw [List.nil_append] at this
    exact (trim_within q).trans this
theorem spl_plain : ∀ (l cur : List UInt8), (∀ c ∈ l, c.toNat ≠ 34) → ∃ ps, spl .out cur l = some ps
  | [], cur, _ => ⟨[cur], by simp [spl]⟩
  | c :: r, cur, h => by
    by_cases h44 : c.toNat = 44
    · obtain ⟨ps, e⟩ := spl_plain r [] (fun x hx => h x (by simp [hx]))
      exact ⟨cur :: ps, by rw [spl, if_pos ⟨rfl, h44⟩, e]; rfl⟩
    · obtain ⟨ps, e⟩ := spl_plain r (cur ++ [c]) (fun x hx => h x (by simp [hx]))
      refine ⟨ps, ?_⟩
      rw [spl, if_neg (by rintro ⟨_, h⟩; exact h44 h)]
      have : Go.Proofs.YtelpmkbjegimpaaDoor.Lpu.step St.out c = St.out := by show (if c.toNat = 34 then St.inn else St.out) = St.out; rw [if_neg (h c (by simp))]
      rw [this]; exact e
theorem list_plain {s : ByteArray} (h : ∀ c ∈ s.data.toList, c.toNat ≠ 34) : ∃ l, listL s = some l := by
  obtain ⟨ps, e⟩ := spl_plain s.data.toList [] h
  exact ⟨clean ps, by rw [listL_spl, e]; rfl⟩
theorem cut_within (x : ByteArray) (c : UInt8) : Within (cutA x c).data.toList x.data.toList ∧ Within (cutZ x c).data.toList x.data.toList := by
  cases h : cutI x c with
  | none =>
    obtain ⟨e1, e2, _⟩ := cut_none h
    rw [e1, e2]
    exact ⟨Within.refl _, x.data.toList, [], by simp⟩
  | some k =>
    obtain ⟨e1, e2, _⟩ := cut_some h
    rw [e1, e2]
    have hz : x.data.toList.length = x.size := by simp
    refine ⟨⟨[], x.data.toList.drop k, ?_⟩, ⟨x.data.toList.take (k + 1), [], ?_⟩⟩
    · rw [ByteArray.data_extract, Array.toList_extract]
      simp
    · have e : (x.data.toList.drop (k + 1)).take (x.size - (k + 1)) = x.data.toList.drop (k + 1) := List.take_of_length_le (by rw [List.length_drop, hz]; exact Nat.le_refl _)
      rw [ByteArray.data_extract, Array.toList_extract, List.append_nil, List.extract_eq_take_drop, e, List.take_append_drop]

theorem one_same {s : List UInt8} {size : Int} {x : ByteArray} (hs : MS 9 s) (hx : Within x.data.toList s) : oneG numP size x = oneG numQ size x := by
  have key : ∀ y : ByteArray, Within y.data.toList x.data.toList → numP y = numQ y := by
    intro y hy
    refine num_same fun h9 => ?_
    by_cases hd : ∀ c ∈ y.data.toList, isD c = true
    · obtain ⟨u, v, e⟩ := hy.trans hx
      rw [e] at hs
      have := MS.infix hs hd
      have hl : y.data.toList.length = y.size := by simp
      omega
    · have : ∃ c, c ∈ y.data.toList ∧ ¬ isD c = true := Classical.byContradiction fun hn => hd fun c hc => Classical.byContradiction fun hh => hn ⟨c, hc, hh⟩
      obtain ⟨c, hc, hh⟩ := this
      exact ⟨c, hc, by simpa using hh⟩
  obtain ⟨k1, k2⟩ := cut_within x 45
  unfold oneG
  rw [key _ k1, key _ k2]
theorem fm_congr {α β : Type} {f g : α → Option β} : ∀ (l : List α), (∀ x ∈ l, f x = g x) → l.filterMap f = l.filterMap g
  | [], _ => rfl
  | x :: l, h => by
    rw [List.filterMap_cons, List.filterMap_cons, h x (by simp), fm_congr l (fun y hy => h y (by simp [hy]))]
theorem readL_same {s : List UInt8} {size : Int} {l : List ByteArray} (hs : MS 9 s) (hl : ∀ x ∈ l, Within x.data.toList s) : readL numP size l = readL numQ size l := by
  have h1 : okG numP size l = okG numQ size l := by
    unfold okG
    rw [Bool.eq_iff_iff, List.all_eq_true, List.all_eq_true]
    constructor
    · intro h x hx; rw [← one_same hs (hl x hx)]; exact h x hx
    · intro h x hx; rw [one_same hs (hl x hx)]; exact h x hx
  have h2 : outG numP size l = outG numQ size l := by
    unfold outG
    exact fm_congr l fun x hx => by rw [one_same hs (hl x hx)]
  unfold readL
  rw [h1, h2]
theorem drop_within (s : ByteArray) : Within (toldB s).data.toList s.data.toList := ⟨s.data.toList.take 6, [], by unfold toldB; simp⟩
theorem readF_same {t : ByteArray} {size : Int} (hs : MS 9 t.data.toList) : readF numP t size = readF numQ t size := by
  unfold readF
  split
  · cases h : listL (toldB t) with
    | none => rfl
    | some l => exact readL_same hs (fun x hx => (list_within h x hx).trans (drop_within t))
  · rfl

/-! What was told is read again. -/
theorem trim_none {l : List UInt8} (h : ∀ c ∈ l, c.toNat ≠ 32) : Lib.trimB l 32 = l := by
  have key : ∀ m : List UInt8, (∀ c ∈ m, c.toNat ≠ 32) → m.dropWhile (· == 32) = m := by
    intro m hm
    cases m with
    | nil => rfl
    | cons c r =>
      rw [List.dropWhile_cons_of_neg]
      have := hm c (by simp)
      intro hc
      have : c = 32 := by simpa using hc
      subst this
      exact absurd rfl this
  unfold Lib.trimB Lib.trimLeftB Lib.trimRightB
  rw [key l.reverse (fun c hc => h c (List.mem_reverse.1 hc)), List.reverse_reverse, key l h]
theorem clean_them : ∀ (ps : List ByteArray), (∀ x ∈ ps, x.size ≠ 0 ∧ ∀ c ∈ x.data.toList, c.toNat ≠ 32) → clean (ps.map (·.data.toList)) = ps
  | [], _ => rfl
  | x :: ps, h => by
    have hx := h x (by simp)
    have ih := clean_them ps (fun y hy => h y (by simp [hy]))
    have hc := clean_cons x.data.toList (ps.map (·.data.toList)) []
    rw [List.nil_append, trim_none hx.2, ih] at hc
    rw [List.map_cons, hc]
    unfold Go.Proofs.YtelpmkbjegimpaaDoor.Lsp.addT
    have e : (⟨x.data.toList.toArray⟩ : ByteArray) = x := by apply ByteArray.ext; simp
    rw [e, if_neg hx.1]; rfl
theorem run_plain : ∀ (l : List UInt8), (∀ c ∈ l, c.toNat ≠ 44 ∧ c.toNat ≠ 34) → run .out l = some .out
  | [], _ => rfl
  | c :: r, h => by
    have hc := h c (by simp)
    rw [run_cons, if_neg (by rintro ⟨_, h⟩; exact hc.1 h)]
    have : Go.Proofs.YtelpmkbjegimpaaDoor.Lpu.step St.out c = St.out := by show (if c.toNat = 34 then St.inn else St.out) = St.out; rw [if_neg hc.2]
    rw [this]
    exact run_plain r (fun x hx => h x (by simp [hx]))
theorem join_jn : ∀ (ps : List (List UInt8)), Lib.join ps [44] = jn ps
  | [] => rfl
  | [p] => Lib.join_one _ _
  | p :: q :: r => by
    have ih := join_jn (q :: r)
    rw [Lib.join_cons] at ih ⊢
    show _ = p ++ 44 :: jn (q :: r)
    rw [← ih]
    simp [Lib.joinTail]
theorem list_com {ps : List ByteArray} (h0 : ps ≠ []) (h : ∀ x ∈ ps, x.size ≠ 0 ∧ ∀ c ∈ x.data.toList, c.toNat ≠ 44 ∧ c.toNat ≠ 34 ∧ c.toNat ≠ 32) : listL (comT ps) = some ps := by
  rw [listL_spl]
  have e : (comT ps).data.toList = jn (ps.map (·.data.toList)) := by
    unfold comT
    show (Lib.join _ _).toArray.toList = _
    rw [List.toList_toArray, join_jn]
  rw [e, spl_jn _ (by simpa using h0) (by
    intro p hp
    rw [List.mem_map] at hp
    obtain ⟨x, hx, rfl⟩ := hp
    exact run_plain _ (fun c hc => ⟨((h x hx).2 c hc).1, ((h x hx).2 c hc).2.1⟩))]
  show some (clean _) = _
  rw [clean_them ps (fun x hx => ⟨(h x hx).1, fun c hc => ((h x hx).2 c hc).2.2⟩)]

theorem sp_list (f t : Nat) : (spT ((f : Int), (t : Int) + 1)).data.toList = (num f).data.toList ++ 45 :: (num t).data.toList := by
  unfold spT
  rw [show ((f : Int), (t : Int) + 1).1.toNat = f from Int.toNat_natCast f, show (((f : Int), (t : Int) + 1).2 - 1).toNat = t by show ((t : Int) + 1 - 1).toNat = t; omega]
  simp
theorem numP_num {n : Nat} (h : n ≤ 1000000) : numP (num n) = (n : Int) := by
  obtain ⟨h1, h2, h3⟩ := num_told 6 n (by omega)
  have hz := zeros_len (num n).data.toList
  have hl : (num n).data.toList.length = (num n).size := by simp
  have hs := Num.num_size_le 6 n (by omega)
  unfold numP
  rw [if_neg (by omega), h2]
theorem mk_self (x : ByteArray) : (⟨x.data.toList.toArray⟩ : ByteArray) = x := by apply ByteArray.ext; simp
theorem one_back {f t : Nat} (hf : f ≤ t) (ht : t < 1000000) : oneG numP 1000000 (spT ((f : Int), (t : Int) + 1)) = some (some ((f : Int), (t : Int) + 1)) := by
  obtain ⟨d1, _, z1⟩ := num_told 6 f (by omega)
  obtain ⟨_, _, z2⟩ := num_told 6 t (by omega)
  obtain ⟨c1, c2, c3⟩ := cut_at_first (sp_list f t) (fun x hx he => by have := d1 x hx; subst he; revert this; decide)
  rw [mk_self] at c1 c2
  unfold oneG
  rw [c1, c2, c3, numP_num (by omega), numP_num (by omega), if_neg (by decide), if_neg (by omega), if_neg (by omega), if_neg (by omega), if_neg (by omega)]
  unfold betw
  rw [if_neg (by omega), show min ((t : Int) + 1) 1000000 = (t : Int) + 1 by omega]

theorem out_back : ∀ (l : List (Int × Int)), (∀ c ∈ l, 0 ≤ c.1 ∧ c.1 < c.2 ∧ c.2 ≤ 1000000) → okG numP 1000000 (l.map spT) = true ∧ outG numP 1000000 (l.map spT) = l
  | [], _ => ⟨rfl, rfl⟩
  | c :: r, h => by
    obtain ⟨i1, i2⟩ := out_back r (fun x hx => h x (by simp [hx]))
    have hc := h c (by simp)
    obtain ⟨f, hf⟩ : ∃ f : Nat, c.1 = f := ⟨c.1.toNat, by omega⟩
    obtain ⟨t, ht⟩ : ∃ t : Nat, c.2 = (t : Int) + 1 := ⟨(c.2 - 1).toNat, by omega⟩
    have hce : c = ((f : Int), (t : Int) + 1) := by rw [← hf, ← ht]
    have hb := one_back (f := f) (t := t) (by omega) (by omega)
    rw [← hce] at hb
    unfold okG outG at *
    refine ⟨?_, ?_⟩
    · rw [List.map_cons, List.all_cons, i1, hb]; rfl
    · rw [List.map_cons, List.filterMap_cons, hb]
      show c :: _ = _
      rw [i2]
theorem read_back {l : List (Int × Int)} (h : rangeB l = true) : readF numP (rangeT l) 1000000 = (l, 0) := by
  unfold rangeB at h
  rw [Bool.and_eq_true] at h
  obtain ⟨hg, hn⟩ := h
  obtain ⟨hl12, hgood⟩ := goodL_parts hg
  have hl0 : l.length ≠ 0 := by intro e; rw [decide_eq_true e] at hn; cases hn
  have hne : l ≠ [] := fun e => hl0 (by rw [e]; rfl)
  obtain ⟨o1, o2⟩ := out_back l hgood
  have hd : (rangeT l).data.toList = PB ++ (comT (l.map spT)).data.toList := by unfold rangeT; simp [PB]
  have hst : startB (rangeT l) 1000000 = true := by
    unfold startB Lib.hasPrefix
    rw [hd]
    have : PB.isPrefixOf (PB ++ (comT (l.map spT)).data.toList) = true := by rw [List.isPrefixOf_iff_prefix]; exact List.prefix_append _ _
    rw [this]; rfl
  have htb : toldB (rangeT l) = comT (l.map spT) := by
    unfold toldB
    rw [hd]
    show (⟨(comT (l.map spT)).data.toList.toArray⟩ : ByteArray) = _
    exact mk_self _
  have hlist : listL (comT (l.map spT)) = some (l.map spT) := by
    refine list_com (by simpa using hne) fun x hx => ?_
    rw [List.mem_map] at hx
    obtain ⟨c, hc, rfl⟩ := hx
    have hcg := hgood c hc
    obtain ⟨f, hf⟩ : ∃ f : Nat, c.1 = f := ⟨c.1.toNat, by omega⟩
    obtain ⟨t, ht⟩ : ∃ t : Nat, c.2 = (t : Int) + 1 := ⟨(c.2 - 1).toNat, by omega⟩
    have hce : c = ((f : Int), (t : Int) + 1) := by rw [← hf, ← ht]
    obtain ⟨d1, _, z1⟩ := num_told 6 f (by omega)
    obtain ⟨d2, _, z2⟩ := num_told 6 t (by omega)
    have hsl := sp_list f t
    rw [hce]
    refine ⟨?_, fun y hy => ?_⟩
    · have := congrArg List.length hsl
      simp at this
      have h2 : (spT ((f : Int), (t : Int) + 1)).data.size = (spT ((f : Int), (t : Int) + 1)).size := rfl
      omega
    · rw [hsl, List.mem_append, List.mem_cons] at hy
      rcases hy with hy | rfl | hy
      · have := isD_iff.1 (d1 y hy); omega
      · decide
      · have := isD_iff.1 (d2 y hy); omega
  unfold readF
  rw [if_pos hst, htb, hlist]
  show readL numP 1000000 (l.map spT) = _
  unfold readL
  rw [if_pos ⟨by rw [List.length_map]; omega, by rw [List.length_map]; exact hl12, o1⟩, o2, if_neg hne]

end Go.Proofs.YtelpmkbjegimpaaDoor.Rgb
