/-
  Pure: what was cut, pasted: each place has the body's byte or what stood there; the body's where a span covers it.
-/
import Derived.Test.YtelpmkbjegimpaaSpx
import Derived.Test.YtelpmkbjegimpaaSpc
namespace Go.Proofs.Ytelpmkbjegimpaa.Spb
open Go.RowKit
open Go.Proofs.Ytelpmkbjegimpaa.Spp

theorem put_get (B : List UInt8) (F : Nat) (p : ByteArray) : ∀ k, F + k ≤ B.length → ∀ x, x < B.length → (putB B F p k)[x]? = if F ≤ x ∧ x < F + k then some (p.data.getD (x - F) 0) else B[x]?
  | 0, _, x, _ => by rw [if_neg (by omega)]; rfl
  | k + 1, hk, x, hx => by
    rw [put_more, List.getElem?_set]
    by_cases e : F + k = x
    · rw [if_pos e, if_pos (by rw [put_len]; omega), if_pos (by omega), show x - F = k by omega]
    · rw [if_neg e, put_get B F p k (by omega) x hx]
      by_cases h : F ≤ x ∧ x < F + k
      · rw [if_pos h, if_pos (by omega)]
      · rw [if_neg h, if_neg (by omega)]
theorem cut_at (body : ByteArray) (F T x : Nat) (h1 : F ≤ x) (h2 : x < T) (h3 : T ≤ body.size) : (body.extract F T).data.getD (x - F) 0 = body.data.getD x 0 := by
  have hT : T ≤ body.data.size := h3
  rw [ByteArray.data_extract]
  rw [Array.getD_eq_getD_getElem?, Array.getD_eq_getD_getElem?, Array.getElem?_extract, if_pos (by omega), show F + (x - F) = x by omega]
theorem cut_size (body : ByteArray) (F T : Nat) (h2 : F ≤ T) (h3 : T ≤ body.size) : (body.extract F T).size = T - F := by
  rw [ByteArray.size_extract]; omega
/-- Pasted where it was cut. -/
theorem paste_back (body : ByteArray) : ∀ (l : List (Int × Int)), Good l → (∀ c ∈ l, c.2 ≤ (body.size : Int)) → ∀ (B : List UInt8), B.length = body.size → ∀ x, x < body.size →
    ((pasteZ (l.zip (l.map (fun c => body.extract c.1.toNat c.2.toNat))) B)[x]? = B[x]? ∨ (pasteZ (l.zip (l.map (fun c => body.extract c.1.toNat c.2.toNat))) B)[x]? = some (body.data.getD x 0)) ∧
    (covB l x = true → (pasteZ (l.zip (l.map (fun c => body.extract c.1.toNat c.2.toNat))) B)[x]? = some (body.data.getD x 0))
  | [], _, _, B, _, x, _ => ⟨.inl rfl, fun h => by simp [covB] at h⟩
  | c :: l, hg, hin, B, hB, x, hx => by
    obtain ⟨n1, n2, n3⟩ := hg c (by simp)
    have n4 := hin c (by simp)
    have hp := cut_size body c.1.toNat c.2.toNat (by omega) (by omega)
    have ih := paste_back body l (fun d hd => hg d (by simp [hd])) (fun d hd => hin d (by simp [hd])) (putB B c.1.toNat (body.extract c.1.toNat c.2.toNat) (body.extract c.1.toNat c.2.toNat).size) (by rw [put_len, hB]) x hx
    have hE : pasteZ ((c :: l).zip ((c :: l).map (fun c => body.extract c.1.toNat c.2.toNat))) B = pasteZ (l.zip (l.map (fun c => body.extract c.1.toNat c.2.toNat))) (putB B c.1.toNat (body.extract c.1.toNat c.2.toNat) (body.extract c.1.toNat c.2.toNat).size) := rfl
    rw [hE]
    have hget := put_get B c.1.toNat (body.extract c.1.toNat c.2.toNat) (body.extract c.1.toNat c.2.toNat).size (by rw [hp, hB]; omega) x (by omega)
    rw [hp] at hget ih ⊢
    by_cases hc : c.1.toNat ≤ x ∧ x < c.1.toNat + (c.2.toNat - c.1.toNat)
    · rw [if_pos hc, cut_at body _ _ x hc.1 (by omega) (by omega)] at hget
      rw [hget] at ih
      have : (pasteZ (l.zip (l.map (fun c => body.extract c.1.toNat c.2.toNat))) (putB B c.1.toNat (body.extract c.1.toNat c.2.toNat) (c.2.toNat - c.1.toNat)))[x]? = some (body.data.getD x 0) := by
        rcases ih.1 with h | h <;> exact h
      exact ⟨.inr this, fun _ => this⟩
    · rw [if_neg hc] at hget
      rw [hget] at ih
      refine ⟨ih.1, fun h => ih.2 ?_⟩
      rw [cov_iff] at h ⊢
      obtain ⟨d, hd, h1, h2⟩ := h
      rw [List.mem_cons] at hd
      rcases hd with rfl | hd
      · exfalso; omega
      · exact ⟨d, hd, h1, h2⟩
/-- What FnSpans asks of what was cut and pasted. -/
theorem paste_told {body : ByteArray} {l : List (Int × Int)} (h : cutB body l = true) :
    pasteB (body.size : Int) l (cutL body l) = true ∧ (pasteS (body.size : Int) l (cutL body l)).size = body.size ∧
    ∀ x, x < body.size → ((pasteS (body.size : Int) l (cutL body l)).data.getD x 0 = 46 ∨ (pasteS (body.size : Int) l (cutL body l)).data.getD x 0 = body.data.getD x 0) ∧ (covB l x = true → (pasteS (body.size : Int) l (cutL body l)).data.getD x 0 = body.data.getD x 0) := by
  have hL := cut_yes h
  unfold cutB at h
  have hw : withinL l (body.size : Int) = true := by simp at h; exact h.2
  have h3 : body.size ≤ 300 := by simp at h; exact h.1
  obtain ⟨hgl, hin⟩ := withinL_parts hw
  have hg := (goodL_parts hgl).2
  have hfit : fitZ (l.zip (l.map (fun c => body.extract c.1.toNat c.2.toNat))) = true := by
    unfold fitZ
    rw [List.all_eq_true]
    intro z hz
    rw [List.zip_map_right, List.mem_map] at hz
    obtain ⟨q, hq, rfl⟩ := hz
    obtain ⟨i, hi, hq2⟩ := List.getElem_of_mem hq
    rw [List.getElem_zip] at hq2
    have hi' : i < l.length := by rw [List.length_zip] at hi; omega
    obtain ⟨n1, n2, n3⟩ := hg _ (List.getElem_mem hi')
    have n4 := hin _ (List.getElem_mem hi')
    rw [← hq2]
    refine decide_eq_true ?_
    show ((body.extract l[i].1.toNat l[i].2.toNat).size : Int) = l[i].2 - l[i].1
    rw [cut_size body _ _ (by omega) (by omega)]
    omega
  have hP : pasteB (body.size : Int) l (cutL body l) = true := by
    unfold pasteB pasteH
    rw [hw, hL, hfit, decide_eq_true (show (0 : Int) ≤ body.size by omega), decide_eq_true (show (body.size : Int) ≤ 300 by omega), decide_eq_true (by rw [List.length_map])]; rfl
  refine ⟨hP, ?_, ?_⟩
  · rw [paste_yes hP]
    show (List.toArray _).size = _
    rw [List.size_toArray, pasteZ_len, List.length_replicate, Int.toNat_natCast]
  · intro x hx
    rw [paste_yes hP, hL, Int.toNat_natCast]
    have hb := paste_back body l hg hin (List.replicate body.size 46) (by rw [List.length_replicate]) x hx
    have hlen := pasteZ_len (l.zip (l.map (fun c => body.extract c.1.toNat c.2.toNat))) (List.replicate body.size 46)
    rw [List.length_replicate] at hlen
    have hx46 : (List.replicate body.size (46 : UInt8))[x]? = some 46 := by rw [List.getElem?_replicate, if_pos hx]
    rw [hx46] at hb
    generalize pasteZ (l.zip (l.map (fun c => body.extract c.1.toNat c.2.toNat))) (List.replicate body.size 46) = R at hb hlen
    have hR : ∀ u, R[x]? = some u → (ByteArray.mk R.toArray).data.getD x 0 = u := by
      intro u hu
      show R.toArray.getD x 0 = u
      rw [Array.getD_eq_getD_getElem?, List.getElem?_toArray, hu]; rfl
    refine ⟨?_, fun h => hR _ (hb.2 h)⟩
    rcases hb.1 with h | h
    · exact .inl (hR _ h)
    · exact .inr (hR _ h)

end Go.Proofs.Ytelpmkbjegimpaa.Spb
