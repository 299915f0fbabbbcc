/-
  Plain facts: an address comes back from its text.
-/
import Derived.Test.YtlgjgdpalflmfaaDoorRsp
namespace Go.Proofs.YtlgjgdpalflmfaaDoor.Rtp
open Go.RowKit
open Go.Proofs.YtlgjgdpalflmfaaDoor.Byt
open Go.Proofs.YtlgjgdpalflmfaaDoor.Hex
open Go.Proofs.YtlgjgdpalflmfaaDoor.Rdm
open Go.Proofs.YtlgjgdpalflmfaaDoor.Rdi
open Go.Proofs.YtlgjgdpalflmfaaDoor.Gud
open Go.Proofs.YtlgjgdpalflmfaaDoor.Txt
open Go.Proofs.YtlgjgdpalflmfaaDoor.Cut
open Go.Proofs.YtlgjgdpalflmfaaDoor.Req
open Go.Proofs.YtlgjgdpalflmfaaDoor.Rsp

theorem at_app (a b : ByteArray) (k : Nat) : at0 (a ++ b) k = if k < a.size then at0 a k else at0 b (k - a.size) := by
  have hl : a.data.toList.length = a.size := by simp
  unfold at0
  have e : (a ++ b).data.toList = a.data.toList ++ b.data.toList := by simp
  rw [e, List.getElem?_append, hl]
  split <;> rfl
theorem at_left {a b : ByteArray} {k : Nat} (h : k < a.size) : at0 (a ++ b) k = at0 a k := by rw [at_app, if_pos h]
theorem at_right {a b : ByteArray} {k : Nat} : at0 (a ++ b) (a.size + k) = at0 b k := by rw [at_app, if_neg (by omega)]; congr 1; omega
theorem ext_left (a b : ByteArray) : (a ++ b).extract 0 a.size = a := by
  have hz : ((a ++ b).extract 0 a.size).size = a.size := by rw [ByteArray.size_extract, ByteArray.size_append]; omega
  apply eq_of_at hz
  intro j hj
  rw [at_extract _ _ _ _ hj, Nat.zero_add, at_left (by omega)]
theorem ext_right (a b : ByteArray) : (a ++ b).extract a.size (a ++ b).size = b := by
  have hz : ((a ++ b).extract a.size (a ++ b).size).size = b.size := by rw [ByteArray.size_extract, ByteArray.size_append]; omega
  apply eq_of_at hz
  intro j hj
  rw [at_extract _ _ _ _ hj, at_right]

theorem at_mem {s : ByteArray} {j : Nat} (h : j < s.size) : at0 s j ∈ s.data.toList := by
  have hl : s.data.toList.length = s.size := by simp
  unfold at0
  rw [List.getElem?_eq_getElem (by omega), Option.getD_some]
  exact List.getElem_mem _
theorem host_at {H : ByteArray} (h : hostOk H.data.toList = true) : 1 ≤ H.size ∧ ∀ j, j < H.size → hostB ((at0 H j).toNat : Int) = true := by
  unfold hostOk at h
  simp only [Bool.and_eq_true, decide_eq_true_eq, List.all_eq_true] at h
  have hl : H.data.toList.length = H.size := by simp
  exact ⟨by omega, fun j hj => h.2 _ (at_mem hj)⟩
theorem host_not {c : UInt8} (h : hostB (c.toNat : Int) = true) : isEnd c = false ∧ c ≠ 58 := by
  unfold hostB at h
  simp only [decide_eq_true_eq] at h
  refine ⟨?_, fun e => by subst e; simp at h⟩
  unfold isEnd
  simp only [Bool.or_eq_false_iff, beq_eq_false_iff_ne]
  omega

/-! A number's digits. -/
theorem num_list (n : Nat) : (n < 10 → (num n).data.toList = [UInt8.ofNat (48 + n)]) ∧ (¬ n < 10 → (num n).data.toList = (num (n / 10)).data.toList ++ [UInt8.ofNat (48 + n % 10)]) :=
  ⟨fun h => by rw [num_one h], fun h => by rw [num_more h]; simp⟩
theorem dig_byte (d : Nat) (h : d < 10) : (UInt8.ofNat (48 + d)).toNat = 48 + d := by rw [UInt8.toNat_ofNat']; omega
theorem dig_no (d : Nat) (h : d < 10) : noDig (UInt8.ofNat (48 + d)) = false := by
  unfold noDig; rw [dig_byte d h, decide_eq_true (by omega), decide_eq_true (by omega)]; rfl
theorem num_facts : ∀ (f n : Nat), n ≤ f → sumN (num n).data.toList = n ∧ (∀ c ∈ (num n).data.toList, noDig c = false) ∧ (1 ≤ n → ∃ c r, (num n).data.toList = c :: r ∧ c.toNat ≠ 48)
  | 0, n, h => by
    obtain rfl : n = 0 := by omega
    rw [(num_list 0).1 (by omega)]
    exact ⟨by decide, by decide, fun h => absurd h (by omega)⟩
  | f + 1, n, h => by
    by_cases h1 : n < 10
    · rw [(num_list n).1 h1]
      refine ⟨?_, ?_, fun h2 => ⟨_, _, rfl, by rw [dig_byte n h1]; omega⟩⟩
      · show 10 * 0 + ((UInt8.ofNat (48 + n)).toNat - 48) = n
        rw [dig_byte n h1]; omega
      · intro c hc
        rw [List.mem_singleton] at hc
        rw [hc]; exact dig_no n h1
    · obtain ⟨a, b, c⟩ := num_facts f (n / 10) (by omega)
      rw [(num_list n).2 h1]
      refine ⟨?_, ?_, fun _ => ?_⟩
      · rw [sum_snoc, a, dig_byte _ (by omega)]; omega
      · intro x hx
        rcases List.mem_append.1 hx with hx | hx
        · exact b x hx
        · rw [List.mem_singleton] at hx
          rw [hx]; exact dig_no _ (by omega)
      · obtain ⟨x, r, hx, h2⟩ := c (by omega)
        exact ⟨x, r ++ [UInt8.ofNat (48 + n % 10)], by rw [hx]; rfl, h2⟩
theorem int_num (n : Nat) (h1 : 1 ≤ n) (h2 : n ≤ 65535) : intR (num n) = n ∧ ∀ j, j < (num n).size → noDig (at0 (num n) j) = false := by
  obtain ⟨a, b, c⟩ := num_facts n n (Nat.le_refl _)
  obtain ⟨x, r, hx, h3⟩ := c h1
  have hz := num_size_le 4 n (by omega)
  have hl : (num n).data.toList.length = (num n).size := by simp
  have h0 : 1 ≤ (num n).size := by rw [← hl, hx]; simp
  have hj : ∀ j, j < (num n).size → noDig (at0 (num n) j) = false := fun j hj => b _ (at_mem hj)
  have ha : at0 (num n) 0 = x := by unfold at0; rw [hx]; rfl
  refine ⟨?_, hj⟩
  unfold intR
  rw [if_neg (by rw [ha]; omega), if_pos (all_of hj)]
  exact congrArg (fun m : Nat => (m : Int)) a

/-! A path has no '?'. -/
theorem chars_no : ∀ (l more : List UInt8) (f k : Nat), hasB more 63 = false → l.length ≤ k + f → charsF l more f k = true → ∀ j, k ≤ j → j < l.length → (l[j]?.getD 0).toNat ≠ 63
  | l, more, 0, k, _, h, _, j, h1, h2 => absurd h2 (by omega)
  | l, more, f + 1, k, hm, h, hc, j, h1, h2 => by
    by_cases hk : k < l.length
    · by_cases hp : 0 ≤ pct l k
      · rw [charsF_pct hk hp] at hc
        obtain ⟨p1, p2, p3, p4⟩ := pct_facts hp
        rcases (show j = k ∨ j = k + 1 ∨ j = k + 2 ∨ k + 3 ≤ j from by omega) with rfl | rfl | rfl | h3
        · intro e; omega
        · intro e; rw [e] at p3; exact absurd p3 (by decide)
        · intro e; rw [e] at p4; exact absurd p4 (by decide)
        · exact chars_no l more f (k + 3) hm (by omega) hc j h3 h2
      · by_cases ho : (freeB ((l[k]?.getD 0).toNat : Int) || subB ((l[k]?.getD 0).toNat : Int) || hasB more ((l[k]?.getD 0).toNat : Int)) = true
        · rw [charsF_ok hk (by omega) ho] at hc
          rcases (show j = k ∨ k + 1 ≤ j from by omega) with rfl | h3
          · intro e
            rw [e] at ho
            have : (freeB ((63 : Nat) : Int) || subB ((63 : Nat) : Int)) = false := by decide
            rw [show ((63 : Nat) : Int) = 63 from rfl] at ho this
            rw [this, hm] at ho; cases ho
          · exact chars_no l more f (k + 1) hm (by omega) hc j h3 h2
        · rw [charsF_bad hk (by omega) (by simpa using ho)] at hc; cases hc
    · omega

theorem read_back {S H P Q : ByteArray} {n : Nat} {a : Bool} (hg : goodB S H (n : Int) P Q a = true) : readB (urlB S H n P Q a) = some (S, H, n, P, Q, a) := by
  have hg' := hg
  unfold goodB at hg
  simp only [Bool.and_eq_true, decide_eq_true_eq, Bool.or_eq_true] at hg
  obtain ⟨⟨⟨⟨⟨⟨⟨hS, hH⟩, hn⟩, hP⟩, hcp⟩, hcq⟩, hQ⟩, hz⟩ := hg
  rw [Int.toNat_natCast] at hz
  obtain ⟨hH1, hHb⟩ := host_at hH
  have hP0 : ∃ h : 0 < P.size, at0 P 0 = 47 := by
    rcases prefix_cases P with ⟨_, h, h47⟩ | ⟨h, _⟩
    · refine ⟨h, ?_⟩
      have e : at0 P 0 = P[0] := at_list P 0 h
      rw [e]; exact UInt8.toNat_inj.1 (by have : (47 : UInt8).toNat = 47 := rfl; omega)
    · rw [h] at hP; cases hP
  obtain ⟨hP1, hP47⟩ := hP0
  have hP63 : ∀ j, j < P.size → at0 P j ≠ 63 := by
    intro j hj e
    have hl : P.data.toList.length = P.size := by simp
    refine chars_no P.data.toList [47] P.data.toList.length 0 (by decide) (by omega) hcp j (by omega) (by omega) ?_
    show (at0 P j).toNat = 63
    rw [e]; rfl
  obtain ⟨X, hX⟩ : ∃ X, X = if n = 0 then H else H ++ (colon ++ num n) := ⟨_, rfl⟩
  obtain ⟨R, hR⟩ : ∃ R, R = if a = true then P ++ (qm ++ Q) else P := ⟨_, rfl⟩
  have hU : urlB S H n P Q a = S ++ css ++ (X ++ R) := by
    unfold urlB
    rw [hX, hR]
    by_cases h0 : n = 0
    · rw [if_pos h0, if_pos h0]
      cases a <;> simp [ByteArray.append_assoc]
    · rw [if_neg h0, if_neg h0]
      cases a <;> simp [ByteArray.append_assoc]
  have hXe : ∀ j, j < X.size → isEnd (at0 X j) = false := by
    intro j hj
    rw [hX] at hj ⊢
    by_cases h0 : n = 0
    · rw [if_pos h0] at hj ⊢; exact (host_not (hHb j hj)).1
    · rw [if_neg h0] at hj ⊢
      rw [ByteArray.size_append, ByteArray.size_append] at hj
      have hc : colon.size = 1 := rfl
      rw [at_app]
      split
      · rename_i h; exact (host_not (hHb j h)).1
      · rw [at_app]
        split
        · rw [show j - H.size = 0 from by omega]; rfl
        · have := (int_num n (by omega) (by omega)).2 (j - H.size - colon.size) (by omega)
          cases he : isEnd (at0 (num n) (j - H.size - colon.size))
          · rfl
          · rw [dig_of he] at this; cases this
  have hR0 : 0 < R.size ∧ at0 R 0 = 47 := by
    rw [hR]
    split
    · refine ⟨by rw [ByteArray.size_append]; omega, ?_⟩
      rw [at_left hP1]; exact hP47
    · exact ⟨hP1, hP47⟩
  have hend : scanF isEnd (X ++ R).data.toList (X ++ R).data.toList.length 0 = X.size := scan_uniq (by rw [ByteArray.size_append]; omega)
    (fun j hj => by rw [at_left hj]; exact hXe j hj) (fun _ => by have := at_right (a := X) (b := R) (k := 0); rw [Nat.add_zero] at this; rw [this, hR0.2]; rfl)
  have hcutR : cutA R 63 = P ∧ cutZ R 63 = Q ∧ cutB R 63 = a := by
    rw [hR]
    cases a with
    | false =>
      have hQ0 : Q = ⟨#[]⟩ := by
        rcases hQ with hQ | hQ
        · cases hQ
        · have e : Q.toList = Q.data.toList := by simp [ByteArray.toList_eq]
          rw [e, List.isEmpty_iff] at hQ
          apply size_zero
          have hl : Q.data.toList.length = Q.size := by simp
          rw [← hl, hQ]; rfl
      obtain ⟨c1, c2, c3⟩ := cut_none (cut_no hP63)
      simp only [Bool.false_eq_true, if_false]
      exact ⟨c1, by rw [c2, hQ0], c3⟩
    | true =>
      have hq1 : qm.size = 1 := rfl
      have hc := cut_at (s := P ++ (qm ++ Q)) (c := 63) (m := P.size) (by rw [ByteArray.size_append, ByteArray.size_append]; omega)
        (by have := at_right (a := P) (b := qm ++ Q) (k := 0); rw [Nat.add_zero] at this; rw [this, at_left (by omega)]; rfl)
        (fun j hj => by rw [at_left hj]; exact hP63 j hj)
      obtain ⟨c1, c2, c3⟩ := cut_some hc
      simp only [if_true]
      refine ⟨by rw [c1, ext_left], ?_, c3⟩
      rw [c2, ← ByteArray.append_assoc]
      have := ext_right (P ++ qm) Q
      rwa [ByteArray.size_append, hq1] at this
  have hpp : pathP R = P := by unfold pathP; rw [hcutR.1, if_neg (by omega)]
  have hauth : authR S (X ++ R) = some (S, H, n, P, Q, a) := by
    unfold authR
    simp only [hend, ext_left, ext_right, hcutR.2.1, hcutR.2.2, hpp]
    by_cases h0 : n = 0
    · rw [if_pos h0] at hX
      subst hX
      obtain ⟨c1, c2, c3⟩ := cut_none (s := X) (c := 58) (cut_no (fun j hj => (host_not (hHb j hj)).2))
      rw [c3, c1]
      subst h0
      simp only [Bool.false_eq_true, if_false]
      rw [if_pos (by exact hg')]
    · rw [if_neg h0] at hX
      have hc1 : colon.size = 1 := rfl
      have hc := cut_at (s := X) (c := 58) (m := H.size) (by rw [hX, ByteArray.size_append, ByteArray.size_append]; omega)
        (by rw [hX]; have := at_right (a := H) (b := colon ++ num n) (k := 0); rw [Nat.add_zero] at this; rw [this, at_left (by omega)]; rfl)
        (fun j hj => by rw [hX, at_left hj]; exact (host_not (hHb j hj)).2)
      obtain ⟨c1, c2, c3⟩ := cut_some hc
      have e1 : X.extract 0 H.size = H := by rw [hX, ext_left]
      have e2 : X.extract (H.size + 1) X.size = num n := by
        rw [hX, ← ByteArray.append_assoc]
        have := ext_right (H ++ colon) (num n)
        rwa [ByteArray.size_append, hc1] at this
      rw [c3, c1, c2, e1, e2, (int_num n (by omega) (by omega)).1]
      simp only [if_true]
      rw [if_neg (by omega), if_pos hg', Int.toNat_natCast]
  rw [read_eq]
  unfold specR
  rw [if_neg (by omega), hU]
  have hcs : css.size = 3 := rfl
  have hXs : 0 < (X ++ R).size := by rw [ByteArray.size_append]; omega
  rcases sch_cases hS with h4 | ⟨_, h5⟩
  · have hS4 : S = http4 := by
      have e : S.toList = S.data.toList := by simp [ByteArray.toList_eq]
      rw [e, beq_iff_eq] at h4
      apply ByteArray.ext; apply Array.ext'; rw [h4]; rfl
    subst hS4
    have e7 : http4 ++ css = http7 := rfl
    have h7 : http7.size = 7 := rfl
    rw [e7]
    have x1 := ext_left http7 (X ++ R)
    have x2 := ext_right http7 (X ++ R)
    rw [h7] at x1 x2
    rw [if_pos ⟨by rw [ByteArray.size_append, h7]; omega, x1⟩, x2]
    exact hauth
  · have hS5 : S = http5 := by
      have e : S.toList = S.data.toList := by simp [ByteArray.toList_eq]
      rw [e, beq_iff_eq] at h5
      apply ByteArray.ext; apply Array.ext'; rw [h5]; rfl
    subst hS5
    have e8 : http5 ++ css = http8 := rfl
    have h8 : http8.size = 8 := rfl
    rw [e8]
    have x1 := ext_left http8 (X ++ R)
    have x2 := ext_right http8 (X ++ R)
    rw [h8] at x1 x2
    have n7 : ¬ (7 < (http8 ++ (X ++ R)).size ∧ (http8 ++ (X ++ R)).extract 0 7 = http7) := by
      rintro ⟨_, h⟩
      have h4 := ((is_http7 _).1 h).2.2.2.2.2.1
      rw [at_left (by rw [h8]; omega)] at h4
      exact absurd h4 (by decide)
    rw [if_neg n7, if_pos ⟨by rw [ByteArray.size_append, h8]; omega, x1⟩, x2]
    exact hauth

/-! Bytes come back from their percents. -/
theorem pct_hexd : ∀ n : Nat, n < 16 → hexv ((hexd n).toNat : Int) = n := by decide +kernel
theorem dec_enc : ∀ (rest pre acc : List UInt8) (f : Nat), rest.length ≤ f → decF (pre ++ encL rest) f pre.length acc = some (acc ++ rest)
  | [], pre, acc, f, _ => by rw [decF_end (by simp [encL])]; simp
  | c :: r, pre, acc, f, hf => by
    obtain ⟨f', rfl⟩ : ∃ f', f = f' + 1 := ⟨f - 1, by simp at hf; omega⟩
    have he : encL (c :: r) = encB c ++ encL r := by simp [encL]
    by_cases hfree : freeB (c.toNat : Int) = true
    · have hb : encB c = [c] := by unfold encB; rw [if_pos hfree]
      rw [he, hb]
      have hx : (pre ++ ([c] ++ encL r))[pre.length]?.getD 0 = c := by simp
      have h37 : (c.toNat : Int) ≠ 37 := by intro e; rw [e] at hfree; exact absurd hfree (by decide)
      rw [decF_plain (by simp) (by rw [hx]; exact h37), hx]
      have := dec_enc r (pre ++ [c]) (acc ++ [c]) f' (by simp at hf; omega)
      rw [List.length_append, List.length_singleton, List.append_assoc] at this
      rw [this]; simp
    · have hb : encB c = pc c := by unfold encB; rw [if_neg hfree]
      rw [he, hb]
      have hc := c.toNat_lt
      have hx0 : (pre ++ (pc c ++ encL r))[pre.length]?.getD 0 = 37 := by simp [pc]
      have hx1 : (pre ++ (pc c ++ encL r))[pre.length + 1]?.getD 0 = hexd (c.toNat / 16) := by
        rw [List.getElem?_append_right (by omega)]; simp [pc]
      have hx2 : (pre ++ (pc c ++ encL r))[pre.length + 2]?.getD 0 = hexd (c.toNat % 16) := by
        rw [List.getElem?_append_right (by omega)]; simp [pc]
      have hlen : pre.length + 2 < (pre ++ (pc c ++ encL r)).length := by simp [pc]
      have v1 := pct_hexd (c.toNat / 16) (by omega)
      have v2 := pct_hexd (c.toNat % 16) (by omega)
      have hp : pct (pre ++ (pc c ++ encL r)) pre.length = (c.toNat : Int) := by
        rw [pct_is hlen (by rw [hx0]; rfl) (by rw [hx1, v1]; omega) (by rw [hx2, v2]; omega), hx1, hx2, v1, v2]
        omega
      rw [decF_pct (by omega) (by rw [hx0]; rfl) (by rw [hp]; omega), hp]
      have hcb : UInt8.ofNat ((c.toNat : Int)).toNat = c := by rw [Int.toNat_natCast]; exact UInt8.ofNat_toNat
      rw [hcb]
      have := dec_enc r (pre ++ pc c) (acc ++ [c]) f' (by simp at hf; omega)
      rw [List.length_append, List.append_assoc, show (pc c).length = 3 from rfl] at this
      rw [this]; simp
theorem enc_ge (l : List UInt8) : l.length ≤ (encL l).length := by
  induction l with
  | nil => exact Nat.zero_le _
  | cons c r ih =>
    have h1 : 1 ≤ (encB c).length := by unfold encB; split <;> simp [pc]
    simp only [encL, List.flatMap_cons, List.length_append, List.length_cons] at ih ⊢
    omega
theorem dec_back {l : List UInt8} (h : l.length ≤ 60) : decO (encL l) = some l := by
  have hl := encL_len l
  unfold decO
  rw [if_neg (by omega)]
  have := dec_enc l [] [] (encL l).length (enc_ge l)
  simpa using this

end Go.Proofs.YtlgjgdpalflmfaaDoor.Rtp
