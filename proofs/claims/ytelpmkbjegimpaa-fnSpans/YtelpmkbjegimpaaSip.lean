/-
  Walk: impl.PasteSpans.
-/
import Derived.Test.YtelpmkbjegimpaaSia
import Derived.Test.YtelpmkbjegimpaaJna
import Derived.Test.YtelpmkbjegimpaaShelf
import Derived.Lib.LazyBuf
import Derived.Lib.Repeat
import Derived.Deep.RegionLaw
namespace Go.Proofs.Ytelpmkbjegimpaa.Spb
open Go.RowKit
open Go.Proofs.Ytelpmkbjegimpaa.Spp
open Go.Proofs.Ytelpmkbjegimpaa.Mrk (TV)

/-- A row of bytes. -/
def RowY (w : World) (g : Nat) (L : List UInt8) : Prop := g < w.heap.size ∧ (∀ j, (hj : j < L.length) → w.cell? ⟨g, j, none⟩ = some (.int .u8 (L[j].toNat : Int))) ∧ ∀ j, j < L.length → w.frozen? ⟨g, j, none⟩ = false
theorem RowY.below {w w' : World} {g : Nat} {L : List UInt8} (h : RowY w g L) (hb : Below w.heap.size w w') : RowY w' g L :=
  ⟨Nat.lt_of_lt_of_le h.1 hb.size, fun j hj => (hb.cell (p := ⟨g, j, none⟩) h.1).trans (h.2.1 j hj), fun j hj => (hb.frozen (p := ⟨g, j, none⟩) h.1).trans (h.2.2 j hj)⟩
theorem put_at (L : List UInt8) (F : Nat) (p : ByteArray) : ∀ (k j : Nat), (putB L F p k)[j]? = if F ≤ j ∧ j < F + k ∧ j < L.length then some (p.data.getD (j - F) 0) else L[j]?
  | 0, j => by rw [if_neg (by omega)]; rfl
  | k + 1, j => by
    rw [put_more, List.getElem?_set, put_len, put_at L F p k j]
    by_cases e : F + k = j
    · subst e
      rw [if_pos rfl]
      by_cases h : F + k < L.length
      · rw [if_pos h, if_pos ⟨by omega, by omega, h⟩, show F + k - F = k by omega]
      · rw [if_neg h, if_neg (by omega), List.getElem?_eq_none (by omega)]
    · rw [if_neg e]
      by_cases h : F ≤ j ∧ j < F + k ∧ j < L.length
      · rw [if_pos h, if_pos ⟨h.1, by omega, h.2.2⟩]
      · rw [if_neg h, if_neg (by omega)]
theorem RowY.put {w : World} {g : Nat} {L : List UInt8} (h : RowY w g L) (F : Nat) (p : ByteArray) (hf : F + p.size ≤ L.length) : RowY (w.setCells g F (p.data.toList.map fun x => Value.int .u8 (x.toNat : Int))) g (putB L F p p.size) := by
  have hlen : (p.data.toList.map fun x => Value.int .u8 (x.toNat : Int)).length = p.size := by rw [List.length_map, ← Lib.size_eq]
  refine ⟨?_, fun j hj => ?_, fun j hj => ?_⟩
  · have := (Lib.below_setCells_w (B := 0) (g := g) (Nat.zero_le _) (p.data.toList.map fun x => Value.int .u8 (x.toNat : Int)) F w).size
    exact Nat.lt_of_lt_of_le h.1 this
  · have hjL : j < L.length := by rwa [put_len] at hj
    have hat := put_at L F p p.size j
    rw [List.getElem?_eq_getElem hj] at hat
    by_cases hin : F ≤ j ∧ j < F + p.size
    · rw [if_pos ⟨hin.1, hin.2, hjL⟩] at hat
      injection hat with hat
      rw [hat]
      obtain ⟨i, rfl⟩ : ∃ i, j = F + i := ⟨j - F, by omega⟩
      have hi : i < p.size := by omega
      rw [World.cell?_setCells_in g _ F w (fun x hx => by rw [h.2.1 (F + x) (by rw [hlen] at hx; omega)]; rfl) i (by rw [hlen]; exact hi)]
      rw [show F + i - F = i by omega, byte_at p i hi]
      simp
      rfl
    · rw [if_neg (by omega), List.getElem?_eq_getElem hjL] at hat
      injection hat with hat
      rw [hat, World.cell?_setCells_out g _ F w ⟨g, j, none⟩ (fun _ _ => by rw [hlen]; show j < F ∨ F + p.size ≤ j; omega)]
      exact h.2.1 j hjL
  · rw [World.frozen?_setCells]
    exact h.2.2 j (by rwa [put_len] at hj)
theorem RowY.text {w : World} {g c : Nat} {L : List UInt8} (h : RowY w g L) : (convert 22 9 (.slice (some ⟨g, 0, none⟩) L.length c)).run Try.prog w = .ok (.string ⟨L.toArray⟩) w :=
  run_convert_bytes_back w 22 9 5 ⟨g, 0, none⟩ c L Try.underlying22 Try.underlying5 Try.underlying9 (fun j hj => by rw [Addr.add_lit, Nat.zero_add]; exact h.2.1 j hj)
theorem dots_are (n : Nat) : Lib.repeatL (⟨#[46]⟩ : ByteArray).data.toList n = List.replicate n 46 := by
  have := Lib.repeatL_replicate 46 1 n
  rw [Nat.mul_one] at this
  exact this

set_option maxRecDepth 20000 in
set_option maxHeartbeats 3200000 in
theorem implPaste_any (size : Int) (a : Option Addr) (ca : Nat) (l : List (Int × Int)) (b : Option Addr) (cb : Nat) (ps : List ByteArray) (w : World) (lo hi lo' hi' : Nat) (hl : l.length ≤ 2000000) (hp : ps.length ≤ 2000000) (hps : ∀ p ∈ ps, p.size ≤ 2000000) (ha : PV w a l lo hi) (hb : TV w b ps lo' hi') :
    Calls Try.prog 17 #[.int .i64 size, .slice a l.length ca, .slice b ps.length cb] w fun e w' => e = .returned (.tuple #[.string (pasteS size l ps), .bool (pasteB size l ps)]) ∧ Below w.heap.size w w' := by
  have HV : Hid (PV w a l lo hi) := ha
  have HP : Hid (TV w b ps lo' hi') := hb
  have HG : Hid _ := fun wx hx => areSpans_any a ca l size wx lo hi hl hx
  by_cases hsz : 0 ≤ size ∧ size ≤ 300
  rotate_left
  · have hB : pasteB size l ps = false := by
      unfold pasteB pasteH
      by_cases h0 : 0 ≤ size
      · rw [decide_eq_true h0, decide_eq_false (by omega)]; rfl
      · rw [decide_eq_false h0]; rfl
    have HI : Hid (size < 0 ∨ 300 < size) := by show _ ∨ _; omega
    rw [hB, paste_no hB]
    clear hB hsz ha hb
    go_enter Try.func17, Try.ntmps17
    go_wp2_with (go_at_call 33; refine (between_no _ _ _ _ HI.out).mono ?_; rintro e w' ⟨rfl, hw⟩; obtain rfl := hw.symm)
    go_ret2
    exact ⟨rfl, Below.refl _ _⟩
  have HI : Hid (0 ≤ size ∧ size ≤ 300) := hsz
  rw [are_within l size (by omega)] at HG
  cases hwi : withinL l size
  · have hB : pasteB size l ps = false := by unfold pasteB pasteH; rw [hwi]; simp
    rw [hwi] at HG
    rw [hB, paste_no hB]
    clear hB hsz hwi ha hb
    go_enter Try.func17, Try.ntmps17
    go_wp2_with (first
      | (go_at_call 33; refine (between_yes _ _ _ _ HI.out.1 HI.out.2).mono ?_; rintro e w' ⟨rfl, hw⟩; obtain rfl := hw.symm)
      | (go_at_call 32; refine (HG.out _ HV.out).mono ?_; rintro e w2 ⟨rfl, hb2⟩))
    go_ret2
    exact ⟨rfl, hb2⟩
  rw [hwi] at HG
  obtain ⟨hgl, hin⟩ := withinL_parts hwi
  obtain ⟨hl12, hgood⟩ := goodL_parts hgl
  have HF0 : Hid _ := fun wx hx hy => doFit_any a ca l b cb ps wx lo hi lo' hi' hl hp hps hgood hx hy
  have hBe : pasteB size l ps = fitB l ps := by
    unfold pasteB pasteH fitB
    rw [hwi, decide_eq_true hsz.1, decide_eq_true hsz.2, Bool.true_and, Bool.true_and, Bool.true_and]
  cases hfit : fitB l ps
  · rw [hfit] at hBe HF0
    rw [hBe, paste_no hBe]
    clear hBe hsz hwi ha hb hin hgl hgood
    go_enter Try.func17, Try.ntmps17
    go_wp2_with (first
      | (go_at_call 33; refine (between_yes _ _ _ _ HI.out.1 HI.out.2).mono ?_; rintro e w' ⟨rfl, hw⟩; obtain rfl := hw.symm)
      | (go_at_call 32; refine (HG.out _ HV.out).mono ?_; rintro e w2 ⟨rfl, hb2⟩; have HV2 : Hid _ := HV.out.below hb2; have HP2 : Hid _ := HP.out.below hb2; have HB2 : Hid _ := hb2; clear hb2)
      | (go_at_call 41; refine (HF0.out _ HV2.out HP2.out).mono ?_; rintro e w3 ⟨rfl, hb3⟩))
    go_ret2
    exact ⟨rfl, HB2.out.trans (hb3.mono HB2.out.size)⟩
  rw [hfit] at hBe HF0
  rw [hBe, paste_yes hBe]
  obtain ⟨n, rfl⟩ : ∃ n : Nat, size = n := ⟨size.toNat, by omega⟩
  rw [Int.toNat_natCast]
  have hn3 : n ≤ 300 := by omega
  unfold fitB at hfit
  rw [Bool.and_eq_true, decide_eq_true_eq] at hfit
  obtain ⟨hlen, hfz⟩ := hfit
  have HLn : Hid (ps.length = l.length) := hlen
  obtain ⟨Z, hZ⟩ : ∃ Z, Z = l.zip ps := ⟨_, rfl⟩
  have HZ : Hid (Z = l.zip ps) := hZ
  have HZL : Hid (Z.length = l.length) := by show _ = _; rw [hZ, List.length_zip]; omega
  have HF : Hid (∀ x, (hx : x < Z.length) → (Z[x].2.size : Int) = Z[x].1.2 - Z[x].1.1) := by
    intro x hx
    unfold fitZ at hfz
    rw [← hZ, List.all_eq_true] at hfz
    exact of_decide_eq_true (hfz _ (List.getElem_mem hx))
  rw [← hZ]
  have HGd : Hid _ := hgood
  have HIn : Hid _ := hin
  have HRp : Hid (∀ wx, Calls Try.prog 42 #[.string ⟨#[46]⟩, .int .i64 n] wx fun e w' => e = .returned (.string ⟨Array.replicate n 46⟩) ∧ Below wx.heap.size wx w') := by
    intro wx
    have := Try.strings_Repeat ⟨#[46]⟩ n wx (by omega) (by show 1 * n ≤ _; omega)
    rwa [dots_are, List.toArray_replicate] at this
  have hD : (⟨Array.replicate n (46 : UInt8)⟩ : ByteArray).size = n := by show (Array.replicate n (46 : UInt8)).size = n; simp
  have HD : Hid _ := hD
  clear hBe hsz hwi ha hb hin hgl hgood hfz hZ hlen hD hps
  go_enter Try.func17, Try.ntmps17
  go_wp2_with (first
    | (go_at_call 33; refine (between_yes _ _ _ _ HI.out.1 HI.out.2).mono ?_; rintro e w' ⟨rfl, hw⟩; obtain rfl := hw.symm)
    | (go_at_call 32; refine (HG.out _ HV.out).mono ?_; rintro e w2 ⟨rfl, hb2⟩; have HV2 : Hid _ := HV.out.below hb2; have HP2 : Hid _ := HP.out.below hb2; have HB2 : Hid _ := hb2; clear hb2)
    | (go_at_call 41; refine (HF0.out _ HV2.out HP2.out).mono ?_; rintro e w3 ⟨rfl, hb3⟩; have HB3 : Hid _ := HB2.out.trans (hb3.mono HB2.out.size); clear hb3)
    | (go_at_call 42; refine (HRp.out _).mono ?_; rintro e w4 ⟨rfl, hb4⟩; obtain ⟨cp, w5, hcv, hcp, hb5, hs5, hce, hfr⟩ := Jna.bytes_made ⟨Array.replicate n 46⟩ w4; rw [HD.out] at hcv; have HB5 : Hid (Below w.heap.size w w5) := (HB3.out.trans (hb4.mono HB3.out.size)).trans (hb5.mono (Nat.le_trans HB3.out.size hb4.size)); have HYY : Hid _ := And.intro hs5 (And.intro hce (And.intro hfr hcp)); have hg4 : w.heap.size ≤ w4.heap.size := Nat.le_trans HB3.out.size hb4.size; clear hb4 hb5 hs5 hce hfr hcp))
  obtain ⟨g, hg⟩ : ∃ g, g = w4.heap.size := ⟨_, rfl⟩
  have HY : Hid (RowY w5 g (List.replicate n 46)) := by
    obtain ⟨h1, h2, h3, h4⟩ := HYY.out
    rw [HD.out] at h4
    rw [hg]
    exact ⟨h1, fun j hj => h2 j (by simpa using hj), fun j hj => (h3 j (by simp at hj; omega)).2⟩
  have hcp : n ≤ cp := by have := HYY.out.2.2.2; rwa [HD.out] at this
  rw [← hg] at hg4
  rw [← hg]
  clear hg hcv HYY HV2 HP2 HB2 HB3 HRp HF0 HG
  go_wp2_with fail
  go_loopw [31] (fun c wr => ∃ j : Nat, j ≤ l.length ∧ c = .int .i64 j ∧ Hid (RowY wr g (pasteZ (Z.take j) (List.replicate n 46))) ∧ Hid (Below w.heap.size w wr)) (fun c _ => l.length - (intOf c).toNat)
  case atStart => exact ⟨0, by omega, rfl, HY, HB5⟩
  case round =>
    obtain ⟨j, hj, rfl, HO, HB⟩ := hrel
    obtain ⟨W1, hW1⟩ : ∃ W1, W1 = wr := ⟨_, rfl⟩
    subst hW1
    clear HY HB5
    by_cases hlt2 : j < l.length
    · obtain ⟨ga, rfl, hga, hc, hd⟩ := row_at (HV.out.below HB.out) hlt2
      have hjp : j < ps.length := by have := HLn.out; omega
      have hjz : j < Z.length := by have := HZL.out; omega
      obtain ⟨gb, rfl, hgb, hcb⟩ : ∃ gb, b = some ⟨gb, 0, none⟩ ∧ gb < w.heap.size ∧ w.cell? ⟨gb, j, none⟩ = some (.string (ps[j])) := by
        rcases HP.out with h | ⟨gb, h1, _, _, h4⟩
        · rw [h] at hjp; simp at hjp
        · exact ⟨gb, h1, h4.1, h4.2.2 j _ (List.getElem?_eq_getElem hjp)⟩
      obtain ⟨F, T, hFT⟩ : ∃ F T, l[j] = (F, T) := ⟨_, _, rfl⟩
      obtain ⟨p, hpj⟩ : ∃ p, p = ps[j] := ⟨_, rfl⟩
      have hz : Z[j] = ((F, T), p) := by
        have := HZ.out
        subst this
        rw [List.getElem_zip, hFT, hpj]
      obtain ⟨n1, n2, n3⟩ := HGd.out _ (List.getElem_mem hlt2)
      have n4 := HIn.out _ (List.getElem_mem hlt2)
      have hps := HF.out j hjz
      rw [hz] at hps
      rw [← hpj] at hcb
      rw [hFT] at hc hd n1 n2 n3 n4
      dsimp only at hc hd n1 n2 n3 n4 hps
      obtain ⟨f, rfl⟩ : ∃ f : Nat, F = f := ⟨F.toNat, by omega⟩
      obtain ⟨t, rfl⟩ : ∃ t : Nat, T = t := ⟨T.toNat, by omega⟩
      have hpz : p.size = t - f := by omega
      have HCb : Hid (w.cell? ⟨gb, j, none⟩ = some (.string p)) := hcb
      have hcb1 := (HB.out.cell (p := ⟨gb, j, none⟩) hgb).trans HCb.out
      have Hz : Hid _ := hz
      have hs1 : (W1.alloc (.cells #[.int .i64 (f : Int), .int .i64 (t : Int)] 32)).heap.size = W1.heap.size + 1 := by simp
      have HO6 : Hid (RowY (W1.alloc (.cells #[.int .i64 (f : Int), .int .i64 (t : Int)] 32)) g (pasteZ (Z.take j) (List.replicate n 46))) := HO.out.below ((Below.refl _ _).alloc (Nat.le_refl _) _)
      have HB6 : Hid (Below w.heap.size w (W1.alloc (.cells #[.int .i64 (f : Int), .int .i64 (t : Int)] 32))) := HB.out.alloc HB.out.size _
      have hcb2 := (HB6.out.cell (p := ⟨gb, j, none⟩) hgb).trans HCb.out
      have HLz : Hid ((pasteZ (Z.take j) (List.replicate n 46)).length = n) := by show _ = _; rw [pasteZ_len, List.length_replicate]
      have htn : t ≤ n := by omega
      have hft : f < t := by omega
      have htc : t ≤ cp := by omega
      have hfle : f ≤ t := by omega
      have hcne : ¬ cp = f := by omega
      have HPz : Hid (p.size = t - f) := hpz
      clear hz hpj hFT hcb HO HB hpz hps
      go_wp2_with fail
      go_region_law (refine step_copy_string rfl (.tmp 41) (.tmp 45) 22 9 rfl 5 Try.underlying22 Try.sizeOf5 g f (t - f) (cp - f) (by simp [Act.eval, Act.put]) p (by simp [Act.eval, Act.put]) (by rw [HPz.out]; exact Nat.le_refl _) (fun x hx => (congrArg Option.isSome (HO6.out.2.1 (f + x) (by rw [HLz.out]; have := HPz.out; omega))).trans rfl) (fun x hx => HO6.out.2.2 (f + x) (by rw [HLz.out]; have := HPz.out; omega)) ?_)
      all_goals
        have HOn : Hid (RowY ((W1.alloc (.cells #[.int .i64 (f : Int), .int .i64 (t : Int)] 32)).drew.setCells g f (p.data.toList.map fun x => Value.int .u8 (x.toNat : Int))) g (pasteZ (Z.take (j + 1)) (List.replicate n 46))) := by
          show RowY _ _ _
          rw [pasteZ_take Z _ j hjz, Hz.out]
          exact RowY.put (w := (W1.alloc (.cells #[.int .i64 (f : Int), .int .i64 (t : Int)] 32)).drew) HO6.out f p (by rw [HLz.out, HPz.out]; omega)
        have HBn : Hid (Below w.heap.size w ((W1.alloc (.cells #[.int .i64 (f : Int), .int .i64 (t : Int)] 32)).drew.setCells g f (p.data.toList.map fun x => Value.int .u8 (x.toNat : Int)))) := (bdrew HB6.out).trans (Lib.below_setCells_w hg4 _ _ _)
        generalize (W1.alloc (.cells #[.int .i64 (f : Int), .int .i64 (t : Int)] 32)).drew.setCells g f (p.data.toList.map fun x => Value.int .u8 (x.toNat : Int)) = wz at *
        clear HO6 HB6
        go_wp2_with fail
        go_roundw
        case rel => exact ⟨j + 1, by omega, by go_num, HOn, HBn⟩
        case measure => simp [intOf]; omega
    · obtain rfl : j = l.length := by omega
      have hE : Z.take l.length = Z := by rw [← HZL.out]; exact List.take_length
      have hcv := HO.out.text (c := cp)
      rw [pasteZ_len, List.length_replicate, hE] at hcv
      clear hE
      go_wp2_with fail
      go_ret2
      exact ⟨rfl, HB.out⟩

end Go.Proofs.Ytelpmkbjegimpaa.Spb
