/-
  Walk: spec.FeedAll, of at most 60 texts that are not long.
-/
import Derived.Test.YtimfcbjgoilnpaaDoorFam
namespace Go.Proofs.YtimfcbjgoilnpaaDoor.Unk
open Go.RowKit
open Go.Proofs.YtimfcbjgoilnpaaDoor.Hex
open Go.Proofs.YtimfcbjgoilnpaaDoor.Mrk (TV RowT)
open Go.Proofs.YtimfcbjgoilnpaaDoor.Cqs (rcS rcQ rcC)
open Go.Proofs.YtimfcbjgoilnpaaDoor.Fkp (allT allT_nil allT_take allT_size)

set_option maxRecDepth 20000 in
set_option maxHeartbeats 3200000 in
theorem specFeedAll_any (a : Option Addr) (ca : Nat) (l : List ByteArray) (w : World) (lo hi : Nat) (hl : l.length ≤ 60) (hs : ∀ x ∈ l, x.size ≤ 2000) (hall : ∀ i, (allT (l.take i)).size ≤ 2000) (ha : TV w a l lo hi) :
    Calls Tryd.prog 26 #[.slice a l.length ca] w fun e w' => e = .returned (.tuple #[.agg #[.string (fB (allT l)), .string (fR (allT l)), .bool (fD (allT l)), .bool (fW (allT l))], .bool true]) ∧ Below w.heap.size w w' := by
  have HV : Hid (TV w a l lo hi) := ha
  have HZ : Hid (∀ x ∈ l, x.size ≤ 2000) := hs
  have HA : Hid (∀ i, (allT (l.take i)).size ≤ 2000) := hall
  have HF : Hid (Fed w w.heap.size (w.heap.size + 1) (begun w) (allT (l.take 0))) := fed_begin w
  clear ha hs hall
  unfold begun at HF
  have hd : decide (60 < (l.length : Int)) = false := decide_eq_false (by omega)
  go_enter Tryd.func26, Tryd.ntmps26
  go_wp2_with fail
  go_loopw [16] (fun c wr => ∃ i : Nat, i ≤ l.length ∧ c = .int .i64 i ∧ Hid (Fed w w.heap.size (w.heap.size + 1) wr (allT (l.take i)))) (fun c _ => l.length - (intOf c).toNat)
  case atStart => exact ⟨0, by omega, rfl, HF⟩
  case round =>
    obtain ⟨i, hi, rfl, HFi⟩ := hrel
    clear HF
    have hbw := HFi.out.1
    by_cases hlt : i < l.length
    · obtain ⟨g, rfl, hgl, hc0⟩ := row_of HV.out hlt
      have hc : wr.cell? ⟨g, i, none⟩ = some (.string l[i]) := (hbw.cell (p := ⟨g, i, none⟩) hgl).trans hc0
      have hz := HZ.out _ (List.getElem_mem hlt)
      have hTs := HA.out i
      have hnext := allT_take l i hlt
      have HN : Hid (allT (l.take i) ++ l[i] = allT (l.take (i + 1))) := hnext
      obtain ⟨T, hTe⟩ : ∃ T, T = allT (l.take i) := ⟨_, rfl⟩
      rw [← hTe] at HFi hTs HN
      obtain ⟨_, _, _, _, y0, y1, y2, y3, y4, y5⟩ := HFi.out
      clear hc0 hnext hbw
      rcases code_3 T with ⟨h0, _, _⟩ | ⟨h1, hT8⟩ | h2
      · obtain ⟨e1, e2, e3, e4, e5, e6⟩ := fed_done l[i] h0
        have HF' : Hid (∀ w1, Fst w w.heap.size (w.heap.size + 1) w1 (fB T) (fR T ++ l[i]) true false → Fed w w.heap.size (w.heap.size + 1) w1 (allT (l.take (i + 1)))) := by
          intro w1 h
          unfold Fed
          rw [← HN.out, e1, e2, e3, e4]
          exact h
        have hrs : (fR T).size ≤ 2000 := by
          rw [(feed_0 h0).2.1, ByteArray.size_extract]; omega
        have HF2 : Hid _ := (show Fst w w.heap.size (w.heap.size + 1) wr (fB T) (fR T) true false by have := HFi.out; unfold Fed at this; rw [e5, e6] at this; exact this).rest (fR T ++ l[i])
        rw [e5] at y3
        rw [e6] at y4
        clear e1 e2 e3 e4 e5 e6 h0 HFi hTe hTs
        go_wp2_with fail
        refine ⟨⟨i + 1, by omega, by go_num, HF'.out _ HF2.out⟩, ?_⟩
        simp [intOf]; omega
      · obtain ⟨b1, b2, b3, b4⟩ := feed_1 h1
        have hgu : gU (fB T) (fR T) false false = true := by have := feed_good T (by omega); rw [b3, b4] at this; exact this
        have HF' : Hid (∀ w1, Fst w w.heap.size (w.heap.size + 1) w1 (fB (fR T ++ l[i])) (fR (fR T ++ l[i])) (fD (fR T ++ l[i])) (fW (fR T ++ l[i])) → Fed w w.heap.size (w.heap.size + 1) w1 (allT (l.take (i + 1)))) := by
          intro w1 h
          unfold Fed
          rw [← HN.out]
          rw [b2] at h
          exact h
        have HJ0 := fun wx => specFeed_yes (fB T) (fR T) l[i] wx (by rw [b1]; decide) hz hgu
        have HJ : Hid _ := HJ0
        have HFi' : Hid (Fst w w.heap.size (w.heap.size + 1) wr (fB T) (fR T) false false) := by have := HFi.out; unfold Fed at this; rw [b3, b4] at this; exact this
        rw [b3] at y3
        rw [b4] at y4
        clear b1 b2 b3 b4 h1 HFi hTe hTs HJ0 hgu
        go_wp2_with (go_at_call 23; refine (HJ.out _).mono ?_; rintro e w2 ⟨rfl, hb2⟩; obtain ⟨_, _, _, _, z0, z1, z2, z3, z4, z5⟩ := HFi'.out.below hb2; have HF2 : Hid _ := ((HFi'.out.below hb2).all (fB (fR T ++ l[i])) (fR (fR T ++ l[i])) (fD (fR T ++ l[i])) (fW (fR T ++ l[i]))).below ((Below.refl _ _).alloc (Nat.le_refl _) (.cells #[.string (fB (fR T ++ l[i])), .string (fR (fR T ++ l[i])), .bool (fD (fR T ++ l[i])), .bool (fW (fR T ++ l[i]))] 36)); clear hb2)
        refine ⟨⟨i + 1, by omega, by go_num, HF'.out _ HF2.out⟩, ?_⟩
        simp [intOf]; omega
      · obtain ⟨e1, e2, e3, e4, e5, e6⟩ := fed_wrong l[i] h2
        have HF' : Hid (Fed w w.heap.size (w.heap.size + 1) wr (allT (l.take (i + 1)))) := by
          have := HFi.out
          unfold Fed at this
          rw [e5, e6] at this
          unfold Hid Fed
          rw [← HN.out, e1, e2, e3, e4]
          exact this
        rw [e5] at y3
        rw [e6] at y4
        clear e1 e2 e3 e4 e5 e6 h2 HFi hTe hTs
        go_wp2_with fail
        refine ⟨⟨i + 1, by omega, by go_num, HF'⟩, ?_⟩
        simp [intOf]; omega
    · obtain rfl : i = l.length := by omega
      rw [List.take_length] at HFi
      have hTs := HA.out l.length
      rw [List.take_length] at hTs
      have hgood := feed_good (allT l) (by omega)
      have hbs : (fB (allT l)).size ≤ 2000 := by
        rcases code_3 (allT l) with ⟨h0, hb, _⟩ | ⟨h1, _⟩ | h2
        · rw [(feed_0 h0).1]; omega
        · rw [(feed_1 h1).1]; decide
        · rw [(feed_2 h2).1]; decide
      have hrs : (fR (allT l)).size ≤ 2000 := by
        rcases code_3 (allT l) with ⟨h0, _, _⟩ | ⟨h1, _⟩ | h2
        · rw [(feed_0 h0).2.1, ByteArray.size_extract]; omega
        · rw [(feed_1 h1).2.1]; exact hTs
        · rw [(feed_2 h2).2.1]; decide
      have HFe : Hid (Fst w w.heap.size (w.heap.size + 1) wr (fB (allT l)) (fR (allT l)) (fD (allT l)) (fW (allT l))) := HFi.out
      obtain ⟨b, hb⟩ : ∃ b, b = fB (allT l) := ⟨_, rfl⟩
      obtain ⟨r, hr⟩ : ∃ r, r = fR (allT l) := ⟨_, rfl⟩
      obtain ⟨d, hd'⟩ : ∃ d, d = fD (allT l) := ⟨_, rfl⟩
      obtain ⟨q, hq⟩ : ∃ q, q = fW (allT l) := ⟨_, rfl⟩
      rw [← hb, ← hr, ← hd', ← hq] at HFe hgood
      rw [← hb] at hbs
      rw [← hr] at hrs
      have HE : Hid (Value.agg #[.string (fB (allT l)), .string (fR (allT l)), .bool (fD (allT l)), .bool (fW (allT l))] = .agg #[.string b, .string r, .bool d, .bool q]) := by
        show _ = _
        rw [hb, hr, hd', hq]
      clear hb hr hd' hq
      have HG0 := fun wx => specGood_any b r d q wx (by omega) (by omega)
      rw [hgood] at HG0
      have HG : Hid _ := HG0
      obtain ⟨_, _, _, _, y0, y1, y2, y3, y4, y5⟩ := HFe.out
      clear HG0 hgood HFi hbw
      go_wp2_with (go_at_call 20; refine (HG.out _).mono ?_; rintro e w2 ⟨rfl, hb2⟩; obtain ⟨hbe, _, _, ⟨x0, x1, x2, x3, x4, x5⟩, z0, z1, z2, z3, z4, z5⟩ := HFe.out.below hb2; have Hbe : Hid _ := hbe; clear hbe hb2)
      refine bodyPost_ret (v := .tuple #[.agg #[.string b, .string r, .bool d, .bool q], .bool true]) (by simp [results, Tryd.results26, go_sem, x1, x2, x3, x4]) rfl ⟨by rw [HE.out], ?_⟩
      repeat (first | exact Hbe.out | refine Below.setCell ?_ (by simp) _)

end Go.Proofs.YtimfcbjgoilnpaaDoor.Unk
