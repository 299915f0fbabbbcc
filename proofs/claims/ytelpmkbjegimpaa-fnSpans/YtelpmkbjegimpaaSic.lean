/-
  Walk: impl.CutSpans.
-/
import Derived.Test.YtelpmkbjegimpaaSpc
import Derived.Test.YtelpmkbjegimpaaSia
import Derived.Test.YtelpmkbjegimpaaSik
namespace Go.Proofs.Ytelpmkbjegimpaa.Spp
open Go.RowKit
open Go.Proofs.Ytelpmkbjegimpaa.Spb
open Go.Proofs.Ytelpmkbjegimpaa.Ows

theorem texts_made0 (w : World) (B : Nat) (h : B ≤ w.heap.size) : textsIn (w.alloc (.cells #[] 9)) B (.slice (some ⟨w.heap.size, 0, none⟩) 0 0) [] :=
  ⟨rfl, .inr ⟨w.heap.size, 0, #[], rfl, h, by show (w.heap.push _)[w.heap.size]? = _; simp, Nat.le_refl _, by decide, rfl, rfl⟩⟩

set_option maxHeartbeats 1600000 in
theorem implCut_any (body : ByteArray) (a : Option Addr) (ca : Nat) (l : List (Int × Int)) (w : World) (lo hi : Nat) (hl : l.length ≤ 2000000) (hs : body.size ≤ 2000000) (ha : PV w a l lo hi) :
    Calls Try.prog 14 #[.string body, .slice a l.length ca] w fun e w' => (∃ r, e = .returned (.tuple #[r, .bool (cutB body l)]) ∧ textsIn w' w.heap.size r (cutL body l)) ∧ Below w.heap.size w w' := by
  have HV : Hid (PV w a l lo hi) := ha
  have HG0 : Hid _ := fun wx hx => areSpans_any a ca l (body.size : Int) wx lo hi hl hx
  clear ha
  by_cases h3 : 300 < body.size
  · have hB : cutB body l = false := by unfold cutB; rw [decide_eq_false (by omega)]; rfl
    have hd : decide (300 < (body.size : Int)) = true := decide_eq_true (by omega)
    rw [hB, cut_no hB]
    clear hB
    go_enter Try.func14, Try.ntmps14
    go_wp2_with fail
    go_ret2
    exact ⟨⟨_, rfl, World.ownsRow_nil _ _ _ _⟩, Below.refl _ _⟩
  have hd : decide (300 < (body.size : Int)) = false := decide_eq_false (by omega)
  have HG : Hid _ := HG0.out
  rw [are_within l (body.size : Int) (by omega)] at HG
  clear HG0
  have hBe : cutB body l = withinL l (body.size : Int) := by unfold cutB; rw [decide_eq_true (by omega), Bool.true_and]
  cases hw : withinL l (body.size : Int)
  · rw [hw] at hBe HG
    rw [hBe, cut_no hBe]
    clear hBe hw
    go_enter Try.func14, Try.ntmps14
    go_wp2_with (go_at_call 32; refine (HG.out _ HV.out).mono ?_; rintro e w2 ⟨rfl, hb2⟩)
    go_ret2
    exact ⟨⟨_, rfl, World.ownsRow_nil _ _ _ _⟩, hb2⟩
  · rw [hw] at hBe HG
    obtain ⟨hg, hin⟩ := withinL_parts hw
    obtain ⟨hl12, hgood⟩ := goodL_parts hg
    rw [hBe, cut_yes hBe]
    have HIN : Hid (∀ i, (hi : i < l.length) → 0 ≤ l[i].1 ∧ l[i].1 < l[i].2 ∧ l[i].2 ≤ (body.size : Int)) := fun i hi => ⟨(hgood _ (List.getElem_mem hi)).1, (hgood _ (List.getElem_mem hi)).2.1, hin _ (List.getElem_mem hi)⟩
    have HMap : Hid (∀ i, (hi : i < l.length) → (l.take i).map (fun c => body.extract c.1.toNat c.2.toNat) ++ [body.extract l[i].1.toNat l[i].2.toNat] = (l.take (i + 1)).map (fun c => body.extract c.1.toNat c.2.toNat)) := by
      intro i hi
      rw [List.take_succ_eq_append_getElem hi, List.map_append]
      rfl
    have HEnd : Hid ((l.take l.length).map (fun c => body.extract c.1.toNat c.2.toNat) = l.map (fun c => body.extract c.1.toNat c.2.toNat)) := by show _ = _; rw [List.take_length]
    clear hBe hw hg hin hgood
    go_enter Try.func14, Try.ntmps14
    go_wp2_with (go_at_call 32; refine (HG.out _ HV.out).mono ?_; rintro e w2 ⟨rfl, hb2⟩)
    have Hb2 : Hid (Below w.heap.size w w2) := hb2
    have HM0 : Hid (textsIn (w2.alloc (.cells #[] 9)) w.heap.size (.slice (some ⟨w2.heap.size, 0, none⟩) 0 0) []) := texts_made0 w2 w.heap.size Hb2.out.size
    have HMB : Hid (Below w.heap.size w (w2.alloc (.cells #[] 9))) := Hb2.out.alloc Hb2.out.size _
    clear hb2 HG
    go_loopw [6, 22] (fun ov c wr => ∃ i : Nat, i ≤ l.length ∧ c = .int .i64 i ∧ textsIn wr w.heap.size ov ((l.take i).map (fun c => body.extract c.1.toNat c.2.toNat)) ∧ Hid (Below w.heap.size w wr)) (fun _ c _ => l.length - (intOf c).toNat)
    case atStart => exact ⟨0, by omega, rfl, HM0.out, HMB.out⟩
    case round =>
      obtain ⟨i, hi, rfl, hown, HB⟩ := hrel
      clear Hb2 HM0 HMB
      by_cases hlt : i < l.length
      · obtain ⟨g, rfl, _, hc, hdd⟩ := row_at (HV.out.below HB.out) hlt
        obtain ⟨n1, n2, n3⟩ := HIN.out i hlt
        have hM := HMap.out i hlt
        have HMe : Hid _ := hM
        have hlen : ((l.take i).map (fun c => body.extract c.1.toNat c.2.toNat)).length = i := by rw [List.length_map, List.length_take]; omega
        generalize (l.take i).map (fun c => body.extract c.1.toNat c.2.toNat) = acc at *
        clear hM
        obtain ⟨F, hF⟩ : ∃ F : Int, F = l[i].1 := ⟨_, rfl⟩
        obtain ⟨T, hT⟩ : ∃ T : Int, T = l[i].2 := ⟨_, rfl⟩
        rw [← hF] at hc n1 n2 HMe
        rw [← hT] at hdd n2 n3 HMe
        have hown2 := hown.below ((Below.refl _ _).alloc (Nat.le_refl _) (.cells #[.int .i64 F, .int .i64 T] 32))
        have hsz : w.heap.size ≤ (wr.alloc (.cells #[.int .i64 F, .int .i64 T] 32)).heap.size := by have := HB.out.size; simp; omega
        have HB2 : Hid _ := HB.out.alloc HB.out.size (.cells #[.int .i64 F, .int .i64 T] 32)
        clear hown HB hF hT
        have hpz : (body.extract F.toNat T.toNat).size ≤ 2000000 := by rw [ByteArray.size_extract]; omega
        obtain ⟨p, hp⟩ : ∃ p, p = body.extract F.toNat T.toNat := ⟨_, rfl⟩
        have HCl : Hid _ := clone_any (body.extract F.toNat T.toNat)
        go_wp2_with (first
          | (go_at_call 39; refine (HCl.out _ hpz).mono ?_; rintro e w4 ⟨rfl, hb4⟩; have hown4 := hown2.below hb4; have HB4 : Hid _ := HB2.out.trans (hb4.mono HB2.out.size); have hsz4 : w.heap.size ≤ w4.heap.size := HB4.out.size; clear hown2 hsz)
          | (at_builtin; refine wpList_append_text w4 rfl _ _ rfl w.heap.size _ acc (by rfl) hown4 _ _ rfl ?q3 hsz4 w.heap.size (Nat.le_refl _) w4 (Below.refl _ _) ?_))
        case q3 => omega
        intro v' w3 hown' hbel'
        rw [HMe.out] at hown'
        have HB3 : Hid (Below w.heap.size w w3) := HB4.out.trans hbel'
        clear hown4 hbel' HB2 HB4
        go_wp2_with fail
        refine ⟨⟨i + 1, by omega, by go_num, hown', HB3⟩, ?_⟩
        simp [intOf]; omega
      · obtain rfl : i = l.length := by omega
        rw [HEnd.out] at hown
        go_wp2_with fail
        go_ret2
        exact ⟨⟨_, rfl, hown⟩, HB.out⟩

end Go.Proofs.Ytelpmkbjegimpaa.Spp
