/-
  Walk: impl.ChunkBytes.
-/
import Derived.Test.YtimfcbjgoilnpaaDoorCki
namespace Go.Proofs.YtimfcbjgoilnpaaDoor.Ckm
open Go.RowKit
open Go.Proofs.YtimfcbjgoilnpaaDoor.Hxt
open Go.Proofs.YtimfcbjgoilnpaaDoor.Own
open Go.Proofs.YtimfcbjgoilnpaaDoor.Mrk (TV RowT)

theorem bytesIn_made (w : World) (B : Nat) (h : B ≤ w.heap.size) : bytesIn (w.alloc (.cells #[] 5)) B (.slice (some ⟨w.heap.size, 0, none⟩) 0 0) [] :=
  ⟨rfl, .inr ⟨w.heap.size, 0, #[], rfl, h, by show (w.heap.push _)[w.heap.size]? = _; simp, Nat.le_refl _, by decide, rfl, rfl⟩⟩

set_option maxHeartbeats 1600000 in
theorem implChunk_any (a : Option Addr) (ca : Nat) (l : List ByteArray) (w : World) (lo hi : Nat) (hs : ∀ x ∈ l, x.size ≤ 2000000) (ha : TV w a l lo hi) (hT : w.cell? ⟨3, 15, none⟩ = some (.int .u8 4)) :
    Calls Tryd.prog 15 #[.slice a l.length ca] w fun e w' => e = .returned (.tuple #[.string (ckS l), .bool (pcs l)]) ∧ Below w.heap.size w w' := by
  have hlt0 := World.block_lt_of_cell? w _ hT
  have P0 := fun wx hx => arePieces_any a ca l wx lo hi hs hx
  by_cases hp : pcs l = true
  · rw [hp] at P0 ⊢
    have HP : Hid _ := P0
    have HR : Hid (ckS l = ⟨(chkL l ++ [48, 13, 10, 13, 10]).toArray⟩) := ck_yes hp
    obtain ⟨h60, hne, hsum⟩ := pcs_parts hp
    have hs3 : ∀ x ∈ l, x.size ≤ 300 := fun x hx => by obtain ⟨j, hj, rfl⟩ := List.getElem_of_mem hx; exact Nat.le_trans (sumS_at l j hj) hsum
    have HA : Hid (TV w a l lo hi) := ha
    clear P0 hp hne ha
    have HW0 : ∀ w1, Below w.heap.size w w1 → bytesIn (w1.alloc (.cells #[] 5)) w.heap.size (.slice (some ⟨w1.heap.size, 0, none⟩) 0 0) [] ∧ Below w.heap.size w (w1.alloc (.cells #[] 5)) :=
      fun w1 hb => ⟨bytesIn_made w1 _ hb.size, hb.alloc hb.size _⟩
    by_cases h0 : l = []
    · subst h0
      have HR' : Hid (ckS [] = ⟨#[48, 13, 10, 13, 10]⟩) := HR.out
      go_enter Tryd.func15, Tryd.ntmps15
      go_wp2_with fail
      refine (HP.out _ HA.out).mono ?_
      rintro e w1 ⟨rfl, hb1⟩
      obtain ⟨K1, K2⟩ := HW0 w1 hb1
      go_wp2_with fail
      go_loop [4, 15] (fun v i => v = .slice (some ⟨w1.heap.size, 0, none⟩) 0 0 ∧ i = .int .i64 0) (fun _ _ => 0)
      case atStart => exact ⟨rfl, rfl⟩
      case round =>
        obtain ⟨rfl, rfl⟩ := hrel
        have hcv := run_text _ _ _ _ K1
        go_wp2_with fail
        go_ret2
        exact ⟨ret_sb HR'.out.symm rfl, K2⟩
    rcases HA.out with ha | ⟨g, rfl, hlo, hhi, ga⟩
    · exact absurd ha h0
    have GA : Hid (RowT w g l) := ga
    clear ga
    go_enter Tryd.func15, Tryd.ntmps15
    go_wp2_with fail
    refine (HP.out _ HA.out).mono ?_
    rintro e w1 ⟨rfl, hb1⟩
    obtain ⟨K1, K2⟩ := HW0 w1 hb1
    go_wp2_with fail
    go_loopw [4, 15] (fun v i wr => ∃ k : Nat, k ≤ l.length ∧ bytesIn wr w.heap.size v (chkL (l.take k)) ∧ i = .int .i64 k ∧ Below w.heap.size w wr) (fun _ i _ => l.length - (intOf i).toNat)
    case atStart => exact ⟨0, by omega, K1, rfl, K2⟩
    case round =>
      obtain ⟨k, hk, hown, rfl, hbel⟩ := hrel
      have hlen := chkL_len l hs3 k hk
      have hsl := sumS_le l k
      by_cases hlt : k < l.length
      · have hc := (GA.out.below hbel).2.2 k l[k] (List.getElem?_eq_getElem hlt)
        have hsk := hs3 l[k] (List.getElem_mem hlt)
        have hn : l[k].size < 65536 := by omega
        obtain ⟨y1, y2⟩ := Hxu.ht_yes hn
        have HX0 := fun wx hx => Hxu.implHexText_any (l[k].size : Int) wx hx
        rw [y1, y2] at HX0
        have HX : Hid _ := HX0
        have HT : Hid (wr.cell? ⟨3, 15, none⟩ = some (.int .u8 4)) := (hbel.cell (p := ⟨3, 15, none⟩) hlt0).trans hT
        have e1 := chunk_app (hexT l[k].size) l[k]
        have HE : Hid (chkL (l.take k) ++ chk l[k] = chkL (l.take (k + 1))) := (chkL_take l k hlt).symm
        have hck := chk_len l[k] hsk
        have hht := hexT_len 3 l[k].size hn
        clear HX0 y1 y2
        go_wp2_with fail
        refine (HX.out _ HT.out).mono ?_
        rintro e w2 ⟨rfl, hb2⟩
        have hown2 := hown.below hb2
        have hbel2 := hbel.trans (hb2.mono hbel.size)
        have hB := hbel2.size
        go_wp2_with (at_builtin; refine wpList_append_str _ rfl _ _ rfl w.heap.size _ (chkL (l.take k)) (by rfl) hown2 _ rfl ?q1 hB w hbel2 ?_)
        case q1 =>
          show (chkL (l.take k)).length + (chk l[k]).toArray.size ≤ _
          rw [List.size_toArray]
          omega
        intro v' w' hown' hbel'
        have hown2' : bytesIn w' w.heap.size v' (chkL (l.take (k + 1))) := by rw [← HE.out]; exact hown'
        clear hown' hown2 hown
        go_wp2_with fail
        go_roundw
        case rel => exact ⟨k + 1, by omega, hown2', by go_num, hbel'⟩
        case measure => simp [intOf]; omega
      · obtain rfl : k = l.length := by omega
        rw [List.take_length] at *
        have hcv := run_text _ _ _ _ hown
        have e2 := app_list (chkL l) [48, 13, 10, 13, 10]
        have e2 : ((⟨(chkL l).toArray⟩ : ByteArray) ++ ⟨#[48, 13, 10, 13, 10]⟩) = ⟨(chkL l ++ [48, 13, 10, 13, 10]).toArray⟩ := e2
        clear hown
        go_wp2_with fail
        go_ret2
        exact ⟨ret_sb (HR.out.symm) rfl, hbel⟩
  · have hp' : pcs l = false := by simpa using hp
    rw [hp'] at P0 ⊢
    have HP : Hid _ := P0
    have HA : Hid (TV w a l lo hi) := ha
    have HR : Hid (ckS l = ⟨#[]⟩) := ck_no hp'
    clear P0 hp hp' ha
    go_enter Tryd.func15, Tryd.ntmps15
    go_wp2_with fail
    refine (HP.out _ HA.out).mono ?_
    rintro e w1 ⟨rfl, hb1⟩
    go_wp2_with fail
    go_ret2
    exact ⟨ret_sb HR.out.symm rfl, hb1⟩

end Go.Proofs.YtimfcbjgoilnpaaDoor.Ckm
