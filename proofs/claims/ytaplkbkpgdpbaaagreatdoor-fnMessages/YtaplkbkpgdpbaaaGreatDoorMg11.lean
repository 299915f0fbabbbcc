/-
  Walks: laws' sameTexts.
  Walks: laws' sameFields.
  Walks: laws' sameRequests, sameAnswers.
  Walk: laws.numberOf.
-/
import Derived.Test.YtaplkbkpgdpbaaaGreatDoorMg1
import Derived.Test.YtaplkbkpgdpbaaaGreatDoorMg2
import Derived.Test.YtaplkbkpgdpbaaaGreatDoorRqk
import Derived.Test.YtaplkbkpgdpbaaaGreatDoorRsk
import Derived.Test.YtaplkbkpgdpbaaaGreatDoorMg10
import Derived.Deep.QuietTactic
import Derived.BigQuiet
namespace Go.Proofs.YtaplkbkpgdpbaaaGreatDoor.Sam2
open Go.RowKit
open Go.Proofs.YtaplkbkpgdpbaaaGreatDoor.Fbs
open Go.Proofs.YtaplkbkpgdpbaaaGreatDoor.Mrk (TV RowT same_text below_drewN)

end Go.Proofs.YtaplkbkpgdpbaaaGreatDoor.Sam2

namespace Go.Proofs.YtaplkbkpgdpbaaaGreatDoor.Sam2
open Go.RowKit
open Go.Proofs.YtaplkbkpgdpbaaaGreatDoor.Fdb (fieldsIn FV RowF fv_of)
open Go.Proofs.YtaplkbkpgdpbaaaGreatDoor.Mrk (same_text)

set_option maxHeartbeats 800000 in
theorem sameF_any (a b : Option Addr) (ca cb : Nat) (l : List (ByteArray × ByteArray)) (w : World) (lo hi lo' hi' : Nat) (hl : l.length ≤ 2000000) (ha : FV w a l lo hi) (hb : FV w b l lo' hi') :
    Calls Tryz.prog 53 #[.slice a l.length ca, .slice b l.length cb] w fun e w' => e = .returned (.bool true) ∧ Below w.heap.size w w' := by
  by_cases h0 : l = []
  · subst h0
    go_enter Tryz.func53, Tryz.ntmps53
    go_wp2_with fail
    go_loop [13] (fun i => i = .int .i64 0) (fun _ => 0)
    case atStart => rfl
    case round =>
      obtain rfl := hrel
      go_wp2_with fail
      go_ret
      exact ⟨rfl, Below.refl _ _⟩
  · rcases ha with ha | ⟨g, rfl, _, _, ga⟩
    · exact absurd ha h0
    rcases hb with hb | ⟨g', rfl, _, _, gb⟩
    · exact absurd hb h0
    have GA : Hid (RowF w g l) := ga
    have GB : Hid (RowF w g' l) := gb
    go_enter Tryz.func53, Tryz.ntmps53
    go_wp2_with fail
    go_loopw [13] (fun i wr => ∃ k : Nat, k ≤ l.length ∧ i = .int .i64 k ∧ Below w.heap.size w wr) (fun i _ => l.length - (intOf i).toNat)
    case atStart => exact ⟨0, by omega, rfl, Below.refl _ _⟩
    case round =>
      obtain ⟨k, hk, rfl, hbel⟩ := hrel
      by_cases hlt : k < l.length
      · obtain ⟨c1, c2⟩ := (GA.out.below hbel).2.2 k l[k] (List.getElem?_eq_getElem hlt)
        obtain ⟨d1, d2⟩ := (GB.out.below hbel).2.2 k l[k] (List.getElem?_eq_getElem hlt)
        have hs := same_text l[k].1
        have hs2 := same_text l[k].2
        go_wp2_with fail
        go_quiet (fail)
        go_wp2_with fail
        go_roundw
        case rel => exact ⟨k + 1, by omega, by go_num, hbel.trans ((Mrk.below_drewN wr _).mono hbel.size)⟩
        case measure => simp [intOf]; omega
      · go_wp2_with fail
        go_ret
        exact ⟨rfl, hbel⟩

end Go.Proofs.YtaplkbkpgdpbaaaGreatDoor.Sam2

namespace Go.Proofs.YtaplkbkpgdpbaaaGreatDoor.Sam2
open Go.RowKit
open Go.Proofs.YtaplkbkpgdpbaaaGreatDoor.Fdb (fieldsIn FV RowF fv_of)
open Go.Proofs.YtaplkbkpgdpbaaaGreatDoor.Mrk (same_text)
open Go.Proofs.YtaplkbkpgdpbaaaGreatDoor.Rqb (BoxR)
open Go.Proofs.YtaplkbkpgdpbaaaGreatDoor.Rsb (BoxP)

set_option maxHeartbeats 1600000 in
theorem sameReq_any (M T B : ByteArray) (a b : Option Addr) (ca cb : Nat) (l : List (ByteArray × ByteArray)) (w : World) (x y x' y' : Nat) (hl : l.length ≤ 2000000) (ha : FV w a l x y) (hb : FV w b l x' y') :
    Calls Tryz.prog 18 #[.agg #[.string M, .string T, .slice a l.length ca, .string B], .agg #[.string M, .string T, .slice b l.length cb, .string B]] w fun e w' => e = .returned (.bool true) ∧ Below w.heap.size w w' := by
  have s1 := same_text M
  have s2 := same_text T
  have s3 := same_text B
  have HE : Hid _ := fun w h1 h2 => sameF_any a b ca cb l w x y x' y' hl h1 h2
  have hb1 : Below w.heap.size w (w.alloc (.cells #[.string M, .string T, .slice a l.length ca, .string B] 25)) := (Below.refl _ _).alloc (Nat.le_refl _) _
  have hb2 := hb1.alloc hb1.size (.cells #[.string M, .string T, .slice b l.length cb, .string B] 25)
  have ha2 := ha.below hb2
  have hbb2 := hb.below hb2
  have HX : Hid (BoxR ((w.alloc (.cells #[.string M, .string T, .slice a l.length ca, .string B] 25)).alloc (.cells #[.string M, .string T, .slice b l.length cb, .string B] 25)) w.heap.size M T a l.length ca B) := (BoxR.made w M T a l.length ca B _).below ((Below.refl _ _).alloc (Nat.le_refl _) _)
  have HX2 : Hid (BoxR ((w.alloc (.cells #[.string M, .string T, .slice a l.length ca, .string B] 25)).alloc (.cells #[.string M, .string T, .slice b l.length cb, .string B] 25)) (w.heap.size + 1) M T b l.length cb B) := by
    have h := BoxR.made (w.alloc (.cells #[.string M, .string T, .slice a l.length ca, .string B] 25)) M T b l.length cb B 25
    rwa [World.size_alloc] at h
  obtain ⟨w2, hw2⟩ : ∃ w2, w2 = ((w.alloc (.cells #[.string M, .string T, .slice a l.length ca, .string B] 25)).alloc (.cells #[.string M, .string T, .slice b l.length cb, .string B] 25)) := ⟨_, rfl⟩
  rw [← hw2] at HX HX2 ha2 hbb2 hb2
  obtain ⟨x0, x1, x2, x3⟩ := HX.out
  obtain ⟨y0, y1, y2, y3⟩ := HX2.out
  clear hb1 ha hb
  go_enter Tryz.func18, Tryz.ntmps18
  go_wp2_with fail
  rw [← hw2]
  refine (HE.out _ ha2 hbb2).mono ?_
  rintro e w3 ⟨rfl, hb3⟩
  have hb13 := hb2.trans (hb3.mono hb2.size)
  go_wp2_with fail
  go_ret
  exact ⟨rfl, hb13⟩

set_option maxHeartbeats 1600000 in
theorem sameAns_any (M : Int) (T B : ByteArray) (a b : Option Addr) (ca cb : Nat) (l : List (ByteArray × ByteArray)) (w : World) (x y x' y' : Nat) (hl : l.length ≤ 2000000) (ha : FV w a l x y) (hb : FV w b l x' y') :
    Calls Tryz.prog 23 #[.agg #[.int .i64 M, .string T, .slice a l.length ca, .string B], .agg #[.int .i64 M, .string T, .slice b l.length cb, .string B]] w fun e w' => e = .returned (.bool true) ∧ Below w.heap.size w w' := by
  have s2 := same_text T
  have s3 := same_text B
  have HE : Hid _ := fun w h1 h2 => sameF_any a b ca cb l w x y x' y' hl h1 h2
  have hb1 : Below w.heap.size w (w.alloc (.cells #[.int .i64 M, .string T, .slice a l.length ca, .string B] 36)) := (Below.refl _ _).alloc (Nat.le_refl _) _
  have hb2 := hb1.alloc hb1.size (.cells #[.int .i64 M, .string T, .slice b l.length cb, .string B] 36)
  have ha2 := ha.below hb2
  have hbb2 := hb.below hb2
  have HX : Hid (BoxP ((w.alloc (.cells #[.int .i64 M, .string T, .slice a l.length ca, .string B] 36)).alloc (.cells #[.int .i64 M, .string T, .slice b l.length cb, .string B] 36)) w.heap.size M T a l.length ca B) := (BoxP.made w M T a l.length ca B _).below ((Below.refl _ _).alloc (Nat.le_refl _) _)
  have HX2 : Hid (BoxP ((w.alloc (.cells #[.int .i64 M, .string T, .slice a l.length ca, .string B] 36)).alloc (.cells #[.int .i64 M, .string T, .slice b l.length cb, .string B] 36)) (w.heap.size + 1) M T b l.length cb B) := by
    have h := BoxP.made (w.alloc (.cells #[.int .i64 M, .string T, .slice a l.length ca, .string B] 36)) M T b l.length cb B 36
    rwa [World.size_alloc] at h
  obtain ⟨w2, hw2⟩ : ∃ w2, w2 = ((w.alloc (.cells #[.int .i64 M, .string T, .slice a l.length ca, .string B] 36)).alloc (.cells #[.int .i64 M, .string T, .slice b l.length cb, .string B] 36)) := ⟨_, rfl⟩
  rw [← hw2] at HX HX2 ha2 hbb2 hb2
  obtain ⟨x0, x1, x2, x3⟩ := HX.out
  obtain ⟨y0, y1, y2, y3⟩ := HX2.out
  clear hb1 ha hb
  go_enter Tryz.func23, Tryz.ntmps23
  go_wp2_with fail
  rw [← hw2]
  refine (HE.out _ ha2 hbb2).mono ?_
  rintro e w3 ⟨rfl, hb3⟩
  have hb13 := hb2.trans (hb3.mono hb2.size)
  go_wp2_with fail
  go_ret
  exact ⟨rfl, hb13⟩

end Go.Proofs.YtaplkbkpgdpbaaaGreatDoor.Sam2

namespace Go.Proofs.YtaplkbkpgdpbaaaGreatDoor.Cur
open Go.RowKit

set_option maxHeartbeats 1600000 in
theorem numberOf_any (v : Value) (n : Nat) (w : World) (hA : CodeArg w v n) (hn : n ≤ 2000000) :
    Calls Tryz.prog 24 #[v] w fun e w' => ∃ x : Nat, e = .returned (.int .i64 x) ∧ x ≤ 1000002 ∧ Below w.heap.size w w' := by
  obtain ⟨o, cap, rfl⟩ := hA.form
  have HA : Hid _ := hA
  clear hA
  go_enter Tryz.func24, Tryz.ntmps24
  go_wp2_with fail
  go_loopw [3, 8] (fun nv iv wr => ∃ x k : Nat, nv = .int .i64 x ∧ x ≤ 1000002 ∧ iv = .int .i64 k ∧ k ≤ n ∧ wr = w) (fun _ iv _ => n - (intOf iv).toNat)
  case atStart => exact ⟨0, 0, rfl, by omega, rfl, by omega, rfl⟩
  case round =>
    obtain ⟨x, k, rfl, hx, rfl, hk, rfl⟩ := hrel
    by_cases hlt : k < n
    · rcases HA.out with ⟨_, h0⟩ | ⟨a, cap2, h1, h2, h3, h6⟩
      · omega
      · injection h1 with h1 _ _
        subst h1
        obtain ⟨h4, c, hc⟩ := h6 k hlt
        have hc2 : (c.toNat : Int) < 256 := by have := c.toNat_lt; omega
        have w1 : IntKind.i64.wrap (31 * (x : Int)) = 31 * (x : Int) := by rw [IntKind.wrap_i64]; omega
        have w2 : IntKind.i64.wrap (c.toNat : Int) = (c.toNat : Int) := by rw [IntKind.wrap_i64]; omega
        have w3 : IntKind.i64.wrap (31 * (x : Int) + (c.toNat : Int)) = 31 * (x : Int) + (c.toNat : Int) := by rw [IntKind.wrap_i64]; omega
        have w4 : IntKind.i64.wrap (Int.tmod (31 * (x : Int) + (c.toNat : Int)) 1000003) = Int.tmod (31 * (x : Int) + (c.toNat : Int)) 1000003 := by rw [IntKind.wrap_i64, Int.tmod_eq_emod_of_nonneg (by omega)]; omega
        go_wp2_with fail
        go_roundw
        case rel => exact ⟨(31 * x + c.toNat) % 1000003, k + 1, by go_num, by omega, by go_num, by omega, trivial⟩
        case measure => simp [intOf]; omega
    · go_wp2_with fail
      go_ret
      exact ⟨x, rfl, hx, Below.refl _ _⟩

end Go.Proofs.YtaplkbkpgdpbaaaGreatDoor.Cur

