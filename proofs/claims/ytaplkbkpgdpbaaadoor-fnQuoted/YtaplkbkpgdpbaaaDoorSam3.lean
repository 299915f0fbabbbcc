/-
  Walks: laws' sameFields.
-/
import Derived.Test.YtaplkbkpgdpbaaaDoorSam2
import Derived.Test.YtaplkbkpgdpbaaaDoorFdb
namespace Go.Proofs.YtaplkbkpgdpbaaaDoor.Sam2
open Go.RowKit
open Go.Proofs.YtaplkbkpgdpbaaaDoor.Fdb (fieldsIn FV RowF fv_of)
open Go.Proofs.YtaplkbkpgdpbaaaDoor.Mrk (same_text)

set_option maxHeartbeats 800000 in
theorem sameF_any (a b : Option Addr) (ca cb : Nat) (l : List (ByteArray × ByteArray)) (w : World) (lo hi lo' hi' : Nat) (hl : l.length ≤ 2000000) (ha : FV w a l lo hi) (hb : FV w b l lo' hi') :
    Calls Tryd.prog 17 #[.slice a l.length ca, .slice b l.length cb] w fun e w' => e = .returned (.bool true) ∧ Below w.heap.size w w' := by
  by_cases h0 : l = []
  · subst h0
    go_enter Tryd.func17, Tryd.ntmps17
    go_wp2_with fail
    go_loop [13] (fun i => i = .int .i64 0) (fun _ => 0)
    case atStart => rfl
    case round =>
      obtain rfl := hrel
      go_wp2_with fail
      go_ret
      exact ⟨rfl, Below.refl _ _⟩
  · rcases ha with ha | ⟨g, rfl, _, _, ga⟩
    · exact absurd ha h0
    rcases hb with hb | ⟨g', rfl, _, _, gb⟩
    · exact absurd hb h0
    have GA : Hid (RowF w g l) := ga
    have GB : Hid (RowF w g' l) := gb
    go_enter Tryd.func17, Tryd.ntmps17
    go_wp2_with fail
    go_loopw [13] (fun i wr => ∃ k : Nat, k ≤ l.length ∧ i = .int .i64 k ∧ Below w.heap.size w wr) (fun i _ => l.length - (intOf i).toNat)
    case atStart => exact ⟨0, by omega, rfl, Below.refl _ _⟩
    case round =>
      obtain ⟨k, hk, rfl, hbel⟩ := hrel
      by_cases hlt : k < l.length
      · obtain ⟨c1, c2⟩ := (GA.out.below hbel).2.2 k l[k] (List.getElem?_eq_getElem hlt)
        obtain ⟨d1, d2⟩ := (GB.out.below hbel).2.2 k l[k] (List.getElem?_eq_getElem hlt)
        have hs := same_text l[k].1
        have hs2 := same_text l[k].2
        go_wp2_with fail
        go_quiet (fail)
        go_wp2_with fail
        go_roundw
        case rel => exact ⟨k + 1, by omega, by go_num, hbel.trans ((Mrk.below_drewN wr _).mono hbel.size)⟩
        case measure => simp [intOf]; omega
      · go_wp2_with fail
        go_ret
        exact ⟨rfl, hbel⟩

end Go.Proofs.YtaplkbkpgdpbaaaDoor.Sam2
