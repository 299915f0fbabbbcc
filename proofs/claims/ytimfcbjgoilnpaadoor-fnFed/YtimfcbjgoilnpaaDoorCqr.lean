/-
  Walk: spec.ReadChunks; both programs' ReadChunks in one form.
-/
import Derived.Test.YtimfcbjgoilnpaaDoorCqw
namespace Go.Proofs.YtimfcbjgoilnpaaDoor.Cqs
open Go.RowKit
open Go.Proofs.YtimfcbjgoilnpaaDoor.Hex
open Go.Proofs.YtimfcbjgoilnpaaDoor.Rkb (rcL rcV ret3 implReadChunks_any)

/-- What ReadChunks tells, in three parts. -/
def rcS (s : ByteArray) : ByteArray := ⟨(rcL s).1.toArray⟩
def rcQ (s : ByteArray) : Nat := (rcL s).2.1
def rcC (s : ByteArray) : Int := (rcL s).2.2
theorem rc_three (s : ByteArray) : rcV s = .tuple #[.string (rcS s), .int .i64 (rcQ s : Nat), .int .i64 (rcC s)] := rfl
theorem implRead_any (s : ByteArray) (w : World) (hT : Tab w) (hs : s.size ≤ 1900000) :
    Calls Tryd.prog 18 #[.string s] w fun e w' => e = .returned (.tuple #[.string (rcS s), .int .i64 (rcQ s : Nat), .int .i64 (rcC s)]) ∧ Below w.heap.size w w' := implReadChunks_any s w hT (by omega)
theorem specRead_any (s : ByteArray) (w : World) (hs : s.size ≤ 1900000) :
    Calls Tryd.prog 17 #[.string s] w fun e w' => e = .returned (.tuple #[.string (rcS s), .int .i64 (rcQ s : Nat), .int .i64 (rcC s)]) ∧ Below w.heap.size w w' := by
  have HI0 := fun wx => l5Chunks_any s wx hs
  rw [rc_three] at HI0
  have HI : Hid _ := HI0
  clear HI0
  go_enter Tryd.func17, Tryd.ntmps17
  go_wp2_with (go_at_call 38; refine (HI.out _).mono ?_; rintro e w1 ⟨rfl, hb1⟩)
  go_ret3
  exact ⟨rfl, hb1⟩

end Go.Proofs.YtimfcbjgoilnpaaDoor.Cqs
