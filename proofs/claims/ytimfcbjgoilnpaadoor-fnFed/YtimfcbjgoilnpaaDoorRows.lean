/-
  NARROWER THAN 'FOR EVERY INPUT', by the rows' own cells (each row's printed sentence says how): FnExactChunkBytes: laid · FnExactReadChunks: laid · FnExactGoodUnchunk: laid · FnExactFeedUnchunk: laid · FnExactFeedAll: laid · FnExactHexText: laid · FnExactReadHex: laid · FnChunks: laid · FnFed: laid.
  DERIVED. THE GIVEN ROWS OF THIS SEAT. 9 by the template 'for every input the law returns true; each argument reads behind the call as it read before'; 0 by the template 'total and deterministic' (their statements: YtimfcbjgoilnpaaDoorTotals.lean).
  GIVEN WITH THE SEED: the statements are not yours to turn. If you find one false, say at which input.
  Laid BY PROGRAM, IN A SANDBOX (cutbox-rows.mjs): the forced cells as the released guide's own fill.sh prints them over the translation 539e18f5a4406c72… (all of the seat's roots in one cut). By AI agents, Wed Nov 11 2026. No macro, syntax, notation, axiom, sorry.
-/
import Derived.Test.YtimfcbjgoilnpaaDoorChecked
import GoSem.Claim
import GoSem.ClaimJoined
import GoSem.ClaimMapViews
import Derived.JoinedTies
import Derived.KernelRfl
namespace Go.Proofs.YtimfcbjgoilnpaaDoor
/- THE CELL 'sum', in the pinned program and in every row, IS THE sha256 OF THE DUMP (.gsa) THAT YtimfcbjgoilnpaaDoorProg.lean LOADS. Nothing in Lean hashes anything: it is a label: what it is worth is what the hold of that sum in a sandbox is worth. -/
noncomputable def Tryd.pinned : Pinned := { name := "ytimfcbjgoilnpaadoor", sum := "539e18f5a4406c72b3cc99c3f16c39e69b804a5996343025f5e787d7be76416d", checked := Tryd.checked }
namespace Rows
def none {H : Type} : Left H := { results := [], args := [] }

/- WHAT THE LISTED PACKAGE-LEVEL VARIABLES READ AS WHEN THE CALL BEGINS. Each datum BY PROGRAM (the guide's laid-datum.mjs) off the statement by which the dump's own 'gosem.cut.vars' lays the variable. In a bare row this is a premise. The card (YtimfcbjgoilnpaaDoorCards.lean) ties it to the program's text. -/
def laid_math_bits_deBruijn32tab {H : Type} : DataW H := .agg [.lit (.int .u8 0), .lit (.int .u8 1), .lit (.int .u8 28), .lit (.int .u8 2), .lit (.int .u8 29), .lit (.int .u8 14), .lit (.int .u8 24), .lit (.int .u8 3), .lit (.int .u8 30), .lit (.int .u8 22), .lit (.int .u8 20), .lit (.int .u8 15), .lit (.int .u8 25), .lit (.int .u8 17), .lit (.int .u8 4), .lit (.int .u8 8), .lit (.int .u8 31), .lit (.int .u8 27), .lit (.int .u8 13), .lit (.int .u8 23), .lit (.int .u8 21), .lit (.int .u8 19), .lit (.int .u8 16), .lit (.int .u8 7), .lit (.int .u8 26), .lit (.int .u8 12), .lit (.int .u8 18), .lit (.int .u8 6), .lit (.int .u8 11), .lit (.int .u8 5), .lit (.int .u8 10), .lit (.int .u8 9)]
def laid_math_bits_deBruijn64tab {H : Type} : DataW H := .agg [.lit (.int .u8 0), .lit (.int .u8 1), .lit (.int .u8 56), .lit (.int .u8 2), .lit (.int .u8 57), .lit (.int .u8 49), .lit (.int .u8 28), .lit (.int .u8 3), .lit (.int .u8 61), .lit (.int .u8 58), .lit (.int .u8 42), .lit (.int .u8 50), .lit (.int .u8 38), .lit (.int .u8 29), .lit (.int .u8 17), .lit (.int .u8 4), .lit (.int .u8 62), .lit (.int .u8 47), .lit (.int .u8 59), .lit (.int .u8 36), .lit (.int .u8 45), .lit (.int .u8 43), .lit (.int .u8 51), .lit (.int .u8 22), .lit (.int .u8 53), .lit (.int .u8 39), .lit (.int .u8 33), .lit (.int .u8 30), .lit (.int .u8 24), .lit (.int .u8 18), .lit (.int .u8 12), .lit (.int .u8 5), .lit (.int .u8 63), .lit (.int .u8 55), .lit (.int .u8 48), .lit (.int .u8 27), .lit (.int .u8 60), .lit (.int .u8 41), .lit (.int .u8 37), .lit (.int .u8 16), .lit (.int .u8 46), .lit (.int .u8 35), .lit (.int .u8 44), .lit (.int .u8 21), .lit (.int .u8 52), .lit (.int .u8 32), .lit (.int .u8 23), .lit (.int .u8 11), .lit (.int .u8 54), .lit (.int .u8 26), .lit (.int .u8 40), .lit (.int .u8 15), .lit (.int .u8 34), .lit (.int .u8 20), .lit (.int .u8 31), .lit (.int .u8 10), .lit (.int .u8 25), .lit (.int .u8 14), .lit (.int .u8 19), .lit (.int .u8 9), .lit (.int .u8 13), .lit (.int .u8 8), .lit (.int .u8 7), .lit (.int .u8 6)]
def laid_internal_strconv_uint64pow10 {H : Type} : DataW H := .agg [.lit (.int .u64 1), .lit (.int .u64 10), .lit (.int .u64 100), .lit (.int .u64 1000), .lit (.int .u64 10000), .lit (.int .u64 100000), .lit (.int .u64 1000000), .lit (.int .u64 10000000), .lit (.int .u64 100000000), .lit (.int .u64 1000000000), .lit (.int .u64 10000000000), .lit (.int .u64 100000000000), .lit (.int .u64 1000000000000), .lit (.int .u64 10000000000000), .lit (.int .u64 100000000000000), .lit (.int .u64 1000000000000000), .lit (.int .u64 10000000000000000), .lit (.int .u64 100000000000000000), .lit (.int .u64 1000000000000000000), .lit (.int .u64 10000000000000000000)]
def laid_loop_example_g00256_impl_byteKinds {H : Type} : DataW H := .agg [.lit (.int .u8 0), .lit (.int .u8 0), .lit (.int .u8 0), .lit (.int .u8 0), .lit (.int .u8 0), .lit (.int .u8 0), .lit (.int .u8 0), .lit (.int .u8 0), .lit (.int .u8 0), .lit (.int .u8 0), .lit (.int .u8 0), .lit (.int .u8 0), .lit (.int .u8 0), .lit (.int .u8 0), .lit (.int .u8 0), .lit (.int .u8 0), .lit (.int .u8 0), .lit (.int .u8 0), .lit (.int .u8 0), .lit (.int .u8 0), .lit (.int .u8 0), .lit (.int .u8 0), .lit (.int .u8 0), .lit (.int .u8 0), .lit (.int .u8 0), .lit (.int .u8 0), .lit (.int .u8 0), .lit (.int .u8 0), .lit (.int .u8 0), .lit (.int .u8 0), .lit (.int .u8 0), .lit (.int .u8 0), .lit (.int .u8 0), .lit (.int .u8 4), .lit (.int .u8 0), .lit (.int .u8 0), .lit (.int .u8 4), .lit (.int .u8 0), .lit (.int .u8 4), .lit (.int .u8 4), .lit (.int .u8 4), .lit (.int .u8 4), .lit (.int .u8 4), .lit (.int .u8 4), .lit (.int .u8 4), .lit (.int .u8 7), .lit (.int .u8 7), .lit (.int .u8 0), .lit (.int .u8 31), .lit (.int .u8 31), .lit (.int .u8 31), .lit (.int .u8 31), .lit (.int .u8 31), .lit (.int .u8 31), .lit (.int .u8 31), .lit (.int .u8 31), .lit (.int .u8 31), .lit (.int .u8 31), .lit (.int .u8 4), .lit (.int .u8 4), .lit (.int .u8 0), .lit (.int .u8 4), .lit (.int .u8 0), .lit (.int .u8 0), .lit (.int .u8 4), .lit (.int .u8 15), .lit (.int .u8 15), .lit (.int .u8 15), .lit (.int .u8 15), .lit (.int .u8 15), .lit (.int .u8 15), .lit (.int .u8 7), .lit (.int .u8 7), .lit (.int .u8 7), .lit (.int .u8 7), .lit (.int .u8 7), .lit (.int .u8 7), .lit (.int .u8 7), .lit (.int .u8 7), .lit (.int .u8 7), .lit (.int .u8 7), .lit (.int .u8 7), .lit (.int .u8 7), .lit (.int .u8 7), .lit (.int .u8 7), .lit (.int .u8 7), .lit (.int .u8 7), .lit (.int .u8 7), .lit (.int .u8 7), .lit (.int .u8 7), .lit (.int .u8 7), .lit (.int .u8 0), .lit (.int .u8 0), .lit (.int .u8 0), .lit (.int .u8 0), .lit (.int .u8 6), .lit (.int .u8 0), .lit (.int .u8 15), .lit (.int .u8 15), .lit (.int .u8 15), .lit (.int .u8 15), .lit (.int .u8 15), .lit (.int .u8 15), .lit (.int .u8 7), .lit (.int .u8 7), .lit (.int .u8 7), .lit (.int .u8 7), .lit (.int .u8 7), .lit (.int .u8 7), .lit (.int .u8 7), .lit (.int .u8 7), .lit (.int .u8 7), .lit (.int .u8 7), .lit (.int .u8 7), .lit (.int .u8 7), .lit (.int .u8 7), .lit (.int .u8 7), .lit (.int .u8 7), .lit (.int .u8 7), .lit (.int .u8 7), .lit (.int .u8 7), .lit (.int .u8 7), .lit (.int .u8 7), .lit (.int .u8 0), .lit (.int .u8 0), .lit (.int .u8 0), .lit (.int .u8 6), .lit (.int .u8 0)]

/-- 'laws.FnExactChunkBytes': WHATEVER THE INPUT: true; the input reads as it did. -/
def fnExactChunkBytesSpec : ChangeSpec := { name := "fnExactChunkBytes", fn := fun _ => fun
  | [d] => { results := [.lit (.bool true)], args := [d] }
  | _ => none }
def fnExactChunkBytesRow : OpenClaim := { program := "ytimfcbjgoilnpaadoor", sum := "539e18f5a4406c72b3cc99c3f16c39e69b804a5996343025f5e787d7be76416d", func := "loop.example/g00256/laws.FnExactChunkBytes", spec := "fnExactChunkBytes", named := ["internal/strconv.uint64pow10", "math/bits.deBruijn32tab", "math/bits.deBruijn64tab"], apart := false, laid := [("math/bits.deBruijn32tab", laid_math_bits_deBruijn32tab), ("math/bits.deBruijn64tab", laid_math_bits_deBruijn64tab), ("internal/strconv.uint64pow10", laid_internal_strconv_uint64pow10)] }
def FnExactChunkBytesSaid : Prop := fnExactChunkBytesRow.holds Tryd.pinned (OpenSpec.ofChange fnExactChunkBytesSpec)

/-- ITS FALSE NEIGHBOUR: 'it returns false'. Refute it at one input. -/
def fnExactChunkBytesWrong : ChangeSpec := { name := "fnExactChunkBytes", fn := fun _ => fun
  | [d] => { results := [.lit (.bool false)], args := [d] }
  | _ => none }
def FnExactChunkBytesWrongFalsely : Prop := fnExactChunkBytesRow.holds Tryd.pinned (OpenSpec.ofChange fnExactChunkBytesWrong)

/-- 'laws.FnExactReadChunks': WHATEVER THE INPUT: true; the input reads as it did. -/
def fnExactReadChunksSpec : ChangeSpec := { name := "fnExactReadChunks", vars := ["loop.example/g00256/impl.byteKinds"], fn := fun _ => fun
  | [d, g1] => { results := [.lit (.bool true)], args := [d], vars := [g1] }
  | _ => none }
def fnExactReadChunksRow : OpenClaim := { program := "ytimfcbjgoilnpaadoor", sum := "539e18f5a4406c72b3cc99c3f16c39e69b804a5996343025f5e787d7be76416d", func := "loop.example/g00256/laws.FnExactReadChunks", spec := "fnExactReadChunks", unfollowed := true, recurses := true, named := ["loop.example/g00256/impl.byteKinds"], apart := false, laid := [("loop.example/g00256/impl.byteKinds", laid_loop_example_g00256_impl_byteKinds)] }
def FnExactReadChunksSaid : Prop := fnExactReadChunksRow.holds Tryd.pinned (OpenSpec.ofChange fnExactReadChunksSpec)

/-- ITS FALSE NEIGHBOUR: 'it returns false'. Refute it at one input. -/
def fnExactReadChunksWrong : ChangeSpec := { name := "fnExactReadChunks", vars := ["loop.example/g00256/impl.byteKinds"], fn := fun _ => fun
  | [d, g1] => { results := [.lit (.bool false)], args := [d], vars := [g1] }
  | _ => none }
def FnExactReadChunksWrongFalsely : Prop := fnExactReadChunksRow.holds Tryd.pinned (OpenSpec.ofChange fnExactReadChunksWrong)

/-- 'laws.FnExactGoodUnchunk': WHATEVER THE INPUT: true; the input reads as it did. -/
def fnExactGoodUnchunkSpec : ChangeSpec := { name := "fnExactGoodUnchunk", vars := ["loop.example/g00256/impl.byteKinds"], fn := fun _ => fun
  | [d, g1] => { results := [.lit (.bool true)], args := [d], vars := [g1] }
  | _ => none }
def fnExactGoodUnchunkRow : OpenClaim := { program := "ytimfcbjgoilnpaadoor", sum := "539e18f5a4406c72b3cc99c3f16c39e69b804a5996343025f5e787d7be76416d", func := "loop.example/g00256/laws.FnExactGoodUnchunk", spec := "fnExactGoodUnchunk", unfollowed := true, recurses := true, named := ["loop.example/g00256/impl.byteKinds"], apart := false, laid := [("loop.example/g00256/impl.byteKinds", laid_loop_example_g00256_impl_byteKinds)] }
def FnExactGoodUnchunkSaid : Prop := fnExactGoodUnchunkRow.holds Tryd.pinned (OpenSpec.ofChange fnExactGoodUnchunkSpec)

/-- ITS FALSE NEIGHBOUR: 'it returns false'. Refute it at one input. -/
def fnExactGoodUnchunkWrong : ChangeSpec := { name := "fnExactGoodUnchunk", vars := ["loop.example/g00256/impl.byteKinds"], fn := fun _ => fun
  | [d, g1] => { results := [.lit (.bool false)], args := [d], vars := [g1] }
  | _ => none }
def FnExactGoodUnchunkWrongFalsely : Prop := fnExactGoodUnchunkRow.holds Tryd.pinned (OpenSpec.ofChange fnExactGoodUnchunkWrong)

/-- 'laws.FnExactFeedUnchunk': WHATEVER THE INPUT: true; the input reads as it did. -/
def fnExactFeedUnchunkSpec : ChangeSpec := { name := "fnExactFeedUnchunk", vars := ["loop.example/g00256/impl.byteKinds"], fn := fun _ => fun
  | [d1, d2, g1] => { results := [.lit (.bool true)], args := [d1, d2], vars := [g1] }
  | _ => none }
def fnExactFeedUnchunkRow : OpenClaim := { program := "ytimfcbjgoilnpaadoor", sum := "539e18f5a4406c72b3cc99c3f16c39e69b804a5996343025f5e787d7be76416d", func := "loop.example/g00256/laws.FnExactFeedUnchunk", spec := "fnExactFeedUnchunk", unfollowed := true, recurses := true, named := ["loop.example/g00256/impl.byteKinds"], apart := false, laid := [("loop.example/g00256/impl.byteKinds", laid_loop_example_g00256_impl_byteKinds)] }
def FnExactFeedUnchunkSaid : Prop := fnExactFeedUnchunkRow.holds Tryd.pinned (OpenSpec.ofChange fnExactFeedUnchunkSpec)

/-- ITS FALSE NEIGHBOUR: 'it returns false'. Refute it at one input. -/
def fnExactFeedUnchunkWrong : ChangeSpec := { name := "fnExactFeedUnchunk", vars := ["loop.example/g00256/impl.byteKinds"], fn := fun _ => fun
  | [d1, d2, g1] => { results := [.lit (.bool false)], args := [d1, d2], vars := [g1] }
  | _ => none }
def FnExactFeedUnchunkWrongFalsely : Prop := fnExactFeedUnchunkRow.holds Tryd.pinned (OpenSpec.ofChange fnExactFeedUnchunkWrong)

/-- 'laws.FnExactFeedAll': WHATEVER THE INPUT: true; the input reads as it did. -/
def fnExactFeedAllSpec : ChangeSpec := { name := "fnExactFeedAll", vars := ["loop.example/g00256/impl.byteKinds"], fn := fun _ => fun
  | [d, g1] => { results := [.lit (.bool true)], args := [d], vars := [g1] }
  | _ => none }
def fnExactFeedAllRow : OpenClaim := { program := "ytimfcbjgoilnpaadoor", sum := "539e18f5a4406c72b3cc99c3f16c39e69b804a5996343025f5e787d7be76416d", func := "loop.example/g00256/laws.FnExactFeedAll", spec := "fnExactFeedAll", unfollowed := true, recurses := true, named := ["loop.example/g00256/impl.byteKinds"], apart := false, laid := [("loop.example/g00256/impl.byteKinds", laid_loop_example_g00256_impl_byteKinds)] }
def FnExactFeedAllSaid : Prop := fnExactFeedAllRow.holds Tryd.pinned (OpenSpec.ofChange fnExactFeedAllSpec)

/-- ITS FALSE NEIGHBOUR: 'it returns false'. Refute it at one input. -/
def fnExactFeedAllWrong : ChangeSpec := { name := "fnExactFeedAll", vars := ["loop.example/g00256/impl.byteKinds"], fn := fun _ => fun
  | [d, g1] => { results := [.lit (.bool false)], args := [d], vars := [g1] }
  | _ => none }
def FnExactFeedAllWrongFalsely : Prop := fnExactFeedAllRow.holds Tryd.pinned (OpenSpec.ofChange fnExactFeedAllWrong)

/-- 'laws.FnExactHexText': WHATEVER THE INPUT: true; the input reads as it did. -/
def fnExactHexTextSpec : ChangeSpec := { name := "fnExactHexText", fn := fun _ => fun
  | [d] => { results := [.lit (.bool true)], args := [d] }
  | _ => none }
def fnExactHexTextRow : OpenClaim := { program := "ytimfcbjgoilnpaadoor", sum := "539e18f5a4406c72b3cc99c3f16c39e69b804a5996343025f5e787d7be76416d", func := "loop.example/g00256/laws.FnExactHexText", spec := "fnExactHexText", named := ["internal/strconv.uint64pow10", "math/bits.deBruijn32tab", "math/bits.deBruijn64tab"], apart := false, laid := [("math/bits.deBruijn32tab", laid_math_bits_deBruijn32tab), ("math/bits.deBruijn64tab", laid_math_bits_deBruijn64tab), ("internal/strconv.uint64pow10", laid_internal_strconv_uint64pow10)] }
def FnExactHexTextSaid : Prop := fnExactHexTextRow.holds Tryd.pinned (OpenSpec.ofChange fnExactHexTextSpec)

/-- ITS FALSE NEIGHBOUR: 'it returns false'. Refute it at one input. -/
def fnExactHexTextWrong : ChangeSpec := { name := "fnExactHexText", fn := fun _ => fun
  | [d] => { results := [.lit (.bool false)], args := [d] }
  | _ => none }
def FnExactHexTextWrongFalsely : Prop := fnExactHexTextRow.holds Tryd.pinned (OpenSpec.ofChange fnExactHexTextWrong)

/-- 'laws.FnExactReadHex': WHATEVER THE INPUT: true; the input reads as it did. -/
def fnExactReadHexSpec : ChangeSpec := { name := "fnExactReadHex", vars := ["loop.example/g00256/impl.byteKinds"], fn := fun _ => fun
  | [d, g1] => { results := [.lit (.bool true)], args := [d], vars := [g1] }
  | _ => none }
def fnExactReadHexRow : OpenClaim := { program := "ytimfcbjgoilnpaadoor", sum := "539e18f5a4406c72b3cc99c3f16c39e69b804a5996343025f5e787d7be76416d", func := "loop.example/g00256/laws.FnExactReadHex", spec := "fnExactReadHex", named := ["loop.example/g00256/impl.byteKinds"], apart := false, laid := [("loop.example/g00256/impl.byteKinds", laid_loop_example_g00256_impl_byteKinds)] }
def FnExactReadHexSaid : Prop := fnExactReadHexRow.holds Tryd.pinned (OpenSpec.ofChange fnExactReadHexSpec)

/-- ITS FALSE NEIGHBOUR: 'it returns false'. Refute it at one input. -/
def fnExactReadHexWrong : ChangeSpec := { name := "fnExactReadHex", vars := ["loop.example/g00256/impl.byteKinds"], fn := fun _ => fun
  | [d, g1] => { results := [.lit (.bool false)], args := [d], vars := [g1] }
  | _ => none }
def FnExactReadHexWrongFalsely : Prop := fnExactReadHexRow.holds Tryd.pinned (OpenSpec.ofChange fnExactReadHexWrong)

/-- 'laws.FnChunks': WHATEVER THE INPUT: true; the input reads as it did. -/
def fnChunksSpec : ChangeSpec := { name := "fnChunks", vars := ["loop.example/g00256/impl.byteKinds"], fn := fun _ => fun
  | [d1, d2, g1] => { results := [.lit (.bool true)], args := [d1, d2], vars := [g1] }
  | _ => none }
def fnChunksRow : OpenClaim := { program := "ytimfcbjgoilnpaadoor", sum := "539e18f5a4406c72b3cc99c3f16c39e69b804a5996343025f5e787d7be76416d", func := "loop.example/g00256/laws.FnChunks", spec := "fnChunks", unfollowed := true, recurses := true, named := ["internal/strconv.uint64pow10", "math/bits.deBruijn32tab", "math/bits.deBruijn64tab", "loop.example/g00256/impl.byteKinds"], apart := false, laid := [("math/bits.deBruijn32tab", laid_math_bits_deBruijn32tab), ("math/bits.deBruijn64tab", laid_math_bits_deBruijn64tab), ("internal/strconv.uint64pow10", laid_internal_strconv_uint64pow10), ("loop.example/g00256/impl.byteKinds", laid_loop_example_g00256_impl_byteKinds)] }
def FnChunksSaid : Prop := fnChunksRow.holds Tryd.pinned (OpenSpec.ofChange fnChunksSpec)

/-- ITS FALSE NEIGHBOUR: 'it returns false'. Refute it at one input. -/
def fnChunksWrong : ChangeSpec := { name := "fnChunks", vars := ["loop.example/g00256/impl.byteKinds"], fn := fun _ => fun
  | [d1, d2, g1] => { results := [.lit (.bool false)], args := [d1, d2], vars := [g1] }
  | _ => none }
def FnChunksWrongFalsely : Prop := fnChunksRow.holds Tryd.pinned (OpenSpec.ofChange fnChunksWrong)

/-- 'laws.FnFed': WHATEVER THE INPUT: true; the input reads as it did. -/
def fnFedSpec : ChangeSpec := { name := "fnFed", vars := ["loop.example/g00256/impl.byteKinds"], fn := fun _ => fun
  | [d, g1] => { results := [.lit (.bool true)], args := [d], vars := [g1] }
  | _ => none }
def fnFedRow : OpenClaim := { program := "ytimfcbjgoilnpaadoor", sum := "539e18f5a4406c72b3cc99c3f16c39e69b804a5996343025f5e787d7be76416d", func := "loop.example/g00256/laws.FnFed", spec := "fnFed", unfollowed := true, recurses := true, named := ["loop.example/g00256/impl.byteKinds"], apart := false, laid := [("loop.example/g00256/impl.byteKinds", laid_loop_example_g00256_impl_byteKinds)] }
def FnFedSaid : Prop := fnFedRow.holds Tryd.pinned (OpenSpec.ofChange fnFedSpec)

/-- ITS FALSE NEIGHBOUR: 'it returns false'. Refute it at one input. -/
def fnFedWrong : ChangeSpec := { name := "fnFed", vars := ["loop.example/g00256/impl.byteKinds"], fn := fun _ => fun
  | [d, g1] => { results := [.lit (.bool false)], args := [d], vars := [g1] }
  | _ => none }
def FnFedWrongFalsely : Prop := fnFedRow.holds Tryd.pinned (OpenSpec.ofChange fnFedWrong)

/- THE SECOND FORM. 'bulk': how many values and letters a reading holds, each counted each time it is reached (what is shared counts as often as it is met; a slice's spare places count too). A statement '..UptoSaid' is the law's where the arguments, and the package variables that the reading takes, are together of bulk at most 1048576: NARROWER than '..Said'. Prove '..Said' where nothing that the law and all that it calls make is longer than what came in: it says more and counts as full. Else prove '..UptoSaid'. A law counts once. -/
mutual
def uptoBulk {H : Type} : DataW H → Nat
  | .lit (.string bytes) => bytes.length + 1
  | .lit _ => 1
  | .nil => 1
  | .ptr d => uptoBulk d + 1
  | .slice elems spare => uptoBulkAll elems + uptoBulkAll spare + 1
  | .agg parts => uptoBulkAll parts + 1
  | .iface _ d => uptoBulk d + 1
  | .map entries => uptoBulkEntries entries + 1
  | .held _ => 1
def uptoBulkAll {H : Type} : List (DataW H) → Nat
  | [] => 0
  | d :: r => uptoBulk d + uptoBulkAll r
def uptoBulkEntries {H : Type} : List (Lit × DataW H) → Nat
  | [] => 0
  | x :: r => uptoBulkEntry x + uptoBulkEntries r
def uptoBulkEntry {H : Type} : Lit × DataW H → Nat
  | (.string bytes, d) => bytes.length + uptoBulk d + 1
  | (_, d) => uptoBulk d + 1
 end
def uptoSmall : (H : Type) → List (DataW H) → Bool := fun _ ds => decide (uptoBulkAll ds ≤ 1048576)
def OpenSpec.upto (s : _root_.Go.ChangeSpec) : _root_.Go.OpenSpec := { _root_.Go.OpenSpec.ofChange s with cond := some uptoSmall }

/-- 'laws.FnExactChunkBytes', WHERE WHAT IT READS IS OF BULK AT MOST 1048576: true; the input reads as it did. -/
def fnExactChunkBytesUptoRow : OpenClaim := { program := "ytimfcbjgoilnpaadoor", sum := "539e18f5a4406c72b3cc99c3f16c39e69b804a5996343025f5e787d7be76416d", func := "loop.example/g00256/laws.FnExactChunkBytes", spec := "fnExactChunkBytes", named := ["internal/strconv.uint64pow10", "math/bits.deBruijn32tab", "math/bits.deBruijn64tab"], apart := false, laid := [("math/bits.deBruijn32tab", laid_math_bits_deBruijn32tab), ("math/bits.deBruijn64tab", laid_math_bits_deBruijn64tab), ("internal/strconv.uint64pow10", laid_internal_strconv_uint64pow10)], narrowed := true }
def FnExactChunkBytesUptoSaid : Prop := fnExactChunkBytesUptoRow.holds Tryd.pinned (OpenSpec.upto fnExactChunkBytesSpec)

/-- 'laws.FnExactReadChunks', WHERE WHAT IT READS IS OF BULK AT MOST 1048576: true; the input reads as it did. -/
def fnExactReadChunksUptoRow : OpenClaim := { program := "ytimfcbjgoilnpaadoor", sum := "539e18f5a4406c72b3cc99c3f16c39e69b804a5996343025f5e787d7be76416d", func := "loop.example/g00256/laws.FnExactReadChunks", spec := "fnExactReadChunks", unfollowed := true, recurses := true, named := ["loop.example/g00256/impl.byteKinds"], apart := false, laid := [("loop.example/g00256/impl.byteKinds", laid_loop_example_g00256_impl_byteKinds)], narrowed := true }
def FnExactReadChunksUptoSaid : Prop := fnExactReadChunksUptoRow.holds Tryd.pinned (OpenSpec.upto fnExactReadChunksSpec)

/-- 'laws.FnExactGoodUnchunk', WHERE WHAT IT READS IS OF BULK AT MOST 1048576: true; the input reads as it did. -/
def fnExactGoodUnchunkUptoRow : OpenClaim := { program := "ytimfcbjgoilnpaadoor", sum := "539e18f5a4406c72b3cc99c3f16c39e69b804a5996343025f5e787d7be76416d", func := "loop.example/g00256/laws.FnExactGoodUnchunk", spec := "fnExactGoodUnchunk", unfollowed := true, recurses := true, named := ["loop.example/g00256/impl.byteKinds"], apart := false, laid := [("loop.example/g00256/impl.byteKinds", laid_loop_example_g00256_impl_byteKinds)], narrowed := true }
def FnExactGoodUnchunkUptoSaid : Prop := fnExactGoodUnchunkUptoRow.holds Tryd.pinned (OpenSpec.upto fnExactGoodUnchunkSpec)

/-- 'laws.FnExactFeedUnchunk', WHERE WHAT IT READS IS OF BULK AT MOST 1048576: true; the input reads as it did. -/
def fnExactFeedUnchunkUptoRow : OpenClaim := { program := "ytimfcbjgoilnpaadoor", sum := "539e18f5a4406c72b3cc99c3f16c39e69b804a5996343025f5e787d7be76416d", func := "loop.example/g00256/laws.FnExactFeedUnchunk", spec := "fnExactFeedUnchunk", unfollowed := true, recurses := true, named := ["loop.example/g00256/impl.byteKinds"], apart := false, laid := [("loop.example/g00256/impl.byteKinds", laid_loop_example_g00256_impl_byteKinds)], narrowed := true }
def FnExactFeedUnchunkUptoSaid : Prop := fnExactFeedUnchunkUptoRow.holds Tryd.pinned (OpenSpec.upto fnExactFeedUnchunkSpec)

/-- 'laws.FnExactFeedAll', WHERE WHAT IT READS IS OF BULK AT MOST 1048576: true; the input reads as it did. -/
def fnExactFeedAllUptoRow : OpenClaim := { program := "ytimfcbjgoilnpaadoor", sum := "539e18f5a4406c72b3cc99c3f16c39e69b804a5996343025f5e787d7be76416d", func := "loop.example/g00256/laws.FnExactFeedAll", spec := "fnExactFeedAll", unfollowed := true, recurses := true, named := ["loop.example/g00256/impl.byteKinds"], apart := false, laid := [("loop.example/g00256/impl.byteKinds", laid_loop_example_g00256_impl_byteKinds)], narrowed := true }
def FnExactFeedAllUptoSaid : Prop := fnExactFeedAllUptoRow.holds Tryd.pinned (OpenSpec.upto fnExactFeedAllSpec)

/-- 'laws.FnExactHexText', WHERE WHAT IT READS IS OF BULK AT MOST 1048576: true; the input reads as it did. -/
def fnExactHexTextUptoRow : OpenClaim := { program := "ytimfcbjgoilnpaadoor", sum := "539e18f5a4406c72b3cc99c3f16c39e69b804a5996343025f5e787d7be76416d", func := "loop.example/g00256/laws.FnExactHexText", spec := "fnExactHexText", named := ["internal/strconv.uint64pow10", "math/bits.deBruijn32tab", "math/bits.deBruijn64tab"], apart := false, laid := [("math/bits.deBruijn32tab", laid_math_bits_deBruijn32tab), ("math/bits.deBruijn64tab", laid_math_bits_deBruijn64tab), ("internal/strconv.uint64pow10", laid_internal_strconv_uint64pow10)], narrowed := true }
def FnExactHexTextUptoSaid : Prop := fnExactHexTextUptoRow.holds Tryd.pinned (OpenSpec.upto fnExactHexTextSpec)

/-- 'laws.FnExactReadHex', WHERE WHAT IT READS IS OF BULK AT MOST 1048576: true; the input reads as it did. -/
def fnExactReadHexUptoRow : OpenClaim := { program := "ytimfcbjgoilnpaadoor", sum := "539e18f5a4406c72b3cc99c3f16c39e69b804a5996343025f5e787d7be76416d", func := "loop.example/g00256/laws.FnExactReadHex", spec := "fnExactReadHex", named := ["loop.example/g00256/impl.byteKinds"], apart := false, laid := [("loop.example/g00256/impl.byteKinds", laid_loop_example_g00256_impl_byteKinds)], narrowed := true }
def FnExactReadHexUptoSaid : Prop := fnExactReadHexUptoRow.holds Tryd.pinned (OpenSpec.upto fnExactReadHexSpec)

/-- 'laws.FnChunks', WHERE WHAT IT READS IS OF BULK AT MOST 1048576: true; the input reads as it did. -/
def fnChunksUptoRow : OpenClaim := { program := "ytimfcbjgoilnpaadoor", sum := "539e18f5a4406c72b3cc99c3f16c39e69b804a5996343025f5e787d7be76416d", func := "loop.example/g00256/laws.FnChunks", spec := "fnChunks", unfollowed := true, recurses := true, named := ["internal/strconv.uint64pow10", "math/bits.deBruijn32tab", "math/bits.deBruijn64tab", "loop.example/g00256/impl.byteKinds"], apart := false, laid := [("math/bits.deBruijn32tab", laid_math_bits_deBruijn32tab), ("math/bits.deBruijn64tab", laid_math_bits_deBruijn64tab), ("internal/strconv.uint64pow10", laid_internal_strconv_uint64pow10), ("loop.example/g00256/impl.byteKinds", laid_loop_example_g00256_impl_byteKinds)], narrowed := true }
def FnChunksUptoSaid : Prop := fnChunksUptoRow.holds Tryd.pinned (OpenSpec.upto fnChunksSpec)

/-- 'laws.FnFed', WHERE WHAT IT READS IS OF BULK AT MOST 1048576: true; the input reads as it did. -/
def fnFedUptoRow : OpenClaim := { program := "ytimfcbjgoilnpaadoor", sum := "539e18f5a4406c72b3cc99c3f16c39e69b804a5996343025f5e787d7be76416d", func := "loop.example/g00256/laws.FnFed", spec := "fnFed", unfollowed := true, recurses := true, named := ["loop.example/g00256/impl.byteKinds"], apart := false, laid := [("loop.example/g00256/impl.byteKinds", laid_loop_example_g00256_impl_byteKinds)], narrowed := true }
def FnFedUptoSaid : Prop := fnFedUptoRow.holds Tryd.pinned (OpenSpec.upto fnFedSpec)

end Rows
end Go.Proofs.YtimfcbjgoilnpaaDoor
