/-
  NARROWER THAN 'FOR EVERY INPUT', by the rows' own cells (each row's printed sentence says how): FnUrls: laid · FnNormal: laid · FnExactGoodUrl: laid · FnExactUrlText: laid · FnExactReadUrl: laid · FnExactNormalUrl: laid · FnExactDropDots: laid · FnExactResolveUrl: laid · FnExactPercentEncode: laid · FnExactPercentDecode: laid · FnExactSameUrl: laid.
  DERIVED. THE GIVEN ROWS OF THIS SEAT. 11 by the template 'for every input the law returns true; each argument reads behind the call as it read before'; 0 by the template 'total and deterministic' (their statements: YtlgjgdpalflmfaaDoorTotals.lean).
  GIVEN WITH THE SEED: the statements are not yours to turn. If you find one false, say at which input.
  Laid BY PROGRAM, IN A SANDBOX (cutbox-rows.mjs): the forced cells as the released guide's own fill.sh prints them over the translation 7e4911d1ba8d9a9b… (all of the seat's roots in one cut). By AI agents, Wed Nov 11 2026. No macro, syntax, notation, axiom, sorry.
-/
import Derived.Test.YtlgjgdpalflmfaaDoorChecked
import GoSem.PinnedTables
import GoSem.Claim
import GoSem.ClaimJoined
import GoSem.ClaimMapViews
import Derived.JoinedTies
import Derived.KernelRfl
namespace Go.Proofs.YtlgjgdpalflmfaaDoor
/- THE CELL 'sum', in the pinned program and in every row, IS THE sha256 OF THE DUMP (.gsa) THAT YtlgjgdpalflmfaaDoorProg.lean LOADS. Nothing in Lean hashes anything: it is a label: what it is worth is what the hold of that sum in a sandbox is worth. -/
noncomputable def Tryd.pinned : Pinned := { name := "ytlgjgdpalflmfaadoor", sum := "7e4911d1ba8d9a9b61a508f1bbd8eb69983392611343700c7a480dff16fcdfb4", checked := Tryd.checked }
namespace Rows
def none {H : Type} : Left H := { results := [], args := [] }

/- WHAT THE LISTED PACKAGE-LEVEL VARIABLES READ AS WHEN THE CALL BEGINS. Each datum BY PROGRAM (the guide's laid-datum.mjs) off the statement by which the dump's own 'gosem.cut.vars' lays the variable. In a bare row this is a premise. The card (YtlgjgdpalflmfaaDoorCards.lean) ties it to the program's text. -/
def laid_math_bits_deBruijn32tab {H : Type} : DataW H := .agg [.lit (.int .u8 0), .lit (.int .u8 1), .lit (.int .u8 28), .lit (.int .u8 2), .lit (.int .u8 29), .lit (.int .u8 14), .lit (.int .u8 24), .lit (.int .u8 3), .lit (.int .u8 30), .lit (.int .u8 22), .lit (.int .u8 20), .lit (.int .u8 15), .lit (.int .u8 25), .lit (.int .u8 17), .lit (.int .u8 4), .lit (.int .u8 8), .lit (.int .u8 31), .lit (.int .u8 27), .lit (.int .u8 13), .lit (.int .u8 23), .lit (.int .u8 21), .lit (.int .u8 19), .lit (.int .u8 16), .lit (.int .u8 7), .lit (.int .u8 26), .lit (.int .u8 12), .lit (.int .u8 18), .lit (.int .u8 6), .lit (.int .u8 11), .lit (.int .u8 5), .lit (.int .u8 10), .lit (.int .u8 9)]
def laid_math_bits_deBruijn64tab {H : Type} : DataW H := .agg [.lit (.int .u8 0), .lit (.int .u8 1), .lit (.int .u8 56), .lit (.int .u8 2), .lit (.int .u8 57), .lit (.int .u8 49), .lit (.int .u8 28), .lit (.int .u8 3), .lit (.int .u8 61), .lit (.int .u8 58), .lit (.int .u8 42), .lit (.int .u8 50), .lit (.int .u8 38), .lit (.int .u8 29), .lit (.int .u8 17), .lit (.int .u8 4), .lit (.int .u8 62), .lit (.int .u8 47), .lit (.int .u8 59), .lit (.int .u8 36), .lit (.int .u8 45), .lit (.int .u8 43), .lit (.int .u8 51), .lit (.int .u8 22), .lit (.int .u8 53), .lit (.int .u8 39), .lit (.int .u8 33), .lit (.int .u8 30), .lit (.int .u8 24), .lit (.int .u8 18), .lit (.int .u8 12), .lit (.int .u8 5), .lit (.int .u8 63), .lit (.int .u8 55), .lit (.int .u8 48), .lit (.int .u8 27), .lit (.int .u8 60), .lit (.int .u8 41), .lit (.int .u8 37), .lit (.int .u8 16), .lit (.int .u8 46), .lit (.int .u8 35), .lit (.int .u8 44), .lit (.int .u8 21), .lit (.int .u8 52), .lit (.int .u8 32), .lit (.int .u8 23), .lit (.int .u8 11), .lit (.int .u8 54), .lit (.int .u8 26), .lit (.int .u8 40), .lit (.int .u8 15), .lit (.int .u8 34), .lit (.int .u8 20), .lit (.int .u8 31), .lit (.int .u8 10), .lit (.int .u8 25), .lit (.int .u8 14), .lit (.int .u8 19), .lit (.int .u8 9), .lit (.int .u8 13), .lit (.int .u8 8), .lit (.int .u8 7), .lit (.int .u8 6)]
def laid_internal_strconv_uint64pow10 {H : Type} : DataW H := .agg [.lit (.int .u64 1), .lit (.int .u64 10), .lit (.int .u64 100), .lit (.int .u64 1000), .lit (.int .u64 10000), .lit (.int .u64 100000), .lit (.int .u64 1000000), .lit (.int .u64 10000000), .lit (.int .u64 100000000), .lit (.int .u64 1000000000), .lit (.int .u64 10000000000), .lit (.int .u64 100000000000), .lit (.int .u64 1000000000000), .lit (.int .u64 10000000000000), .lit (.int .u64 100000000000000), .lit (.int .u64 1000000000000000), .lit (.int .u64 10000000000000000), .lit (.int .u64 100000000000000000), .lit (.int .u64 1000000000000000000), .lit (.int .u64 10000000000000000000)]
def laid_strconv_ErrRange {H : Type} : DataW H := .iface "*errors.errorString" (.ptr (.agg [.lit (.string [118, 97, 108, 117, 101, 32, 111, 117, 116, 32, 111, 102, 32, 114, 97, 110, 103, 101])]))
def laid_strconv_ErrSyntax {H : Type} : DataW H := .iface "*errors.errorString" (.ptr (.agg [.lit (.string [105, 110, 118, 97, 108, 105, 100, 32, 115, 121, 110, 116, 97, 120])]))
def laid_loop_example_g00256_impl_byteKinds {H : Type} : DataW H := .agg [.lit (.int .u8 0), .lit (.int .u8 0), .lit (.int .u8 0), .lit (.int .u8 0), .lit (.int .u8 0), .lit (.int .u8 0), .lit (.int .u8 0), .lit (.int .u8 0), .lit (.int .u8 0), .lit (.int .u8 0), .lit (.int .u8 0), .lit (.int .u8 0), .lit (.int .u8 0), .lit (.int .u8 0), .lit (.int .u8 0), .lit (.int .u8 0), .lit (.int .u8 0), .lit (.int .u8 0), .lit (.int .u8 0), .lit (.int .u8 0), .lit (.int .u8 0), .lit (.int .u8 0), .lit (.int .u8 0), .lit (.int .u8 0), .lit (.int .u8 0), .lit (.int .u8 0), .lit (.int .u8 0), .lit (.int .u8 0), .lit (.int .u8 0), .lit (.int .u8 0), .lit (.int .u8 0), .lit (.int .u8 0), .lit (.int .u8 0), .lit (.int .u8 4), .lit (.int .u8 0), .lit (.int .u8 0), .lit (.int .u8 4), .lit (.int .u8 0), .lit (.int .u8 4), .lit (.int .u8 4), .lit (.int .u8 4), .lit (.int .u8 4), .lit (.int .u8 4), .lit (.int .u8 4), .lit (.int .u8 4), .lit (.int .u8 7), .lit (.int .u8 7), .lit (.int .u8 0), .lit (.int .u8 31), .lit (.int .u8 31), .lit (.int .u8 31), .lit (.int .u8 31), .lit (.int .u8 31), .lit (.int .u8 31), .lit (.int .u8 31), .lit (.int .u8 31), .lit (.int .u8 31), .lit (.int .u8 31), .lit (.int .u8 4), .lit (.int .u8 4), .lit (.int .u8 0), .lit (.int .u8 4), .lit (.int .u8 0), .lit (.int .u8 0), .lit (.int .u8 4), .lit (.int .u8 15), .lit (.int .u8 15), .lit (.int .u8 15), .lit (.int .u8 15), .lit (.int .u8 15), .lit (.int .u8 15), .lit (.int .u8 7), .lit (.int .u8 7), .lit (.int .u8 7), .lit (.int .u8 7), .lit (.int .u8 7), .lit (.int .u8 7), .lit (.int .u8 7), .lit (.int .u8 7), .lit (.int .u8 7), .lit (.int .u8 7), .lit (.int .u8 7), .lit (.int .u8 7), .lit (.int .u8 7), .lit (.int .u8 7), .lit (.int .u8 7), .lit (.int .u8 7), .lit (.int .u8 7), .lit (.int .u8 7), .lit (.int .u8 7), .lit (.int .u8 7), .lit (.int .u8 0), .lit (.int .u8 0), .lit (.int .u8 0), .lit (.int .u8 0), .lit (.int .u8 6), .lit (.int .u8 0), .lit (.int .u8 15), .lit (.int .u8 15), .lit (.int .u8 15), .lit (.int .u8 15), .lit (.int .u8 15), .lit (.int .u8 15), .lit (.int .u8 7), .lit (.int .u8 7), .lit (.int .u8 7), .lit (.int .u8 7), .lit (.int .u8 7), .lit (.int .u8 7), .lit (.int .u8 7), .lit (.int .u8 7), .lit (.int .u8 7), .lit (.int .u8 7), .lit (.int .u8 7), .lit (.int .u8 7), .lit (.int .u8 7), .lit (.int .u8 7), .lit (.int .u8 7), .lit (.int .u8 7), .lit (.int .u8 7), .lit (.int .u8 7), .lit (.int .u8 7), .lit (.int .u8 7), .lit (.int .u8 0), .lit (.int .u8 0), .lit (.int .u8 0), .lit (.int .u8 6), .lit (.int .u8 0)]
def laid_unicode_utf8_acceptRanges {H : Type} : DataW H := .agg [.agg [.lit (.int .u8 128), .lit (.int .u8 191)], .agg [.lit (.int .u8 160), .lit (.int .u8 191)], .agg [.lit (.int .u8 128), .lit (.int .u8 159)], .agg [.lit (.int .u8 144), .lit (.int .u8 191)], .agg [.lit (.int .u8 128), .lit (.int .u8 143)], .agg [.lit (.int .u8 0), .lit (.int .u8 0)], .agg [.lit (.int .u8 0), .lit (.int .u8 0)], .agg [.lit (.int .u8 0), .lit (.int .u8 0)], .agg [.lit (.int .u8 0), .lit (.int .u8 0)], .agg [.lit (.int .u8 0), .lit (.int .u8 0)], .agg [.lit (.int .u8 0), .lit (.int .u8 0)], .agg [.lit (.int .u8 0), .lit (.int .u8 0)], .agg [.lit (.int .u8 0), .lit (.int .u8 0)], .agg [.lit (.int .u8 0), .lit (.int .u8 0)], .agg [.lit (.int .u8 0), .lit (.int .u8 0)], .agg [.lit (.int .u8 0), .lit (.int .u8 0)]]
/-- One of Go's own tables, pinned by name: the form's constant. -/
def laid_unicode_utf8_first : DataW Unit := Go.Pinned.utf8First

/-- 'laws.FnUrls': WHATEVER THE INPUT: true; the input reads as it did. -/
def fnUrlsSpec : ChangeSpec := { name := "fnUrls", vars := ["loop.example/g00256/impl.byteKinds"], fn := fun _ => fun
  | [d1, d2, g1] => { results := [.lit (.bool true)], args := [d1, d2], vars := [g1] }
  | _ => none }
def fnUrlsRow : OpenClaim := { program := "ytlgjgdpalflmfaadoor", sum := "7e4911d1ba8d9a9b61a508f1bbd8eb69983392611343700c7a480dff16fcdfb4", func := "loop.example/g00256/laws.FnUrls", spec := "fnUrls", inPlace := ["internal/bytealg.IndexByteString", "internal/bytealg.IndexString"], recurses := true, named := ["loop.example/g00256/impl.byteKinds", "internal/strconv.uint64pow10", "math/bits.deBruijn32tab", "math/bits.deBruijn64tab", "strconv.ErrSyntax", "strconv.ErrRange", "internal/bytealg.MaxLen"], apart := false, laid := [("math/bits.deBruijn32tab", laid_math_bits_deBruijn32tab), ("math/bits.deBruijn64tab", laid_math_bits_deBruijn64tab), ("internal/strconv.uint64pow10", laid_internal_strconv_uint64pow10), ("strconv.ErrRange", laid_strconv_ErrRange), ("strconv.ErrSyntax", laid_strconv_ErrSyntax), ("loop.example/g00256/impl.byteKinds", laid_loop_example_g00256_impl_byteKinds)] }
def FnUrlsSaid : Prop := fnUrlsRow.holds Tryd.pinned (OpenSpec.ofChange fnUrlsSpec)

/-- ITS FALSE NEIGHBOUR: 'it returns false'. Refute it at one input. -/
def fnUrlsWrong : ChangeSpec := { name := "fnUrls", vars := ["loop.example/g00256/impl.byteKinds"], fn := fun _ => fun
  | [d1, d2, g1] => { results := [.lit (.bool false)], args := [d1, d2], vars := [g1] }
  | _ => none }
def FnUrlsWrongFalsely : Prop := fnUrlsRow.holds Tryd.pinned (OpenSpec.ofChange fnUrlsWrong)

/-- 'laws.FnNormal': WHATEVER THE INPUT: true; the input reads as it did. -/
def fnNormalSpec : ChangeSpec := { name := "fnNormal", vars := ["loop.example/g00256/impl.byteKinds"], fn := fun _ => fun
  | [d1, d2, g1] => { results := [.lit (.bool true)], args := [d1, d2], vars := [g1] }
  | _ => none }
def fnNormalRow : OpenClaim := { program := "ytlgjgdpalflmfaadoor", sum := "7e4911d1ba8d9a9b61a508f1bbd8eb69983392611343700c7a480dff16fcdfb4", func := "loop.example/g00256/laws.FnNormal", spec := "fnNormal", inPlace := ["internal/bytealg.IndexByteString", "internal/bytealg.CountString", "internal/bytealg.IndexString", "internal/abi.NoEscape", "internal/bytealg.MakeNoZero"], recurses := true, named := ["loop.example/g00256/impl.byteKinds", "internal/strconv.uint64pow10", "math/bits.deBruijn32tab", "math/bits.deBruijn64tab", "unicode/utf8.first", "unicode/utf8.acceptRanges", "internal/bytealg.MaxLen"], apart := false, laid := [("math/bits.deBruijn32tab", laid_math_bits_deBruijn32tab), ("math/bits.deBruijn64tab", laid_math_bits_deBruijn64tab), ("internal/strconv.uint64pow10", laid_internal_strconv_uint64pow10), ("unicode/utf8.acceptRanges", laid_unicode_utf8_acceptRanges), ("loop.example/g00256/impl.byteKinds", laid_loop_example_g00256_impl_byteKinds), ("unicode/utf8.first", laid_unicode_utf8_first)] }
def FnNormalSaid : Prop := fnNormalRow.holds Tryd.pinned (OpenSpec.ofChange fnNormalSpec)

/-- ITS FALSE NEIGHBOUR: 'it returns false'. Refute it at one input. -/
def fnNormalWrong : ChangeSpec := { name := "fnNormal", vars := ["loop.example/g00256/impl.byteKinds"], fn := fun _ => fun
  | [d1, d2, g1] => { results := [.lit (.bool false)], args := [d1, d2], vars := [g1] }
  | _ => none }
def FnNormalWrongFalsely : Prop := fnNormalRow.holds Tryd.pinned (OpenSpec.ofChange fnNormalWrong)

/-- 'laws.FnExactGoodUrl': WHATEVER THE INPUT: true; the input reads as it did. -/
def fnExactGoodUrlSpec : ChangeSpec := { name := "fnExactGoodUrl", vars := ["loop.example/g00256/impl.byteKinds"], fn := fun _ => fun
  | [d, g1] => { results := [.lit (.bool true)], args := [d], vars := [g1] }
  | _ => none }
def fnExactGoodUrlRow : OpenClaim := { program := "ytlgjgdpalflmfaadoor", sum := "7e4911d1ba8d9a9b61a508f1bbd8eb69983392611343700c7a480dff16fcdfb4", func := "loop.example/g00256/laws.FnExactGoodUrl", spec := "fnExactGoodUrl", inPlace := ["internal/bytealg.IndexByteString"], recurses := true, named := ["loop.example/g00256/impl.byteKinds", "internal/strconv.uint64pow10", "math/bits.deBruijn32tab", "math/bits.deBruijn64tab"], apart := false, laid := [("math/bits.deBruijn32tab", laid_math_bits_deBruijn32tab), ("math/bits.deBruijn64tab", laid_math_bits_deBruijn64tab), ("internal/strconv.uint64pow10", laid_internal_strconv_uint64pow10), ("loop.example/g00256/impl.byteKinds", laid_loop_example_g00256_impl_byteKinds)] }
def FnExactGoodUrlSaid : Prop := fnExactGoodUrlRow.holds Tryd.pinned (OpenSpec.ofChange fnExactGoodUrlSpec)

/-- ITS FALSE NEIGHBOUR: 'it returns false'. Refute it at one input. -/
def fnExactGoodUrlWrong : ChangeSpec := { name := "fnExactGoodUrl", vars := ["loop.example/g00256/impl.byteKinds"], fn := fun _ => fun
  | [d, g1] => { results := [.lit (.bool false)], args := [d], vars := [g1] }
  | _ => none }
def FnExactGoodUrlWrongFalsely : Prop := fnExactGoodUrlRow.holds Tryd.pinned (OpenSpec.ofChange fnExactGoodUrlWrong)

/-- 'laws.FnExactUrlText': WHATEVER THE INPUT: true; the input reads as it did. -/
def fnExactUrlTextSpec : ChangeSpec := { name := "fnExactUrlText", vars := ["loop.example/g00256/impl.byteKinds"], fn := fun _ => fun
  | [d, g1] => { results := [.lit (.bool true)], args := [d], vars := [g1] }
  | _ => none }
def fnExactUrlTextRow : OpenClaim := { program := "ytlgjgdpalflmfaadoor", sum := "7e4911d1ba8d9a9b61a508f1bbd8eb69983392611343700c7a480dff16fcdfb4", func := "loop.example/g00256/laws.FnExactUrlText", spec := "fnExactUrlText", inPlace := ["internal/bytealg.IndexByteString"], recurses := true, named := ["loop.example/g00256/impl.byteKinds", "internal/strconv.uint64pow10", "math/bits.deBruijn32tab", "math/bits.deBruijn64tab"], apart := false, laid := [("math/bits.deBruijn32tab", laid_math_bits_deBruijn32tab), ("math/bits.deBruijn64tab", laid_math_bits_deBruijn64tab), ("internal/strconv.uint64pow10", laid_internal_strconv_uint64pow10), ("loop.example/g00256/impl.byteKinds", laid_loop_example_g00256_impl_byteKinds)] }
def FnExactUrlTextSaid : Prop := fnExactUrlTextRow.holds Tryd.pinned (OpenSpec.ofChange fnExactUrlTextSpec)

/-- ITS FALSE NEIGHBOUR: 'it returns false'. Refute it at one input. -/
def fnExactUrlTextWrong : ChangeSpec := { name := "fnExactUrlText", vars := ["loop.example/g00256/impl.byteKinds"], fn := fun _ => fun
  | [d, g1] => { results := [.lit (.bool false)], args := [d], vars := [g1] }
  | _ => none }
def FnExactUrlTextWrongFalsely : Prop := fnExactUrlTextRow.holds Tryd.pinned (OpenSpec.ofChange fnExactUrlTextWrong)

/-- 'laws.FnExactReadUrl': WHATEVER THE INPUT: true; the input reads as it did. -/
def fnExactReadUrlSpec : ChangeSpec := { name := "fnExactReadUrl", vars := ["loop.example/g00256/impl.byteKinds"], fn := fun _ => fun
  | [d, g1] => { results := [.lit (.bool true)], args := [d], vars := [g1] }
  | _ => none }
def fnExactReadUrlRow : OpenClaim := { program := "ytlgjgdpalflmfaadoor", sum := "7e4911d1ba8d9a9b61a508f1bbd8eb69983392611343700c7a480dff16fcdfb4", func := "loop.example/g00256/laws.FnExactReadUrl", spec := "fnExactReadUrl", inPlace := ["internal/bytealg.IndexByteString", "internal/bytealg.IndexString"], recurses := true, named := ["loop.example/g00256/impl.byteKinds", "strconv.ErrSyntax", "strconv.ErrRange", "internal/strconv.uint64pow10", "math/bits.deBruijn32tab", "math/bits.deBruijn64tab", "internal/bytealg.MaxLen"], apart := false, laid := [("math/bits.deBruijn32tab", laid_math_bits_deBruijn32tab), ("math/bits.deBruijn64tab", laid_math_bits_deBruijn64tab), ("internal/strconv.uint64pow10", laid_internal_strconv_uint64pow10), ("strconv.ErrRange", laid_strconv_ErrRange), ("strconv.ErrSyntax", laid_strconv_ErrSyntax), ("loop.example/g00256/impl.byteKinds", laid_loop_example_g00256_impl_byteKinds)] }
def FnExactReadUrlSaid : Prop := fnExactReadUrlRow.holds Tryd.pinned (OpenSpec.ofChange fnExactReadUrlSpec)

/-- ITS FALSE NEIGHBOUR: 'it returns false'. Refute it at one input. -/
def fnExactReadUrlWrong : ChangeSpec := { name := "fnExactReadUrl", vars := ["loop.example/g00256/impl.byteKinds"], fn := fun _ => fun
  | [d, g1] => { results := [.lit (.bool false)], args := [d], vars := [g1] }
  | _ => none }
def FnExactReadUrlWrongFalsely : Prop := fnExactReadUrlRow.holds Tryd.pinned (OpenSpec.ofChange fnExactReadUrlWrong)

/-- 'laws.FnExactNormalUrl': WHATEVER THE INPUT: true; the input reads as it did. -/
def fnExactNormalUrlSpec : ChangeSpec := { name := "fnExactNormalUrl", vars := ["loop.example/g00256/impl.byteKinds"], fn := fun _ => fun
  | [d, g1] => { results := [.lit (.bool true)], args := [d], vars := [g1] }
  | _ => none }
def fnExactNormalUrlRow : OpenClaim := { program := "ytlgjgdpalflmfaadoor", sum := "7e4911d1ba8d9a9b61a508f1bbd8eb69983392611343700c7a480dff16fcdfb4", func := "loop.example/g00256/laws.FnExactNormalUrl", spec := "fnExactNormalUrl", inPlace := ["internal/bytealg.IndexByteString", "internal/bytealg.CountString", "internal/bytealg.IndexString", "internal/abi.NoEscape", "internal/bytealg.MakeNoZero"], recurses := true, named := ["loop.example/g00256/impl.byteKinds", "internal/strconv.uint64pow10", "math/bits.deBruijn32tab", "math/bits.deBruijn64tab", "unicode/utf8.first", "unicode/utf8.acceptRanges", "internal/bytealg.MaxLen"], apart := false, laid := [("math/bits.deBruijn32tab", laid_math_bits_deBruijn32tab), ("math/bits.deBruijn64tab", laid_math_bits_deBruijn64tab), ("internal/strconv.uint64pow10", laid_internal_strconv_uint64pow10), ("unicode/utf8.acceptRanges", laid_unicode_utf8_acceptRanges), ("loop.example/g00256/impl.byteKinds", laid_loop_example_g00256_impl_byteKinds), ("unicode/utf8.first", laid_unicode_utf8_first)] }
def FnExactNormalUrlSaid : Prop := fnExactNormalUrlRow.holds Tryd.pinned (OpenSpec.ofChange fnExactNormalUrlSpec)

/-- ITS FALSE NEIGHBOUR: 'it returns false'. Refute it at one input. -/
def fnExactNormalUrlWrong : ChangeSpec := { name := "fnExactNormalUrl", vars := ["loop.example/g00256/impl.byteKinds"], fn := fun _ => fun
  | [d, g1] => { results := [.lit (.bool false)], args := [d], vars := [g1] }
  | _ => none }
def FnExactNormalUrlWrongFalsely : Prop := fnExactNormalUrlRow.holds Tryd.pinned (OpenSpec.ofChange fnExactNormalUrlWrong)

/-- 'laws.FnExactDropDots': WHATEVER THE INPUT: true; the input reads as it did. -/
def fnExactDropDotsSpec : ChangeSpec := { name := "fnExactDropDots", fn := fun _ => fun
  | [d] => { results := [.lit (.bool true)], args := [d] }
  | _ => none }
def fnExactDropDotsRow : OpenClaim := { program := "ytlgjgdpalflmfaadoor", sum := "7e4911d1ba8d9a9b61a508f1bbd8eb69983392611343700c7a480dff16fcdfb4", func := "loop.example/g00256/laws.FnExactDropDots", spec := "fnExactDropDots", inPlace := ["internal/bytealg.CountString", "internal/bytealg.IndexByteString", "internal/bytealg.IndexString", "internal/abi.NoEscape", "internal/bytealg.MakeNoZero"], named := ["unicode/utf8.first", "unicode/utf8.acceptRanges", "internal/bytealg.MaxLen"], apart := false, laid := [("unicode/utf8.acceptRanges", laid_unicode_utf8_acceptRanges), ("unicode/utf8.first", laid_unicode_utf8_first)] }
def FnExactDropDotsSaid : Prop := fnExactDropDotsRow.holds Tryd.pinned (OpenSpec.ofChange fnExactDropDotsSpec)

/-- ITS FALSE NEIGHBOUR: 'it returns false'. Refute it at one input. -/
def fnExactDropDotsWrong : ChangeSpec := { name := "fnExactDropDots", fn := fun _ => fun
  | [d] => { results := [.lit (.bool false)], args := [d] }
  | _ => none }
def FnExactDropDotsWrongFalsely : Prop := fnExactDropDotsRow.holds Tryd.pinned (OpenSpec.ofChange fnExactDropDotsWrong)

/-- 'laws.FnExactResolveUrl': WHATEVER THE INPUT: true; the input reads as it did. -/
def fnExactResolveUrlSpec : ChangeSpec := { name := "fnExactResolveUrl", vars := ["loop.example/g00256/impl.byteKinds"], fn := fun _ => fun
  | [d1, d2, g1] => { results := [.lit (.bool true)], args := [d1, d2], vars := [g1] }
  | _ => none }
def fnExactResolveUrlRow : OpenClaim := { program := "ytlgjgdpalflmfaadoor", sum := "7e4911d1ba8d9a9b61a508f1bbd8eb69983392611343700c7a480dff16fcdfb4", func := "loop.example/g00256/laws.FnExactResolveUrl", spec := "fnExactResolveUrl", inPlace := ["internal/bytealg.IndexByteString", "internal/bytealg.IndexString", "internal/bytealg.CountString", "internal/abi.NoEscape", "internal/bytealg.MakeNoZero"], recurses := true, named := ["loop.example/g00256/impl.byteKinds", "internal/strconv.uint64pow10", "math/bits.deBruijn32tab", "math/bits.deBruijn64tab", "strconv.ErrSyntax", "strconv.ErrRange", "internal/bytealg.MaxLen", "unicode/utf8.first", "unicode/utf8.acceptRanges"], apart := false, laid := [("math/bits.deBruijn32tab", laid_math_bits_deBruijn32tab), ("math/bits.deBruijn64tab", laid_math_bits_deBruijn64tab), ("internal/strconv.uint64pow10", laid_internal_strconv_uint64pow10), ("unicode/utf8.acceptRanges", laid_unicode_utf8_acceptRanges), ("strconv.ErrRange", laid_strconv_ErrRange), ("strconv.ErrSyntax", laid_strconv_ErrSyntax), ("loop.example/g00256/impl.byteKinds", laid_loop_example_g00256_impl_byteKinds), ("unicode/utf8.first", laid_unicode_utf8_first)] }
def FnExactResolveUrlSaid : Prop := fnExactResolveUrlRow.holds Tryd.pinned (OpenSpec.ofChange fnExactResolveUrlSpec)

/-- ITS FALSE NEIGHBOUR: 'it returns false'. Refute it at one input. -/
def fnExactResolveUrlWrong : ChangeSpec := { name := "fnExactResolveUrl", vars := ["loop.example/g00256/impl.byteKinds"], fn := fun _ => fun
  | [d1, d2, g1] => { results := [.lit (.bool false)], args := [d1, d2], vars := [g1] }
  | _ => none }
def FnExactResolveUrlWrongFalsely : Prop := fnExactResolveUrlRow.holds Tryd.pinned (OpenSpec.ofChange fnExactResolveUrlWrong)

/-- 'laws.FnExactPercentEncode': WHATEVER THE INPUT: true; the input reads as it did. -/
def fnExactPercentEncodeSpec : ChangeSpec := { name := "fnExactPercentEncode", vars := ["loop.example/g00256/impl.byteKinds"], fn := fun _ => fun
  | [d, g1] => { results := [.lit (.bool true)], args := [d], vars := [g1] }
  | _ => none }
def fnExactPercentEncodeRow : OpenClaim := { program := "ytlgjgdpalflmfaadoor", sum := "7e4911d1ba8d9a9b61a508f1bbd8eb69983392611343700c7a480dff16fcdfb4", func := "loop.example/g00256/laws.FnExactPercentEncode", spec := "fnExactPercentEncode", named := ["loop.example/g00256/impl.byteKinds"], apart := false, laid := [("loop.example/g00256/impl.byteKinds", laid_loop_example_g00256_impl_byteKinds)] }
def FnExactPercentEncodeSaid : Prop := fnExactPercentEncodeRow.holds Tryd.pinned (OpenSpec.ofChange fnExactPercentEncodeSpec)

/-- ITS FALSE NEIGHBOUR: 'it returns false'. Refute it at one input. -/
def fnExactPercentEncodeWrong : ChangeSpec := { name := "fnExactPercentEncode", vars := ["loop.example/g00256/impl.byteKinds"], fn := fun _ => fun
  | [d, g1] => { results := [.lit (.bool false)], args := [d], vars := [g1] }
  | _ => none }
def FnExactPercentEncodeWrongFalsely : Prop := fnExactPercentEncodeRow.holds Tryd.pinned (OpenSpec.ofChange fnExactPercentEncodeWrong)

/-- 'laws.FnExactPercentDecode': WHATEVER THE INPUT: true; the input reads as it did. -/
def fnExactPercentDecodeSpec : ChangeSpec := { name := "fnExactPercentDecode", vars := ["loop.example/g00256/impl.byteKinds"], fn := fun _ => fun
  | [d, g1] => { results := [.lit (.bool true)], args := [d], vars := [g1] }
  | _ => none }
def fnExactPercentDecodeRow : OpenClaim := { program := "ytlgjgdpalflmfaadoor", sum := "7e4911d1ba8d9a9b61a508f1bbd8eb69983392611343700c7a480dff16fcdfb4", func := "loop.example/g00256/laws.FnExactPercentDecode", spec := "fnExactPercentDecode", named := ["loop.example/g00256/impl.byteKinds"], apart := false, laid := [("loop.example/g00256/impl.byteKinds", laid_loop_example_g00256_impl_byteKinds)] }
def FnExactPercentDecodeSaid : Prop := fnExactPercentDecodeRow.holds Tryd.pinned (OpenSpec.ofChange fnExactPercentDecodeSpec)

/-- ITS FALSE NEIGHBOUR: 'it returns false'. Refute it at one input. -/
def fnExactPercentDecodeWrong : ChangeSpec := { name := "fnExactPercentDecode", vars := ["loop.example/g00256/impl.byteKinds"], fn := fun _ => fun
  | [d, g1] => { results := [.lit (.bool false)], args := [d], vars := [g1] }
  | _ => none }
def FnExactPercentDecodeWrongFalsely : Prop := fnExactPercentDecodeRow.holds Tryd.pinned (OpenSpec.ofChange fnExactPercentDecodeWrong)

/-- 'laws.FnExactSameUrl': WHATEVER THE INPUT: true; the input reads as it did. -/
def fnExactSameUrlSpec : ChangeSpec := { name := "fnExactSameUrl", vars := ["loop.example/g00256/impl.byteKinds"], fn := fun _ => fun
  | [d1, d2, g1] => { results := [.lit (.bool true)], args := [d1, d2], vars := [g1] }
  | _ => none }
def fnExactSameUrlRow : OpenClaim := { program := "ytlgjgdpalflmfaadoor", sum := "7e4911d1ba8d9a9b61a508f1bbd8eb69983392611343700c7a480dff16fcdfb4", func := "loop.example/g00256/laws.FnExactSameUrl", spec := "fnExactSameUrl", inPlace := ["internal/bytealg.IndexByteString", "internal/bytealg.CountString", "internal/bytealg.IndexString", "internal/abi.NoEscape", "internal/bytealg.MakeNoZero"], recurses := true, named := ["loop.example/g00256/impl.byteKinds", "internal/strconv.uint64pow10", "math/bits.deBruijn32tab", "math/bits.deBruijn64tab", "unicode/utf8.first", "unicode/utf8.acceptRanges", "internal/bytealg.MaxLen"], apart := false, laid := [("math/bits.deBruijn32tab", laid_math_bits_deBruijn32tab), ("math/bits.deBruijn64tab", laid_math_bits_deBruijn64tab), ("internal/strconv.uint64pow10", laid_internal_strconv_uint64pow10), ("unicode/utf8.acceptRanges", laid_unicode_utf8_acceptRanges), ("loop.example/g00256/impl.byteKinds", laid_loop_example_g00256_impl_byteKinds), ("unicode/utf8.first", laid_unicode_utf8_first)] }
def FnExactSameUrlSaid : Prop := fnExactSameUrlRow.holds Tryd.pinned (OpenSpec.ofChange fnExactSameUrlSpec)

/-- ITS FALSE NEIGHBOUR: 'it returns false'. Refute it at one input. -/
def fnExactSameUrlWrong : ChangeSpec := { name := "fnExactSameUrl", vars := ["loop.example/g00256/impl.byteKinds"], fn := fun _ => fun
  | [d1, d2, g1] => { results := [.lit (.bool false)], args := [d1, d2], vars := [g1] }
  | _ => none }
def FnExactSameUrlWrongFalsely : Prop := fnExactSameUrlRow.holds Tryd.pinned (OpenSpec.ofChange fnExactSameUrlWrong)

/- THE SECOND FORM. 'bulk': how many values and letters a reading holds, each counted each time it is reached (what is shared counts as often as it is met; a slice's spare places count too). A statement '..UptoSaid' is the law's where the arguments, and the package variables that the reading takes, are together of bulk at most 1048576: NARROWER than '..Said'. Prove '..Said' where nothing that the law and all that it calls make is longer than what came in: it says more and counts as full. Else prove '..UptoSaid'. A law counts once. -/
mutual
def uptoBulk {H : Type} : DataW H → Nat
  | .lit (.string bytes) => bytes.length + 1
  | .lit _ => 1
  | .nil => 1
  | .ptr d => uptoBulk d + 1
  | .slice elems spare => uptoBulkAll elems + uptoBulkAll spare + 1
  | .agg parts => uptoBulkAll parts + 1
  | .iface _ d => uptoBulk d + 1
  | .map entries => uptoBulkEntries entries + 1
  | .held _ => 1
def uptoBulkAll {H : Type} : List (DataW H) → Nat
  | [] => 0
  | d :: r => uptoBulk d + uptoBulkAll r
def uptoBulkEntries {H : Type} : List (Lit × DataW H) → Nat
  | [] => 0
  | x :: r => uptoBulkEntry x + uptoBulkEntries r
def uptoBulkEntry {H : Type} : Lit × DataW H → Nat
  | (.string bytes, d) => bytes.length + uptoBulk d + 1
  | (_, d) => uptoBulk d + 1
 end
def uptoSmall : (H : Type) → List (DataW H) → Bool := fun _ ds => decide (uptoBulkAll ds ≤ 1048576)
def OpenSpec.upto (s : _root_.Go.ChangeSpec) : _root_.Go.OpenSpec := { _root_.Go.OpenSpec.ofChange s with cond := some uptoSmall }

/-- 'laws.FnUrls', WHERE WHAT IT READS IS OF BULK AT MOST 1048576: true; the input reads as it did. -/
def fnUrlsUptoRow : OpenClaim := { program := "ytlgjgdpalflmfaadoor", sum := "7e4911d1ba8d9a9b61a508f1bbd8eb69983392611343700c7a480dff16fcdfb4", func := "loop.example/g00256/laws.FnUrls", spec := "fnUrls", inPlace := ["internal/bytealg.IndexByteString", "internal/bytealg.IndexString"], recurses := true, named := ["loop.example/g00256/impl.byteKinds", "internal/strconv.uint64pow10", "math/bits.deBruijn32tab", "math/bits.deBruijn64tab", "strconv.ErrSyntax", "strconv.ErrRange", "internal/bytealg.MaxLen"], apart := false, laid := [("math/bits.deBruijn32tab", laid_math_bits_deBruijn32tab), ("math/bits.deBruijn64tab", laid_math_bits_deBruijn64tab), ("internal/strconv.uint64pow10", laid_internal_strconv_uint64pow10), ("strconv.ErrRange", laid_strconv_ErrRange), ("strconv.ErrSyntax", laid_strconv_ErrSyntax), ("loop.example/g00256/impl.byteKinds", laid_loop_example_g00256_impl_byteKinds)], narrowed := true }
def FnUrlsUptoSaid : Prop := fnUrlsUptoRow.holds Tryd.pinned (OpenSpec.upto fnUrlsSpec)

/-- 'laws.FnNormal', WHERE WHAT IT READS IS OF BULK AT MOST 1048576: true; the input reads as it did. -/
def fnNormalUptoRow : OpenClaim := { program := "ytlgjgdpalflmfaadoor", sum := "7e4911d1ba8d9a9b61a508f1bbd8eb69983392611343700c7a480dff16fcdfb4", func := "loop.example/g00256/laws.FnNormal", spec := "fnNormal", inPlace := ["internal/bytealg.IndexByteString", "internal/bytealg.CountString", "internal/bytealg.IndexString", "internal/abi.NoEscape", "internal/bytealg.MakeNoZero"], recurses := true, named := ["loop.example/g00256/impl.byteKinds", "internal/strconv.uint64pow10", "math/bits.deBruijn32tab", "math/bits.deBruijn64tab", "unicode/utf8.first", "unicode/utf8.acceptRanges", "internal/bytealg.MaxLen"], apart := false, laid := [("math/bits.deBruijn32tab", laid_math_bits_deBruijn32tab), ("math/bits.deBruijn64tab", laid_math_bits_deBruijn64tab), ("internal/strconv.uint64pow10", laid_internal_strconv_uint64pow10), ("unicode/utf8.acceptRanges", laid_unicode_utf8_acceptRanges), ("loop.example/g00256/impl.byteKinds", laid_loop_example_g00256_impl_byteKinds), ("unicode/utf8.first", laid_unicode_utf8_first)], narrowed := true }
def FnNormalUptoSaid : Prop := fnNormalUptoRow.holds Tryd.pinned (OpenSpec.upto fnNormalSpec)

/-- 'laws.FnExactGoodUrl', WHERE WHAT IT READS IS OF BULK AT MOST 1048576: true; the input reads as it did. -/
def fnExactGoodUrlUptoRow : OpenClaim := { program := "ytlgjgdpalflmfaadoor", sum := "7e4911d1ba8d9a9b61a508f1bbd8eb69983392611343700c7a480dff16fcdfb4", func := "loop.example/g00256/laws.FnExactGoodUrl", spec := "fnExactGoodUrl", inPlace := ["internal/bytealg.IndexByteString"], recurses := true, named := ["loop.example/g00256/impl.byteKinds", "internal/strconv.uint64pow10", "math/bits.deBruijn32tab", "math/bits.deBruijn64tab"], apart := false, laid := [("math/bits.deBruijn32tab", laid_math_bits_deBruijn32tab), ("math/bits.deBruijn64tab", laid_math_bits_deBruijn64tab), ("internal/strconv.uint64pow10", laid_internal_strconv_uint64pow10), ("loop.example/g00256/impl.byteKinds", laid_loop_example_g00256_impl_byteKinds)], narrowed := true }
def FnExactGoodUrlUptoSaid : Prop := fnExactGoodUrlUptoRow.holds Tryd.pinned (OpenSpec.upto fnExactGoodUrlSpec)

/-- 'laws.FnExactUrlText', WHERE WHAT IT READS IS OF BULK AT MOST 1048576: true; the input reads as it did. -/
def fnExactUrlTextUptoRow : OpenClaim := { program := "ytlgjgdpalflmfaadoor", sum := "7e4911d1ba8d9a9b61a508f1bbd8eb69983392611343700c7a480dff16fcdfb4", func := "loop.example/g00256/laws.FnExactUrlText", spec := "fnExactUrlText", inPlace := ["internal/bytealg.IndexByteString"], recurses := true, named := ["loop.example/g00256/impl.byteKinds", "internal/strconv.uint64pow10", "math/bits.deBruijn32tab", "math/bits.deBruijn64tab"], apart := false, laid := [("math/bits.deBruijn32tab", laid_math_bits_deBruijn32tab), ("math/bits.deBruijn64tab", laid_math_bits_deBruijn64tab), ("internal/strconv.uint64pow10", laid_internal_strconv_uint64pow10), ("loop.example/g00256/impl.byteKinds", laid_loop_example_g00256_impl_byteKinds)], narrowed := true }
def FnExactUrlTextUptoSaid : Prop := fnExactUrlTextUptoRow.holds Tryd.pinned (OpenSpec.upto fnExactUrlTextSpec)

/-- 'laws.FnExactReadUrl', WHERE WHAT IT READS IS OF BULK AT MOST 1048576: true; the input reads as it did. -/
def fnExactReadUrlUptoRow : OpenClaim := { program := "ytlgjgdpalflmfaadoor", sum := "7e4911d1ba8d9a9b61a508f1bbd8eb69983392611343700c7a480dff16fcdfb4", func := "loop.example/g00256/laws.FnExactReadUrl", spec := "fnExactReadUrl", inPlace := ["internal/bytealg.IndexByteString", "internal/bytealg.IndexString"], recurses := true, named := ["loop.example/g00256/impl.byteKinds", "strconv.ErrSyntax", "strconv.ErrRange", "internal/strconv.uint64pow10", "math/bits.deBruijn32tab", "math/bits.deBruijn64tab", "internal/bytealg.MaxLen"], apart := false, laid := [("math/bits.deBruijn32tab", laid_math_bits_deBruijn32tab), ("math/bits.deBruijn64tab", laid_math_bits_deBruijn64tab), ("internal/strconv.uint64pow10", laid_internal_strconv_uint64pow10), ("strconv.ErrRange", laid_strconv_ErrRange), ("strconv.ErrSyntax", laid_strconv_ErrSyntax), ("loop.example/g00256/impl.byteKinds", laid_loop_example_g00256_impl_byteKinds)], narrowed := true }
def FnExactReadUrlUptoSaid : Prop := fnExactReadUrlUptoRow.holds Tryd.pinned (OpenSpec.upto fnExactReadUrlSpec)

/-- 'laws.FnExactNormalUrl', WHERE WHAT IT READS IS OF BULK AT MOST 1048576: true; the input reads as it did. -/
def fnExactNormalUrlUptoRow : OpenClaim := { program := "ytlgjgdpalflmfaadoor", sum := "7e4911d1ba8d9a9b61a508f1bbd8eb69983392611343700c7a480dff16fcdfb4", func := "loop.example/g00256/laws.FnExactNormalUrl", spec := "fnExactNormalUrl", inPlace := ["internal/bytealg.IndexByteString", "internal/bytealg.CountString", "internal/bytealg.IndexString", "internal/abi.NoEscape", "internal/bytealg.MakeNoZero"], recurses := true, named := ["loop.example/g00256/impl.byteKinds", "internal/strconv.uint64pow10", "math/bits.deBruijn32tab", "math/bits.deBruijn64tab", "unicode/utf8.first", "unicode/utf8.acceptRanges", "internal/bytealg.MaxLen"], apart := false, laid := [("math/bits.deBruijn32tab", laid_math_bits_deBruijn32tab), ("math/bits.deBruijn64tab", laid_math_bits_deBruijn64tab), ("internal/strconv.uint64pow10", laid_internal_strconv_uint64pow10), ("unicode/utf8.acceptRanges", laid_unicode_utf8_acceptRanges), ("loop.example/g00256/impl.byteKinds", laid_loop_example_g00256_impl_byteKinds), ("unicode/utf8.first", laid_unicode_utf8_first)], narrowed := true }
def FnExactNormalUrlUptoSaid : Prop := fnExactNormalUrlUptoRow.holds Tryd.pinned (OpenSpec.upto fnExactNormalUrlSpec)

/-- 'laws.FnExactDropDots', WHERE WHAT IT READS IS OF BULK AT MOST 1048576: true; the input reads as it did. -/
def fnExactDropDotsUptoRow : OpenClaim := { program := "ytlgjgdpalflmfaadoor", sum := "7e4911d1ba8d9a9b61a508f1bbd8eb69983392611343700c7a480dff16fcdfb4", func := "loop.example/g00256/laws.FnExactDropDots", spec := "fnExactDropDots", inPlace := ["internal/bytealg.CountString", "internal/bytealg.IndexByteString", "internal/bytealg.IndexString", "internal/abi.NoEscape", "internal/bytealg.MakeNoZero"], named := ["unicode/utf8.first", "unicode/utf8.acceptRanges", "internal/bytealg.MaxLen"], apart := false, laid := [("unicode/utf8.acceptRanges", laid_unicode_utf8_acceptRanges), ("unicode/utf8.first", laid_unicode_utf8_first)], narrowed := true }
def FnExactDropDotsUptoSaid : Prop := fnExactDropDotsUptoRow.holds Tryd.pinned (OpenSpec.upto fnExactDropDotsSpec)

/-- 'laws.FnExactResolveUrl', WHERE WHAT IT READS IS OF BULK AT MOST 1048576: true; the input reads as it did. -/
def fnExactResolveUrlUptoRow : OpenClaim := { program := "ytlgjgdpalflmfaadoor", sum := "7e4911d1ba8d9a9b61a508f1bbd8eb69983392611343700c7a480dff16fcdfb4", func := "loop.example/g00256/laws.FnExactResolveUrl", spec := "fnExactResolveUrl", inPlace := ["internal/bytealg.IndexByteString", "internal/bytealg.IndexString", "internal/bytealg.CountString", "internal/abi.NoEscape", "internal/bytealg.MakeNoZero"], recurses := true, named := ["loop.example/g00256/impl.byteKinds", "internal/strconv.uint64pow10", "math/bits.deBruijn32tab", "math/bits.deBruijn64tab", "strconv.ErrSyntax", "strconv.ErrRange", "internal/bytealg.MaxLen", "unicode/utf8.first", "unicode/utf8.acceptRanges"], apart := false, laid := [("math/bits.deBruijn32tab", laid_math_bits_deBruijn32tab), ("math/bits.deBruijn64tab", laid_math_bits_deBruijn64tab), ("internal/strconv.uint64pow10", laid_internal_strconv_uint64pow10), ("unicode/utf8.acceptRanges", laid_unicode_utf8_acceptRanges), ("strconv.ErrRange", laid_strconv_ErrRange), ("strconv.ErrSyntax", laid_strconv_ErrSyntax), ("loop.example/g00256/impl.byteKinds", laid_loop_example_g00256_impl_byteKinds), ("unicode/utf8.first", laid_unicode_utf8_first)], narrowed := true }
def FnExactResolveUrlUptoSaid : Prop := fnExactResolveUrlUptoRow.holds Tryd.pinned (OpenSpec.upto fnExactResolveUrlSpec)

/-- 'laws.FnExactPercentEncode', WHERE WHAT IT READS IS OF BULK AT MOST 1048576: true; the input reads as it did. -/
def fnExactPercentEncodeUptoRow : OpenClaim := { program := "ytlgjgdpalflmfaadoor", sum := "7e4911d1ba8d9a9b61a508f1bbd8eb69983392611343700c7a480dff16fcdfb4", func := "loop.example/g00256/laws.FnExactPercentEncode", spec := "fnExactPercentEncode", named := ["loop.example/g00256/impl.byteKinds"], apart := false, laid := [("loop.example/g00256/impl.byteKinds", laid_loop_example_g00256_impl_byteKinds)], narrowed := true }
def FnExactPercentEncodeUptoSaid : Prop := fnExactPercentEncodeUptoRow.holds Tryd.pinned (OpenSpec.upto fnExactPercentEncodeSpec)

/-- 'laws.FnExactPercentDecode', WHERE WHAT IT READS IS OF BULK AT MOST 1048576: true; the input reads as it did. -/
def fnExactPercentDecodeUptoRow : OpenClaim := { program := "ytlgjgdpalflmfaadoor", sum := "7e4911d1ba8d9a9b61a508f1bbd8eb69983392611343700c7a480dff16fcdfb4", func := "loop.example/g00256/laws.FnExactPercentDecode", spec := "fnExactPercentDecode", named := ["loop.example/g00256/impl.byteKinds"], apart := false, laid := [("loop.example/g00256/impl.byteKinds", laid_loop_example_g00256_impl_byteKinds)], narrowed := true }
def FnExactPercentDecodeUptoSaid : Prop := fnExactPercentDecodeUptoRow.holds Tryd.pinned (OpenSpec.upto fnExactPercentDecodeSpec)

/-- 'laws.FnExactSameUrl', WHERE WHAT IT READS IS OF BULK AT MOST 1048576: true; the input reads as it did. -/
def fnExactSameUrlUptoRow : OpenClaim := { program := "ytlgjgdpalflmfaadoor", sum := "7e4911d1ba8d9a9b61a508f1bbd8eb69983392611343700c7a480dff16fcdfb4", func := "loop.example/g00256/laws.FnExactSameUrl", spec := "fnExactSameUrl", inPlace := ["internal/bytealg.IndexByteString", "internal/bytealg.CountString", "internal/bytealg.IndexString", "internal/abi.NoEscape", "internal/bytealg.MakeNoZero"], recurses := true, named := ["loop.example/g00256/impl.byteKinds", "internal/strconv.uint64pow10", "math/bits.deBruijn32tab", "math/bits.deBruijn64tab", "unicode/utf8.first", "unicode/utf8.acceptRanges", "internal/bytealg.MaxLen"], apart := false, laid := [("math/bits.deBruijn32tab", laid_math_bits_deBruijn32tab), ("math/bits.deBruijn64tab", laid_math_bits_deBruijn64tab), ("internal/strconv.uint64pow10", laid_internal_strconv_uint64pow10), ("unicode/utf8.acceptRanges", laid_unicode_utf8_acceptRanges), ("loop.example/g00256/impl.byteKinds", laid_loop_example_g00256_impl_byteKinds), ("unicode/utf8.first", laid_unicode_utf8_first)], narrowed := true }
def FnExactSameUrlUptoSaid : Prop := fnExactSameUrlUptoRow.holds Tryd.pinned (OpenSpec.upto fnExactSameUrlSpec)

end Rows
end Go.Proofs.YtlgjgdpalflmfaaDoor
