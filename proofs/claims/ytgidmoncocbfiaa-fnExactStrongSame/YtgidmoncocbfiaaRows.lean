/-
  No cell of these rows narrows 'for every input' (looked for: loops, veiled, ifaces, maps, wideKeys, modest, calm, conditions, laid).
  DERIVED. THE GIVEN ROWS OF THIS SEAT. 4 by the template 'for every input the law returns true; each argument reads behind the call as it read before'; 0 by the template 'total and deterministic' (their statements: YtgidmoncocbfiaaTotals.lean).
  GIVEN WITH THE SEED: the statements are not yours to turn. If you find one false, say at which input.
  Laid BY PROGRAM, IN A SANDBOX (cutbox-rows.mjs): the forced cells as the released guide's own fill.sh prints them over the translation 3d5b16789aa8196c… (all of the seat's roots in one cut). By AI agents, Wed Nov 11 2026. No macro, syntax, notation, axiom, sorry.
-/
import Derived.Test.YtgidmoncocbfiaaChecked
import GoSem.Claim
import GoSem.ClaimJoined
import GoSem.ClaimMapViews
import Derived.JoinedTies
import Derived.KernelRfl
namespace Go.Proofs.Ytgidmoncocbfiaa
/- THE CELL 'sum', in the pinned program and in every row, IS THE sha256 OF THE DUMP (.gsa) THAT YtgidmoncocbfiaaProg.lean LOADS. Nothing in Lean hashes anything: it is a label: what it is worth is what the hold of that sum in a sandbox is worth. -/
noncomputable def Try.pinned : Pinned := { name := "ytgidmoncocbfiaa", sum := "3d5b16789aa8196c9d3b812539b6f2d7a3c81a2049e3f63837e47b08993ed42c", checked := Try.checked }
namespace Rows
def none {H : Type} : Left H := { results := [], args := [] }

/-- 'laws.FnExactReadTag': WHATEVER THE INPUT: true; the input reads as it did. -/
def fnExactReadTagSpec : ChangeSpec := { name := "fnExactReadTag", fn := fun _ => fun
  | [d] => { results := [.lit (.bool true)], args := [d] }
  | _ => none }
def fnExactReadTagRow : OpenClaim := { program := "ytgidmoncocbfiaa", sum := "3d5b16789aa8196c9d3b812539b6f2d7a3c81a2049e3f63837e47b08993ed42c", func := "loop.example/g00256/laws.FnExactReadTag", spec := "fnExactReadTag", inPlace := ["internal/bytealg.IndexByteString", "internal/bytealg.IndexString"], named := ["internal/bytealg.MaxLen"], apart := false }
def FnExactReadTagSaid : Prop := fnExactReadTagRow.holds Try.pinned (OpenSpec.ofChange fnExactReadTagSpec)

/-- ITS FALSE NEIGHBOUR: 'it returns false'. Refute it at one input. -/
def fnExactReadTagWrong : ChangeSpec := { name := "fnExactReadTag", fn := fun _ => fun
  | [d] => { results := [.lit (.bool false)], args := [d] }
  | _ => none }
def FnExactReadTagWrongFalsely : Prop := fnExactReadTagRow.holds Try.pinned (OpenSpec.ofChange fnExactReadTagWrong)

/-- 'laws.FnExactTagText': WHATEVER THE INPUT: true; the input reads as it did. -/
def fnExactTagTextSpec : ChangeSpec := { name := "fnExactTagText", fn := fun _ => fun
  | [d] => { results := [.lit (.bool true)], args := [d] }
  | _ => none }
def fnExactTagTextRow : OpenClaim := { program := "ytgidmoncocbfiaa", sum := "3d5b16789aa8196c9d3b812539b6f2d7a3c81a2049e3f63837e47b08993ed42c", func := "loop.example/g00256/laws.FnExactTagText", spec := "fnExactTagText", inPlace := ["internal/bytealg.IndexByteString", "internal/bytealg.IndexString"], named := ["internal/bytealg.MaxLen"], apart := false }
def FnExactTagTextSaid : Prop := fnExactTagTextRow.holds Try.pinned (OpenSpec.ofChange fnExactTagTextSpec)

/-- ITS FALSE NEIGHBOUR: 'it returns false'. Refute it at one input. -/
def fnExactTagTextWrong : ChangeSpec := { name := "fnExactTagText", fn := fun _ => fun
  | [d] => { results := [.lit (.bool false)], args := [d] }
  | _ => none }
def FnExactTagTextWrongFalsely : Prop := fnExactTagTextRow.holds Try.pinned (OpenSpec.ofChange fnExactTagTextWrong)

/-- 'laws.FnExactStrongSame': WHATEVER THE INPUT: true; the input reads as it did. -/
def fnExactStrongSameSpec : ChangeSpec := { name := "fnExactStrongSame", fn := fun _ => fun
  | [d1, d2] => { results := [.lit (.bool true)], args := [d1, d2] }
  | _ => none }
def fnExactStrongSameRow : OpenClaim := { program := "ytgidmoncocbfiaa", sum := "3d5b16789aa8196c9d3b812539b6f2d7a3c81a2049e3f63837e47b08993ed42c", func := "loop.example/g00256/laws.FnExactStrongSame", spec := "fnExactStrongSame", inPlace := ["internal/bytealg.IndexByteString", "internal/bytealg.IndexString"], named := ["internal/bytealg.MaxLen"], apart := false }
def FnExactStrongSameSaid : Prop := fnExactStrongSameRow.holds Try.pinned (OpenSpec.ofChange fnExactStrongSameSpec)

/-- ITS FALSE NEIGHBOUR: 'it returns false'. Refute it at one input. -/
def fnExactStrongSameWrong : ChangeSpec := { name := "fnExactStrongSame", fn := fun _ => fun
  | [d1, d2] => { results := [.lit (.bool false)], args := [d1, d2] }
  | _ => none }
def FnExactStrongSameWrongFalsely : Prop := fnExactStrongSameRow.holds Try.pinned (OpenSpec.ofChange fnExactStrongSameWrong)

/-- 'laws.FnExactWeakSame': WHATEVER THE INPUT: true; the input reads as it did. -/
def fnExactWeakSameSpec : ChangeSpec := { name := "fnExactWeakSame", fn := fun _ => fun
  | [d1, d2] => { results := [.lit (.bool true)], args := [d1, d2] }
  | _ => none }
def fnExactWeakSameRow : OpenClaim := { program := "ytgidmoncocbfiaa", sum := "3d5b16789aa8196c9d3b812539b6f2d7a3c81a2049e3f63837e47b08993ed42c", func := "loop.example/g00256/laws.FnExactWeakSame", spec := "fnExactWeakSame", inPlace := ["internal/bytealg.IndexByteString", "internal/bytealg.IndexString"], named := ["internal/bytealg.MaxLen"], apart := false }
def FnExactWeakSameSaid : Prop := fnExactWeakSameRow.holds Try.pinned (OpenSpec.ofChange fnExactWeakSameSpec)

/-- ITS FALSE NEIGHBOUR: 'it returns false'. Refute it at one input. -/
def fnExactWeakSameWrong : ChangeSpec := { name := "fnExactWeakSame", fn := fun _ => fun
  | [d1, d2] => { results := [.lit (.bool false)], args := [d1, d2] }
  | _ => none }
def FnExactWeakSameWrongFalsely : Prop := fnExactWeakSameRow.holds Try.pinned (OpenSpec.ofChange fnExactWeakSameWrong)

/- THE SECOND FORM. 'bulk': how many values and letters a reading holds, each counted each time it is reached (what is shared counts as often as it is met; a slice's spare places count too). A statement '..UptoSaid' is the law's where the arguments, and the package variables that the reading takes, are together of bulk at most 1048576: NARROWER than '..Said'. Prove '..Said' where nothing that the law and all that it calls make is longer than what came in: it says more and counts as full. Else prove '..UptoSaid'. A law counts once. -/
mutual
def uptoBulk {H : Type} : DataW H → Nat
  | .lit (.string bytes) => bytes.length + 1
  | .lit _ => 1
  | .nil => 1
  | .ptr d => uptoBulk d + 1
  | .slice elems spare => uptoBulkAll elems + uptoBulkAll spare + 1
  | .agg parts => uptoBulkAll parts + 1
  | .iface _ d => uptoBulk d + 1
  | .map entries => uptoBulkEntries entries + 1
  | .held _ => 1
def uptoBulkAll {H : Type} : List (DataW H) → Nat
  | [] => 0
  | d :: r => uptoBulk d + uptoBulkAll r
def uptoBulkEntries {H : Type} : List (Lit × DataW H) → Nat
  | [] => 0
  | x :: r => uptoBulkEntry x + uptoBulkEntries r
def uptoBulkEntry {H : Type} : Lit × DataW H → Nat
  | (.string bytes, d) => bytes.length + uptoBulk d + 1
  | (_, d) => uptoBulk d + 1
 end
def uptoSmall : (H : Type) → List (DataW H) → Bool := fun _ ds => decide (uptoBulkAll ds ≤ 1048576)
def OpenSpec.upto (s : _root_.Go.ChangeSpec) : _root_.Go.OpenSpec := { _root_.Go.OpenSpec.ofChange s with cond := some uptoSmall }

/-- 'laws.FnExactReadTag', WHERE WHAT IT READS IS OF BULK AT MOST 1048576: true; the input reads as it did. -/
def fnExactReadTagUptoRow : OpenClaim := { program := "ytgidmoncocbfiaa", sum := "3d5b16789aa8196c9d3b812539b6f2d7a3c81a2049e3f63837e47b08993ed42c", func := "loop.example/g00256/laws.FnExactReadTag", spec := "fnExactReadTag", inPlace := ["internal/bytealg.IndexByteString", "internal/bytealg.IndexString"], named := ["internal/bytealg.MaxLen"], apart := false, narrowed := true }
def FnExactReadTagUptoSaid : Prop := fnExactReadTagUptoRow.holds Try.pinned (OpenSpec.upto fnExactReadTagSpec)

/-- 'laws.FnExactTagText', WHERE WHAT IT READS IS OF BULK AT MOST 1048576: true; the input reads as it did. -/
def fnExactTagTextUptoRow : OpenClaim := { program := "ytgidmoncocbfiaa", sum := "3d5b16789aa8196c9d3b812539b6f2d7a3c81a2049e3f63837e47b08993ed42c", func := "loop.example/g00256/laws.FnExactTagText", spec := "fnExactTagText", inPlace := ["internal/bytealg.IndexByteString", "internal/bytealg.IndexString"], named := ["internal/bytealg.MaxLen"], apart := false, narrowed := true }
def FnExactTagTextUptoSaid : Prop := fnExactTagTextUptoRow.holds Try.pinned (OpenSpec.upto fnExactTagTextSpec)

/-- 'laws.FnExactStrongSame', WHERE WHAT IT READS IS OF BULK AT MOST 1048576: true; the input reads as it did. -/
def fnExactStrongSameUptoRow : OpenClaim := { program := "ytgidmoncocbfiaa", sum := "3d5b16789aa8196c9d3b812539b6f2d7a3c81a2049e3f63837e47b08993ed42c", func := "loop.example/g00256/laws.FnExactStrongSame", spec := "fnExactStrongSame", inPlace := ["internal/bytealg.IndexByteString", "internal/bytealg.IndexString"], named := ["internal/bytealg.MaxLen"], apart := false, narrowed := true }
def FnExactStrongSameUptoSaid : Prop := fnExactStrongSameUptoRow.holds Try.pinned (OpenSpec.upto fnExactStrongSameSpec)

/-- 'laws.FnExactWeakSame', WHERE WHAT IT READS IS OF BULK AT MOST 1048576: true; the input reads as it did. -/
def fnExactWeakSameUptoRow : OpenClaim := { program := "ytgidmoncocbfiaa", sum := "3d5b16789aa8196c9d3b812539b6f2d7a3c81a2049e3f63837e47b08993ed42c", func := "loop.example/g00256/laws.FnExactWeakSame", spec := "fnExactWeakSame", inPlace := ["internal/bytealg.IndexByteString", "internal/bytealg.IndexString"], named := ["internal/bytealg.MaxLen"], apart := false, narrowed := true }
def FnExactWeakSameUptoSaid : Prop := fnExactWeakSameUptoRow.holds Try.pinned (OpenSpec.upto fnExactWeakSameSpec)

end Rows
end Go.Proofs.Ytgidmoncocbfiaa
