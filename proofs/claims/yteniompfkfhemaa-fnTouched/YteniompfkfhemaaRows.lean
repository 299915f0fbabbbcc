/-
  No cell of these rows narrows 'for every input' (looked for: loops, veiled, ifaces, maps, wideKeys, modest, calm, conditions, laid).
  DERIVED. THE GIVEN ROWS OF THIS SEAT. 11 by the template 'for every input the law returns true; each argument reads behind the call as it read before'; 0 by the template 'total and deterministic' (their statements: YteniompfkfhemaaTotals.lean).
  GIVEN WITH THE SEED: the statements are not yours to turn. If you find one false, say at which input.
  Laid BY PROGRAM, IN A SANDBOX (cutbox-rows.mjs): the forced cells as the released guide's own fill.sh prints them over the translation e79d9fc6a444ddcd… (all of the seat's roots in one cut). By AI agents, Wed Nov 11 2026. No macro, syntax, notation, axiom, sorry.
-/
import Derived.Test.YteniompfkfhemaaChecked
import GoSem.Claim
import GoSem.ClaimJoined
import GoSem.ClaimMapViews
import Derived.JoinedTies
import Derived.KernelRfl
namespace Go.Proofs.Yteniompfkfhemaa
/- THE CELL 'sum', in the pinned program and in every row, IS THE sha256 OF THE DUMP (.gsa) THAT YteniompfkfhemaaProg.lean LOADS. Nothing in Lean hashes anything: it is a label: what it is worth is what the hold of that sum in a sandbox is worth. -/
noncomputable def Try.pinned : Pinned := { name := "yteniompfkfhemaa", sum := "e79d9fc6a444ddcd82c4c6791b1d62a2f37ab0712ef733733eb1c7217a36faa4", checked := Try.checked }
namespace Rows
def none {H : Type} : Left H := { results := [], args := [] }

/-- 'laws.FnInclusion': WHATEVER THE INPUT: true; the input reads as it did. -/
def fnInclusionSpec : ChangeSpec := { name := "fnInclusion", fn := fun _ => fun
  | [d] => { results := [.lit (.bool true)], args := [d] }
  | _ => none }
def fnInclusionRow : OpenClaim := { program := "yteniompfkfhemaa", sum := "e79d9fc6a444ddcd82c4c6791b1d62a2f37ab0712ef733733eb1c7217a36faa4", func := "loop.example/g00256/laws.FnInclusion", spec := "fnInclusion", apart := false }
def FnInclusionSaid : Prop := fnInclusionRow.holds Try.pinned (OpenSpec.ofChange fnInclusionSpec)

/-- ITS FALSE NEIGHBOUR: 'it returns false'. Refute it at one input. -/
def fnInclusionWrong : ChangeSpec := { name := "fnInclusion", fn := fun _ => fun
  | [d] => { results := [.lit (.bool false)], args := [d] }
  | _ => none }
def FnInclusionWrongFalsely : Prop := fnInclusionRow.holds Try.pinned (OpenSpec.ofChange fnInclusionWrong)

/-- 'laws.FnHits': WHATEVER THE INPUT: true; the input reads as it did. -/
def fnHitsSpec : ChangeSpec := { name := "fnHits", fn := fun _ => fun
  | [d] => { results := [.lit (.bool true)], args := [d] }
  | _ => none }
def fnHitsRow : OpenClaim := { program := "yteniompfkfhemaa", sum := "e79d9fc6a444ddcd82c4c6791b1d62a2f37ab0712ef733733eb1c7217a36faa4", func := "loop.example/g00256/laws.FnHits", spec := "fnHits", apart := false }
def FnHitsSaid : Prop := fnHitsRow.holds Try.pinned (OpenSpec.ofChange fnHitsSpec)

/-- ITS FALSE NEIGHBOUR: 'it returns false'. Refute it at one input. -/
def fnHitsWrong : ChangeSpec := { name := "fnHits", fn := fun _ => fun
  | [d] => { results := [.lit (.bool false)], args := [d] }
  | _ => none }
def FnHitsWrongFalsely : Prop := fnHitsRow.holds Try.pinned (OpenSpec.ofChange fnHitsWrong)

/-- 'laws.FnTouched': WHATEVER THE INPUT: true; the input reads as it did. -/
def fnTouchedSpec : ChangeSpec := { name := "fnTouched", fn := fun _ => fun
  | [d1, d2] => { results := [.lit (.bool true)], args := [d1, d2] }
  | _ => none }
def fnTouchedRow : OpenClaim := { program := "yteniompfkfhemaa", sum := "e79d9fc6a444ddcd82c4c6791b1d62a2f37ab0712ef733733eb1c7217a36faa4", func := "loop.example/g00256/laws.FnTouched", spec := "fnTouched", apart := false }
def FnTouchedSaid : Prop := fnTouchedRow.holds Try.pinned (OpenSpec.ofChange fnTouchedSpec)

/-- ITS FALSE NEIGHBOUR: 'it returns false'. Refute it at one input. -/
def fnTouchedWrong : ChangeSpec := { name := "fnTouched", fn := fun _ => fun
  | [d1, d2] => { results := [.lit (.bool false)], args := [d1, d2] }
  | _ => none }
def FnTouchedWrongFalsely : Prop := fnTouchedRow.holds Try.pinned (OpenSpec.ofChange fnTouchedWrong)

/-- 'laws.FnExactGoodRefs': WHATEVER THE INPUT: true; the input reads as it did. -/
def fnExactGoodRefsSpec : ChangeSpec := { name := "fnExactGoodRefs", fn := fun _ => fun
  | [d] => { results := [.lit (.bool true)], args := [d] }
  | _ => none }
def fnExactGoodRefsRow : OpenClaim := { program := "yteniompfkfhemaa", sum := "e79d9fc6a444ddcd82c4c6791b1d62a2f37ab0712ef733733eb1c7217a36faa4", func := "loop.example/g00256/laws.FnExactGoodRefs", spec := "fnExactGoodRefs", apart := false }
def FnExactGoodRefsSaid : Prop := fnExactGoodRefsRow.holds Try.pinned (OpenSpec.ofChange fnExactGoodRefsSpec)

/-- ITS FALSE NEIGHBOUR: 'it returns false'. Refute it at one input. -/
def fnExactGoodRefsWrong : ChangeSpec := { name := "fnExactGoodRefs", fn := fun _ => fun
  | [d] => { results := [.lit (.bool false)], args := [d] }
  | _ => none }
def FnExactGoodRefsWrongFalsely : Prop := fnExactGoodRefsRow.holds Try.pinned (OpenSpec.ofChange fnExactGoodRefsWrong)

/-- 'laws.FnExactTouchLru': WHATEVER THE INPUT: true; the input reads as it did. -/
def fnExactTouchLruSpec : ChangeSpec := { name := "fnExactTouchLru", fn := fun _ => fun
  | [d1, d2, d3] => { results := [.lit (.bool true)], args := [d1, d2, d3] }
  | _ => none }
def fnExactTouchLruRow : OpenClaim := { program := "yteniompfkfhemaa", sum := "e79d9fc6a444ddcd82c4c6791b1d62a2f37ab0712ef733733eb1c7217a36faa4", func := "loop.example/g00256/laws.FnExactTouchLru", spec := "fnExactTouchLru", apart := false }
def FnExactTouchLruSaid : Prop := fnExactTouchLruRow.holds Try.pinned (OpenSpec.ofChange fnExactTouchLruSpec)

/-- ITS FALSE NEIGHBOUR: 'it returns false'. Refute it at one input. -/
def fnExactTouchLruWrong : ChangeSpec := { name := "fnExactTouchLru", fn := fun _ => fun
  | [d1, d2, d3] => { results := [.lit (.bool false)], args := [d1, d2, d3] }
  | _ => none }
def FnExactTouchLruWrongFalsely : Prop := fnExactTouchLruRow.holds Try.pinned (OpenSpec.ofChange fnExactTouchLruWrong)

/-- 'laws.FnExactPlayLru': WHATEVER THE INPUT: true; the input reads as it did. -/
def fnExactPlayLruSpec : ChangeSpec := { name := "fnExactPlayLru", fn := fun _ => fun
  | [d1, d2] => { results := [.lit (.bool true)], args := [d1, d2] }
  | _ => none }
def fnExactPlayLruRow : OpenClaim := { program := "yteniompfkfhemaa", sum := "e79d9fc6a444ddcd82c4c6791b1d62a2f37ab0712ef733733eb1c7217a36faa4", func := "loop.example/g00256/laws.FnExactPlayLru", spec := "fnExactPlayLru", apart := false }
def FnExactPlayLruSaid : Prop := fnExactPlayLruRow.holds Try.pinned (OpenSpec.ofChange fnExactPlayLruSpec)

/-- ITS FALSE NEIGHBOUR: 'it returns false'. Refute it at one input. -/
def fnExactPlayLruWrong : ChangeSpec := { name := "fnExactPlayLru", fn := fun _ => fun
  | [d1, d2] => { results := [.lit (.bool false)], args := [d1, d2] }
  | _ => none }
def FnExactPlayLruWrongFalsely : Prop := fnExactPlayLruRow.holds Try.pinned (OpenSpec.ofChange fnExactPlayLruWrong)

/-- 'laws.FnExactPlayFifo': WHATEVER THE INPUT: true; the input reads as it did. -/
def fnExactPlayFifoSpec : ChangeSpec := { name := "fnExactPlayFifo", fn := fun _ => fun
  | [d1, d2] => { results := [.lit (.bool true)], args := [d1, d2] }
  | _ => none }
def fnExactPlayFifoRow : OpenClaim := { program := "yteniompfkfhemaa", sum := "e79d9fc6a444ddcd82c4c6791b1d62a2f37ab0712ef733733eb1c7217a36faa4", func := "loop.example/g00256/laws.FnExactPlayFifo", spec := "fnExactPlayFifo", apart := false }
def FnExactPlayFifoSaid : Prop := fnExactPlayFifoRow.holds Try.pinned (OpenSpec.ofChange fnExactPlayFifoSpec)

/-- ITS FALSE NEIGHBOUR: 'it returns false'. Refute it at one input. -/
def fnExactPlayFifoWrong : ChangeSpec := { name := "fnExactPlayFifo", fn := fun _ => fun
  | [d1, d2] => { results := [.lit (.bool false)], args := [d1, d2] }
  | _ => none }
def FnExactPlayFifoWrongFalsely : Prop := fnExactPlayFifoRow.holds Try.pinned (OpenSpec.ofChange fnExactPlayFifoWrong)

/-- 'laws.FnExactDistancesOf': WHATEVER THE INPUT: true; the input reads as it did. -/
def fnExactDistancesOfSpec : ChangeSpec := { name := "fnExactDistancesOf", fn := fun _ => fun
  | [d] => { results := [.lit (.bool true)], args := [d] }
  | _ => none }
def fnExactDistancesOfRow : OpenClaim := { program := "yteniompfkfhemaa", sum := "e79d9fc6a444ddcd82c4c6791b1d62a2f37ab0712ef733733eb1c7217a36faa4", func := "loop.example/g00256/laws.FnExactDistancesOf", spec := "fnExactDistancesOf", apart := false }
def FnExactDistancesOfSaid : Prop := fnExactDistancesOfRow.holds Try.pinned (OpenSpec.ofChange fnExactDistancesOfSpec)

/-- ITS FALSE NEIGHBOUR: 'it returns false'. Refute it at one input. -/
def fnExactDistancesOfWrong : ChangeSpec := { name := "fnExactDistancesOf", fn := fun _ => fun
  | [d] => { results := [.lit (.bool false)], args := [d] }
  | _ => none }
def FnExactDistancesOfWrongFalsely : Prop := fnExactDistancesOfRow.holds Try.pinned (OpenSpec.ofChange fnExactDistancesOfWrong)

/-- 'laws.FnExactHitsOf': WHATEVER THE INPUT: true; the input reads as it did. -/
def fnExactHitsOfSpec : ChangeSpec := { name := "fnExactHitsOf", fn := fun _ => fun
  | [d] => { results := [.lit (.bool true)], args := [d] }
  | _ => none }
def fnExactHitsOfRow : OpenClaim := { program := "yteniompfkfhemaa", sum := "e79d9fc6a444ddcd82c4c6791b1d62a2f37ab0712ef733733eb1c7217a36faa4", func := "loop.example/g00256/laws.FnExactHitsOf", spec := "fnExactHitsOf", apart := false }
def FnExactHitsOfSaid : Prop := fnExactHitsOfRow.holds Try.pinned (OpenSpec.ofChange fnExactHitsOfSpec)

/-- ITS FALSE NEIGHBOUR: 'it returns false'. Refute it at one input. -/
def fnExactHitsOfWrong : ChangeSpec := { name := "fnExactHitsOf", fn := fun _ => fun
  | [d] => { results := [.lit (.bool false)], args := [d] }
  | _ => none }
def FnExactHitsOfWrongFalsely : Prop := fnExactHitsOfRow.holds Try.pinned (OpenSpec.ofChange fnExactHitsOfWrong)

/-- 'laws.FnExactStackAfter': WHATEVER THE INPUT: true; the input reads as it did. -/
def fnExactStackAfterSpec : ChangeSpec := { name := "fnExactStackAfter", fn := fun _ => fun
  | [d] => { results := [.lit (.bool true)], args := [d] }
  | _ => none }
def fnExactStackAfterRow : OpenClaim := { program := "yteniompfkfhemaa", sum := "e79d9fc6a444ddcd82c4c6791b1d62a2f37ab0712ef733733eb1c7217a36faa4", func := "loop.example/g00256/laws.FnExactStackAfter", spec := "fnExactStackAfter", apart := false }
def FnExactStackAfterSaid : Prop := fnExactStackAfterRow.holds Try.pinned (OpenSpec.ofChange fnExactStackAfterSpec)

/-- ITS FALSE NEIGHBOUR: 'it returns false'. Refute it at one input. -/
def fnExactStackAfterWrong : ChangeSpec := { name := "fnExactStackAfter", fn := fun _ => fun
  | [d] => { results := [.lit (.bool false)], args := [d] }
  | _ => none }
def FnExactStackAfterWrongFalsely : Prop := fnExactStackAfterRow.holds Try.pinned (OpenSpec.ofChange fnExactStackAfterWrong)

/-- 'laws.FnExactWorkingSet': WHATEVER THE INPUT: true; the input reads as it did. -/
def fnExactWorkingSetSpec : ChangeSpec := { name := "fnExactWorkingSet", fn := fun _ => fun
  | [d1, d2] => { results := [.lit (.bool true)], args := [d1, d2] }
  | _ => none }
def fnExactWorkingSetRow : OpenClaim := { program := "yteniompfkfhemaa", sum := "e79d9fc6a444ddcd82c4c6791b1d62a2f37ab0712ef733733eb1c7217a36faa4", func := "loop.example/g00256/laws.FnExactWorkingSet", spec := "fnExactWorkingSet", apart := false }
def FnExactWorkingSetSaid : Prop := fnExactWorkingSetRow.holds Try.pinned (OpenSpec.ofChange fnExactWorkingSetSpec)

/-- ITS FALSE NEIGHBOUR: 'it returns false'. Refute it at one input. -/
def fnExactWorkingSetWrong : ChangeSpec := { name := "fnExactWorkingSet", fn := fun _ => fun
  | [d1, d2] => { results := [.lit (.bool false)], args := [d1, d2] }
  | _ => none }
def FnExactWorkingSetWrongFalsely : Prop := fnExactWorkingSetRow.holds Try.pinned (OpenSpec.ofChange fnExactWorkingSetWrong)

/- THE SECOND FORM. 'bulk': how many values and letters a reading holds, each counted each time it is reached (what is shared counts as often as it is met; a slice's spare places count too). A statement '..UptoSaid' is the law's where the arguments, and the package variables that the reading takes, are together of bulk at most 1048576: NARROWER than '..Said'. Prove '..Said' where nothing that the law and all that it calls make is longer than what came in: it says more and counts as full. Else prove '..UptoSaid'. A law counts once. -/
mutual
def uptoBulk {H : Type} : DataW H → Nat
  | .lit (.string bytes) => bytes.length + 1
  | .lit _ => 1
  | .nil => 1
  | .ptr d => uptoBulk d + 1
  | .slice elems spare => uptoBulkAll elems + uptoBulkAll spare + 1
  | .agg parts => uptoBulkAll parts + 1
  | .iface _ d => uptoBulk d + 1
  | .map entries => uptoBulkEntries entries + 1
  | .held _ => 1
def uptoBulkAll {H : Type} : List (DataW H) → Nat
  | [] => 0
  | d :: r => uptoBulk d + uptoBulkAll r
def uptoBulkEntries {H : Type} : List (Lit × DataW H) → Nat
  | [] => 0
  | x :: r => uptoBulkEntry x + uptoBulkEntries r
def uptoBulkEntry {H : Type} : Lit × DataW H → Nat
  | (.string bytes, d) => bytes.length + uptoBulk d + 1
  | (_, d) => uptoBulk d + 1
 end
def uptoSmall : (H : Type) → List (DataW H) → Bool := fun _ ds => decide (uptoBulkAll ds ≤ 1048576)
def OpenSpec.upto (s : _root_.Go.ChangeSpec) : _root_.Go.OpenSpec := { _root_.Go.OpenSpec.ofChange s with cond := some uptoSmall }

/-- 'laws.FnInclusion', WHERE WHAT IT READS IS OF BULK AT MOST 1048576: true; the input reads as it did. -/
def fnInclusionUptoRow : OpenClaim := { program := "yteniompfkfhemaa", sum := "e79d9fc6a444ddcd82c4c6791b1d62a2f37ab0712ef733733eb1c7217a36faa4", func := "loop.example/g00256/laws.FnInclusion", spec := "fnInclusion", apart := false, narrowed := true }
def FnInclusionUptoSaid : Prop := fnInclusionUptoRow.holds Try.pinned (OpenSpec.upto fnInclusionSpec)

/-- 'laws.FnHits', WHERE WHAT IT READS IS OF BULK AT MOST 1048576: true; the input reads as it did. -/
def fnHitsUptoRow : OpenClaim := { program := "yteniompfkfhemaa", sum := "e79d9fc6a444ddcd82c4c6791b1d62a2f37ab0712ef733733eb1c7217a36faa4", func := "loop.example/g00256/laws.FnHits", spec := "fnHits", apart := false, narrowed := true }
def FnHitsUptoSaid : Prop := fnHitsUptoRow.holds Try.pinned (OpenSpec.upto fnHitsSpec)

/-- 'laws.FnTouched', WHERE WHAT IT READS IS OF BULK AT MOST 1048576: true; the input reads as it did. -/
def fnTouchedUptoRow : OpenClaim := { program := "yteniompfkfhemaa", sum := "e79d9fc6a444ddcd82c4c6791b1d62a2f37ab0712ef733733eb1c7217a36faa4", func := "loop.example/g00256/laws.FnTouched", spec := "fnTouched", apart := false, narrowed := true }
def FnTouchedUptoSaid : Prop := fnTouchedUptoRow.holds Try.pinned (OpenSpec.upto fnTouchedSpec)

/-- 'laws.FnExactGoodRefs', WHERE WHAT IT READS IS OF BULK AT MOST 1048576: true; the input reads as it did. -/
def fnExactGoodRefsUptoRow : OpenClaim := { program := "yteniompfkfhemaa", sum := "e79d9fc6a444ddcd82c4c6791b1d62a2f37ab0712ef733733eb1c7217a36faa4", func := "loop.example/g00256/laws.FnExactGoodRefs", spec := "fnExactGoodRefs", apart := false, narrowed := true }
def FnExactGoodRefsUptoSaid : Prop := fnExactGoodRefsUptoRow.holds Try.pinned (OpenSpec.upto fnExactGoodRefsSpec)

/-- 'laws.FnExactTouchLru', WHERE WHAT IT READS IS OF BULK AT MOST 1048576: true; the input reads as it did. -/
def fnExactTouchLruUptoRow : OpenClaim := { program := "yteniompfkfhemaa", sum := "e79d9fc6a444ddcd82c4c6791b1d62a2f37ab0712ef733733eb1c7217a36faa4", func := "loop.example/g00256/laws.FnExactTouchLru", spec := "fnExactTouchLru", apart := false, narrowed := true }
def FnExactTouchLruUptoSaid : Prop := fnExactTouchLruUptoRow.holds Try.pinned (OpenSpec.upto fnExactTouchLruSpec)

/-- 'laws.FnExactPlayLru', WHERE WHAT IT READS IS OF BULK AT MOST 1048576: true; the input reads as it did. -/
def fnExactPlayLruUptoRow : OpenClaim := { program := "yteniompfkfhemaa", sum := "e79d9fc6a444ddcd82c4c6791b1d62a2f37ab0712ef733733eb1c7217a36faa4", func := "loop.example/g00256/laws.FnExactPlayLru", spec := "fnExactPlayLru", apart := false, narrowed := true }
def FnExactPlayLruUptoSaid : Prop := fnExactPlayLruUptoRow.holds Try.pinned (OpenSpec.upto fnExactPlayLruSpec)

/-- 'laws.FnExactPlayFifo', WHERE WHAT IT READS IS OF BULK AT MOST 1048576: true; the input reads as it did. -/
def fnExactPlayFifoUptoRow : OpenClaim := { program := "yteniompfkfhemaa", sum := "e79d9fc6a444ddcd82c4c6791b1d62a2f37ab0712ef733733eb1c7217a36faa4", func := "loop.example/g00256/laws.FnExactPlayFifo", spec := "fnExactPlayFifo", apart := false, narrowed := true }
def FnExactPlayFifoUptoSaid : Prop := fnExactPlayFifoUptoRow.holds Try.pinned (OpenSpec.upto fnExactPlayFifoSpec)

/-- 'laws.FnExactDistancesOf', WHERE WHAT IT READS IS OF BULK AT MOST 1048576: true; the input reads as it did. -/
def fnExactDistancesOfUptoRow : OpenClaim := { program := "yteniompfkfhemaa", sum := "e79d9fc6a444ddcd82c4c6791b1d62a2f37ab0712ef733733eb1c7217a36faa4", func := "loop.example/g00256/laws.FnExactDistancesOf", spec := "fnExactDistancesOf", apart := false, narrowed := true }
def FnExactDistancesOfUptoSaid : Prop := fnExactDistancesOfUptoRow.holds Try.pinned (OpenSpec.upto fnExactDistancesOfSpec)

/-- 'laws.FnExactHitsOf', WHERE WHAT IT READS IS OF BULK AT MOST 1048576: true; the input reads as it did. -/
def fnExactHitsOfUptoRow : OpenClaim := { program := "yteniompfkfhemaa", sum := "e79d9fc6a444ddcd82c4c6791b1d62a2f37ab0712ef733733eb1c7217a36faa4", func := "loop.example/g00256/laws.FnExactHitsOf", spec := "fnExactHitsOf", apart := false, narrowed := true }
def FnExactHitsOfUptoSaid : Prop := fnExactHitsOfUptoRow.holds Try.pinned (OpenSpec.upto fnExactHitsOfSpec)

/-- 'laws.FnExactStackAfter', WHERE WHAT IT READS IS OF BULK AT MOST 1048576: true; the input reads as it did. -/
def fnExactStackAfterUptoRow : OpenClaim := { program := "yteniompfkfhemaa", sum := "e79d9fc6a444ddcd82c4c6791b1d62a2f37ab0712ef733733eb1c7217a36faa4", func := "loop.example/g00256/laws.FnExactStackAfter", spec := "fnExactStackAfter", apart := false, narrowed := true }
def FnExactStackAfterUptoSaid : Prop := fnExactStackAfterUptoRow.holds Try.pinned (OpenSpec.upto fnExactStackAfterSpec)

/-- 'laws.FnExactWorkingSet', WHERE WHAT IT READS IS OF BULK AT MOST 1048576: true; the input reads as it did. -/
def fnExactWorkingSetUptoRow : OpenClaim := { program := "yteniompfkfhemaa", sum := "e79d9fc6a444ddcd82c4c6791b1d62a2f37ab0712ef733733eb1c7217a36faa4", func := "loop.example/g00256/laws.FnExactWorkingSet", spec := "fnExactWorkingSet", apart := false, narrowed := true }
def FnExactWorkingSetUptoSaid : Prop := fnExactWorkingSetUptoRow.holds Try.pinned (OpenSpec.upto fnExactWorkingSetSpec)

end Rows
end Go.Proofs.Yteniompfkfhemaa
