/-
  No cell of these rows narrows 'for every input' (looked for: loops, veiled, ifaces, maps, wideKeys, modest, calm, conditions, laid).
  DERIVED. THE GIVEN ROWS OF THIS SEAT. 15 by the template 'for every input the law returns true; each argument reads behind the call as it read before'; 0 by the template 'total and deterministic' (their statements: YtnhbgagdppbldaaTotals.lean).
  GIVEN WITH THE SEED: the statements are not yours to turn. If you find one false, say at which input.
  Laid BY PROGRAM, IN A SANDBOX (cutbox-rows.mjs): the forced cells as the released guide's own fill.sh prints them over the translation 9d8a6f7fd53f3b22… (all of the seat's roots in one cut). By AI agents, Wed Nov 11 2026. No macro, syntax, notation, axiom, sorry.
-/
import Derived.Test.YtnhbgagdppbldaaChecked
import GoSem.Claim
import GoSem.ClaimJoined
import GoSem.ClaimMapViews
import Derived.JoinedTies
import Derived.KernelRfl
namespace Go.Proofs.Ytnhbgagdppbldaa
/- THE CELL 'sum', in the pinned program and in every row, IS THE sha256 OF THE DUMP (.gsa) THAT YtnhbgagdppbldaaProg.lean LOADS. Nothing in Lean hashes anything: it is a label: what it is worth is what the hold of that sum in a sandbox is worth. -/
noncomputable def Try.pinned : Pinned := { name := "ytnhbgagdppbldaa", sum := "9d8a6f7fd53f3b22aa7b888432ea5ac602495a2eed7aff8f97df57ea3db3a1ab", checked := Try.checked }
namespace Rows
def none {H : Type} : Left H := { results := [], args := [] }

/-- 'laws.FnLeaves': WHATEVER THE INPUT: true; the input reads as it did. -/
def fnLeavesSpec : ChangeSpec := { name := "fnLeaves", fn := fun _ => fun
  | [d] => { results := [.lit (.bool true)], args := [d] }
  | _ => none }
def fnLeavesRow : OpenClaim := { program := "ytnhbgagdppbldaa", sum := "9d8a6f7fd53f3b22aa7b888432ea5ac602495a2eed7aff8f97df57ea3db3a1ab", func := "loop.example/g00762/laws.FnLeaves", spec := "fnLeaves", recurses := true, plainKeys := false, apart := false }
def FnLeavesSaid : Prop := fnLeavesRow.holds Try.pinned (OpenSpec.ofChange fnLeavesSpec)

/-- ITS FALSE NEIGHBOUR: 'it returns false'. Refute it at one input. -/
def fnLeavesWrong : ChangeSpec := { name := "fnLeaves", fn := fun _ => fun
  | [d] => { results := [.lit (.bool false)], args := [d] }
  | _ => none }
def FnLeavesWrongFalsely : Prop := fnLeavesRow.holds Try.pinned (OpenSpec.ofChange fnLeavesWrong)

/-- 'laws.FnRange': WHATEVER THE INPUT: true; the input reads as it did. -/
def fnRangeSpec : ChangeSpec := { name := "fnRange", fn := fun _ => fun
  | [d] => { results := [.lit (.bool true)], args := [d] }
  | _ => none }
def fnRangeRow : OpenClaim := { program := "ytnhbgagdppbldaa", sum := "9d8a6f7fd53f3b22aa7b888432ea5ac602495a2eed7aff8f97df57ea3db3a1ab", func := "loop.example/g00762/laws.FnRange", spec := "fnRange", recurses := true, plainKeys := false, apart := false }
def FnRangeSaid : Prop := fnRangeRow.holds Try.pinned (OpenSpec.ofChange fnRangeSpec)

/-- ITS FALSE NEIGHBOUR: 'it returns false'. Refute it at one input. -/
def fnRangeWrong : ChangeSpec := { name := "fnRange", fn := fun _ => fun
  | [d] => { results := [.lit (.bool false)], args := [d] }
  | _ => none }
def FnRangeWrongFalsely : Prop := fnRangeRow.holds Try.pinned (OpenSpec.ofChange fnRangeWrong)

/-- 'laws.FnLeafBox': WHATEVER THE INPUT: true; the input reads as it did. -/
def fnLeafBoxSpec : ChangeSpec := { name := "fnLeafBox", fn := fun _ => fun
  | [d] => { results := [.lit (.bool true)], args := [d] }
  | _ => none }
def fnLeafBoxRow : OpenClaim := { program := "ytnhbgagdppbldaa", sum := "9d8a6f7fd53f3b22aa7b888432ea5ac602495a2eed7aff8f97df57ea3db3a1ab", func := "loop.example/g00762/laws.FnLeafBox", spec := "fnLeafBox", unfollowed := true, recurses := true, plainKeys := false, apart := false }
def FnLeafBoxSaid : Prop := fnLeafBoxRow.holds Try.pinned (OpenSpec.ofChange fnLeafBoxSpec)

/-- ITS FALSE NEIGHBOUR: 'it returns false'. Refute it at one input. -/
def fnLeafBoxWrong : ChangeSpec := { name := "fnLeafBox", fn := fun _ => fun
  | [d] => { results := [.lit (.bool false)], args := [d] }
  | _ => none }
def FnLeafBoxWrongFalsely : Prop := fnLeafBoxRow.holds Try.pinned (OpenSpec.ofChange fnLeafBoxWrong)

/-- 'laws.FnPartition': WHATEVER THE INPUT: true; the input reads as it did. -/
def fnPartitionSpec : ChangeSpec := { name := "fnPartition", fn := fun _ => fun
  | [d] => { results := [.lit (.bool true)], args := [d] }
  | _ => none }
def fnPartitionRow : OpenClaim := { program := "ytnhbgagdppbldaa", sum := "9d8a6f7fd53f3b22aa7b888432ea5ac602495a2eed7aff8f97df57ea3db3a1ab", func := "loop.example/g00762/laws.FnPartition", spec := "fnPartition", unfollowed := true, recurses := true, plainKeys := false, apart := false }
def FnPartitionSaid : Prop := fnPartitionRow.holds Try.pinned (OpenSpec.ofChange fnPartitionSpec)

/-- ITS FALSE NEIGHBOUR: 'it returns false'. Refute it at one input. -/
def fnPartitionWrong : ChangeSpec := { name := "fnPartition", fn := fun _ => fun
  | [d] => { results := [.lit (.bool false)], args := [d] }
  | _ => none }
def FnPartitionWrongFalsely : Prop := fnPartitionRow.holds Try.pinned (OpenSpec.ofChange fnPartitionWrong)

/-- 'laws.FnFull': WHATEVER THE INPUT: true; the input reads as it did. -/
def fnFullSpec : ChangeSpec := { name := "fnFull", fn := fun _ => fun
  | [d] => { results := [.lit (.bool true)], args := [d] }
  | _ => none }
def fnFullRow : OpenClaim := { program := "ytnhbgagdppbldaa", sum := "9d8a6f7fd53f3b22aa7b888432ea5ac602495a2eed7aff8f97df57ea3db3a1ab", func := "loop.example/g00762/laws.FnFull", spec := "fnFull", recurses := true, plainKeys := false, apart := false }
def FnFullSaid : Prop := fnFullRow.holds Try.pinned (OpenSpec.ofChange fnFullSpec)

/-- ITS FALSE NEIGHBOUR: 'it returns false'. Refute it at one input. -/
def fnFullWrong : ChangeSpec := { name := "fnFull", fn := fun _ => fun
  | [d] => { results := [.lit (.bool false)], args := [d] }
  | _ => none }
def FnFullWrongFalsely : Prop := fnFullRow.holds Try.pinned (OpenSpec.ofChange fnFullWrong)

/-- 'laws.FnSpan': WHATEVER THE INPUT: true; the input reads as it did. -/
def fnSpanSpec : ChangeSpec := { name := "fnSpan", fn := fun _ => fun
  | [d] => { results := [.lit (.bool true)], args := [d] }
  | _ => none }
def fnSpanRow : OpenClaim := { program := "ytnhbgagdppbldaa", sum := "9d8a6f7fd53f3b22aa7b888432ea5ac602495a2eed7aff8f97df57ea3db3a1ab", func := "loop.example/g00762/laws.FnSpan", spec := "fnSpan", recurses := true, plainKeys := false, apart := false }
def FnSpanSaid : Prop := fnSpanRow.holds Try.pinned (OpenSpec.ofChange fnSpanSpec)

/-- ITS FALSE NEIGHBOUR: 'it returns false'. Refute it at one input. -/
def fnSpanWrong : ChangeSpec := { name := "fnSpan", fn := fun _ => fun
  | [d] => { results := [.lit (.bool false)], args := [d] }
  | _ => none }
def FnSpanWrongFalsely : Prop := fnSpanRow.holds Try.pinned (OpenSpec.ofChange fnSpanWrong)

/-- 'laws.FnJoin': WHATEVER THE INPUT: true; the input reads as it did. -/
def fnJoinSpec : ChangeSpec := { name := "fnJoin", fn := fun _ => fun
  | [d] => { results := [.lit (.bool true)], args := [d] }
  | _ => none }
def fnJoinRow : OpenClaim := { program := "ytnhbgagdppbldaa", sum := "9d8a6f7fd53f3b22aa7b888432ea5ac602495a2eed7aff8f97df57ea3db3a1ab", func := "loop.example/g00762/laws.FnJoin", spec := "fnJoin", recurses := true, plainKeys := false, apart := false }
def FnJoinSaid : Prop := fnJoinRow.holds Try.pinned (OpenSpec.ofChange fnJoinSpec)

/-- ITS FALSE NEIGHBOUR: 'it returns false'. Refute it at one input. -/
def fnJoinWrong : ChangeSpec := { name := "fnJoin", fn := fun _ => fun
  | [d] => { results := [.lit (.bool false)], args := [d] }
  | _ => none }
def FnJoinWrongFalsely : Prop := fnJoinRow.holds Try.pinned (OpenSpec.ofChange fnJoinWrong)

/-- 'laws.FnTurnedTrees': WHATEVER THE INPUT: true; the input reads as it did. -/
def fnTurnedTreesSpec : ChangeSpec := { name := "fnTurnedTrees", fn := fun _ => fun
  | [d] => { results := [.lit (.bool true)], args := [d] }
  | _ => none }
def fnTurnedTreesRow : OpenClaim := { program := "ytnhbgagdppbldaa", sum := "9d8a6f7fd53f3b22aa7b888432ea5ac602495a2eed7aff8f97df57ea3db3a1ab", func := "loop.example/g00762/laws.FnTurnedTrees", spec := "fnTurnedTrees", recurses := true, plainKeys := false, apart := false }
def FnTurnedTreesSaid : Prop := fnTurnedTreesRow.holds Try.pinned (OpenSpec.ofChange fnTurnedTreesSpec)

/-- ITS FALSE NEIGHBOUR: 'it returns false'. Refute it at one input. -/
def fnTurnedTreesWrong : ChangeSpec := { name := "fnTurnedTrees", fn := fun _ => fun
  | [d] => { results := [.lit (.bool false)], args := [d] }
  | _ => none }
def FnTurnedTreesWrongFalsely : Prop := fnTurnedTreesRow.holds Try.pinned (OpenSpec.ofChange fnTurnedTreesWrong)

/-- 'laws.FnAlone': WHATEVER THE INPUT: true; the input reads as it did. -/
def fnAloneSpec : ChangeSpec := { name := "fnAlone", fn := fun _ => fun
  | [d] => { results := [.lit (.bool true)], args := [d] }
  | _ => none }
def fnAloneRow : OpenClaim := { program := "ytnhbgagdppbldaa", sum := "9d8a6f7fd53f3b22aa7b888432ea5ac602495a2eed7aff8f97df57ea3db3a1ab", func := "loop.example/g00762/laws.FnAlone", spec := "fnAlone", unfollowed := true, recurses := true, plainKeys := false, apart := false }
def FnAloneSaid : Prop := fnAloneRow.holds Try.pinned (OpenSpec.ofChange fnAloneSpec)

/-- ITS FALSE NEIGHBOUR: 'it returns false'. Refute it at one input. -/
def fnAloneWrong : ChangeSpec := { name := "fnAlone", fn := fun _ => fun
  | [d] => { results := [.lit (.bool false)], args := [d] }
  | _ => none }
def FnAloneWrongFalsely : Prop := fnAloneRow.holds Try.pinned (OpenSpec.ofChange fnAloneWrong)

/-- 'laws.FnBias': WHATEVER THE INPUT: true; the input reads as it did. -/
def fnBiasSpec : ChangeSpec := { name := "fnBias", fn := fun _ => fun
  | [d] => { results := [.lit (.bool true)], args := [d] }
  | _ => none }
def fnBiasRow : OpenClaim := { program := "ytnhbgagdppbldaa", sum := "9d8a6f7fd53f3b22aa7b888432ea5ac602495a2eed7aff8f97df57ea3db3a1ab", func := "loop.example/g00762/laws.FnBias", spec := "fnBias", recurses := true, plainKeys := false, apart := false }
def FnBiasSaid : Prop := fnBiasRow.holds Try.pinned (OpenSpec.ofChange fnBiasSpec)

/-- ITS FALSE NEIGHBOUR: 'it returns false'. Refute it at one input. -/
def fnBiasWrong : ChangeSpec := { name := "fnBias", fn := fun _ => fun
  | [d] => { results := [.lit (.bool false)], args := [d] }
  | _ => none }
def FnBiasWrongFalsely : Prop := fnBiasRow.holds Try.pinned (OpenSpec.ofChange fnBiasWrong)

/-- 'laws.FnLeafMore': WHATEVER THE INPUT: true; the input reads as it did. -/
def fnLeafMoreSpec : ChangeSpec := { name := "fnLeafMore", fn := fun _ => fun
  | [d] => { results := [.lit (.bool true)], args := [d] }
  | _ => none }
def fnLeafMoreRow : OpenClaim := { program := "ytnhbgagdppbldaa", sum := "9d8a6f7fd53f3b22aa7b888432ea5ac602495a2eed7aff8f97df57ea3db3a1ab", func := "loop.example/g00762/laws.FnLeafMore", spec := "fnLeafMore", recurses := true, plainKeys := false, apart := false }
def FnLeafMoreSaid : Prop := fnLeafMoreRow.holds Try.pinned (OpenSpec.ofChange fnLeafMoreSpec)

/-- ITS FALSE NEIGHBOUR: 'it returns false'. Refute it at one input. -/
def fnLeafMoreWrong : ChangeSpec := { name := "fnLeafMore", fn := fun _ => fun
  | [d] => { results := [.lit (.bool false)], args := [d] }
  | _ => none }
def FnLeafMoreWrongFalsely : Prop := fnLeafMoreRow.holds Try.pinned (OpenSpec.ofChange fnLeafMoreWrong)

/-- 'laws.FnLeafWithin': WHATEVER THE INPUT: true; the input reads as it did. -/
def fnLeafWithinSpec : ChangeSpec := { name := "fnLeafWithin", fn := fun _ => fun
  | [d] => { results := [.lit (.bool true)], args := [d] }
  | _ => none }
def fnLeafWithinRow : OpenClaim := { program := "ytnhbgagdppbldaa", sum := "9d8a6f7fd53f3b22aa7b888432ea5ac602495a2eed7aff8f97df57ea3db3a1ab", func := "loop.example/g00762/laws.FnLeafWithin", spec := "fnLeafWithin", unfollowed := true, recurses := true, plainKeys := false, apart := false }
def FnLeafWithinSaid : Prop := fnLeafWithinRow.holds Try.pinned (OpenSpec.ofChange fnLeafWithinSpec)

/-- ITS FALSE NEIGHBOUR: 'it returns false'. Refute it at one input. -/
def fnLeafWithinWrong : ChangeSpec := { name := "fnLeafWithin", fn := fun _ => fun
  | [d] => { results := [.lit (.bool false)], args := [d] }
  | _ => none }
def FnLeafWithinWrongFalsely : Prop := fnLeafWithinRow.holds Try.pinned (OpenSpec.ofChange fnLeafWithinWrong)

/-- 'laws.FnExactLeavesOf': WHATEVER THE INPUT: true; the input reads as it did. -/
def fnExactLeavesOfSpec : ChangeSpec := { name := "fnExactLeavesOf", fn := fun _ => fun
  | [d] => { results := [.lit (.bool true)], args := [d] }
  | _ => none }
def fnExactLeavesOfRow : OpenClaim := { program := "ytnhbgagdppbldaa", sum := "9d8a6f7fd53f3b22aa7b888432ea5ac602495a2eed7aff8f97df57ea3db3a1ab", func := "loop.example/g00762/laws.FnExactLeavesOf", spec := "fnExactLeavesOf", recurses := true, plainKeys := false, apart := false }
def FnExactLeavesOfSaid : Prop := fnExactLeavesOfRow.holds Try.pinned (OpenSpec.ofChange fnExactLeavesOfSpec)

/-- ITS FALSE NEIGHBOUR: 'it returns false'. Refute it at one input. -/
def fnExactLeavesOfWrong : ChangeSpec := { name := "fnExactLeavesOf", fn := fun _ => fun
  | [d] => { results := [.lit (.bool false)], args := [d] }
  | _ => none }
def FnExactLeavesOfWrongFalsely : Prop := fnExactLeavesOfRow.holds Try.pinned (OpenSpec.ofChange fnExactLeavesOfWrong)

/-- 'laws.FnExactLeafBox': WHATEVER THE INPUT: true; the input reads as it did. -/
def fnExactLeafBoxSpec : ChangeSpec := { name := "fnExactLeafBox", fn := fun _ => fun
  | [d1, d2, d3] => { results := [.lit (.bool true)], args := [d1, d2, d3] }
  | _ => none }
def fnExactLeafBoxRow : OpenClaim := { program := "ytnhbgagdppbldaa", sum := "9d8a6f7fd53f3b22aa7b888432ea5ac602495a2eed7aff8f97df57ea3db3a1ab", func := "loop.example/g00762/laws.FnExactLeafBox", spec := "fnExactLeafBox", unfollowed := true, recurses := true, plainKeys := false, apart := false }
def FnExactLeafBoxSaid : Prop := fnExactLeafBoxRow.holds Try.pinned (OpenSpec.ofChange fnExactLeafBoxSpec)

/-- ITS FALSE NEIGHBOUR: 'it returns false'. Refute it at one input. -/
def fnExactLeafBoxWrong : ChangeSpec := { name := "fnExactLeafBox", fn := fun _ => fun
  | [d1, d2, d3] => { results := [.lit (.bool false)], args := [d1, d2, d3] }
  | _ => none }
def FnExactLeafBoxWrongFalsely : Prop := fnExactLeafBoxRow.holds Try.pinned (OpenSpec.ofChange fnExactLeafBoxWrong)

/-- 'laws.FnExactDocBox': WHATEVER THE INPUT: true; the input reads as it did. -/
def fnExactDocBoxSpec : ChangeSpec := { name := "fnExactDocBox", fn := fun _ => fun
  | [d1, d2] => { results := [.lit (.bool true)], args := [d1, d2] }
  | _ => none }
def fnExactDocBoxRow : OpenClaim := { program := "ytnhbgagdppbldaa", sum := "9d8a6f7fd53f3b22aa7b888432ea5ac602495a2eed7aff8f97df57ea3db3a1ab", func := "loop.example/g00762/laws.FnExactDocBox", spec := "fnExactDocBox", unfollowed := true, recurses := true, plainKeys := false, apart := false }
def FnExactDocBoxSaid : Prop := fnExactDocBoxRow.holds Try.pinned (OpenSpec.ofChange fnExactDocBoxSpec)

/-- ITS FALSE NEIGHBOUR: 'it returns false'. Refute it at one input. -/
def fnExactDocBoxWrong : ChangeSpec := { name := "fnExactDocBox", fn := fun _ => fun
  | [d1, d2] => { results := [.lit (.bool false)], args := [d1, d2] }
  | _ => none }
def FnExactDocBoxWrongFalsely : Prop := fnExactDocBoxRow.holds Try.pinned (OpenSpec.ofChange fnExactDocBoxWrong)

/- THE SECOND FORM. 'bulk': how many values and letters a reading holds, each counted each time it is reached (what is shared counts as often as it is met; a slice's spare places count too). A statement '..UptoSaid' is the law's where the arguments, and the package variables that the reading takes, are together of bulk at most 1048576: NARROWER than '..Said'. Prove '..Said' where nothing that the law and all that it calls make is longer than what came in: it says more and counts as full. Else prove '..UptoSaid'. A law counts once. -/
mutual
def uptoBulk {H : Type} : DataW H → Nat
  | .lit (.string bytes) => bytes.length + 1
  | .lit _ => 1
  | .nil => 1
  | .ptr d => uptoBulk d + 1
  | .slice elems spare => uptoBulkAll elems + uptoBulkAll spare + 1
  | .agg parts => uptoBulkAll parts + 1
  | .iface _ d => uptoBulk d + 1
  | .map entries => uptoBulkEntries entries + 1
  | .held _ => 1
def uptoBulkAll {H : Type} : List (DataW H) → Nat
  | [] => 0
  | d :: r => uptoBulk d + uptoBulkAll r
def uptoBulkEntries {H : Type} : List (Lit × DataW H) → Nat
  | [] => 0
  | x :: r => uptoBulkEntry x + uptoBulkEntries r
def uptoBulkEntry {H : Type} : Lit × DataW H → Nat
  | (.string bytes, d) => bytes.length + uptoBulk d + 1
  | (_, d) => uptoBulk d + 1
 end
def uptoSmall : (H : Type) → List (DataW H) → Bool := fun _ ds => decide (uptoBulkAll ds ≤ 1048576)
def OpenSpec.upto (s : _root_.Go.ChangeSpec) : _root_.Go.OpenSpec := { _root_.Go.OpenSpec.ofChange s with cond := some uptoSmall }

/-- 'laws.FnLeaves', WHERE WHAT IT READS IS OF BULK AT MOST 1048576: true; the input reads as it did. -/
def fnLeavesUptoRow : OpenClaim := { program := "ytnhbgagdppbldaa", sum := "9d8a6f7fd53f3b22aa7b888432ea5ac602495a2eed7aff8f97df57ea3db3a1ab", func := "loop.example/g00762/laws.FnLeaves", spec := "fnLeaves", recurses := true, plainKeys := false, apart := false, narrowed := true }
def FnLeavesUptoSaid : Prop := fnLeavesUptoRow.holds Try.pinned (OpenSpec.upto fnLeavesSpec)

/-- 'laws.FnRange', WHERE WHAT IT READS IS OF BULK AT MOST 1048576: true; the input reads as it did. -/
def fnRangeUptoRow : OpenClaim := { program := "ytnhbgagdppbldaa", sum := "9d8a6f7fd53f3b22aa7b888432ea5ac602495a2eed7aff8f97df57ea3db3a1ab", func := "loop.example/g00762/laws.FnRange", spec := "fnRange", recurses := true, plainKeys := false, apart := false, narrowed := true }
def FnRangeUptoSaid : Prop := fnRangeUptoRow.holds Try.pinned (OpenSpec.upto fnRangeSpec)

/-- 'laws.FnLeafBox', WHERE WHAT IT READS IS OF BULK AT MOST 1048576: true; the input reads as it did. -/
def fnLeafBoxUptoRow : OpenClaim := { program := "ytnhbgagdppbldaa", sum := "9d8a6f7fd53f3b22aa7b888432ea5ac602495a2eed7aff8f97df57ea3db3a1ab", func := "loop.example/g00762/laws.FnLeafBox", spec := "fnLeafBox", unfollowed := true, recurses := true, plainKeys := false, apart := false, narrowed := true }
def FnLeafBoxUptoSaid : Prop := fnLeafBoxUptoRow.holds Try.pinned (OpenSpec.upto fnLeafBoxSpec)

/-- 'laws.FnPartition', WHERE WHAT IT READS IS OF BULK AT MOST 1048576: true; the input reads as it did. -/
def fnPartitionUptoRow : OpenClaim := { program := "ytnhbgagdppbldaa", sum := "9d8a6f7fd53f3b22aa7b888432ea5ac602495a2eed7aff8f97df57ea3db3a1ab", func := "loop.example/g00762/laws.FnPartition", spec := "fnPartition", unfollowed := true, recurses := true, plainKeys := false, apart := false, narrowed := true }
def FnPartitionUptoSaid : Prop := fnPartitionUptoRow.holds Try.pinned (OpenSpec.upto fnPartitionSpec)

/-- 'laws.FnFull', WHERE WHAT IT READS IS OF BULK AT MOST 1048576: true; the input reads as it did. -/
def fnFullUptoRow : OpenClaim := { program := "ytnhbgagdppbldaa", sum := "9d8a6f7fd53f3b22aa7b888432ea5ac602495a2eed7aff8f97df57ea3db3a1ab", func := "loop.example/g00762/laws.FnFull", spec := "fnFull", recurses := true, plainKeys := false, apart := false, narrowed := true }
def FnFullUptoSaid : Prop := fnFullUptoRow.holds Try.pinned (OpenSpec.upto fnFullSpec)

/-- 'laws.FnSpan', WHERE WHAT IT READS IS OF BULK AT MOST 1048576: true; the input reads as it did. -/
def fnSpanUptoRow : OpenClaim := { program := "ytnhbgagdppbldaa", sum := "9d8a6f7fd53f3b22aa7b888432ea5ac602495a2eed7aff8f97df57ea3db3a1ab", func := "loop.example/g00762/laws.FnSpan", spec := "fnSpan", recurses := true, plainKeys := false, apart := false, narrowed := true }
def FnSpanUptoSaid : Prop := fnSpanUptoRow.holds Try.pinned (OpenSpec.upto fnSpanSpec)

/-- 'laws.FnJoin', WHERE WHAT IT READS IS OF BULK AT MOST 1048576: true; the input reads as it did. -/
def fnJoinUptoRow : OpenClaim := { program := "ytnhbgagdppbldaa", sum := "9d8a6f7fd53f3b22aa7b888432ea5ac602495a2eed7aff8f97df57ea3db3a1ab", func := "loop.example/g00762/laws.FnJoin", spec := "fnJoin", recurses := true, plainKeys := false, apart := false, narrowed := true }
def FnJoinUptoSaid : Prop := fnJoinUptoRow.holds Try.pinned (OpenSpec.upto fnJoinSpec)

/-- 'laws.FnTurnedTrees', WHERE WHAT IT READS IS OF BULK AT MOST 1048576: true; the input reads as it did. -/
def fnTurnedTreesUptoRow : OpenClaim := { program := "ytnhbgagdppbldaa", sum := "9d8a6f7fd53f3b22aa7b888432ea5ac602495a2eed7aff8f97df57ea3db3a1ab", func := "loop.example/g00762/laws.FnTurnedTrees", spec := "fnTurnedTrees", recurses := true, plainKeys := false, apart := false, narrowed := true }
def FnTurnedTreesUptoSaid : Prop := fnTurnedTreesUptoRow.holds Try.pinned (OpenSpec.upto fnTurnedTreesSpec)

/-- 'laws.FnAlone', WHERE WHAT IT READS IS OF BULK AT MOST 1048576: true; the input reads as it did. -/
def fnAloneUptoRow : OpenClaim := { program := "ytnhbgagdppbldaa", sum := "9d8a6f7fd53f3b22aa7b888432ea5ac602495a2eed7aff8f97df57ea3db3a1ab", func := "loop.example/g00762/laws.FnAlone", spec := "fnAlone", unfollowed := true, recurses := true, plainKeys := false, apart := false, narrowed := true }
def FnAloneUptoSaid : Prop := fnAloneUptoRow.holds Try.pinned (OpenSpec.upto fnAloneSpec)

/-- 'laws.FnBias', WHERE WHAT IT READS IS OF BULK AT MOST 1048576: true; the input reads as it did. -/
def fnBiasUptoRow : OpenClaim := { program := "ytnhbgagdppbldaa", sum := "9d8a6f7fd53f3b22aa7b888432ea5ac602495a2eed7aff8f97df57ea3db3a1ab", func := "loop.example/g00762/laws.FnBias", spec := "fnBias", recurses := true, plainKeys := false, apart := false, narrowed := true }
def FnBiasUptoSaid : Prop := fnBiasUptoRow.holds Try.pinned (OpenSpec.upto fnBiasSpec)

/-- 'laws.FnLeafMore', WHERE WHAT IT READS IS OF BULK AT MOST 1048576: true; the input reads as it did. -/
def fnLeafMoreUptoRow : OpenClaim := { program := "ytnhbgagdppbldaa", sum := "9d8a6f7fd53f3b22aa7b888432ea5ac602495a2eed7aff8f97df57ea3db3a1ab", func := "loop.example/g00762/laws.FnLeafMore", spec := "fnLeafMore", recurses := true, plainKeys := false, apart := false, narrowed := true }
def FnLeafMoreUptoSaid : Prop := fnLeafMoreUptoRow.holds Try.pinned (OpenSpec.upto fnLeafMoreSpec)

/-- 'laws.FnLeafWithin', WHERE WHAT IT READS IS OF BULK AT MOST 1048576: true; the input reads as it did. -/
def fnLeafWithinUptoRow : OpenClaim := { program := "ytnhbgagdppbldaa", sum := "9d8a6f7fd53f3b22aa7b888432ea5ac602495a2eed7aff8f97df57ea3db3a1ab", func := "loop.example/g00762/laws.FnLeafWithin", spec := "fnLeafWithin", unfollowed := true, recurses := true, plainKeys := false, apart := false, narrowed := true }
def FnLeafWithinUptoSaid : Prop := fnLeafWithinUptoRow.holds Try.pinned (OpenSpec.upto fnLeafWithinSpec)

/-- 'laws.FnExactLeavesOf', WHERE WHAT IT READS IS OF BULK AT MOST 1048576: true; the input reads as it did. -/
def fnExactLeavesOfUptoRow : OpenClaim := { program := "ytnhbgagdppbldaa", sum := "9d8a6f7fd53f3b22aa7b888432ea5ac602495a2eed7aff8f97df57ea3db3a1ab", func := "loop.example/g00762/laws.FnExactLeavesOf", spec := "fnExactLeavesOf", recurses := true, plainKeys := false, apart := false, narrowed := true }
def FnExactLeavesOfUptoSaid : Prop := fnExactLeavesOfUptoRow.holds Try.pinned (OpenSpec.upto fnExactLeavesOfSpec)

/-- 'laws.FnExactLeafBox', WHERE WHAT IT READS IS OF BULK AT MOST 1048576: true; the input reads as it did. -/
def fnExactLeafBoxUptoRow : OpenClaim := { program := "ytnhbgagdppbldaa", sum := "9d8a6f7fd53f3b22aa7b888432ea5ac602495a2eed7aff8f97df57ea3db3a1ab", func := "loop.example/g00762/laws.FnExactLeafBox", spec := "fnExactLeafBox", unfollowed := true, recurses := true, plainKeys := false, apart := false, narrowed := true }
def FnExactLeafBoxUptoSaid : Prop := fnExactLeafBoxUptoRow.holds Try.pinned (OpenSpec.upto fnExactLeafBoxSpec)

/-- 'laws.FnExactDocBox', WHERE WHAT IT READS IS OF BULK AT MOST 1048576: true; the input reads as it did. -/
def fnExactDocBoxUptoRow : OpenClaim := { program := "ytnhbgagdppbldaa", sum := "9d8a6f7fd53f3b22aa7b888432ea5ac602495a2eed7aff8f97df57ea3db3a1ab", func := "loop.example/g00762/laws.FnExactDocBox", spec := "fnExactDocBox", unfollowed := true, recurses := true, plainKeys := false, apart := false, narrowed := true }
def FnExactDocBoxUptoSaid : Prop := fnExactDocBoxUptoRow.holds Try.pinned (OpenSpec.upto fnExactDocBoxSpec)

end Rows
end Go.Proofs.Ytnhbgagdppbldaa
