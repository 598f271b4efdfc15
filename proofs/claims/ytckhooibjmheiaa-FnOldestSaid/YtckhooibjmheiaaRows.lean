/-
  No cell of these rows narrows 'for every input' (looked for: loops, veiled, ifaces, maps, wideKeys, modest, calm, conditions, laid).
  DERIVED. THE GIVEN ROWS OF THIS SEAT. 17 by the template 'for every input the law returns true; each argument reads behind the call as it read before'; 0 by the template 'total and deterministic' (their statements: YtckhooibjmheiaaTotals.lean).
  GIVEN WITH THE SEED: the statements are not yours to turn. If you find one false, say at which input.
  Laid BY PROGRAM, IN A SANDBOX (cutbox-rows.mjs): the forced cells as the released guide's own fill.sh prints them over the translation 2261ec8e8e74f32c… (all of the seat's roots in one cut). By AI agents, Wed Nov 11 2026. No macro, syntax, notation, axiom, sorry.
-/
import Derived.Test.YtckhooibjmheiaaChecked
import GoSem.Claim
import GoSem.ClaimJoined
import GoSem.ClaimMapViews
import Derived.JoinedTies
import Derived.KernelRfl
namespace Go.Proofs.Ytckhooibjmheiaa
/- THE CELL 'sum', in the pinned program and in every row, IS THE sha256 OF THE DUMP (.gsa) THAT YtckhooibjmheiaaProg.lean LOADS. Nothing in Lean hashes anything: it is a label: what it is worth is what the hold of that sum in a sandbox is worth. -/
noncomputable def Try.pinned : Pinned := { name := "ytckhooibjmheiaa", sum := "2261ec8e8e74f32ce782ef473444871d940e7c6f2484685f6ac82f09fc9604ee", checked := Try.checked }
namespace Rows
def none {H : Type} : Left H := { results := [], args := [] }

/-- 'laws.FnGet': WHATEVER THE INPUT: true; the input reads as it did. -/
def fnGetSpec : ChangeSpec := { name := "fnGet", fn := fun _ => fun
  | [d] => { results := [.lit (.bool true)], args := [d] }
  | _ => none }
def fnGetRow : OpenClaim := { program := "ytckhooibjmheiaa", sum := "2261ec8e8e74f32ce782ef473444871d940e7c6f2484685f6ac82f09fc9604ee", func := "loop.example/g00762/laws.FnGet", spec := "fnGet", unfollowed := true, recurses := true, plainKeys := false, apart := false }
def FnGetSaid : Prop := fnGetRow.holds Try.pinned (OpenSpec.ofChange fnGetSpec)

/-- ITS FALSE NEIGHBOUR: 'it returns false'. Refute it at one input. -/
def fnGetWrong : ChangeSpec := { name := "fnGet", fn := fun _ => fun
  | [d] => { results := [.lit (.bool false)], args := [d] }
  | _ => none }
def FnGetWrongFalsely : Prop := fnGetRow.holds Try.pinned (OpenSpec.ofChange fnGetWrong)

/-- 'laws.FnPut': WHATEVER THE INPUT: true; the input reads as it did. -/
def fnPutSpec : ChangeSpec := { name := "fnPut", fn := fun _ => fun
  | [d] => { results := [.lit (.bool true)], args := [d] }
  | _ => none }
def fnPutRow : OpenClaim := { program := "ytckhooibjmheiaa", sum := "2261ec8e8e74f32ce782ef473444871d940e7c6f2484685f6ac82f09fc9604ee", func := "loop.example/g00762/laws.FnPut", spec := "fnPut", unfollowed := true, recurses := true, plainKeys := false, apart := false }
def FnPutSaid : Prop := fnPutRow.holds Try.pinned (OpenSpec.ofChange fnPutSpec)

/-- ITS FALSE NEIGHBOUR: 'it returns false'. Refute it at one input. -/
def fnPutWrong : ChangeSpec := { name := "fnPut", fn := fun _ => fun
  | [d] => { results := [.lit (.bool false)], args := [d] }
  | _ => none }
def FnPutWrongFalsely : Prop := fnPutRow.holds Try.pinned (OpenSpec.ofChange fnPutWrong)

/-- 'laws.FnOldest': WHATEVER THE INPUT: true; the input reads as it did. -/
def fnOldestSpec : ChangeSpec := { name := "fnOldest", fn := fun _ => fun
  | [d] => { results := [.lit (.bool true)], args := [d] }
  | _ => none }
def fnOldestRow : OpenClaim := { program := "ytckhooibjmheiaa", sum := "2261ec8e8e74f32ce782ef473444871d940e7c6f2484685f6ac82f09fc9604ee", func := "loop.example/g00762/laws.FnOldest", spec := "fnOldest", recurses := true, plainKeys := false, apart := false }
def FnOldestSaid : Prop := fnOldestRow.holds Try.pinned (OpenSpec.ofChange fnOldestSpec)

/-- ITS FALSE NEIGHBOUR: 'it returns false'. Refute it at one input. -/
def fnOldestWrong : ChangeSpec := { name := "fnOldest", fn := fun _ => fun
  | [d] => { results := [.lit (.bool false)], args := [d] }
  | _ => none }
def FnOldestWrongFalsely : Prop := fnOldestRow.holds Try.pinned (OpenSpec.ofChange fnOldestWrong)

/-- 'laws.FnMissed': WHATEVER THE INPUT: true; the input reads as it did. -/
def fnMissedSpec : ChangeSpec := { name := "fnMissed", fn := fun _ => fun
  | [d] => { results := [.lit (.bool true)], args := [d] }
  | _ => none }
def fnMissedRow : OpenClaim := { program := "ytckhooibjmheiaa", sum := "2261ec8e8e74f32ce782ef473444871d940e7c6f2484685f6ac82f09fc9604ee", func := "loop.example/g00762/laws.FnMissed", spec := "fnMissed", unfollowed := true, recurses := true, plainKeys := false, apart := false }
def FnMissedSaid : Prop := fnMissedRow.holds Try.pinned (OpenSpec.ofChange fnMissedSpec)

/-- ITS FALSE NEIGHBOUR: 'it returns false'. Refute it at one input. -/
def fnMissedWrong : ChangeSpec := { name := "fnMissed", fn := fun _ => fun
  | [d] => { results := [.lit (.bool false)], args := [d] }
  | _ => none }
def FnMissedWrongFalsely : Prop := fnMissedRow.holds Try.pinned (OpenSpec.ofChange fnMissedWrong)

/-- 'laws.FnExactCacheOk': WHATEVER THE INPUT: true; the input reads as it did. -/
def fnExactCacheOkSpec : ChangeSpec := { name := "fnExactCacheOk", fn := fun _ => fun
  | [d] => { results := [.lit (.bool true)], args := [d] }
  | _ => none }
def fnExactCacheOkRow : OpenClaim := { program := "ytckhooibjmheiaa", sum := "2261ec8e8e74f32ce782ef473444871d940e7c6f2484685f6ac82f09fc9604ee", func := "loop.example/g00762/laws.FnExactCacheOk", spec := "fnExactCacheOk", plainKeys := false, apart := false }
def FnExactCacheOkSaid : Prop := fnExactCacheOkRow.holds Try.pinned (OpenSpec.ofChange fnExactCacheOkSpec)

/-- ITS FALSE NEIGHBOUR: 'it returns false'. Refute it at one input. -/
def fnExactCacheOkWrong : ChangeSpec := { name := "fnExactCacheOk", fn := fun _ => fun
  | [d] => { results := [.lit (.bool false)], args := [d] }
  | _ => none }
def FnExactCacheOkWrongFalsely : Prop := fnExactCacheOkRow.holds Try.pinned (OpenSpec.ofChange fnExactCacheOkWrong)

/-- 'laws.FnExactCacheGet': WHATEVER THE INPUT: true; the input reads as it did. -/
def fnExactCacheGetSpec : ChangeSpec := { name := "fnExactCacheGet", fn := fun _ => fun
  | [d1, d2] => { results := [.lit (.bool true)], args := [d1, d2] }
  | _ => none }
def fnExactCacheGetRow : OpenClaim := { program := "ytckhooibjmheiaa", sum := "2261ec8e8e74f32ce782ef473444871d940e7c6f2484685f6ac82f09fc9604ee", func := "loop.example/g00762/laws.FnExactCacheGet", spec := "fnExactCacheGet", unfollowed := true, recurses := true, plainKeys := false, apart := false }
def FnExactCacheGetSaid : Prop := fnExactCacheGetRow.holds Try.pinned (OpenSpec.ofChange fnExactCacheGetSpec)

/-- ITS FALSE NEIGHBOUR: 'it returns false'. Refute it at one input. -/
def fnExactCacheGetWrong : ChangeSpec := { name := "fnExactCacheGet", fn := fun _ => fun
  | [d1, d2] => { results := [.lit (.bool false)], args := [d1, d2] }
  | _ => none }
def FnExactCacheGetWrongFalsely : Prop := fnExactCacheGetRow.holds Try.pinned (OpenSpec.ofChange fnExactCacheGetWrong)

/-- 'laws.FnExactCachePut': WHATEVER THE INPUT: true; the input reads as it did. -/
def fnExactCachePutSpec : ChangeSpec := { name := "fnExactCachePut", fn := fun _ => fun
  | [d1, d2, d3] => { results := [.lit (.bool true)], args := [d1, d2, d3] }
  | _ => none }
def fnExactCachePutRow : OpenClaim := { program := "ytckhooibjmheiaa", sum := "2261ec8e8e74f32ce782ef473444871d940e7c6f2484685f6ac82f09fc9604ee", func := "loop.example/g00762/laws.FnExactCachePut", spec := "fnExactCachePut", recurses := true, plainKeys := false, apart := false }
def FnExactCachePutSaid : Prop := fnExactCachePutRow.holds Try.pinned (OpenSpec.ofChange fnExactCachePutSpec)

/-- ITS FALSE NEIGHBOUR: 'it returns false'. Refute it at one input. -/
def fnExactCachePutWrong : ChangeSpec := { name := "fnExactCachePut", fn := fun _ => fun
  | [d1, d2, d3] => { results := [.lit (.bool false)], args := [d1, d2, d3] }
  | _ => none }
def FnExactCachePutWrongFalsely : Prop := fnExactCachePutRow.holds Try.pinned (OpenSpec.ofChange fnExactCachePutWrong)

/-- 'laws.FnExactLeafBox': WHATEVER THE INPUT: true; the input reads as it did. -/
def fnExactLeafBoxSpec : ChangeSpec := { name := "fnExactLeafBox", fn := fun _ => fun
  | [d1, d2, d3] => { results := [.lit (.bool true)], args := [d1, d2, d3] }
  | _ => none }
def fnExactLeafBoxRow : OpenClaim := { program := "ytckhooibjmheiaa", sum := "2261ec8e8e74f32ce782ef473444871d940e7c6f2484685f6ac82f09fc9604ee", func := "loop.example/g00762/laws.FnExactLeafBox", spec := "fnExactLeafBox", unfollowed := true, recurses := true, plainKeys := false, apart := false }
def FnExactLeafBoxSaid : Prop := fnExactLeafBoxRow.holds Try.pinned (OpenSpec.ofChange fnExactLeafBoxSpec)

/-- ITS FALSE NEIGHBOUR: 'it returns false'. Refute it at one input. -/
def fnExactLeafBoxWrong : ChangeSpec := { name := "fnExactLeafBox", fn := fun _ => fun
  | [d1, d2, d3] => { results := [.lit (.bool false)], args := [d1, d2, d3] }
  | _ => none }
def FnExactLeafBoxWrongFalsely : Prop := fnExactLeafBoxRow.holds Try.pinned (OpenSpec.ofChange fnExactLeafBoxWrong)

/-- 'laws.FnExactDocBox': WHATEVER THE INPUT: true; the input reads as it did. -/
def fnExactDocBoxSpec : ChangeSpec := { name := "fnExactDocBox", fn := fun _ => fun
  | [d1, d2] => { results := [.lit (.bool true)], args := [d1, d2] }
  | _ => none }
def fnExactDocBoxRow : OpenClaim := { program := "ytckhooibjmheiaa", sum := "2261ec8e8e74f32ce782ef473444871d940e7c6f2484685f6ac82f09fc9604ee", func := "loop.example/g00762/laws.FnExactDocBox", spec := "fnExactDocBox", unfollowed := true, recurses := true, plainKeys := false, apart := false }
def FnExactDocBoxSaid : Prop := fnExactDocBoxRow.holds Try.pinned (OpenSpec.ofChange fnExactDocBoxSpec)

/-- ITS FALSE NEIGHBOUR: 'it returns false'. Refute it at one input. -/
def fnExactDocBoxWrong : ChangeSpec := { name := "fnExactDocBox", fn := fun _ => fun
  | [d1, d2] => { results := [.lit (.bool false)], args := [d1, d2] }
  | _ => none }
def FnExactDocBoxWrongFalsely : Prop := fnExactDocBoxRow.holds Try.pinned (OpenSpec.ofChange fnExactDocBoxWrong)

/-- 'laws.FnLeafBox': WHATEVER THE INPUT: true; the input reads as it did. -/
def fnLeafBoxSpec : ChangeSpec := { name := "fnLeafBox", fn := fun _ => fun
  | [d] => { results := [.lit (.bool true)], args := [d] }
  | _ => none }
def fnLeafBoxRow : OpenClaim := { program := "ytckhooibjmheiaa", sum := "2261ec8e8e74f32ce782ef473444871d940e7c6f2484685f6ac82f09fc9604ee", func := "loop.example/g00762/laws.FnLeafBox", spec := "fnLeafBox", unfollowed := true, recurses := true, plainKeys := false, apart := false }
def FnLeafBoxSaid : Prop := fnLeafBoxRow.holds Try.pinned (OpenSpec.ofChange fnLeafBoxSpec)

/-- ITS FALSE NEIGHBOUR: 'it returns false'. Refute it at one input. -/
def fnLeafBoxWrong : ChangeSpec := { name := "fnLeafBox", fn := fun _ => fun
  | [d] => { results := [.lit (.bool false)], args := [d] }
  | _ => none }
def FnLeafBoxWrongFalsely : Prop := fnLeafBoxRow.holds Try.pinned (OpenSpec.ofChange fnLeafBoxWrong)

/-- 'laws.FnPartition': WHATEVER THE INPUT: true; the input reads as it did. -/
def fnPartitionSpec : ChangeSpec := { name := "fnPartition", fn := fun _ => fun
  | [d] => { results := [.lit (.bool true)], args := [d] }
  | _ => none }
def fnPartitionRow : OpenClaim := { program := "ytckhooibjmheiaa", sum := "2261ec8e8e74f32ce782ef473444871d940e7c6f2484685f6ac82f09fc9604ee", func := "loop.example/g00762/laws.FnPartition", spec := "fnPartition", unfollowed := true, recurses := true, plainKeys := false, apart := false }
def FnPartitionSaid : Prop := fnPartitionRow.holds Try.pinned (OpenSpec.ofChange fnPartitionSpec)

/-- ITS FALSE NEIGHBOUR: 'it returns false'. Refute it at one input. -/
def fnPartitionWrong : ChangeSpec := { name := "fnPartition", fn := fun _ => fun
  | [d] => { results := [.lit (.bool false)], args := [d] }
  | _ => none }
def FnPartitionWrongFalsely : Prop := fnPartitionRow.holds Try.pinned (OpenSpec.ofChange fnPartitionWrong)

/-- 'laws.FnAlone': WHATEVER THE INPUT: true; the input reads as it did. -/
def fnAloneSpec : ChangeSpec := { name := "fnAlone", fn := fun _ => fun
  | [d] => { results := [.lit (.bool true)], args := [d] }
  | _ => none }
def fnAloneRow : OpenClaim := { program := "ytckhooibjmheiaa", sum := "2261ec8e8e74f32ce782ef473444871d940e7c6f2484685f6ac82f09fc9604ee", func := "loop.example/g00762/laws.FnAlone", spec := "fnAlone", unfollowed := true, recurses := true, plainKeys := false, apart := false }
def FnAloneSaid : Prop := fnAloneRow.holds Try.pinned (OpenSpec.ofChange fnAloneSpec)

/-- ITS FALSE NEIGHBOUR: 'it returns false'. Refute it at one input. -/
def fnAloneWrong : ChangeSpec := { name := "fnAlone", fn := fun _ => fun
  | [d] => { results := [.lit (.bool false)], args := [d] }
  | _ => none }
def FnAloneWrongFalsely : Prop := fnAloneRow.holds Try.pinned (OpenSpec.ofChange fnAloneWrong)

/-- 'laws.FnLeafWithin': WHATEVER THE INPUT: true; the input reads as it did. -/
def fnLeafWithinSpec : ChangeSpec := { name := "fnLeafWithin", fn := fun _ => fun
  | [d] => { results := [.lit (.bool true)], args := [d] }
  | _ => none }
def fnLeafWithinRow : OpenClaim := { program := "ytckhooibjmheiaa", sum := "2261ec8e8e74f32ce782ef473444871d940e7c6f2484685f6ac82f09fc9604ee", func := "loop.example/g00762/laws.FnLeafWithin", spec := "fnLeafWithin", unfollowed := true, recurses := true, plainKeys := false, apart := false }
def FnLeafWithinSaid : Prop := fnLeafWithinRow.holds Try.pinned (OpenSpec.ofChange fnLeafWithinSpec)

/-- ITS FALSE NEIGHBOUR: 'it returns false'. Refute it at one input. -/
def fnLeafWithinWrong : ChangeSpec := { name := "fnLeafWithin", fn := fun _ => fun
  | [d] => { results := [.lit (.bool false)], args := [d] }
  | _ => none }
def FnLeafWithinWrongFalsely : Prop := fnLeafWithinRow.holds Try.pinned (OpenSpec.ofChange fnLeafWithinWrong)

/-- 'laws.FnRegion': WHATEVER THE INPUT: true; the input reads as it did. -/
def fnRegionSpec : ChangeSpec := { name := "fnRegion", fn := fun _ => fun
  | [d] => { results := [.lit (.bool true)], args := [d] }
  | _ => none }
def fnRegionRow : OpenClaim := { program := "ytckhooibjmheiaa", sum := "2261ec8e8e74f32ce782ef473444871d940e7c6f2484685f6ac82f09fc9604ee", func := "loop.example/g00762/laws.FnRegion", spec := "fnRegion", unfollowed := true, recurses := true, plainKeys := false, apart := false }
def FnRegionSaid : Prop := fnRegionRow.holds Try.pinned (OpenSpec.ofChange fnRegionSpec)

/-- ITS FALSE NEIGHBOUR: 'it returns false'. Refute it at one input. -/
def fnRegionWrong : ChangeSpec := { name := "fnRegion", fn := fun _ => fun
  | [d] => { results := [.lit (.bool false)], args := [d] }
  | _ => none }
def FnRegionWrongFalsely : Prop := fnRegionRow.holds Try.pinned (OpenSpec.ofChange fnRegionWrong)

/-- 'laws.FnRegionTrees': WHATEVER THE INPUT: true; the input reads as it did. -/
def fnRegionTreesSpec : ChangeSpec := { name := "fnRegionTrees", fn := fun _ => fun
  | [d] => { results := [.lit (.bool true)], args := [d] }
  | _ => none }
def fnRegionTreesRow : OpenClaim := { program := "ytckhooibjmheiaa", sum := "2261ec8e8e74f32ce782ef473444871d940e7c6f2484685f6ac82f09fc9604ee", func := "loop.example/g00762/laws.FnRegionTrees", spec := "fnRegionTrees", unfollowed := true, recurses := true, plainKeys := false, apart := false }
def FnRegionTreesSaid : Prop := fnRegionTreesRow.holds Try.pinned (OpenSpec.ofChange fnRegionTreesSpec)

/-- ITS FALSE NEIGHBOUR: 'it returns false'. Refute it at one input. -/
def fnRegionTreesWrong : ChangeSpec := { name := "fnRegionTrees", fn := fun _ => fun
  | [d] => { results := [.lit (.bool false)], args := [d] }
  | _ => none }
def FnRegionTreesWrongFalsely : Prop := fnRegionTreesRow.holds Try.pinned (OpenSpec.ofChange fnRegionTreesWrong)

/-- 'laws.FnExactRegionOf': WHATEVER THE INPUT: true; the input reads as it did. -/
def fnExactRegionOfSpec : ChangeSpec := { name := "fnExactRegionOf", fn := fun _ => fun
  | [d1, d2] => { results := [.lit (.bool true)], args := [d1, d2] }
  | _ => none }
def fnExactRegionOfRow : OpenClaim := { program := "ytckhooibjmheiaa", sum := "2261ec8e8e74f32ce782ef473444871d940e7c6f2484685f6ac82f09fc9604ee", func := "loop.example/g00762/laws.FnExactRegionOf", spec := "fnExactRegionOf", unfollowed := true, recurses := true, plainKeys := false, apart := false }
def FnExactRegionOfSaid : Prop := fnExactRegionOfRow.holds Try.pinned (OpenSpec.ofChange fnExactRegionOfSpec)

/-- ITS FALSE NEIGHBOUR: 'it returns false'. Refute it at one input. -/
def fnExactRegionOfWrong : ChangeSpec := { name := "fnExactRegionOf", fn := fun _ => fun
  | [d1, d2] => { results := [.lit (.bool false)], args := [d1, d2] }
  | _ => none }
def FnExactRegionOfWrongFalsely : Prop := fnExactRegionOfRow.holds Try.pinned (OpenSpec.ofChange fnExactRegionOfWrong)

/-- 'laws.FnExactCmdOk': WHATEVER THE INPUT: true; the input reads as it did. -/
def fnExactCmdOkSpec : ChangeSpec := { name := "fnExactCmdOk", fn := fun _ => fun
  | [d] => { results := [.lit (.bool true)], args := [d] }
  | _ => none }
def fnExactCmdOkRow : OpenClaim := { program := "ytckhooibjmheiaa", sum := "2261ec8e8e74f32ce782ef473444871d940e7c6f2484685f6ac82f09fc9604ee", func := "loop.example/g00762/laws.FnExactCmdOk", spec := "fnExactCmdOk", inPlace := ["internal/bytealg.IndexByteString", "internal/bytealg.IndexString"], named := ["internal/bytealg.MaxLen"], plainKeys := false, apart := false }
def FnExactCmdOkSaid : Prop := fnExactCmdOkRow.holds Try.pinned (OpenSpec.ofChange fnExactCmdOkSpec)

/-- ITS FALSE NEIGHBOUR: 'it returns false'. Refute it at one input. -/
def fnExactCmdOkWrong : ChangeSpec := { name := "fnExactCmdOk", fn := fun _ => fun
  | [d] => { results := [.lit (.bool false)], args := [d] }
  | _ => none }
def FnExactCmdOkWrongFalsely : Prop := fnExactCmdOkRow.holds Try.pinned (OpenSpec.ofChange fnExactCmdOkWrong)

/- THE SECOND FORM. 'bulk': how many values and letters a reading holds, each counted each time it is reached (what is shared counts as often as it is met; a slice's spare places count too). A statement '..UptoSaid' is the law's where the arguments, and the package variables that the reading takes, are together of bulk at most 1048576: NARROWER than '..Said'. Prove '..Said' where nothing that the law and all that it calls make is longer than what came in: it says more and counts as full. Else prove '..UptoSaid'. A law counts once. -/
mutual
def uptoBulk {H : Type} : DataW H → Nat
  | .lit (.string bytes) => bytes.length + 1
  | .lit _ => 1
  | .nil => 1
  | .ptr d => uptoBulk d + 1
  | .slice elems spare => uptoBulkAll elems + uptoBulkAll spare + 1
  | .agg parts => uptoBulkAll parts + 1
  | .iface _ d => uptoBulk d + 1
  | .map entries => uptoBulkEntries entries + 1
  | .held _ => 1
def uptoBulkAll {H : Type} : List (DataW H) → Nat
  | [] => 0
  | d :: r => uptoBulk d + uptoBulkAll r
def uptoBulkEntries {H : Type} : List (Lit × DataW H) → Nat
  | [] => 0
  | x :: r => uptoBulkEntry x + uptoBulkEntries r
def uptoBulkEntry {H : Type} : Lit × DataW H → Nat
  | (.string bytes, d) => bytes.length + uptoBulk d + 1
  | (_, d) => uptoBulk d + 1
 end
def uptoSmall : (H : Type) → List (DataW H) → Bool := fun _ ds => decide (uptoBulkAll ds ≤ 1048576)
def OpenSpec.upto (s : _root_.Go.ChangeSpec) : _root_.Go.OpenSpec := { _root_.Go.OpenSpec.ofChange s with cond := some uptoSmall }

/-- 'laws.FnGet', WHERE WHAT IT READS IS OF BULK AT MOST 1048576: true; the input reads as it did. -/
def fnGetUptoRow : OpenClaim := { program := "ytckhooibjmheiaa", sum := "2261ec8e8e74f32ce782ef473444871d940e7c6f2484685f6ac82f09fc9604ee", func := "loop.example/g00762/laws.FnGet", spec := "fnGet", unfollowed := true, recurses := true, plainKeys := false, apart := false, narrowed := true }
def FnGetUptoSaid : Prop := fnGetUptoRow.holds Try.pinned (OpenSpec.upto fnGetSpec)

/-- 'laws.FnPut', WHERE WHAT IT READS IS OF BULK AT MOST 1048576: true; the input reads as it did. -/
def fnPutUptoRow : OpenClaim := { program := "ytckhooibjmheiaa", sum := "2261ec8e8e74f32ce782ef473444871d940e7c6f2484685f6ac82f09fc9604ee", func := "loop.example/g00762/laws.FnPut", spec := "fnPut", unfollowed := true, recurses := true, plainKeys := false, apart := false, narrowed := true }
def FnPutUptoSaid : Prop := fnPutUptoRow.holds Try.pinned (OpenSpec.upto fnPutSpec)

/-- 'laws.FnOldest', WHERE WHAT IT READS IS OF BULK AT MOST 1048576: true; the input reads as it did. -/
def fnOldestUptoRow : OpenClaim := { program := "ytckhooibjmheiaa", sum := "2261ec8e8e74f32ce782ef473444871d940e7c6f2484685f6ac82f09fc9604ee", func := "loop.example/g00762/laws.FnOldest", spec := "fnOldest", recurses := true, plainKeys := false, apart := false, narrowed := true }
def FnOldestUptoSaid : Prop := fnOldestUptoRow.holds Try.pinned (OpenSpec.upto fnOldestSpec)

/-- 'laws.FnMissed', WHERE WHAT IT READS IS OF BULK AT MOST 1048576: true; the input reads as it did. -/
def fnMissedUptoRow : OpenClaim := { program := "ytckhooibjmheiaa", sum := "2261ec8e8e74f32ce782ef473444871d940e7c6f2484685f6ac82f09fc9604ee", func := "loop.example/g00762/laws.FnMissed", spec := "fnMissed", unfollowed := true, recurses := true, plainKeys := false, apart := false, narrowed := true }
def FnMissedUptoSaid : Prop := fnMissedUptoRow.holds Try.pinned (OpenSpec.upto fnMissedSpec)

/-- 'laws.FnExactCacheOk', WHERE WHAT IT READS IS OF BULK AT MOST 1048576: true; the input reads as it did. -/
def fnExactCacheOkUptoRow : OpenClaim := { program := "ytckhooibjmheiaa", sum := "2261ec8e8e74f32ce782ef473444871d940e7c6f2484685f6ac82f09fc9604ee", func := "loop.example/g00762/laws.FnExactCacheOk", spec := "fnExactCacheOk", plainKeys := false, apart := false, narrowed := true }
def FnExactCacheOkUptoSaid : Prop := fnExactCacheOkUptoRow.holds Try.pinned (OpenSpec.upto fnExactCacheOkSpec)

/-- 'laws.FnExactCacheGet', WHERE WHAT IT READS IS OF BULK AT MOST 1048576: true; the input reads as it did. -/
def fnExactCacheGetUptoRow : OpenClaim := { program := "ytckhooibjmheiaa", sum := "2261ec8e8e74f32ce782ef473444871d940e7c6f2484685f6ac82f09fc9604ee", func := "loop.example/g00762/laws.FnExactCacheGet", spec := "fnExactCacheGet", unfollowed := true, recurses := true, plainKeys := false, apart := false, narrowed := true }
def FnExactCacheGetUptoSaid : Prop := fnExactCacheGetUptoRow.holds Try.pinned (OpenSpec.upto fnExactCacheGetSpec)

/-- 'laws.FnExactCachePut', WHERE WHAT IT READS IS OF BULK AT MOST 1048576: true; the input reads as it did. -/
def fnExactCachePutUptoRow : OpenClaim := { program := "ytckhooibjmheiaa", sum := "2261ec8e8e74f32ce782ef473444871d940e7c6f2484685f6ac82f09fc9604ee", func := "loop.example/g00762/laws.FnExactCachePut", spec := "fnExactCachePut", recurses := true, plainKeys := false, apart := false, narrowed := true }
def FnExactCachePutUptoSaid : Prop := fnExactCachePutUptoRow.holds Try.pinned (OpenSpec.upto fnExactCachePutSpec)

/-- 'laws.FnExactLeafBox', WHERE WHAT IT READS IS OF BULK AT MOST 1048576: true; the input reads as it did. -/
def fnExactLeafBoxUptoRow : OpenClaim := { program := "ytckhooibjmheiaa", sum := "2261ec8e8e74f32ce782ef473444871d940e7c6f2484685f6ac82f09fc9604ee", func := "loop.example/g00762/laws.FnExactLeafBox", spec := "fnExactLeafBox", unfollowed := true, recurses := true, plainKeys := false, apart := false, narrowed := true }
def FnExactLeafBoxUptoSaid : Prop := fnExactLeafBoxUptoRow.holds Try.pinned (OpenSpec.upto fnExactLeafBoxSpec)

/-- 'laws.FnExactDocBox', WHERE WHAT IT READS IS OF BULK AT MOST 1048576: true; the input reads as it did. -/
def fnExactDocBoxUptoRow : OpenClaim := { program := "ytckhooibjmheiaa", sum := "2261ec8e8e74f32ce782ef473444871d940e7c6f2484685f6ac82f09fc9604ee", func := "loop.example/g00762/laws.FnExactDocBox", spec := "fnExactDocBox", unfollowed := true, recurses := true, plainKeys := false, apart := false, narrowed := true }
def FnExactDocBoxUptoSaid : Prop := fnExactDocBoxUptoRow.holds Try.pinned (OpenSpec.upto fnExactDocBoxSpec)

/-- 'laws.FnLeafBox', WHERE WHAT IT READS IS OF BULK AT MOST 1048576: true; the input reads as it did. -/
def fnLeafBoxUptoRow : OpenClaim := { program := "ytckhooibjmheiaa", sum := "2261ec8e8e74f32ce782ef473444871d940e7c6f2484685f6ac82f09fc9604ee", func := "loop.example/g00762/laws.FnLeafBox", spec := "fnLeafBox", unfollowed := true, recurses := true, plainKeys := false, apart := false, narrowed := true }
def FnLeafBoxUptoSaid : Prop := fnLeafBoxUptoRow.holds Try.pinned (OpenSpec.upto fnLeafBoxSpec)

/-- 'laws.FnPartition', WHERE WHAT IT READS IS OF BULK AT MOST 1048576: true; the input reads as it did. -/
def fnPartitionUptoRow : OpenClaim := { program := "ytckhooibjmheiaa", sum := "2261ec8e8e74f32ce782ef473444871d940e7c6f2484685f6ac82f09fc9604ee", func := "loop.example/g00762/laws.FnPartition", spec := "fnPartition", unfollowed := true, recurses := true, plainKeys := false, apart := false, narrowed := true }
def FnPartitionUptoSaid : Prop := fnPartitionUptoRow.holds Try.pinned (OpenSpec.upto fnPartitionSpec)

/-- 'laws.FnAlone', WHERE WHAT IT READS IS OF BULK AT MOST 1048576: true; the input reads as it did. -/
def fnAloneUptoRow : OpenClaim := { program := "ytckhooibjmheiaa", sum := "2261ec8e8e74f32ce782ef473444871d940e7c6f2484685f6ac82f09fc9604ee", func := "loop.example/g00762/laws.FnAlone", spec := "fnAlone", unfollowed := true, recurses := true, plainKeys := false, apart := false, narrowed := true }
def FnAloneUptoSaid : Prop := fnAloneUptoRow.holds Try.pinned (OpenSpec.upto fnAloneSpec)

/-- 'laws.FnLeafWithin', WHERE WHAT IT READS IS OF BULK AT MOST 1048576: true; the input reads as it did. -/
def fnLeafWithinUptoRow : OpenClaim := { program := "ytckhooibjmheiaa", sum := "2261ec8e8e74f32ce782ef473444871d940e7c6f2484685f6ac82f09fc9604ee", func := "loop.example/g00762/laws.FnLeafWithin", spec := "fnLeafWithin", unfollowed := true, recurses := true, plainKeys := false, apart := false, narrowed := true }
def FnLeafWithinUptoSaid : Prop := fnLeafWithinUptoRow.holds Try.pinned (OpenSpec.upto fnLeafWithinSpec)

/-- 'laws.FnRegion', WHERE WHAT IT READS IS OF BULK AT MOST 1048576: true; the input reads as it did. -/
def fnRegionUptoRow : OpenClaim := { program := "ytckhooibjmheiaa", sum := "2261ec8e8e74f32ce782ef473444871d940e7c6f2484685f6ac82f09fc9604ee", func := "loop.example/g00762/laws.FnRegion", spec := "fnRegion", unfollowed := true, recurses := true, plainKeys := false, apart := false, narrowed := true }
def FnRegionUptoSaid : Prop := fnRegionUptoRow.holds Try.pinned (OpenSpec.upto fnRegionSpec)

/-- 'laws.FnRegionTrees', WHERE WHAT IT READS IS OF BULK AT MOST 1048576: true; the input reads as it did. -/
def fnRegionTreesUptoRow : OpenClaim := { program := "ytckhooibjmheiaa", sum := "2261ec8e8e74f32ce782ef473444871d940e7c6f2484685f6ac82f09fc9604ee", func := "loop.example/g00762/laws.FnRegionTrees", spec := "fnRegionTrees", unfollowed := true, recurses := true, plainKeys := false, apart := false, narrowed := true }
def FnRegionTreesUptoSaid : Prop := fnRegionTreesUptoRow.holds Try.pinned (OpenSpec.upto fnRegionTreesSpec)

/-- 'laws.FnExactRegionOf', WHERE WHAT IT READS IS OF BULK AT MOST 1048576: true; the input reads as it did. -/
def fnExactRegionOfUptoRow : OpenClaim := { program := "ytckhooibjmheiaa", sum := "2261ec8e8e74f32ce782ef473444871d940e7c6f2484685f6ac82f09fc9604ee", func := "loop.example/g00762/laws.FnExactRegionOf", spec := "fnExactRegionOf", unfollowed := true, recurses := true, plainKeys := false, apart := false, narrowed := true }
def FnExactRegionOfUptoSaid : Prop := fnExactRegionOfUptoRow.holds Try.pinned (OpenSpec.upto fnExactRegionOfSpec)

/-- 'laws.FnExactCmdOk', WHERE WHAT IT READS IS OF BULK AT MOST 1048576: true; the input reads as it did. -/
def fnExactCmdOkUptoRow : OpenClaim := { program := "ytckhooibjmheiaa", sum := "2261ec8e8e74f32ce782ef473444871d940e7c6f2484685f6ac82f09fc9604ee", func := "loop.example/g00762/laws.FnExactCmdOk", spec := "fnExactCmdOk", inPlace := ["internal/bytealg.IndexByteString", "internal/bytealg.IndexString"], named := ["internal/bytealg.MaxLen"], plainKeys := false, apart := false, narrowed := true }
def FnExactCmdOkUptoSaid : Prop := fnExactCmdOkUptoRow.holds Try.pinned (OpenSpec.upto fnExactCmdOkSpec)

end Rows
end Go.Proofs.Ytckhooibjmheiaa
