/-
  No cell of these rows narrows 'for every input' (looked for: loops, veiled, ifaces, maps, wideKeys, modest, calm, conditions, laid).
  DERIVED. THE GIVEN ROWS OF THIS SEAT. 13 by the template 'for every input the law returns true; each argument reads behind the call as it read before'; 0 by the template 'total and deterministic' (their statements: YtmpgefpaoogoiaaTotals.lean).
  GIVEN WITH THE SEED: the statements are not yours to turn. If you find one false, say at which input.
  Laid BY PROGRAM, IN A SANDBOX (cutbox-rows.mjs): the forced cells as the released guide's own fill.sh prints them over the translation 5c795cfb06aa74c4… (all of the seat's roots in one cut). By AI agents, Wed Nov 11 2026. No macro, syntax, notation, axiom, sorry.
-/
import Derived.Test.YtmpgefpaoogoiaaChecked
import GoSem.Claim
import GoSem.ClaimJoined
import GoSem.ClaimMapViews
import Derived.JoinedTies
import Derived.KernelRfl
namespace Go.Proofs.Ytmpgefpaoogoiaa
/- THE CELL 'sum', in the pinned program and in every row, IS THE sha256 OF THE DUMP (.gsa) THAT YtmpgefpaoogoiaaProg.lean LOADS. Nothing in Lean hashes anything: it is a label: what it is worth is what the hold of that sum in a sandbox is worth. -/
noncomputable def Try.pinned : Pinned := { name := "ytmpgefpaoogoiaa", sum := "5c795cfb06aa74c49cd0d7e717b051826b71717cb2d1eeb2752ec7998a2b09e6", checked := Try.checked }
namespace Rows
def none {H : Type} : Left H := { results := [], args := [] }

/-- 'laws.FnExactPlanOk': WHATEVER THE INPUT: true; the input reads as it did. -/
def fnExactPlanOkSpec : ChangeSpec := { name := "fnExactPlanOk", fn := fun _ => fun
  | [d1, d2] => { results := [.lit (.bool true)], args := [d1, d2] }
  | _ => none }
def fnExactPlanOkRow : OpenClaim := { program := "ytmpgefpaoogoiaa", sum := "5c795cfb06aa74c49cd0d7e717b051826b71717cb2d1eeb2752ec7998a2b09e6", func := "loop.example/g00762/laws.FnExactPlanOk", spec := "fnExactPlanOk", inPlace := ["slices.overlaps[int64]"], unfollowed := true, recurses := true, apart := false }
def FnExactPlanOkSaid : Prop := fnExactPlanOkRow.holds Try.pinned (OpenSpec.ofChange fnExactPlanOkSpec)

/-- ITS FALSE NEIGHBOUR: 'it returns false'. Refute it at one input. -/
def fnExactPlanOkWrong : ChangeSpec := { name := "fnExactPlanOk", fn := fun _ => fun
  | [d1, d2] => { results := [.lit (.bool false)], args := [d1, d2] }
  | _ => none }
def FnExactPlanOkWrongFalsely : Prop := fnExactPlanOkRow.holds Try.pinned (OpenSpec.ofChange fnExactPlanOkWrong)

/-- 'laws.FnExactOrderOf': WHATEVER THE INPUT: true; the input reads as it did. -/
def fnExactOrderOfSpec : ChangeSpec := { name := "fnExactOrderOf", fn := fun _ => fun
  | [d1, d2] => { results := [.lit (.bool true)], args := [d1, d2] }
  | _ => none }
def fnExactOrderOfRow : OpenClaim := { program := "ytmpgefpaoogoiaa", sum := "5c795cfb06aa74c49cd0d7e717b051826b71717cb2d1eeb2752ec7998a2b09e6", func := "loop.example/g00762/laws.FnExactOrderOf", spec := "fnExactOrderOf", inPlace := ["internal/reflectlite.ValueOf", "internal/reflectlite.Swapper", "(internal/reflectlite.Value).Len"], unfollowed := true, recurses := true, apart := false }
def FnExactOrderOfSaid : Prop := fnExactOrderOfRow.holds Try.pinned (OpenSpec.ofChange fnExactOrderOfSpec)

/-- ITS FALSE NEIGHBOUR: 'it returns false'. Refute it at one input. -/
def fnExactOrderOfWrong : ChangeSpec := { name := "fnExactOrderOf", fn := fun _ => fun
  | [d1, d2] => { results := [.lit (.bool false)], args := [d1, d2] }
  | _ => none }
def FnExactOrderOfWrongFalsely : Prop := fnExactOrderOfRow.holds Try.pinned (OpenSpec.ofChange fnExactOrderOfWrong)

/-- 'laws.FnExactPlanOf': WHATEVER THE INPUT: true; the input reads as it did. -/
def fnExactPlanOfSpec : ChangeSpec := { name := "fnExactPlanOf", fn := fun _ => fun
  | [d1, d2, d3] => { results := [.lit (.bool true)], args := [d1, d2, d3] }
  | _ => none }
def fnExactPlanOfRow : OpenClaim := { program := "ytmpgefpaoogoiaa", sum := "5c795cfb06aa74c49cd0d7e717b051826b71717cb2d1eeb2752ec7998a2b09e6", func := "loop.example/g00762/laws.FnExactPlanOf", spec := "fnExactPlanOf", inPlace := ["internal/reflectlite.ValueOf", "internal/reflectlite.Swapper", "(internal/reflectlite.Value).Len", "slices.overlaps[int64]"], unfollowed := true, recurses := true, apart := false }
def FnExactPlanOfSaid : Prop := fnExactPlanOfRow.holds Try.pinned (OpenSpec.ofChange fnExactPlanOfSpec)

/-- ITS FALSE NEIGHBOUR: 'it returns false'. Refute it at one input. -/
def fnExactPlanOfWrong : ChangeSpec := { name := "fnExactPlanOf", fn := fun _ => fun
  | [d1, d2, d3] => { results := [.lit (.bool false)], args := [d1, d2, d3] }
  | _ => none }
def FnExactPlanOfWrongFalsely : Prop := fnExactPlanOfRow.holds Try.pinned (OpenSpec.ofChange fnExactPlanOfWrong)

/-- 'laws.FnExactFlatten': WHATEVER THE INPUT: true; the input reads as it did. -/
def fnExactFlattenSpec : ChangeSpec := { name := "fnExactFlatten", fn := fun _ => fun
  | [d] => { results := [.lit (.bool true)], args := [d] }
  | _ => none }
def fnExactFlattenRow : OpenClaim := { program := "ytmpgefpaoogoiaa", sum := "5c795cfb06aa74c49cd0d7e717b051826b71717cb2d1eeb2752ec7998a2b09e6", func := "loop.example/g00762/laws.FnExactFlatten", spec := "fnExactFlatten", apart := false }
def FnExactFlattenSaid : Prop := fnExactFlattenRow.holds Try.pinned (OpenSpec.ofChange fnExactFlattenSpec)

/-- ITS FALSE NEIGHBOUR: 'it returns false'. Refute it at one input. -/
def fnExactFlattenWrong : ChangeSpec := { name := "fnExactFlatten", fn := fun _ => fun
  | [d] => { results := [.lit (.bool false)], args := [d] }
  | _ => none }
def FnExactFlattenWrongFalsely : Prop := fnExactFlattenRow.holds Try.pinned (OpenSpec.ofChange fnExactFlattenWrong)

/-- 'laws.FnExactUnflatten': WHATEVER THE INPUT: true; the input reads as it did. -/
def fnExactUnflattenSpec : ChangeSpec := { name := "fnExactUnflatten", fn := fun _ => fun
  | [d] => { results := [.lit (.bool true)], args := [d] }
  | _ => none }
def fnExactUnflattenRow : OpenClaim := { program := "ytmpgefpaoogoiaa", sum := "5c795cfb06aa74c49cd0d7e717b051826b71717cb2d1eeb2752ec7998a2b09e6", func := "loop.example/g00762/laws.FnExactUnflatten", spec := "fnExactUnflatten", unfollowed := true, recurses := true, apart := false }
def FnExactUnflattenSaid : Prop := fnExactUnflattenRow.holds Try.pinned (OpenSpec.ofChange fnExactUnflattenSpec)

/-- ITS FALSE NEIGHBOUR: 'it returns false'. Refute it at one input. -/
def fnExactUnflattenWrong : ChangeSpec := { name := "fnExactUnflatten", fn := fun _ => fun
  | [d] => { results := [.lit (.bool false)], args := [d] }
  | _ => none }
def FnExactUnflattenWrongFalsely : Prop := fnExactUnflattenRow.holds Try.pinned (OpenSpec.ofChange fnExactUnflattenWrong)

/-- 'laws.FnExactFlatScore': WHATEVER THE INPUT: true; the input reads as it did. -/
def fnExactFlatScoreSpec : ChangeSpec := { name := "fnExactFlatScore", fn := fun _ => fun
  | [d1, d2] => { results := [.lit (.bool true)], args := [d1, d2] }
  | _ => none }
def fnExactFlatScoreRow : OpenClaim := { program := "ytmpgefpaoogoiaa", sum := "5c795cfb06aa74c49cd0d7e717b051826b71717cb2d1eeb2752ec7998a2b09e6", func := "loop.example/g00762/laws.FnExactFlatScore", spec := "fnExactFlatScore", unfollowed := true, recurses := true, apart := false }
def FnExactFlatScoreSaid : Prop := fnExactFlatScoreRow.holds Try.pinned (OpenSpec.ofChange fnExactFlatScoreSpec)

/-- ITS FALSE NEIGHBOUR: 'it returns false'. Refute it at one input. -/
def fnExactFlatScoreWrong : ChangeSpec := { name := "fnExactFlatScore", fn := fun _ => fun
  | [d1, d2] => { results := [.lit (.bool false)], args := [d1, d2] }
  | _ => none }
def FnExactFlatScoreWrongFalsely : Prop := fnExactFlatScoreRow.holds Try.pinned (OpenSpec.ofChange fnExactFlatScoreWrong)

/-- 'laws.FnPlanOf': WHATEVER THE INPUT: true; the input reads as it did. -/
def fnPlanOfSpec : ChangeSpec := { name := "fnPlanOf", fn := fun _ => fun
  | [d] => { results := [.lit (.bool true)], args := [d] }
  | _ => none }
def fnPlanOfRow : OpenClaim := { program := "ytmpgefpaoogoiaa", sum := "5c795cfb06aa74c49cd0d7e717b051826b71717cb2d1eeb2752ec7998a2b09e6", func := "loop.example/g00762/laws.FnPlanOf", spec := "fnPlanOf", inPlace := ["internal/reflectlite.ValueOf", "internal/reflectlite.Swapper", "(internal/reflectlite.Value).Len", "slices.overlaps[int64]"], unfollowed := true, recurses := true, apart := false }
def FnPlanOfSaid : Prop := fnPlanOfRow.holds Try.pinned (OpenSpec.ofChange fnPlanOfSpec)

/-- ITS FALSE NEIGHBOUR: 'it returns false'. Refute it at one input. -/
def fnPlanOfWrong : ChangeSpec := { name := "fnPlanOf", fn := fun _ => fun
  | [d] => { results := [.lit (.bool false)], args := [d] }
  | _ => none }
def FnPlanOfWrongFalsely : Prop := fnPlanOfRow.holds Try.pinned (OpenSpec.ofChange fnPlanOfWrong)

/-- 'laws.FnPlanOk': WHATEVER THE INPUT: true; the input reads as it did. -/
def fnPlanOkSpec : ChangeSpec := { name := "fnPlanOk", fn := fun _ => fun
  | [d] => { results := [.lit (.bool true)], args := [d] }
  | _ => none }
def fnPlanOkRow : OpenClaim := { program := "ytmpgefpaoogoiaa", sum := "5c795cfb06aa74c49cd0d7e717b051826b71717cb2d1eeb2752ec7998a2b09e6", func := "loop.example/g00762/laws.FnPlanOk", spec := "fnPlanOk", inPlace := ["slices.overlaps[int64]"], unfollowed := true, recurses := true, apart := false }
def FnPlanOkSaid : Prop := fnPlanOkRow.holds Try.pinned (OpenSpec.ofChange fnPlanOkSpec)

/-- ITS FALSE NEIGHBOUR: 'it returns false'. Refute it at one input. -/
def fnPlanOkWrong : ChangeSpec := { name := "fnPlanOk", fn := fun _ => fun
  | [d] => { results := [.lit (.bool false)], args := [d] }
  | _ => none }
def FnPlanOkWrongFalsely : Prop := fnPlanOkRow.holds Try.pinned (OpenSpec.ofChange fnPlanOkWrong)

/-- 'laws.FnOrder': WHATEVER THE INPUT: true; the input reads as it did. -/
def fnOrderSpec : ChangeSpec := { name := "fnOrder", fn := fun _ => fun
  | [d] => { results := [.lit (.bool true)], args := [d] }
  | _ => none }
def fnOrderRow : OpenClaim := { program := "ytmpgefpaoogoiaa", sum := "5c795cfb06aa74c49cd0d7e717b051826b71717cb2d1eeb2752ec7998a2b09e6", func := "loop.example/g00762/laws.FnOrder", spec := "fnOrder", inPlace := ["internal/reflectlite.ValueOf", "internal/reflectlite.Swapper", "(internal/reflectlite.Value).Len"], unfollowed := true, recurses := true, apart := false }
def FnOrderSaid : Prop := fnOrderRow.holds Try.pinned (OpenSpec.ofChange fnOrderSpec)

/-- ITS FALSE NEIGHBOUR: 'it returns false'. Refute it at one input. -/
def fnOrderWrong : ChangeSpec := { name := "fnOrder", fn := fun _ => fun
  | [d] => { results := [.lit (.bool false)], args := [d] }
  | _ => none }
def FnOrderWrongFalsely : Prop := fnOrderRow.holds Try.pinned (OpenSpec.ofChange fnOrderWrong)

/-- 'laws.FnFlat': WHATEVER THE INPUT: true; the input reads as it did. -/
def fnFlatSpec : ChangeSpec := { name := "fnFlat", fn := fun _ => fun
  | [d] => { results := [.lit (.bool true)], args := [d] }
  | _ => none }
def fnFlatRow : OpenClaim := { program := "ytmpgefpaoogoiaa", sum := "5c795cfb06aa74c49cd0d7e717b051826b71717cb2d1eeb2752ec7998a2b09e6", func := "loop.example/g00762/laws.FnFlat", spec := "fnFlat", unfollowed := true, recurses := true, apart := false }
def FnFlatSaid : Prop := fnFlatRow.holds Try.pinned (OpenSpec.ofChange fnFlatSpec)

/-- ITS FALSE NEIGHBOUR: 'it returns false'. Refute it at one input. -/
def fnFlatWrong : ChangeSpec := { name := "fnFlat", fn := fun _ => fun
  | [d] => { results := [.lit (.bool false)], args := [d] }
  | _ => none }
def FnFlatWrongFalsely : Prop := fnFlatRow.holds Try.pinned (OpenSpec.ofChange fnFlatWrong)

/-- 'laws.FnUnflat': WHATEVER THE INPUT: true; the input reads as it did. -/
def fnUnflatSpec : ChangeSpec := { name := "fnUnflat", fn := fun _ => fun
  | [d] => { results := [.lit (.bool true)], args := [d] }
  | _ => none }
def fnUnflatRow : OpenClaim := { program := "ytmpgefpaoogoiaa", sum := "5c795cfb06aa74c49cd0d7e717b051826b71717cb2d1eeb2752ec7998a2b09e6", func := "loop.example/g00762/laws.FnUnflat", spec := "fnUnflat", unfollowed := true, recurses := true, apart := false }
def FnUnflatSaid : Prop := fnUnflatRow.holds Try.pinned (OpenSpec.ofChange fnUnflatSpec)

/-- ITS FALSE NEIGHBOUR: 'it returns false'. Refute it at one input. -/
def fnUnflatWrong : ChangeSpec := { name := "fnUnflat", fn := fun _ => fun
  | [d] => { results := [.lit (.bool false)], args := [d] }
  | _ => none }
def FnUnflatWrongFalsely : Prop := fnUnflatRow.holds Try.pinned (OpenSpec.ofChange fnUnflatWrong)

/-- 'laws.FnFlatScore': WHATEVER THE INPUT: true; the input reads as it did. -/
def fnFlatScoreSpec : ChangeSpec := { name := "fnFlatScore", fn := fun _ => fun
  | [d] => { results := [.lit (.bool true)], args := [d] }
  | _ => none }
def fnFlatScoreRow : OpenClaim := { program := "ytmpgefpaoogoiaa", sum := "5c795cfb06aa74c49cd0d7e717b051826b71717cb2d1eeb2752ec7998a2b09e6", func := "loop.example/g00762/laws.FnFlatScore", spec := "fnFlatScore", unfollowed := true, recurses := true, apart := false }
def FnFlatScoreSaid : Prop := fnFlatScoreRow.holds Try.pinned (OpenSpec.ofChange fnFlatScoreSpec)

/-- ITS FALSE NEIGHBOUR: 'it returns false'. Refute it at one input. -/
def fnFlatScoreWrong : ChangeSpec := { name := "fnFlatScore", fn := fun _ => fun
  | [d] => { results := [.lit (.bool false)], args := [d] }
  | _ => none }
def FnFlatScoreWrongFalsely : Prop := fnFlatScoreRow.holds Try.pinned (OpenSpec.ofChange fnFlatScoreWrong)

/-- 'laws.FnRoots': WHATEVER THE INPUT: true; the input reads as it did. -/
def fnRootsSpec : ChangeSpec := { name := "fnRoots", fn := fun _ => fun
  | [d] => { results := [.lit (.bool true)], args := [d] }
  | _ => none }
def fnRootsRow : OpenClaim := { program := "ytmpgefpaoogoiaa", sum := "5c795cfb06aa74c49cd0d7e717b051826b71717cb2d1eeb2752ec7998a2b09e6", func := "loop.example/g00762/laws.FnRoots", spec := "fnRoots", recurses := true, apart := false }
def FnRootsSaid : Prop := fnRootsRow.holds Try.pinned (OpenSpec.ofChange fnRootsSpec)

/-- ITS FALSE NEIGHBOUR: 'it returns false'. Refute it at one input. -/
def fnRootsWrong : ChangeSpec := { name := "fnRoots", fn := fun _ => fun
  | [d] => { results := [.lit (.bool false)], args := [d] }
  | _ => none }
def FnRootsWrongFalsely : Prop := fnRootsRow.holds Try.pinned (OpenSpec.ofChange fnRootsWrong)

/- THE SECOND FORM. 'bulk': how many values and letters a reading holds, each counted each time it is reached (what is shared counts as often as it is met; a slice's spare places count too). A statement '..UptoSaid' is the law's where the arguments, and the package variables that the reading takes, are together of bulk at most 1048576: NARROWER than '..Said'. Prove '..Said' where nothing that the law and all that it calls make is longer than what came in: it says more and counts as full. Else prove '..UptoSaid'. A law counts once. -/
mutual
def uptoBulk {H : Type} : DataW H → Nat
  | .lit (.string bytes) => bytes.length + 1
  | .lit _ => 1
  | .nil => 1
  | .ptr d => uptoBulk d + 1
  | .slice elems spare => uptoBulkAll elems + uptoBulkAll spare + 1
  | .agg parts => uptoBulkAll parts + 1
  | .iface _ d => uptoBulk d + 1
  | .map entries => uptoBulkEntries entries + 1
  | .held _ => 1
def uptoBulkAll {H : Type} : List (DataW H) → Nat
  | [] => 0
  | d :: r => uptoBulk d + uptoBulkAll r
def uptoBulkEntries {H : Type} : List (Lit × DataW H) → Nat
  | [] => 0
  | x :: r => uptoBulkEntry x + uptoBulkEntries r
def uptoBulkEntry {H : Type} : Lit × DataW H → Nat
  | (.string bytes, d) => bytes.length + uptoBulk d + 1
  | (_, d) => uptoBulk d + 1
 end
def uptoSmall : (H : Type) → List (DataW H) → Bool := fun _ ds => decide (uptoBulkAll ds ≤ 1048576)
def OpenSpec.upto (s : _root_.Go.ChangeSpec) : _root_.Go.OpenSpec := { _root_.Go.OpenSpec.ofChange s with cond := some uptoSmall }

/-- 'laws.FnExactPlanOk', WHERE WHAT IT READS IS OF BULK AT MOST 1048576: true; the input reads as it did. -/
def fnExactPlanOkUptoRow : OpenClaim := { program := "ytmpgefpaoogoiaa", sum := "5c795cfb06aa74c49cd0d7e717b051826b71717cb2d1eeb2752ec7998a2b09e6", func := "loop.example/g00762/laws.FnExactPlanOk", spec := "fnExactPlanOk", inPlace := ["slices.overlaps[int64]"], unfollowed := true, recurses := true, apart := false, narrowed := true }
def FnExactPlanOkUptoSaid : Prop := fnExactPlanOkUptoRow.holds Try.pinned (OpenSpec.upto fnExactPlanOkSpec)

/-- 'laws.FnExactOrderOf', WHERE WHAT IT READS IS OF BULK AT MOST 1048576: true; the input reads as it did. -/
def fnExactOrderOfUptoRow : OpenClaim := { program := "ytmpgefpaoogoiaa", sum := "5c795cfb06aa74c49cd0d7e717b051826b71717cb2d1eeb2752ec7998a2b09e6", func := "loop.example/g00762/laws.FnExactOrderOf", spec := "fnExactOrderOf", inPlace := ["internal/reflectlite.ValueOf", "internal/reflectlite.Swapper", "(internal/reflectlite.Value).Len"], unfollowed := true, recurses := true, apart := false, narrowed := true }
def FnExactOrderOfUptoSaid : Prop := fnExactOrderOfUptoRow.holds Try.pinned (OpenSpec.upto fnExactOrderOfSpec)

/-- 'laws.FnExactPlanOf', WHERE WHAT IT READS IS OF BULK AT MOST 1048576: true; the input reads as it did. -/
def fnExactPlanOfUptoRow : OpenClaim := { program := "ytmpgefpaoogoiaa", sum := "5c795cfb06aa74c49cd0d7e717b051826b71717cb2d1eeb2752ec7998a2b09e6", func := "loop.example/g00762/laws.FnExactPlanOf", spec := "fnExactPlanOf", inPlace := ["internal/reflectlite.ValueOf", "internal/reflectlite.Swapper", "(internal/reflectlite.Value).Len", "slices.overlaps[int64]"], unfollowed := true, recurses := true, apart := false, narrowed := true }
def FnExactPlanOfUptoSaid : Prop := fnExactPlanOfUptoRow.holds Try.pinned (OpenSpec.upto fnExactPlanOfSpec)

/-- 'laws.FnExactFlatten', WHERE WHAT IT READS IS OF BULK AT MOST 1048576: true; the input reads as it did. -/
def fnExactFlattenUptoRow : OpenClaim := { program := "ytmpgefpaoogoiaa", sum := "5c795cfb06aa74c49cd0d7e717b051826b71717cb2d1eeb2752ec7998a2b09e6", func := "loop.example/g00762/laws.FnExactFlatten", spec := "fnExactFlatten", apart := false, narrowed := true }
def FnExactFlattenUptoSaid : Prop := fnExactFlattenUptoRow.holds Try.pinned (OpenSpec.upto fnExactFlattenSpec)

/-- 'laws.FnExactUnflatten', WHERE WHAT IT READS IS OF BULK AT MOST 1048576: true; the input reads as it did. -/
def fnExactUnflattenUptoRow : OpenClaim := { program := "ytmpgefpaoogoiaa", sum := "5c795cfb06aa74c49cd0d7e717b051826b71717cb2d1eeb2752ec7998a2b09e6", func := "loop.example/g00762/laws.FnExactUnflatten", spec := "fnExactUnflatten", unfollowed := true, recurses := true, apart := false, narrowed := true }
def FnExactUnflattenUptoSaid : Prop := fnExactUnflattenUptoRow.holds Try.pinned (OpenSpec.upto fnExactUnflattenSpec)

/-- 'laws.FnExactFlatScore', WHERE WHAT IT READS IS OF BULK AT MOST 1048576: true; the input reads as it did. -/
def fnExactFlatScoreUptoRow : OpenClaim := { program := "ytmpgefpaoogoiaa", sum := "5c795cfb06aa74c49cd0d7e717b051826b71717cb2d1eeb2752ec7998a2b09e6", func := "loop.example/g00762/laws.FnExactFlatScore", spec := "fnExactFlatScore", unfollowed := true, recurses := true, apart := false, narrowed := true }
def FnExactFlatScoreUptoSaid : Prop := fnExactFlatScoreUptoRow.holds Try.pinned (OpenSpec.upto fnExactFlatScoreSpec)

/-- 'laws.FnPlanOf', WHERE WHAT IT READS IS OF BULK AT MOST 1048576: true; the input reads as it did. -/
def fnPlanOfUptoRow : OpenClaim := { program := "ytmpgefpaoogoiaa", sum := "5c795cfb06aa74c49cd0d7e717b051826b71717cb2d1eeb2752ec7998a2b09e6", func := "loop.example/g00762/laws.FnPlanOf", spec := "fnPlanOf", inPlace := ["internal/reflectlite.ValueOf", "internal/reflectlite.Swapper", "(internal/reflectlite.Value).Len", "slices.overlaps[int64]"], unfollowed := true, recurses := true, apart := false, narrowed := true }
def FnPlanOfUptoSaid : Prop := fnPlanOfUptoRow.holds Try.pinned (OpenSpec.upto fnPlanOfSpec)

/-- 'laws.FnPlanOk', WHERE WHAT IT READS IS OF BULK AT MOST 1048576: true; the input reads as it did. -/
def fnPlanOkUptoRow : OpenClaim := { program := "ytmpgefpaoogoiaa", sum := "5c795cfb06aa74c49cd0d7e717b051826b71717cb2d1eeb2752ec7998a2b09e6", func := "loop.example/g00762/laws.FnPlanOk", spec := "fnPlanOk", inPlace := ["slices.overlaps[int64]"], unfollowed := true, recurses := true, apart := false, narrowed := true }
def FnPlanOkUptoSaid : Prop := fnPlanOkUptoRow.holds Try.pinned (OpenSpec.upto fnPlanOkSpec)

/-- 'laws.FnOrder', WHERE WHAT IT READS IS OF BULK AT MOST 1048576: true; the input reads as it did. -/
def fnOrderUptoRow : OpenClaim := { program := "ytmpgefpaoogoiaa", sum := "5c795cfb06aa74c49cd0d7e717b051826b71717cb2d1eeb2752ec7998a2b09e6", func := "loop.example/g00762/laws.FnOrder", spec := "fnOrder", inPlace := ["internal/reflectlite.ValueOf", "internal/reflectlite.Swapper", "(internal/reflectlite.Value).Len"], unfollowed := true, recurses := true, apart := false, narrowed := true }
def FnOrderUptoSaid : Prop := fnOrderUptoRow.holds Try.pinned (OpenSpec.upto fnOrderSpec)

/-- 'laws.FnFlat', WHERE WHAT IT READS IS OF BULK AT MOST 1048576: true; the input reads as it did. -/
def fnFlatUptoRow : OpenClaim := { program := "ytmpgefpaoogoiaa", sum := "5c795cfb06aa74c49cd0d7e717b051826b71717cb2d1eeb2752ec7998a2b09e6", func := "loop.example/g00762/laws.FnFlat", spec := "fnFlat", unfollowed := true, recurses := true, apart := false, narrowed := true }
def FnFlatUptoSaid : Prop := fnFlatUptoRow.holds Try.pinned (OpenSpec.upto fnFlatSpec)

/-- 'laws.FnUnflat', WHERE WHAT IT READS IS OF BULK AT MOST 1048576: true; the input reads as it did. -/
def fnUnflatUptoRow : OpenClaim := { program := "ytmpgefpaoogoiaa", sum := "5c795cfb06aa74c49cd0d7e717b051826b71717cb2d1eeb2752ec7998a2b09e6", func := "loop.example/g00762/laws.FnUnflat", spec := "fnUnflat", unfollowed := true, recurses := true, apart := false, narrowed := true }
def FnUnflatUptoSaid : Prop := fnUnflatUptoRow.holds Try.pinned (OpenSpec.upto fnUnflatSpec)

/-- 'laws.FnFlatScore', WHERE WHAT IT READS IS OF BULK AT MOST 1048576: true; the input reads as it did. -/
def fnFlatScoreUptoRow : OpenClaim := { program := "ytmpgefpaoogoiaa", sum := "5c795cfb06aa74c49cd0d7e717b051826b71717cb2d1eeb2752ec7998a2b09e6", func := "loop.example/g00762/laws.FnFlatScore", spec := "fnFlatScore", unfollowed := true, recurses := true, apart := false, narrowed := true }
def FnFlatScoreUptoSaid : Prop := fnFlatScoreUptoRow.holds Try.pinned (OpenSpec.upto fnFlatScoreSpec)

/-- 'laws.FnRoots', WHERE WHAT IT READS IS OF BULK AT MOST 1048576: true; the input reads as it did. -/
def fnRootsUptoRow : OpenClaim := { program := "ytmpgefpaoogoiaa", sum := "5c795cfb06aa74c49cd0d7e717b051826b71717cb2d1eeb2752ec7998a2b09e6", func := "loop.example/g00762/laws.FnRoots", spec := "fnRoots", recurses := true, apart := false, narrowed := true }
def FnRootsUptoSaid : Prop := fnRootsUptoRow.holds Try.pinned (OpenSpec.upto fnRootsSpec)

end Rows
end Go.Proofs.Ytmpgefpaoogoiaa
