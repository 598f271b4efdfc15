/-
  No cell of these rows narrows 'for every input' (looked for: loops, veiled, ifaces, maps, wideKeys, modest, calm, conditions, laid).
  DERIVED. THE GIVEN ROWS OF THIS SEAT. 18 by the template 'for every input the law returns true; each argument reads behind the call as it read before'; 0 by the template 'total and deterministic' (their statements: YthdilioflhknpaaTotals.lean).
  GIVEN WITH THE SEED: the statements are not yours to turn. If you find one false, say at which input.
  Laid BY PROGRAM, IN A SANDBOX (cutbox-rows.mjs): the forced cells as the released guide's own fill.sh prints them over the translation 9c5b994724b48611… (all of the seat's roots in one cut). By AI agents, Wed Nov 11 2026. No macro, syntax, notation, axiom, sorry.
-/
import Derived.Test.YthdilioflhknpaaChecked
import GoSem.Claim
import GoSem.ClaimJoined
import GoSem.ClaimMapViews
import Derived.JoinedTies
import Derived.KernelRfl
namespace Go.Proofs.Ythdilioflhknpaa
/- THE CELL 'sum', in the pinned program and in every row, IS THE sha256 OF THE DUMP (.gsa) THAT YthdilioflhknpaaProg.lean LOADS. Nothing in Lean hashes anything: it is a label: what it is worth is what the hold of that sum in a sandbox is worth. -/
noncomputable def Try.pinned : Pinned := { name := "ythdilioflhknpaa", sum := "9c5b994724b48611039ffee15568cf6ab3d2e044ac6e786d8c9c03861a9956b0", checked := Try.checked }
namespace Rows
def none {H : Type} : Left H := { results := [], args := [] }

/-- 'laws.FnPath': WHATEVER THE INPUT: true; the input reads as it did. -/
def fnPathSpec : ChangeSpec := { name := "fnPath", fn := fun _ => fun
  | [d] => { results := [.lit (.bool true)], args := [d] }
  | _ => none }
def fnPathRow : OpenClaim := { program := "ythdilioflhknpaa", sum := "9c5b994724b48611039ffee15568cf6ab3d2e044ac6e786d8c9c03861a9956b0", func := "loop.example/g00762/laws.FnPath", spec := "fnPath", recurses := true, apart := false }
def FnPathSaid : Prop := fnPathRow.holds Try.pinned (OpenSpec.ofChange fnPathSpec)

/-- ITS FALSE NEIGHBOUR: 'it returns false'. Refute it at one input. -/
def fnPathWrong : ChangeSpec := { name := "fnPath", fn := fun _ => fun
  | [d] => { results := [.lit (.bool false)], args := [d] }
  | _ => none }
def FnPathWrongFalsely : Prop := fnPathRow.holds Try.pinned (OpenSpec.ofChange fnPathWrong)

/-- 'laws.FnDepth': WHATEVER THE INPUT: true; the input reads as it did. -/
def fnDepthSpec : ChangeSpec := { name := "fnDepth", fn := fun _ => fun
  | [d] => { results := [.lit (.bool true)], args := [d] }
  | _ => none }
def fnDepthRow : OpenClaim := { program := "ythdilioflhknpaa", sum := "9c5b994724b48611039ffee15568cf6ab3d2e044ac6e786d8c9c03861a9956b0", func := "loop.example/g00762/laws.FnDepth", spec := "fnDepth", recurses := true, apart := false }
def FnDepthSaid : Prop := fnDepthRow.holds Try.pinned (OpenSpec.ofChange fnDepthSpec)

/-- ITS FALSE NEIGHBOUR: 'it returns false'. Refute it at one input. -/
def fnDepthWrong : ChangeSpec := { name := "fnDepth", fn := fun _ => fun
  | [d] => { results := [.lit (.bool false)], args := [d] }
  | _ => none }
def FnDepthWrongFalsely : Prop := fnDepthRow.holds Try.pinned (OpenSpec.ofChange fnDepthWrong)

/-- 'laws.FnUntouched': WHATEVER THE INPUT: true; the input reads as it did. -/
def fnUntouchedSpec : ChangeSpec := { name := "fnUntouched", fn := fun _ => fun
  | [d] => { results := [.lit (.bool true)], args := [d] }
  | _ => none }
def fnUntouchedRow : OpenClaim := { program := "ythdilioflhknpaa", sum := "9c5b994724b48611039ffee15568cf6ab3d2e044ac6e786d8c9c03861a9956b0", func := "loop.example/g00762/laws.FnUntouched", spec := "fnUntouched", recurses := true, apart := false }
def FnUntouchedSaid : Prop := fnUntouchedRow.holds Try.pinned (OpenSpec.ofChange fnUntouchedSpec)

/-- ITS FALSE NEIGHBOUR: 'it returns false'. Refute it at one input. -/
def fnUntouchedWrong : ChangeSpec := { name := "fnUntouched", fn := fun _ => fun
  | [d] => { results := [.lit (.bool false)], args := [d] }
  | _ => none }
def FnUntouchedWrongFalsely : Prop := fnUntouchedRow.holds Try.pinned (OpenSpec.ofChange fnUntouchedWrong)

/-- 'laws.FnUnder': WHATEVER THE INPUT: true; the input reads as it did. -/
def fnUnderSpec : ChangeSpec := { name := "fnUnder", fn := fun _ => fun
  | [d] => { results := [.lit (.bool true)], args := [d] }
  | _ => none }
def fnUnderRow : OpenClaim := { program := "ythdilioflhknpaa", sum := "9c5b994724b48611039ffee15568cf6ab3d2e044ac6e786d8c9c03861a9956b0", func := "loop.example/g00762/laws.FnUnder", spec := "fnUnder", recurses := true, apart := false }
def FnUnderSaid : Prop := fnUnderRow.holds Try.pinned (OpenSpec.ofChange fnUnderSpec)

/-- ITS FALSE NEIGHBOUR: 'it returns false'. Refute it at one input. -/
def fnUnderWrong : ChangeSpec := { name := "fnUnder", fn := fun _ => fun
  | [d] => { results := [.lit (.bool false)], args := [d] }
  | _ => none }
def FnUnderWrongFalsely : Prop := fnUnderRow.holds Try.pinned (OpenSpec.ofChange fnUnderWrong)

/-- 'laws.FnBoxHas': WHATEVER THE INPUT: true; the input reads as it did. -/
def fnBoxHasSpec : ChangeSpec := { name := "fnBoxHas", fn := fun _ => fun
  | [d] => { results := [.lit (.bool true)], args := [d] }
  | _ => none }
def fnBoxHasRow : OpenClaim := { program := "ythdilioflhknpaa", sum := "9c5b994724b48611039ffee15568cf6ab3d2e044ac6e786d8c9c03861a9956b0", func := "loop.example/g00762/laws.FnBoxHas", spec := "fnBoxHas", apart := false }
def FnBoxHasSaid : Prop := fnBoxHasRow.holds Try.pinned (OpenSpec.ofChange fnBoxHasSpec)

/-- ITS FALSE NEIGHBOUR: 'it returns false'. Refute it at one input. -/
def fnBoxHasWrong : ChangeSpec := { name := "fnBoxHas", fn := fun _ => fun
  | [d] => { results := [.lit (.bool false)], args := [d] }
  | _ => none }
def FnBoxHasWrongFalsely : Prop := fnBoxHasRow.holds Try.pinned (OpenSpec.ofChange fnBoxHasWrong)

/-- 'laws.FnMeet': WHATEVER THE INPUT: true; the input reads as it did. -/
def fnMeetSpec : ChangeSpec := { name := "fnMeet", fn := fun _ => fun
  | [d] => { results := [.lit (.bool true)], args := [d] }
  | _ => none }
def fnMeetRow : OpenClaim := { program := "ythdilioflhknpaa", sum := "9c5b994724b48611039ffee15568cf6ab3d2e044ac6e786d8c9c03861a9956b0", func := "loop.example/g00762/laws.FnMeet", spec := "fnMeet", unfollowed := true, recurses := true, apart := false }
def FnMeetSaid : Prop := fnMeetRow.holds Try.pinned (OpenSpec.ofChange fnMeetSpec)

/-- ITS FALSE NEIGHBOUR: 'it returns false'. Refute it at one input. -/
def fnMeetWrong : ChangeSpec := { name := "fnMeet", fn := fun _ => fun
  | [d] => { results := [.lit (.bool false)], args := [d] }
  | _ => none }
def FnMeetWrongFalsely : Prop := fnMeetRow.holds Try.pinned (OpenSpec.ofChange fnMeetWrong)

/-- 'laws.FnMeetOrder': WHATEVER THE INPUT: true; the input reads as it did. -/
def fnMeetOrderSpec : ChangeSpec := { name := "fnMeetOrder", fn := fun _ => fun
  | [d1, d2] => { results := [.lit (.bool true)], args := [d1, d2] }
  | _ => none }
def fnMeetOrderRow : OpenClaim := { program := "ythdilioflhknpaa", sum := "9c5b994724b48611039ffee15568cf6ab3d2e044ac6e786d8c9c03861a9956b0", func := "loop.example/g00762/laws.FnMeetOrder", spec := "fnMeetOrder", unfollowed := true, recurses := true, apart := false }
def FnMeetOrderSaid : Prop := fnMeetOrderRow.holds Try.pinned (OpenSpec.ofChange fnMeetOrderSpec)

/-- ITS FALSE NEIGHBOUR: 'it returns false'. Refute it at one input. -/
def fnMeetOrderWrong : ChangeSpec := { name := "fnMeetOrder", fn := fun _ => fun
  | [d1, d2] => { results := [.lit (.bool false)], args := [d1, d2] }
  | _ => none }
def FnMeetOrderWrongFalsely : Prop := fnMeetOrderRow.holds Try.pinned (OpenSpec.ofChange fnMeetOrderWrong)

/-- 'laws.FnPick': WHATEVER THE INPUT: true; the input reads as it did. -/
def fnPickSpec : ChangeSpec := { name := "fnPick", fn := fun _ => fun
  | [d] => { results := [.lit (.bool true)], args := [d] }
  | _ => none }
def fnPickRow : OpenClaim := { program := "ythdilioflhknpaa", sum := "9c5b994724b48611039ffee15568cf6ab3d2e044ac6e786d8c9c03861a9956b0", func := "loop.example/g00762/laws.FnPick", spec := "fnPick", apart := false }
def FnPickSaid : Prop := fnPickRow.holds Try.pinned (OpenSpec.ofChange fnPickSpec)

/-- ITS FALSE NEIGHBOUR: 'it returns false'. Refute it at one input. -/
def fnPickWrong : ChangeSpec := { name := "fnPick", fn := fun _ => fun
  | [d] => { results := [.lit (.bool false)], args := [d] }
  | _ => none }
def FnPickWrongFalsely : Prop := fnPickRow.holds Try.pinned (OpenSpec.ofChange fnPickWrong)

/-- 'laws.FnMiss': WHATEVER THE INPUT: true; the input reads as it did. -/
def fnMissSpec : ChangeSpec := { name := "fnMiss", fn := fun _ => fun
  | [d] => { results := [.lit (.bool true)], args := [d] }
  | _ => none }
def fnMissRow : OpenClaim := { program := "ythdilioflhknpaa", sum := "9c5b994724b48611039ffee15568cf6ab3d2e044ac6e786d8c9c03861a9956b0", func := "loop.example/g00762/laws.FnMiss", spec := "fnMiss", recurses := true, apart := false }
def FnMissSaid : Prop := fnMissRow.holds Try.pinned (OpenSpec.ofChange fnMissSpec)

/-- ITS FALSE NEIGHBOUR: 'it returns false'. Refute it at one input. -/
def fnMissWrong : ChangeSpec := { name := "fnMiss", fn := fun _ => fun
  | [d] => { results := [.lit (.bool false)], args := [d] }
  | _ => none }
def FnMissWrongFalsely : Prop := fnMissRow.holds Try.pinned (OpenSpec.ofChange fnMissWrong)

/-- 'laws.FnWithin': WHATEVER THE INPUT: true; the input reads as it did. -/
def fnWithinSpec : ChangeSpec := { name := "fnWithin", fn := fun _ => fun
  | [d] => { results := [.lit (.bool true)], args := [d] }
  | _ => none }
def fnWithinRow : OpenClaim := { program := "ythdilioflhknpaa", sum := "9c5b994724b48611039ffee15568cf6ab3d2e044ac6e786d8c9c03861a9956b0", func := "loop.example/g00762/laws.FnWithin", spec := "fnWithin", unfollowed := true, recurses := true, apart := false }
def FnWithinSaid : Prop := fnWithinRow.holds Try.pinned (OpenSpec.ofChange fnWithinSpec)

/-- ITS FALSE NEIGHBOUR: 'it returns false'. Refute it at one input. -/
def fnWithinWrong : ChangeSpec := { name := "fnWithin", fn := fun _ => fun
  | [d] => { results := [.lit (.bool false)], args := [d] }
  | _ => none }
def FnWithinWrongFalsely : Prop := fnWithinRow.holds Try.pinned (OpenSpec.ofChange fnWithinWrong)

/-- 'laws.FnExactBoxOk': WHATEVER THE INPUT: true; the input reads as it did. -/
def fnExactBoxOkSpec : ChangeSpec := { name := "fnExactBoxOk", fn := fun _ => fun
  | [d] => { results := [.lit (.bool true)], args := [d] }
  | _ => none }
def fnExactBoxOkRow : OpenClaim := { program := "ythdilioflhknpaa", sum := "9c5b994724b48611039ffee15568cf6ab3d2e044ac6e786d8c9c03861a9956b0", func := "loop.example/g00762/laws.FnExactBoxOk", spec := "fnExactBoxOk", apart := false }
def FnExactBoxOkSaid : Prop := fnExactBoxOkRow.holds Try.pinned (OpenSpec.ofChange fnExactBoxOkSpec)

/-- ITS FALSE NEIGHBOUR: 'it returns false'. Refute it at one input. -/
def fnExactBoxOkWrong : ChangeSpec := { name := "fnExactBoxOk", fn := fun _ => fun
  | [d] => { results := [.lit (.bool false)], args := [d] }
  | _ => none }
def FnExactBoxOkWrongFalsely : Prop := fnExactBoxOkRow.holds Try.pinned (OpenSpec.ofChange fnExactBoxOkWrong)

/-- 'laws.FnExactBoxHas': WHATEVER THE INPUT: true; the input reads as it did. -/
def fnExactBoxHasSpec : ChangeSpec := { name := "fnExactBoxHas", fn := fun _ => fun
  | [d1, d2] => { results := [.lit (.bool true)], args := [d1, d2] }
  | _ => none }
def fnExactBoxHasRow : OpenClaim := { program := "ythdilioflhknpaa", sum := "9c5b994724b48611039ffee15568cf6ab3d2e044ac6e786d8c9c03861a9956b0", func := "loop.example/g00762/laws.FnExactBoxHas", spec := "fnExactBoxHas", apart := false }
def FnExactBoxHasSaid : Prop := fnExactBoxHasRow.holds Try.pinned (OpenSpec.ofChange fnExactBoxHasSpec)

/-- ITS FALSE NEIGHBOUR: 'it returns false'. Refute it at one input. -/
def fnExactBoxHasWrong : ChangeSpec := { name := "fnExactBoxHas", fn := fun _ => fun
  | [d1, d2] => { results := [.lit (.bool false)], args := [d1, d2] }
  | _ => none }
def FnExactBoxHasWrongFalsely : Prop := fnExactBoxHasRow.holds Try.pinned (OpenSpec.ofChange fnExactBoxHasWrong)

/-- 'laws.FnExactBoxMeet': WHATEVER THE INPUT: true; the input reads as it did. -/
def fnExactBoxMeetSpec : ChangeSpec := { name := "fnExactBoxMeet", fn := fun _ => fun
  | [d1, d2] => { results := [.lit (.bool true)], args := [d1, d2] }
  | _ => none }
def fnExactBoxMeetRow : OpenClaim := { program := "ythdilioflhknpaa", sum := "9c5b994724b48611039ffee15568cf6ab3d2e044ac6e786d8c9c03861a9956b0", func := "loop.example/g00762/laws.FnExactBoxMeet", spec := "fnExactBoxMeet", unfollowed := true, recurses := true, apart := false }
def FnExactBoxMeetSaid : Prop := fnExactBoxMeetRow.holds Try.pinned (OpenSpec.ofChange fnExactBoxMeetSpec)

/-- ITS FALSE NEIGHBOUR: 'it returns false'. Refute it at one input. -/
def fnExactBoxMeetWrong : ChangeSpec := { name := "fnExactBoxMeet", fn := fun _ => fun
  | [d1, d2] => { results := [.lit (.bool false)], args := [d1, d2] }
  | _ => none }
def FnExactBoxMeetWrongFalsely : Prop := fnExactBoxMeetRow.holds Try.pinned (OpenSpec.ofChange fnExactBoxMeetWrong)

/-- 'laws.FnExactPickOf': WHATEVER THE INPUT: true; the input reads as it did. -/
def fnExactPickOfSpec : ChangeSpec := { name := "fnExactPickOf", fn := fun _ => fun
  | [d] => { results := [.lit (.bool true)], args := [d] }
  | _ => none }
def fnExactPickOfRow : OpenClaim := { program := "ythdilioflhknpaa", sum := "9c5b994724b48611039ffee15568cf6ab3d2e044ac6e786d8c9c03861a9956b0", func := "loop.example/g00762/laws.FnExactPickOf", spec := "fnExactPickOf", apart := false }
def FnExactPickOfSaid : Prop := fnExactPickOfRow.holds Try.pinned (OpenSpec.ofChange fnExactPickOfSpec)

/-- ITS FALSE NEIGHBOUR: 'it returns false'. Refute it at one input. -/
def fnExactPickOfWrong : ChangeSpec := { name := "fnExactPickOf", fn := fun _ => fun
  | [d] => { results := [.lit (.bool false)], args := [d] }
  | _ => none }
def FnExactPickOfWrongFalsely : Prop := fnExactPickOfRow.holds Try.pinned (OpenSpec.ofChange fnExactPickOfWrong)

/-- 'laws.FnExactEnsOk': WHATEVER THE INPUT: true; the input reads as it did. -/
def fnExactEnsOkSpec : ChangeSpec := { name := "fnExactEnsOk", fn := fun _ => fun
  | [d] => { results := [.lit (.bool true)], args := [d] }
  | _ => none }
def fnExactEnsOkRow : OpenClaim := { program := "ythdilioflhknpaa", sum := "9c5b994724b48611039ffee15568cf6ab3d2e044ac6e786d8c9c03861a9956b0", func := "loop.example/g00762/laws.FnExactEnsOk", spec := "fnExactEnsOk", apart := false }
def FnExactEnsOkSaid : Prop := fnExactEnsOkRow.holds Try.pinned (OpenSpec.ofChange fnExactEnsOkSpec)

/-- ITS FALSE NEIGHBOUR: 'it returns false'. Refute it at one input. -/
def fnExactEnsOkWrong : ChangeSpec := { name := "fnExactEnsOk", fn := fun _ => fun
  | [d] => { results := [.lit (.bool false)], args := [d] }
  | _ => none }
def FnExactEnsOkWrongFalsely : Prop := fnExactEnsOkRow.holds Try.pinned (OpenSpec.ofChange fnExactEnsOkWrong)

/-- 'laws.FnExactFullScore': WHATEVER THE INPUT: true; the input reads as it did. -/
def fnExactFullScoreSpec : ChangeSpec := { name := "fnExactFullScore", fn := fun _ => fun
  | [d1, d2] => { results := [.lit (.bool true)], args := [d1, d2] }
  | _ => none }
def fnExactFullScoreRow : OpenClaim := { program := "ythdilioflhknpaa", sum := "9c5b994724b48611039ffee15568cf6ab3d2e044ac6e786d8c9c03861a9956b0", func := "loop.example/g00762/laws.FnExactFullScore", spec := "fnExactFullScore", apart := false }
def FnExactFullScoreSaid : Prop := fnExactFullScoreRow.holds Try.pinned (OpenSpec.ofChange fnExactFullScoreSpec)

/-- ITS FALSE NEIGHBOUR: 'it returns false'. Refute it at one input. -/
def fnExactFullScoreWrong : ChangeSpec := { name := "fnExactFullScore", fn := fun _ => fun
  | [d1, d2] => { results := [.lit (.bool false)], args := [d1, d2] }
  | _ => none }
def FnExactFullScoreWrongFalsely : Prop := fnExactFullScoreRow.holds Try.pinned (OpenSpec.ofChange fnExactFullScoreWrong)

/-- 'laws.FnExactSpanOf': WHATEVER THE INPUT: true; the input reads as it did. -/
def fnExactSpanOfSpec : ChangeSpec := { name := "fnExactSpanOf", fn := fun _ => fun
  | [d] => { results := [.lit (.bool true)], args := [d] }
  | _ => none }
def fnExactSpanOfRow : OpenClaim := { program := "ythdilioflhknpaa", sum := "9c5b994724b48611039ffee15568cf6ab3d2e044ac6e786d8c9c03861a9956b0", func := "loop.example/g00762/laws.FnExactSpanOf", spec := "fnExactSpanOf", recurses := true, apart := false }
def FnExactSpanOfSaid : Prop := fnExactSpanOfRow.holds Try.pinned (OpenSpec.ofChange fnExactSpanOfSpec)

/-- ITS FALSE NEIGHBOUR: 'it returns false'. Refute it at one input. -/
def fnExactSpanOfWrong : ChangeSpec := { name := "fnExactSpanOf", fn := fun _ => fun
  | [d] => { results := [.lit (.bool false)], args := [d] }
  | _ => none }
def FnExactSpanOfWrongFalsely : Prop := fnExactSpanOfRow.holds Try.pinned (OpenSpec.ofChange fnExactSpanOfWrong)

/-- 'laws.FnExactEnsJoin': WHATEVER THE INPUT: true; the input reads as it did. -/
def fnExactEnsJoinSpec : ChangeSpec := { name := "fnExactEnsJoin", fn := fun _ => fun
  | [d1, d2] => { results := [.lit (.bool true)], args := [d1, d2] }
  | _ => none }
def fnExactEnsJoinRow : OpenClaim := { program := "ythdilioflhknpaa", sum := "9c5b994724b48611039ffee15568cf6ab3d2e044ac6e786d8c9c03861a9956b0", func := "loop.example/g00762/laws.FnExactEnsJoin", spec := "fnExactEnsJoin", apart := false }
def FnExactEnsJoinSaid : Prop := fnExactEnsJoinRow.holds Try.pinned (OpenSpec.ofChange fnExactEnsJoinSpec)

/-- ITS FALSE NEIGHBOUR: 'it returns false'. Refute it at one input. -/
def fnExactEnsJoinWrong : ChangeSpec := { name := "fnExactEnsJoin", fn := fun _ => fun
  | [d1, d2] => { results := [.lit (.bool false)], args := [d1, d2] }
  | _ => none }
def FnExactEnsJoinWrongFalsely : Prop := fnExactEnsJoinRow.holds Try.pinned (OpenSpec.ofChange fnExactEnsJoinWrong)

/- THE SECOND FORM. 'bulk': how many values and letters a reading holds, each counted each time it is reached (what is shared counts as often as it is met; a slice's spare places count too). A statement '..UptoSaid' is the law's where the arguments, and the package variables that the reading takes, are together of bulk at most 1048576: NARROWER than '..Said'. Prove '..Said' where nothing that the law and all that it calls make is longer than what came in: it says more and counts as full. Else prove '..UptoSaid'. A law counts once. -/
mutual
def uptoBulk {H : Type} : DataW H → Nat
  | .lit (.string bytes) => bytes.length + 1
  | .lit _ => 1
  | .nil => 1
  | .ptr d => uptoBulk d + 1
  | .slice elems spare => uptoBulkAll elems + uptoBulkAll spare + 1
  | .agg parts => uptoBulkAll parts + 1
  | .iface _ d => uptoBulk d + 1
  | .map entries => uptoBulkEntries entries + 1
  | .held _ => 1
def uptoBulkAll {H : Type} : List (DataW H) → Nat
  | [] => 0
  | d :: r => uptoBulk d + uptoBulkAll r
def uptoBulkEntries {H : Type} : List (Lit × DataW H) → Nat
  | [] => 0
  | x :: r => uptoBulkEntry x + uptoBulkEntries r
def uptoBulkEntry {H : Type} : Lit × DataW H → Nat
  | (.string bytes, d) => bytes.length + uptoBulk d + 1
  | (_, d) => uptoBulk d + 1
 end
def uptoSmall : (H : Type) → List (DataW H) → Bool := fun _ ds => decide (uptoBulkAll ds ≤ 1048576)
def OpenSpec.upto (s : _root_.Go.ChangeSpec) : _root_.Go.OpenSpec := { _root_.Go.OpenSpec.ofChange s with cond := some uptoSmall }

/-- 'laws.FnPath', WHERE WHAT IT READS IS OF BULK AT MOST 1048576: true; the input reads as it did. -/
def fnPathUptoRow : OpenClaim := { program := "ythdilioflhknpaa", sum := "9c5b994724b48611039ffee15568cf6ab3d2e044ac6e786d8c9c03861a9956b0", func := "loop.example/g00762/laws.FnPath", spec := "fnPath", recurses := true, apart := false, narrowed := true }
def FnPathUptoSaid : Prop := fnPathUptoRow.holds Try.pinned (OpenSpec.upto fnPathSpec)

/-- 'laws.FnDepth', WHERE WHAT IT READS IS OF BULK AT MOST 1048576: true; the input reads as it did. -/
def fnDepthUptoRow : OpenClaim := { program := "ythdilioflhknpaa", sum := "9c5b994724b48611039ffee15568cf6ab3d2e044ac6e786d8c9c03861a9956b0", func := "loop.example/g00762/laws.FnDepth", spec := "fnDepth", recurses := true, apart := false, narrowed := true }
def FnDepthUptoSaid : Prop := fnDepthUptoRow.holds Try.pinned (OpenSpec.upto fnDepthSpec)

/-- 'laws.FnUntouched', WHERE WHAT IT READS IS OF BULK AT MOST 1048576: true; the input reads as it did. -/
def fnUntouchedUptoRow : OpenClaim := { program := "ythdilioflhknpaa", sum := "9c5b994724b48611039ffee15568cf6ab3d2e044ac6e786d8c9c03861a9956b0", func := "loop.example/g00762/laws.FnUntouched", spec := "fnUntouched", recurses := true, apart := false, narrowed := true }
def FnUntouchedUptoSaid : Prop := fnUntouchedUptoRow.holds Try.pinned (OpenSpec.upto fnUntouchedSpec)

/-- 'laws.FnUnder', WHERE WHAT IT READS IS OF BULK AT MOST 1048576: true; the input reads as it did. -/
def fnUnderUptoRow : OpenClaim := { program := "ythdilioflhknpaa", sum := "9c5b994724b48611039ffee15568cf6ab3d2e044ac6e786d8c9c03861a9956b0", func := "loop.example/g00762/laws.FnUnder", spec := "fnUnder", recurses := true, apart := false, narrowed := true }
def FnUnderUptoSaid : Prop := fnUnderUptoRow.holds Try.pinned (OpenSpec.upto fnUnderSpec)

/-- 'laws.FnBoxHas', WHERE WHAT IT READS IS OF BULK AT MOST 1048576: true; the input reads as it did. -/
def fnBoxHasUptoRow : OpenClaim := { program := "ythdilioflhknpaa", sum := "9c5b994724b48611039ffee15568cf6ab3d2e044ac6e786d8c9c03861a9956b0", func := "loop.example/g00762/laws.FnBoxHas", spec := "fnBoxHas", apart := false, narrowed := true }
def FnBoxHasUptoSaid : Prop := fnBoxHasUptoRow.holds Try.pinned (OpenSpec.upto fnBoxHasSpec)

/-- 'laws.FnMeet', WHERE WHAT IT READS IS OF BULK AT MOST 1048576: true; the input reads as it did. -/
def fnMeetUptoRow : OpenClaim := { program := "ythdilioflhknpaa", sum := "9c5b994724b48611039ffee15568cf6ab3d2e044ac6e786d8c9c03861a9956b0", func := "loop.example/g00762/laws.FnMeet", spec := "fnMeet", unfollowed := true, recurses := true, apart := false, narrowed := true }
def FnMeetUptoSaid : Prop := fnMeetUptoRow.holds Try.pinned (OpenSpec.upto fnMeetSpec)

/-- 'laws.FnMeetOrder', WHERE WHAT IT READS IS OF BULK AT MOST 1048576: true; the input reads as it did. -/
def fnMeetOrderUptoRow : OpenClaim := { program := "ythdilioflhknpaa", sum := "9c5b994724b48611039ffee15568cf6ab3d2e044ac6e786d8c9c03861a9956b0", func := "loop.example/g00762/laws.FnMeetOrder", spec := "fnMeetOrder", unfollowed := true, recurses := true, apart := false, narrowed := true }
def FnMeetOrderUptoSaid : Prop := fnMeetOrderUptoRow.holds Try.pinned (OpenSpec.upto fnMeetOrderSpec)

/-- 'laws.FnPick', WHERE WHAT IT READS IS OF BULK AT MOST 1048576: true; the input reads as it did. -/
def fnPickUptoRow : OpenClaim := { program := "ythdilioflhknpaa", sum := "9c5b994724b48611039ffee15568cf6ab3d2e044ac6e786d8c9c03861a9956b0", func := "loop.example/g00762/laws.FnPick", spec := "fnPick", apart := false, narrowed := true }
def FnPickUptoSaid : Prop := fnPickUptoRow.holds Try.pinned (OpenSpec.upto fnPickSpec)

/-- 'laws.FnMiss', WHERE WHAT IT READS IS OF BULK AT MOST 1048576: true; the input reads as it did. -/
def fnMissUptoRow : OpenClaim := { program := "ythdilioflhknpaa", sum := "9c5b994724b48611039ffee15568cf6ab3d2e044ac6e786d8c9c03861a9956b0", func := "loop.example/g00762/laws.FnMiss", spec := "fnMiss", recurses := true, apart := false, narrowed := true }
def FnMissUptoSaid : Prop := fnMissUptoRow.holds Try.pinned (OpenSpec.upto fnMissSpec)

/-- 'laws.FnWithin', WHERE WHAT IT READS IS OF BULK AT MOST 1048576: true; the input reads as it did. -/
def fnWithinUptoRow : OpenClaim := { program := "ythdilioflhknpaa", sum := "9c5b994724b48611039ffee15568cf6ab3d2e044ac6e786d8c9c03861a9956b0", func := "loop.example/g00762/laws.FnWithin", spec := "fnWithin", unfollowed := true, recurses := true, apart := false, narrowed := true }
def FnWithinUptoSaid : Prop := fnWithinUptoRow.holds Try.pinned (OpenSpec.upto fnWithinSpec)

/-- 'laws.FnExactBoxOk', WHERE WHAT IT READS IS OF BULK AT MOST 1048576: true; the input reads as it did. -/
def fnExactBoxOkUptoRow : OpenClaim := { program := "ythdilioflhknpaa", sum := "9c5b994724b48611039ffee15568cf6ab3d2e044ac6e786d8c9c03861a9956b0", func := "loop.example/g00762/laws.FnExactBoxOk", spec := "fnExactBoxOk", apart := false, narrowed := true }
def FnExactBoxOkUptoSaid : Prop := fnExactBoxOkUptoRow.holds Try.pinned (OpenSpec.upto fnExactBoxOkSpec)

/-- 'laws.FnExactBoxHas', WHERE WHAT IT READS IS OF BULK AT MOST 1048576: true; the input reads as it did. -/
def fnExactBoxHasUptoRow : OpenClaim := { program := "ythdilioflhknpaa", sum := "9c5b994724b48611039ffee15568cf6ab3d2e044ac6e786d8c9c03861a9956b0", func := "loop.example/g00762/laws.FnExactBoxHas", spec := "fnExactBoxHas", apart := false, narrowed := true }
def FnExactBoxHasUptoSaid : Prop := fnExactBoxHasUptoRow.holds Try.pinned (OpenSpec.upto fnExactBoxHasSpec)

/-- 'laws.FnExactBoxMeet', WHERE WHAT IT READS IS OF BULK AT MOST 1048576: true; the input reads as it did. -/
def fnExactBoxMeetUptoRow : OpenClaim := { program := "ythdilioflhknpaa", sum := "9c5b994724b48611039ffee15568cf6ab3d2e044ac6e786d8c9c03861a9956b0", func := "loop.example/g00762/laws.FnExactBoxMeet", spec := "fnExactBoxMeet", unfollowed := true, recurses := true, apart := false, narrowed := true }
def FnExactBoxMeetUptoSaid : Prop := fnExactBoxMeetUptoRow.holds Try.pinned (OpenSpec.upto fnExactBoxMeetSpec)

/-- 'laws.FnExactPickOf', WHERE WHAT IT READS IS OF BULK AT MOST 1048576: true; the input reads as it did. -/
def fnExactPickOfUptoRow : OpenClaim := { program := "ythdilioflhknpaa", sum := "9c5b994724b48611039ffee15568cf6ab3d2e044ac6e786d8c9c03861a9956b0", func := "loop.example/g00762/laws.FnExactPickOf", spec := "fnExactPickOf", apart := false, narrowed := true }
def FnExactPickOfUptoSaid : Prop := fnExactPickOfUptoRow.holds Try.pinned (OpenSpec.upto fnExactPickOfSpec)

/-- 'laws.FnExactEnsOk', WHERE WHAT IT READS IS OF BULK AT MOST 1048576: true; the input reads as it did. -/
def fnExactEnsOkUptoRow : OpenClaim := { program := "ythdilioflhknpaa", sum := "9c5b994724b48611039ffee15568cf6ab3d2e044ac6e786d8c9c03861a9956b0", func := "loop.example/g00762/laws.FnExactEnsOk", spec := "fnExactEnsOk", apart := false, narrowed := true }
def FnExactEnsOkUptoSaid : Prop := fnExactEnsOkUptoRow.holds Try.pinned (OpenSpec.upto fnExactEnsOkSpec)

/-- 'laws.FnExactFullScore', WHERE WHAT IT READS IS OF BULK AT MOST 1048576: true; the input reads as it did. -/
def fnExactFullScoreUptoRow : OpenClaim := { program := "ythdilioflhknpaa", sum := "9c5b994724b48611039ffee15568cf6ab3d2e044ac6e786d8c9c03861a9956b0", func := "loop.example/g00762/laws.FnExactFullScore", spec := "fnExactFullScore", apart := false, narrowed := true }
def FnExactFullScoreUptoSaid : Prop := fnExactFullScoreUptoRow.holds Try.pinned (OpenSpec.upto fnExactFullScoreSpec)

/-- 'laws.FnExactSpanOf', WHERE WHAT IT READS IS OF BULK AT MOST 1048576: true; the input reads as it did. -/
def fnExactSpanOfUptoRow : OpenClaim := { program := "ythdilioflhknpaa", sum := "9c5b994724b48611039ffee15568cf6ab3d2e044ac6e786d8c9c03861a9956b0", func := "loop.example/g00762/laws.FnExactSpanOf", spec := "fnExactSpanOf", recurses := true, apart := false, narrowed := true }
def FnExactSpanOfUptoSaid : Prop := fnExactSpanOfUptoRow.holds Try.pinned (OpenSpec.upto fnExactSpanOfSpec)

/-- 'laws.FnExactEnsJoin', WHERE WHAT IT READS IS OF BULK AT MOST 1048576: true; the input reads as it did. -/
def fnExactEnsJoinUptoRow : OpenClaim := { program := "ythdilioflhknpaa", sum := "9c5b994724b48611039ffee15568cf6ab3d2e044ac6e786d8c9c03861a9956b0", func := "loop.example/g00762/laws.FnExactEnsJoin", spec := "fnExactEnsJoin", apart := false, narrowed := true }
def FnExactEnsJoinUptoSaid : Prop := fnExactEnsJoinUptoRow.holds Try.pinned (OpenSpec.upto fnExactEnsJoinSpec)

end Rows
end Go.Proofs.Ythdilioflhknpaa
