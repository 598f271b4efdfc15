/-
  No cell of these rows narrows 'for every input' (looked for: loops, veiled, ifaces, maps, wideKeys, modest, calm, conditions, laid).
  DERIVED. THE GIVEN ROWS OF THIS SEAT. 10 by the template 'for every input the law returns true; each argument reads behind the call as it read before'; 0 by the template 'total and deterministic' (their statements: YtlgomifpohdniaaTotals.lean).
  GIVEN WITH THE SEED: the statements are not yours to turn. If you find one false, say at which input.
  Laid BY PROGRAM, IN A SANDBOX (cutbox-rows.mjs): the forced cells as the released guide's own fill.sh prints them over the translation e7dca96e99e28b20… (all of the seat's roots in one cut). By AI agents, Wed Nov 11 2026. No macro, syntax, notation, axiom, sorry.
-/
import Derived.Test.YtlgomifpohdniaaChecked
import GoSem.Claim
import GoSem.ClaimJoined
import GoSem.ClaimMapViews
import Derived.JoinedTies
import Derived.KernelRfl
namespace Go.Proofs.Ytlgomifpohdniaa
/- THE CELL 'sum', in the pinned program and in every row, IS THE sha256 OF THE DUMP (.gsa) THAT YtlgomifpohdniaaProg.lean LOADS. Nothing in Lean hashes anything: it is a label: what it is worth is what the hold of that sum in a sandbox is worth. -/
noncomputable def Try.pinned : Pinned := { name := "ytlgomifpohdniaa", sum := "e7dca96e99e28b20d49c96c944692b15838dc4f60ea47282a540213c41294489", checked := Try.checked }
namespace Rows
def none {H : Type} : Left H := { results := [], args := [] }

/-- 'laws.FnExactStateTo': WHATEVER THE INPUT: true; the input reads as it did. -/
def fnExactStateToSpec : ChangeSpec := { name := "fnExactStateTo", fn := fun _ => fun
  | [d1, d2, d3, d4] => { results := [.lit (.bool true)], args := [d1, d2, d3, d4] }
  | _ => none }
def fnExactStateToRow : OpenClaim := { program := "ytlgomifpohdniaa", sum := "e7dca96e99e28b20d49c96c944692b15838dc4f60ea47282a540213c41294489", func := "loop.example/g00762/laws.FnExactStateTo", spec := "fnExactStateTo", inPlace := ["slices.overlaps[int64]"], unfollowed := true, recurses := true, apart := false }
def FnExactStateToSaid : Prop := fnExactStateToRow.holds Try.pinned (OpenSpec.ofChange fnExactStateToSpec)

/-- ITS FALSE NEIGHBOUR: 'it returns false'. Refute it at one input. -/
def fnExactStateToWrong : ChangeSpec := { name := "fnExactStateTo", fn := fun _ => fun
  | [d1, d2, d3, d4] => { results := [.lit (.bool false)], args := [d1, d2, d3, d4] }
  | _ => none }
def FnExactStateToWrongFalsely : Prop := fnExactStateToRow.holds Try.pinned (OpenSpec.ofChange fnExactStateToWrong)

/-- 'laws.FnExactClassify': WHATEVER THE INPUT: true; the input reads as it did. -/
def fnExactClassifySpec : ChangeSpec := { name := "fnExactClassify", fn := fun _ => fun
  | [d1, d2, d3, d4] => { results := [.lit (.bool true)], args := [d1, d2, d3, d4] }
  | _ => none }
def fnExactClassifyRow : OpenClaim := { program := "ytlgomifpohdniaa", sum := "e7dca96e99e28b20d49c96c944692b15838dc4f60ea47282a540213c41294489", func := "loop.example/g00762/laws.FnExactClassify", spec := "fnExactClassify", inPlace := ["slices.overlaps[int64]"], unfollowed := true, recurses := true, apart := false }
def FnExactClassifySaid : Prop := fnExactClassifyRow.holds Try.pinned (OpenSpec.ofChange fnExactClassifySpec)

/-- ITS FALSE NEIGHBOUR: 'it returns false'. Refute it at one input. -/
def fnExactClassifyWrong : ChangeSpec := { name := "fnExactClassify", fn := fun _ => fun
  | [d1, d2, d3, d4] => { results := [.lit (.bool false)], args := [d1, d2, d3, d4] }
  | _ => none }
def FnExactClassifyWrongFalsely : Prop := fnExactClassifyRow.holds Try.pinned (OpenSpec.ofChange fnExactClassifyWrong)

/-- 'laws.FnBounds': WHATEVER THE INPUT: true; the input reads as it did. -/
def fnBoundsSpec : ChangeSpec := { name := "fnBounds", fn := fun _ => fun
  | [d] => { results := [.lit (.bool true)], args := [d] }
  | _ => none }
def fnBoundsRow : OpenClaim := { program := "ytlgomifpohdniaa", sum := "e7dca96e99e28b20d49c96c944692b15838dc4f60ea47282a540213c41294489", func := "loop.example/g00762/laws.FnBounds", spec := "fnBounds", inPlace := ["slices.overlaps[int64]"], unfollowed := true, recurses := true, apart := false }
def FnBoundsSaid : Prop := fnBoundsRow.holds Try.pinned (OpenSpec.ofChange fnBoundsSpec)

/-- ITS FALSE NEIGHBOUR: 'it returns false'. Refute it at one input. -/
def fnBoundsWrong : ChangeSpec := { name := "fnBounds", fn := fun _ => fun
  | [d] => { results := [.lit (.bool false)], args := [d] }
  | _ => none }
def FnBoundsWrongFalsely : Prop := fnBoundsRow.holds Try.pinned (OpenSpec.ofChange fnBoundsWrong)

/-- 'laws.FnThreshold': WHATEVER THE INPUT: true; the input reads as it did. -/
def fnThresholdSpec : ChangeSpec := { name := "fnThreshold", fn := fun _ => fun
  | [d] => { results := [.lit (.bool true)], args := [d] }
  | _ => none }
def fnThresholdRow : OpenClaim := { program := "ytlgomifpohdniaa", sum := "e7dca96e99e28b20d49c96c944692b15838dc4f60ea47282a540213c41294489", func := "loop.example/g00762/laws.FnThreshold", spec := "fnThreshold", inPlace := ["slices.overlaps[int64]"], unfollowed := true, recurses := true, apart := false }
def FnThresholdSaid : Prop := fnThresholdRow.holds Try.pinned (OpenSpec.ofChange fnThresholdSpec)

/-- ITS FALSE NEIGHBOUR: 'it returns false'. Refute it at one input. -/
def fnThresholdWrong : ChangeSpec := { name := "fnThreshold", fn := fun _ => fun
  | [d] => { results := [.lit (.bool false)], args := [d] }
  | _ => none }
def FnThresholdWrongFalsely : Prop := fnThresholdRow.holds Try.pinned (OpenSpec.ofChange fnThresholdWrong)

/-- 'laws.FnStateParts': WHATEVER THE INPUT: true; the input reads as it did. -/
def fnStatePartsSpec : ChangeSpec := { name := "fnStateParts", fn := fun _ => fun
  | [d] => { results := [.lit (.bool true)], args := [d] }
  | _ => none }
def fnStatePartsRow : OpenClaim := { program := "ytlgomifpohdniaa", sum := "e7dca96e99e28b20d49c96c944692b15838dc4f60ea47282a540213c41294489", func := "loop.example/g00762/laws.FnStateParts", spec := "fnStateParts", inPlace := ["slices.overlaps[int64]"], unfollowed := true, recurses := true, apart := false }
def FnStatePartsSaid : Prop := fnStatePartsRow.holds Try.pinned (OpenSpec.ofChange fnStatePartsSpec)

/-- ITS FALSE NEIGHBOUR: 'it returns false'. Refute it at one input. -/
def fnStatePartsWrong : ChangeSpec := { name := "fnStateParts", fn := fun _ => fun
  | [d] => { results := [.lit (.bool false)], args := [d] }
  | _ => none }
def FnStatePartsWrongFalsely : Prop := fnStatePartsRow.holds Try.pinned (OpenSpec.ofChange fnStatePartsWrong)

/-- 'laws.FnFlat': WHATEVER THE INPUT: true; the input reads as it did. -/
def fnFlatSpec : ChangeSpec := { name := "fnFlat", fn := fun _ => fun
  | [d] => { results := [.lit (.bool true)], args := [d] }
  | _ => none }
def fnFlatRow : OpenClaim := { program := "ytlgomifpohdniaa", sum := "e7dca96e99e28b20d49c96c944692b15838dc4f60ea47282a540213c41294489", func := "loop.example/g00762/laws.FnFlat", spec := "fnFlat", unfollowed := true, recurses := true, apart := false }
def FnFlatSaid : Prop := fnFlatRow.holds Try.pinned (OpenSpec.ofChange fnFlatSpec)

/-- ITS FALSE NEIGHBOUR: 'it returns false'. Refute it at one input. -/
def fnFlatWrong : ChangeSpec := { name := "fnFlat", fn := fun _ => fun
  | [d] => { results := [.lit (.bool false)], args := [d] }
  | _ => none }
def FnFlatWrongFalsely : Prop := fnFlatRow.holds Try.pinned (OpenSpec.ofChange fnFlatWrong)

/-- 'laws.FnExactUnflatten': WHATEVER THE INPUT: true; the input reads as it did. -/
def fnExactUnflattenSpec : ChangeSpec := { name := "fnExactUnflatten", fn := fun _ => fun
  | [d] => { results := [.lit (.bool true)], args := [d] }
  | _ => none }
def fnExactUnflattenRow : OpenClaim := { program := "ytlgomifpohdniaa", sum := "e7dca96e99e28b20d49c96c944692b15838dc4f60ea47282a540213c41294489", func := "loop.example/g00762/laws.FnExactUnflatten", spec := "fnExactUnflatten", unfollowed := true, recurses := true, apart := false }
def FnExactUnflattenSaid : Prop := fnExactUnflattenRow.holds Try.pinned (OpenSpec.ofChange fnExactUnflattenSpec)

/-- ITS FALSE NEIGHBOUR: 'it returns false'. Refute it at one input. -/
def fnExactUnflattenWrong : ChangeSpec := { name := "fnExactUnflatten", fn := fun _ => fun
  | [d] => { results := [.lit (.bool false)], args := [d] }
  | _ => none }
def FnExactUnflattenWrongFalsely : Prop := fnExactUnflattenRow.holds Try.pinned (OpenSpec.ofChange fnExactUnflattenWrong)

/-- 'laws.FnUnflat': WHATEVER THE INPUT: true; the input reads as it did. -/
def fnUnflatSpec : ChangeSpec := { name := "fnUnflat", fn := fun _ => fun
  | [d] => { results := [.lit (.bool true)], args := [d] }
  | _ => none }
def fnUnflatRow : OpenClaim := { program := "ytlgomifpohdniaa", sum := "e7dca96e99e28b20d49c96c944692b15838dc4f60ea47282a540213c41294489", func := "loop.example/g00762/laws.FnUnflat", spec := "fnUnflat", unfollowed := true, recurses := true, apart := false }
def FnUnflatSaid : Prop := fnUnflatRow.holds Try.pinned (OpenSpec.ofChange fnUnflatSpec)

/-- ITS FALSE NEIGHBOUR: 'it returns false'. Refute it at one input. -/
def fnUnflatWrong : ChangeSpec := { name := "fnUnflat", fn := fun _ => fun
  | [d] => { results := [.lit (.bool false)], args := [d] }
  | _ => none }
def FnUnflatWrongFalsely : Prop := fnUnflatRow.holds Try.pinned (OpenSpec.ofChange fnUnflatWrong)

/-- 'laws.FnExactFlatScore': WHATEVER THE INPUT: true; the input reads as it did. -/
def fnExactFlatScoreSpec : ChangeSpec := { name := "fnExactFlatScore", fn := fun _ => fun
  | [d1, d2] => { results := [.lit (.bool true)], args := [d1, d2] }
  | _ => none }
def fnExactFlatScoreRow : OpenClaim := { program := "ytlgomifpohdniaa", sum := "e7dca96e99e28b20d49c96c944692b15838dc4f60ea47282a540213c41294489", func := "loop.example/g00762/laws.FnExactFlatScore", spec := "fnExactFlatScore", unfollowed := true, recurses := true, apart := false }
def FnExactFlatScoreSaid : Prop := fnExactFlatScoreRow.holds Try.pinned (OpenSpec.ofChange fnExactFlatScoreSpec)

/-- ITS FALSE NEIGHBOUR: 'it returns false'. Refute it at one input. -/
def fnExactFlatScoreWrong : ChangeSpec := { name := "fnExactFlatScore", fn := fun _ => fun
  | [d1, d2] => { results := [.lit (.bool false)], args := [d1, d2] }
  | _ => none }
def FnExactFlatScoreWrongFalsely : Prop := fnExactFlatScoreRow.holds Try.pinned (OpenSpec.ofChange fnExactFlatScoreWrong)

/-- 'laws.FnFlatScore': WHATEVER THE INPUT: true; the input reads as it did. -/
def fnFlatScoreSpec : ChangeSpec := { name := "fnFlatScore", fn := fun _ => fun
  | [d] => { results := [.lit (.bool true)], args := [d] }
  | _ => none }
def fnFlatScoreRow : OpenClaim := { program := "ytlgomifpohdniaa", sum := "e7dca96e99e28b20d49c96c944692b15838dc4f60ea47282a540213c41294489", func := "loop.example/g00762/laws.FnFlatScore", spec := "fnFlatScore", unfollowed := true, recurses := true, apart := false }
def FnFlatScoreSaid : Prop := fnFlatScoreRow.holds Try.pinned (OpenSpec.ofChange fnFlatScoreSpec)

/-- ITS FALSE NEIGHBOUR: 'it returns false'. Refute it at one input. -/
def fnFlatScoreWrong : ChangeSpec := { name := "fnFlatScore", fn := fun _ => fun
  | [d] => { results := [.lit (.bool false)], args := [d] }
  | _ => none }
def FnFlatScoreWrongFalsely : Prop := fnFlatScoreRow.holds Try.pinned (OpenSpec.ofChange fnFlatScoreWrong)

/- THE SECOND FORM. 'bulk': how many values and letters a reading holds, each counted each time it is reached (what is shared counts as often as it is met; a slice's spare places count too). A statement '..UptoSaid' is the law's where the arguments, and the package variables that the reading takes, are together of bulk at most 1048576: NARROWER than '..Said'. Prove '..Said' where nothing that the law and all that it calls make is longer than what came in: it says more and counts as full. Else prove '..UptoSaid'. A law counts once. -/
mutual
def uptoBulk {H : Type} : DataW H → Nat
  | .lit (.string bytes) => bytes.length + 1
  | .lit _ => 1
  | .nil => 1
  | .ptr d => uptoBulk d + 1
  | .slice elems spare => uptoBulkAll elems + uptoBulkAll spare + 1
  | .agg parts => uptoBulkAll parts + 1
  | .iface _ d => uptoBulk d + 1
  | .map entries => uptoBulkEntries entries + 1
  | .held _ => 1
def uptoBulkAll {H : Type} : List (DataW H) → Nat
  | [] => 0
  | d :: r => uptoBulk d + uptoBulkAll r
def uptoBulkEntries {H : Type} : List (Lit × DataW H) → Nat
  | [] => 0
  | x :: r => uptoBulkEntry x + uptoBulkEntries r
def uptoBulkEntry {H : Type} : Lit × DataW H → Nat
  | (.string bytes, d) => bytes.length + uptoBulk d + 1
  | (_, d) => uptoBulk d + 1
 end
def uptoSmall : (H : Type) → List (DataW H) → Bool := fun _ ds => decide (uptoBulkAll ds ≤ 1048576)
def OpenSpec.upto (s : _root_.Go.ChangeSpec) : _root_.Go.OpenSpec := { _root_.Go.OpenSpec.ofChange s with cond := some uptoSmall }

/-- 'laws.FnExactStateTo', WHERE WHAT IT READS IS OF BULK AT MOST 1048576: true; the input reads as it did. -/
def fnExactStateToUptoRow : OpenClaim := { program := "ytlgomifpohdniaa", sum := "e7dca96e99e28b20d49c96c944692b15838dc4f60ea47282a540213c41294489", func := "loop.example/g00762/laws.FnExactStateTo", spec := "fnExactStateTo", inPlace := ["slices.overlaps[int64]"], unfollowed := true, recurses := true, apart := false, narrowed := true }
def FnExactStateToUptoSaid : Prop := fnExactStateToUptoRow.holds Try.pinned (OpenSpec.upto fnExactStateToSpec)

/-- 'laws.FnExactClassify', WHERE WHAT IT READS IS OF BULK AT MOST 1048576: true; the input reads as it did. -/
def fnExactClassifyUptoRow : OpenClaim := { program := "ytlgomifpohdniaa", sum := "e7dca96e99e28b20d49c96c944692b15838dc4f60ea47282a540213c41294489", func := "loop.example/g00762/laws.FnExactClassify", spec := "fnExactClassify", inPlace := ["slices.overlaps[int64]"], unfollowed := true, recurses := true, apart := false, narrowed := true }
def FnExactClassifyUptoSaid : Prop := fnExactClassifyUptoRow.holds Try.pinned (OpenSpec.upto fnExactClassifySpec)

/-- 'laws.FnBounds', WHERE WHAT IT READS IS OF BULK AT MOST 1048576: true; the input reads as it did. -/
def fnBoundsUptoRow : OpenClaim := { program := "ytlgomifpohdniaa", sum := "e7dca96e99e28b20d49c96c944692b15838dc4f60ea47282a540213c41294489", func := "loop.example/g00762/laws.FnBounds", spec := "fnBounds", inPlace := ["slices.overlaps[int64]"], unfollowed := true, recurses := true, apart := false, narrowed := true }
def FnBoundsUptoSaid : Prop := fnBoundsUptoRow.holds Try.pinned (OpenSpec.upto fnBoundsSpec)

/-- 'laws.FnThreshold', WHERE WHAT IT READS IS OF BULK AT MOST 1048576: true; the input reads as it did. -/
def fnThresholdUptoRow : OpenClaim := { program := "ytlgomifpohdniaa", sum := "e7dca96e99e28b20d49c96c944692b15838dc4f60ea47282a540213c41294489", func := "loop.example/g00762/laws.FnThreshold", spec := "fnThreshold", inPlace := ["slices.overlaps[int64]"], unfollowed := true, recurses := true, apart := false, narrowed := true }
def FnThresholdUptoSaid : Prop := fnThresholdUptoRow.holds Try.pinned (OpenSpec.upto fnThresholdSpec)

/-- 'laws.FnStateParts', WHERE WHAT IT READS IS OF BULK AT MOST 1048576: true; the input reads as it did. -/
def fnStatePartsUptoRow : OpenClaim := { program := "ytlgomifpohdniaa", sum := "e7dca96e99e28b20d49c96c944692b15838dc4f60ea47282a540213c41294489", func := "loop.example/g00762/laws.FnStateParts", spec := "fnStateParts", inPlace := ["slices.overlaps[int64]"], unfollowed := true, recurses := true, apart := false, narrowed := true }
def FnStatePartsUptoSaid : Prop := fnStatePartsUptoRow.holds Try.pinned (OpenSpec.upto fnStatePartsSpec)

/-- 'laws.FnFlat', WHERE WHAT IT READS IS OF BULK AT MOST 1048576: true; the input reads as it did. -/
def fnFlatUptoRow : OpenClaim := { program := "ytlgomifpohdniaa", sum := "e7dca96e99e28b20d49c96c944692b15838dc4f60ea47282a540213c41294489", func := "loop.example/g00762/laws.FnFlat", spec := "fnFlat", unfollowed := true, recurses := true, apart := false, narrowed := true }
def FnFlatUptoSaid : Prop := fnFlatUptoRow.holds Try.pinned (OpenSpec.upto fnFlatSpec)

/-- 'laws.FnExactUnflatten', WHERE WHAT IT READS IS OF BULK AT MOST 1048576: true; the input reads as it did. -/
def fnExactUnflattenUptoRow : OpenClaim := { program := "ytlgomifpohdniaa", sum := "e7dca96e99e28b20d49c96c944692b15838dc4f60ea47282a540213c41294489", func := "loop.example/g00762/laws.FnExactUnflatten", spec := "fnExactUnflatten", unfollowed := true, recurses := true, apart := false, narrowed := true }
def FnExactUnflattenUptoSaid : Prop := fnExactUnflattenUptoRow.holds Try.pinned (OpenSpec.upto fnExactUnflattenSpec)

/-- 'laws.FnUnflat', WHERE WHAT IT READS IS OF BULK AT MOST 1048576: true; the input reads as it did. -/
def fnUnflatUptoRow : OpenClaim := { program := "ytlgomifpohdniaa", sum := "e7dca96e99e28b20d49c96c944692b15838dc4f60ea47282a540213c41294489", func := "loop.example/g00762/laws.FnUnflat", spec := "fnUnflat", unfollowed := true, recurses := true, apart := false, narrowed := true }
def FnUnflatUptoSaid : Prop := fnUnflatUptoRow.holds Try.pinned (OpenSpec.upto fnUnflatSpec)

/-- 'laws.FnExactFlatScore', WHERE WHAT IT READS IS OF BULK AT MOST 1048576: true; the input reads as it did. -/
def fnExactFlatScoreUptoRow : OpenClaim := { program := "ytlgomifpohdniaa", sum := "e7dca96e99e28b20d49c96c944692b15838dc4f60ea47282a540213c41294489", func := "loop.example/g00762/laws.FnExactFlatScore", spec := "fnExactFlatScore", unfollowed := true, recurses := true, apart := false, narrowed := true }
def FnExactFlatScoreUptoSaid : Prop := fnExactFlatScoreUptoRow.holds Try.pinned (OpenSpec.upto fnExactFlatScoreSpec)

/-- 'laws.FnFlatScore', WHERE WHAT IT READS IS OF BULK AT MOST 1048576: true; the input reads as it did. -/
def fnFlatScoreUptoRow : OpenClaim := { program := "ytlgomifpohdniaa", sum := "e7dca96e99e28b20d49c96c944692b15838dc4f60ea47282a540213c41294489", func := "loop.example/g00762/laws.FnFlatScore", spec := "fnFlatScore", unfollowed := true, recurses := true, apart := false, narrowed := true }
def FnFlatScoreUptoSaid : Prop := fnFlatScoreUptoRow.holds Try.pinned (OpenSpec.upto fnFlatScoreSpec)

end Rows
end Go.Proofs.Ytlgomifpohdniaa
