/-
  No cell of these rows narrows 'for every input' (looked for: loops, veiled, ifaces, maps, wideKeys, modest, calm, conditions, laid).
  DERIVED. THE GIVEN ROWS OF THIS SEAT. 18 by the template 'for every input the law returns true; each argument reads behind the call as it read before'; 0 by the template 'total and deterministic' (their statements: YtodcalghnoiaeaaTotals.lean).
  GIVEN WITH THE SEED: the statements are not yours to turn. If you find one false, say at which input.
  Laid BY PROGRAM, IN A SANDBOX (cutbox-rows.mjs): the forced cells as the released guide's own fill.sh prints them over the translation 84b77a63f0876b1c… (all of the seat's roots in one cut). By AI agents, Wed Nov 11 2026. No macro, syntax, notation, axiom, sorry.
-/
import Derived.Test.YtodcalghnoiaeaaChecked
import GoSem.Claim
import GoSem.ClaimJoined
import GoSem.ClaimMapViews
import Derived.JoinedTies
import Derived.KernelRfl
namespace Go.Proofs.Ytodcalghnoiaeaa
/- THE CELL 'sum', in the pinned program and in every row, IS THE sha256 OF THE DUMP (.gsa) THAT YtodcalghnoiaeaaProg.lean LOADS. Nothing in Lean hashes anything: it is a label: what it is worth is what the hold of that sum in a sandbox is worth. -/
noncomputable def Try.pinned : Pinned := { name := "ytodcalghnoiaeaa", sum := "84b77a63f0876b1cbc85c9bbe0e2dd3d21526354f238d5cb0b537fdff117048b", checked := Try.checked }
namespace Rows
def none {H : Type} : Left H := { results := [], args := [] }

/-- 'laws.FnExactDocOk': WHATEVER THE INPUT: true; the input reads as it did. -/
def fnExactDocOkSpec : ChangeSpec := { name := "fnExactDocOk", fn := fun _ => fun
  | [d] => { results := [.lit (.bool true)], args := [d] }
  | _ => none }
def fnExactDocOkRow : OpenClaim := { program := "ytodcalghnoiaeaa", sum := "84b77a63f0876b1cbc85c9bbe0e2dd3d21526354f238d5cb0b537fdff117048b", func := "loop.example/g00762/laws.FnExactDocOk", spec := "fnExactDocOk", apart := false }
def FnExactDocOkSaid : Prop := fnExactDocOkRow.holds Try.pinned (OpenSpec.ofChange fnExactDocOkSpec)

/-- ITS FALSE NEIGHBOUR: 'it returns false'. Refute it at one input. -/
def fnExactDocOkWrong : ChangeSpec := { name := "fnExactDocOk", fn := fun _ => fun
  | [d] => { results := [.lit (.bool false)], args := [d] }
  | _ => none }
def FnExactDocOkWrongFalsely : Prop := fnExactDocOkRow.holds Try.pinned (OpenSpec.ofChange fnExactDocOkWrong)

/-- 'laws.FnExactGoneOf': WHATEVER THE INPUT: true; the input reads as it did. -/
def fnExactGoneOfSpec : ChangeSpec := { name := "fnExactGoneOf", fn := fun _ => fun
  | [d] => { results := [.lit (.bool true)], args := [d] }
  | _ => none }
def fnExactGoneOfRow : OpenClaim := { program := "ytodcalghnoiaeaa", sum := "84b77a63f0876b1cbc85c9bbe0e2dd3d21526354f238d5cb0b537fdff117048b", func := "loop.example/g00762/laws.FnExactGoneOf", spec := "fnExactGoneOf", apart := false }
def FnExactGoneOfSaid : Prop := fnExactGoneOfRow.holds Try.pinned (OpenSpec.ofChange fnExactGoneOfSpec)

/-- ITS FALSE NEIGHBOUR: 'it returns false'. Refute it at one input. -/
def fnExactGoneOfWrong : ChangeSpec := { name := "fnExactGoneOf", fn := fun _ => fun
  | [d] => { results := [.lit (.bool false)], args := [d] }
  | _ => none }
def FnExactGoneOfWrongFalsely : Prop := fnExactGoneOfRow.holds Try.pinned (OpenSpec.ofChange fnExactGoneOfWrong)

/-- 'laws.FnExactDocWith': WHATEVER THE INPUT: true; the input reads as it did. -/
def fnExactDocWithSpec : ChangeSpec := { name := "fnExactDocWith", fn := fun _ => fun
  | [d1, d2, d3] => { results := [.lit (.bool true)], args := [d1, d2, d3] }
  | _ => none }
def fnExactDocWithRow : OpenClaim := { program := "ytodcalghnoiaeaa", sum := "84b77a63f0876b1cbc85c9bbe0e2dd3d21526354f238d5cb0b537fdff117048b", func := "loop.example/g00762/laws.FnExactDocWith", spec := "fnExactDocWith", apart := false }
def FnExactDocWithSaid : Prop := fnExactDocWithRow.holds Try.pinned (OpenSpec.ofChange fnExactDocWithSpec)

/-- ITS FALSE NEIGHBOUR: 'it returns false'. Refute it at one input. -/
def fnExactDocWithWrong : ChangeSpec := { name := "fnExactDocWith", fn := fun _ => fun
  | [d1, d2, d3] => { results := [.lit (.bool false)], args := [d1, d2, d3] }
  | _ => none }
def FnExactDocWithWrongFalsely : Prop := fnExactDocWithRow.holds Try.pinned (OpenSpec.ofChange fnExactDocWithWrong)

/-- 'laws.FnExactTreeOk': WHATEVER THE INPUT: true; the input reads as it did. -/
def fnExactTreeOkSpec : ChangeSpec := { name := "fnExactTreeOk", fn := fun _ => fun
  | [d1, d2] => { results := [.lit (.bool true)], args := [d1, d2] }
  | _ => none }
def fnExactTreeOkRow : OpenClaim := { program := "ytodcalghnoiaeaa", sum := "84b77a63f0876b1cbc85c9bbe0e2dd3d21526354f238d5cb0b537fdff117048b", func := "loop.example/g00762/laws.FnExactTreeOk", spec := "fnExactTreeOk", apart := false }
def FnExactTreeOkSaid : Prop := fnExactTreeOkRow.holds Try.pinned (OpenSpec.ofChange fnExactTreeOkSpec)

/-- ITS FALSE NEIGHBOUR: 'it returns false'. Refute it at one input. -/
def fnExactTreeOkWrong : ChangeSpec := { name := "fnExactTreeOk", fn := fun _ => fun
  | [d1, d2] => { results := [.lit (.bool false)], args := [d1, d2] }
  | _ => none }
def FnExactTreeOkWrongFalsely : Prop := fnExactTreeOkRow.holds Try.pinned (OpenSpec.ofChange fnExactTreeOkWrong)

/-- 'laws.FnExactPathOf': WHATEVER THE INPUT: true; the input reads as it did. -/
def fnExactPathOfSpec : ChangeSpec := { name := "fnExactPathOf", fn := fun _ => fun
  | [d1, d2] => { results := [.lit (.bool true)], args := [d1, d2] }
  | _ => none }
def fnExactPathOfRow : OpenClaim := { program := "ytodcalghnoiaeaa", sum := "84b77a63f0876b1cbc85c9bbe0e2dd3d21526354f238d5cb0b537fdff117048b", func := "loop.example/g00762/laws.FnExactPathOf", spec := "fnExactPathOf", apart := false }
def FnExactPathOfSaid : Prop := fnExactPathOfRow.holds Try.pinned (OpenSpec.ofChange fnExactPathOfSpec)

/-- ITS FALSE NEIGHBOUR: 'it returns false'. Refute it at one input. -/
def fnExactPathOfWrong : ChangeSpec := { name := "fnExactPathOf", fn := fun _ => fun
  | [d1, d2] => { results := [.lit (.bool false)], args := [d1, d2] }
  | _ => none }
def FnExactPathOfWrongFalsely : Prop := fnExactPathOfRow.holds Try.pinned (OpenSpec.ofChange fnExactPathOfWrong)

/-- 'laws.FnExactLeafOf': WHATEVER THE INPUT: true; the input reads as it did. -/
def fnExactLeafOfSpec : ChangeSpec := { name := "fnExactLeafOf", fn := fun _ => fun
  | [d1, d2] => { results := [.lit (.bool true)], args := [d1, d2] }
  | _ => none }
def fnExactLeafOfRow : OpenClaim := { program := "ytodcalghnoiaeaa", sum := "84b77a63f0876b1cbc85c9bbe0e2dd3d21526354f238d5cb0b537fdff117048b", func := "loop.example/g00762/laws.FnExactLeafOf", spec := "fnExactLeafOf", apart := false }
def FnExactLeafOfSaid : Prop := fnExactLeafOfRow.holds Try.pinned (OpenSpec.ofChange fnExactLeafOfSpec)

/-- ITS FALSE NEIGHBOUR: 'it returns false'. Refute it at one input. -/
def fnExactLeafOfWrong : ChangeSpec := { name := "fnExactLeafOf", fn := fun _ => fun
  | [d1, d2] => { results := [.lit (.bool false)], args := [d1, d2] }
  | _ => none }
def FnExactLeafOfWrongFalsely : Prop := fnExactLeafOfRow.holds Try.pinned (OpenSpec.ofChange fnExactLeafOfWrong)

/-- 'laws.FnExactRangeOf': WHATEVER THE INPUT: true; the input reads as it did. -/
def fnExactRangeOfSpec : ChangeSpec := { name := "fnExactRangeOf", fn := fun _ => fun
  | [d] => { results := [.lit (.bool true)], args := [d] }
  | _ => none }
def fnExactRangeOfRow : OpenClaim := { program := "ytodcalghnoiaeaa", sum := "84b77a63f0876b1cbc85c9bbe0e2dd3d21526354f238d5cb0b537fdff117048b", func := "loop.example/g00762/laws.FnExactRangeOf", spec := "fnExactRangeOf", recurses := true, apart := false }
def FnExactRangeOfSaid : Prop := fnExactRangeOfRow.holds Try.pinned (OpenSpec.ofChange fnExactRangeOfSpec)

/-- ITS FALSE NEIGHBOUR: 'it returns false'. Refute it at one input. -/
def fnExactRangeOfWrong : ChangeSpec := { name := "fnExactRangeOf", fn := fun _ => fun
  | [d] => { results := [.lit (.bool false)], args := [d] }
  | _ => none }
def FnExactRangeOfWrongFalsely : Prop := fnExactRangeOfRow.holds Try.pinned (OpenSpec.ofChange fnExactRangeOfWrong)

/-- 'laws.FnExactDepthOf': WHATEVER THE INPUT: true; the input reads as it did. -/
def fnExactDepthOfSpec : ChangeSpec := { name := "fnExactDepthOf", fn := fun _ => fun
  | [d] => { results := [.lit (.bool true)], args := [d] }
  | _ => none }
def fnExactDepthOfRow : OpenClaim := { program := "ytodcalghnoiaeaa", sum := "84b77a63f0876b1cbc85c9bbe0e2dd3d21526354f238d5cb0b537fdff117048b", func := "loop.example/g00762/laws.FnExactDepthOf", spec := "fnExactDepthOf", recurses := true, apart := false }
def FnExactDepthOfSaid : Prop := fnExactDepthOfRow.holds Try.pinned (OpenSpec.ofChange fnExactDepthOfSpec)

/-- ITS FALSE NEIGHBOUR: 'it returns false'. Refute it at one input. -/
def fnExactDepthOfWrong : ChangeSpec := { name := "fnExactDepthOf", fn := fun _ => fun
  | [d] => { results := [.lit (.bool false)], args := [d] }
  | _ => none }
def FnExactDepthOfWrongFalsely : Prop := fnExactDepthOfRow.holds Try.pinned (OpenSpec.ofChange fnExactDepthOfWrong)

/-- 'laws.FnDocWith': WHATEVER THE INPUT: true; the input reads as it did. -/
def fnDocWithSpec : ChangeSpec := { name := "fnDocWith", fn := fun _ => fun
  | [d] => { results := [.lit (.bool true)], args := [d] }
  | _ => none }
def fnDocWithRow : OpenClaim := { program := "ytodcalghnoiaeaa", sum := "84b77a63f0876b1cbc85c9bbe0e2dd3d21526354f238d5cb0b537fdff117048b", func := "loop.example/g00762/laws.FnDocWith", spec := "fnDocWith", apart := false }
def FnDocWithSaid : Prop := fnDocWithRow.holds Try.pinned (OpenSpec.ofChange fnDocWithSpec)

/-- ITS FALSE NEIGHBOUR: 'it returns false'. Refute it at one input. -/
def fnDocWithWrong : ChangeSpec := { name := "fnDocWith", fn := fun _ => fun
  | [d] => { results := [.lit (.bool false)], args := [d] }
  | _ => none }
def FnDocWithWrongFalsely : Prop := fnDocWithRow.holds Try.pinned (OpenSpec.ofChange fnDocWithWrong)

/-- 'laws.FnGone': WHATEVER THE INPUT: true; the input reads as it did. -/
def fnGoneSpec : ChangeSpec := { name := "fnGone", fn := fun _ => fun
  | [d] => { results := [.lit (.bool true)], args := [d] }
  | _ => none }
def fnGoneRow : OpenClaim := { program := "ytodcalghnoiaeaa", sum := "84b77a63f0876b1cbc85c9bbe0e2dd3d21526354f238d5cb0b537fdff117048b", func := "loop.example/g00762/laws.FnGone", spec := "fnGone", apart := false }
def FnGoneSaid : Prop := fnGoneRow.holds Try.pinned (OpenSpec.ofChange fnGoneSpec)

/-- ITS FALSE NEIGHBOUR: 'it returns false'. Refute it at one input. -/
def fnGoneWrong : ChangeSpec := { name := "fnGone", fn := fun _ => fun
  | [d] => { results := [.lit (.bool false)], args := [d] }
  | _ => none }
def FnGoneWrongFalsely : Prop := fnGoneRow.holds Try.pinned (OpenSpec.ofChange fnGoneWrong)

/-- 'laws.FnDocTwo': WHATEVER THE INPUT: true; the input reads as it did. -/
def fnDocTwoSpec : ChangeSpec := { name := "fnDocTwo", fn := fun _ => fun
  | [d1, d2] => { results := [.lit (.bool true)], args := [d1, d2] }
  | _ => none }
def fnDocTwoRow : OpenClaim := { program := "ytodcalghnoiaeaa", sum := "84b77a63f0876b1cbc85c9bbe0e2dd3d21526354f238d5cb0b537fdff117048b", func := "loop.example/g00762/laws.FnDocTwo", spec := "fnDocTwo", apart := false }
def FnDocTwoSaid : Prop := fnDocTwoRow.holds Try.pinned (OpenSpec.ofChange fnDocTwoSpec)

/-- ITS FALSE NEIGHBOUR: 'it returns false'. Refute it at one input. -/
def fnDocTwoWrong : ChangeSpec := { name := "fnDocTwo", fn := fun _ => fun
  | [d1, d2] => { results := [.lit (.bool false)], args := [d1, d2] }
  | _ => none }
def FnDocTwoWrongFalsely : Prop := fnDocTwoRow.holds Try.pinned (OpenSpec.ofChange fnDocTwoWrong)

/-- 'laws.FnPath': WHATEVER THE INPUT: true; the input reads as it did. -/
def fnPathSpec : ChangeSpec := { name := "fnPath", fn := fun _ => fun
  | [d] => { results := [.lit (.bool true)], args := [d] }
  | _ => none }
def fnPathRow : OpenClaim := { program := "ytodcalghnoiaeaa", sum := "84b77a63f0876b1cbc85c9bbe0e2dd3d21526354f238d5cb0b537fdff117048b", func := "loop.example/g00762/laws.FnPath", spec := "fnPath", recurses := true, apart := false }
def FnPathSaid : Prop := fnPathRow.holds Try.pinned (OpenSpec.ofChange fnPathSpec)

/-- ITS FALSE NEIGHBOUR: 'it returns false'. Refute it at one input. -/
def fnPathWrong : ChangeSpec := { name := "fnPath", fn := fun _ => fun
  | [d] => { results := [.lit (.bool false)], args := [d] }
  | _ => none }
def FnPathWrongFalsely : Prop := fnPathRow.holds Try.pinned (OpenSpec.ofChange fnPathWrong)

/-- 'laws.FnDepth': WHATEVER THE INPUT: true; the input reads as it did. -/
def fnDepthSpec : ChangeSpec := { name := "fnDepth", fn := fun _ => fun
  | [d] => { results := [.lit (.bool true)], args := [d] }
  | _ => none }
def fnDepthRow : OpenClaim := { program := "ytodcalghnoiaeaa", sum := "84b77a63f0876b1cbc85c9bbe0e2dd3d21526354f238d5cb0b537fdff117048b", func := "loop.example/g00762/laws.FnDepth", spec := "fnDepth", recurses := true, apart := false }
def FnDepthSaid : Prop := fnDepthRow.holds Try.pinned (OpenSpec.ofChange fnDepthSpec)

/-- ITS FALSE NEIGHBOUR: 'it returns false'. Refute it at one input. -/
def fnDepthWrong : ChangeSpec := { name := "fnDepth", fn := fun _ => fun
  | [d] => { results := [.lit (.bool false)], args := [d] }
  | _ => none }
def FnDepthWrongFalsely : Prop := fnDepthRow.holds Try.pinned (OpenSpec.ofChange fnDepthWrong)

/-- 'laws.FnUntouched': WHATEVER THE INPUT: true; the input reads as it did. -/
def fnUntouchedSpec : ChangeSpec := { name := "fnUntouched", fn := fun _ => fun
  | [d] => { results := [.lit (.bool true)], args := [d] }
  | _ => none }
def fnUntouchedRow : OpenClaim := { program := "ytodcalghnoiaeaa", sum := "84b77a63f0876b1cbc85c9bbe0e2dd3d21526354f238d5cb0b537fdff117048b", func := "loop.example/g00762/laws.FnUntouched", spec := "fnUntouched", recurses := true, apart := false }
def FnUntouchedSaid : Prop := fnUntouchedRow.holds Try.pinned (OpenSpec.ofChange fnUntouchedSpec)

/-- ITS FALSE NEIGHBOUR: 'it returns false'. Refute it at one input. -/
def fnUntouchedWrong : ChangeSpec := { name := "fnUntouched", fn := fun _ => fun
  | [d] => { results := [.lit (.bool false)], args := [d] }
  | _ => none }
def FnUntouchedWrongFalsely : Prop := fnUntouchedRow.holds Try.pinned (OpenSpec.ofChange fnUntouchedWrong)

/-- 'laws.FnUnder': WHATEVER THE INPUT: true; the input reads as it did. -/
def fnUnderSpec : ChangeSpec := { name := "fnUnder", fn := fun _ => fun
  | [d] => { results := [.lit (.bool true)], args := [d] }
  | _ => none }
def fnUnderRow : OpenClaim := { program := "ytodcalghnoiaeaa", sum := "84b77a63f0876b1cbc85c9bbe0e2dd3d21526354f238d5cb0b537fdff117048b", func := "loop.example/g00762/laws.FnUnder", spec := "fnUnder", recurses := true, apart := false }
def FnUnderSaid : Prop := fnUnderRow.holds Try.pinned (OpenSpec.ofChange fnUnderSpec)

/-- ITS FALSE NEIGHBOUR: 'it returns false'. Refute it at one input. -/
def fnUnderWrong : ChangeSpec := { name := "fnUnder", fn := fun _ => fun
  | [d] => { results := [.lit (.bool false)], args := [d] }
  | _ => none }
def FnUnderWrongFalsely : Prop := fnUnderRow.holds Try.pinned (OpenSpec.ofChange fnUnderWrong)

/-- 'laws.FnTreeFeats': WHATEVER THE INPUT: true; the input reads as it did. -/
def fnTreeFeatsSpec : ChangeSpec := { name := "fnTreeFeats", fn := fun _ => fun
  | [d] => { results := [.lit (.bool true)], args := [d] }
  | _ => none }
def fnTreeFeatsRow : OpenClaim := { program := "ytodcalghnoiaeaa", sum := "84b77a63f0876b1cbc85c9bbe0e2dd3d21526354f238d5cb0b537fdff117048b", func := "loop.example/g00762/laws.FnTreeFeats", spec := "fnTreeFeats", recurses := true, apart := false }
def FnTreeFeatsSaid : Prop := fnTreeFeatsRow.holds Try.pinned (OpenSpec.ofChange fnTreeFeatsSpec)

/-- ITS FALSE NEIGHBOUR: 'it returns false'. Refute it at one input. -/
def fnTreeFeatsWrong : ChangeSpec := { name := "fnTreeFeats", fn := fun _ => fun
  | [d] => { results := [.lit (.bool false)], args := [d] }
  | _ => none }
def FnTreeFeatsWrongFalsely : Prop := fnTreeFeatsRow.holds Try.pinned (OpenSpec.ofChange fnTreeFeatsWrong)

/-- 'laws.FnStump': WHATEVER THE INPUT: true; the input reads as it did. -/
def fnStumpSpec : ChangeSpec := { name := "fnStump", fn := fun _ => fun
  | [d] => { results := [.lit (.bool true)], args := [d] }
  | _ => none }
def fnStumpRow : OpenClaim := { program := "ytodcalghnoiaeaa", sum := "84b77a63f0876b1cbc85c9bbe0e2dd3d21526354f238d5cb0b537fdff117048b", func := "loop.example/g00762/laws.FnStump", spec := "fnStump", apart := false }
def FnStumpSaid : Prop := fnStumpRow.holds Try.pinned (OpenSpec.ofChange fnStumpSpec)

/-- ITS FALSE NEIGHBOUR: 'it returns false'. Refute it at one input. -/
def fnStumpWrong : ChangeSpec := { name := "fnStump", fn := fun _ => fun
  | [d] => { results := [.lit (.bool false)], args := [d] }
  | _ => none }
def FnStumpWrongFalsely : Prop := fnStumpRow.holds Try.pinned (OpenSpec.ofChange fnStumpWrong)

/-- 'laws.FnMiss': WHATEVER THE INPUT: true; the input reads as it did. -/
def fnMissSpec : ChangeSpec := { name := "fnMiss", fn := fun _ => fun
  | [d] => { results := [.lit (.bool true)], args := [d] }
  | _ => none }
def fnMissRow : OpenClaim := { program := "ytodcalghnoiaeaa", sum := "84b77a63f0876b1cbc85c9bbe0e2dd3d21526354f238d5cb0b537fdff117048b", func := "loop.example/g00762/laws.FnMiss", spec := "fnMiss", recurses := true, apart := false }
def FnMissSaid : Prop := fnMissRow.holds Try.pinned (OpenSpec.ofChange fnMissSpec)

/-- ITS FALSE NEIGHBOUR: 'it returns false'. Refute it at one input. -/
def fnMissWrong : ChangeSpec := { name := "fnMiss", fn := fun _ => fun
  | [d] => { results := [.lit (.bool false)], args := [d] }
  | _ => none }
def FnMissWrongFalsely : Prop := fnMissRow.holds Try.pinned (OpenSpec.ofChange fnMissWrong)

/- THE SECOND FORM. 'bulk': how many values and letters a reading holds, each counted each time it is reached (what is shared counts as often as it is met; a slice's spare places count too). A statement '..UptoSaid' is the law's where the arguments, and the package variables that the reading takes, are together of bulk at most 1048576: NARROWER than '..Said'. Prove '..Said' where nothing that the law and all that it calls make is longer than what came in: it says more and counts as full. Else prove '..UptoSaid'. A law counts once. -/
mutual
def uptoBulk {H : Type} : DataW H → Nat
  | .lit (.string bytes) => bytes.length + 1
  | .lit _ => 1
  | .nil => 1
  | .ptr d => uptoBulk d + 1
  | .slice elems spare => uptoBulkAll elems + uptoBulkAll spare + 1
  | .agg parts => uptoBulkAll parts + 1
  | .iface _ d => uptoBulk d + 1
  | .map entries => uptoBulkEntries entries + 1
  | .held _ => 1
def uptoBulkAll {H : Type} : List (DataW H) → Nat
  | [] => 0
  | d :: r => uptoBulk d + uptoBulkAll r
def uptoBulkEntries {H : Type} : List (Lit × DataW H) → Nat
  | [] => 0
  | x :: r => uptoBulkEntry x + uptoBulkEntries r
def uptoBulkEntry {H : Type} : Lit × DataW H → Nat
  | (.string bytes, d) => bytes.length + uptoBulk d + 1
  | (_, d) => uptoBulk d + 1
 end
def uptoSmall : (H : Type) → List (DataW H) → Bool := fun _ ds => decide (uptoBulkAll ds ≤ 1048576)
def OpenSpec.upto (s : _root_.Go.ChangeSpec) : _root_.Go.OpenSpec := { _root_.Go.OpenSpec.ofChange s with cond := some uptoSmall }

/-- 'laws.FnExactDocOk', WHERE WHAT IT READS IS OF BULK AT MOST 1048576: true; the input reads as it did. -/
def fnExactDocOkUptoRow : OpenClaim := { program := "ytodcalghnoiaeaa", sum := "84b77a63f0876b1cbc85c9bbe0e2dd3d21526354f238d5cb0b537fdff117048b", func := "loop.example/g00762/laws.FnExactDocOk", spec := "fnExactDocOk", apart := false, narrowed := true }
def FnExactDocOkUptoSaid : Prop := fnExactDocOkUptoRow.holds Try.pinned (OpenSpec.upto fnExactDocOkSpec)

/-- 'laws.FnExactGoneOf', WHERE WHAT IT READS IS OF BULK AT MOST 1048576: true; the input reads as it did. -/
def fnExactGoneOfUptoRow : OpenClaim := { program := "ytodcalghnoiaeaa", sum := "84b77a63f0876b1cbc85c9bbe0e2dd3d21526354f238d5cb0b537fdff117048b", func := "loop.example/g00762/laws.FnExactGoneOf", spec := "fnExactGoneOf", apart := false, narrowed := true }
def FnExactGoneOfUptoSaid : Prop := fnExactGoneOfUptoRow.holds Try.pinned (OpenSpec.upto fnExactGoneOfSpec)

/-- 'laws.FnExactDocWith', WHERE WHAT IT READS IS OF BULK AT MOST 1048576: true; the input reads as it did. -/
def fnExactDocWithUptoRow : OpenClaim := { program := "ytodcalghnoiaeaa", sum := "84b77a63f0876b1cbc85c9bbe0e2dd3d21526354f238d5cb0b537fdff117048b", func := "loop.example/g00762/laws.FnExactDocWith", spec := "fnExactDocWith", apart := false, narrowed := true }
def FnExactDocWithUptoSaid : Prop := fnExactDocWithUptoRow.holds Try.pinned (OpenSpec.upto fnExactDocWithSpec)

/-- 'laws.FnExactTreeOk', WHERE WHAT IT READS IS OF BULK AT MOST 1048576: true; the input reads as it did. -/
def fnExactTreeOkUptoRow : OpenClaim := { program := "ytodcalghnoiaeaa", sum := "84b77a63f0876b1cbc85c9bbe0e2dd3d21526354f238d5cb0b537fdff117048b", func := "loop.example/g00762/laws.FnExactTreeOk", spec := "fnExactTreeOk", apart := false, narrowed := true }
def FnExactTreeOkUptoSaid : Prop := fnExactTreeOkUptoRow.holds Try.pinned (OpenSpec.upto fnExactTreeOkSpec)

/-- 'laws.FnExactPathOf', WHERE WHAT IT READS IS OF BULK AT MOST 1048576: true; the input reads as it did. -/
def fnExactPathOfUptoRow : OpenClaim := { program := "ytodcalghnoiaeaa", sum := "84b77a63f0876b1cbc85c9bbe0e2dd3d21526354f238d5cb0b537fdff117048b", func := "loop.example/g00762/laws.FnExactPathOf", spec := "fnExactPathOf", apart := false, narrowed := true }
def FnExactPathOfUptoSaid : Prop := fnExactPathOfUptoRow.holds Try.pinned (OpenSpec.upto fnExactPathOfSpec)

/-- 'laws.FnExactLeafOf', WHERE WHAT IT READS IS OF BULK AT MOST 1048576: true; the input reads as it did. -/
def fnExactLeafOfUptoRow : OpenClaim := { program := "ytodcalghnoiaeaa", sum := "84b77a63f0876b1cbc85c9bbe0e2dd3d21526354f238d5cb0b537fdff117048b", func := "loop.example/g00762/laws.FnExactLeafOf", spec := "fnExactLeafOf", apart := false, narrowed := true }
def FnExactLeafOfUptoSaid : Prop := fnExactLeafOfUptoRow.holds Try.pinned (OpenSpec.upto fnExactLeafOfSpec)

/-- 'laws.FnExactRangeOf', WHERE WHAT IT READS IS OF BULK AT MOST 1048576: true; the input reads as it did. -/
def fnExactRangeOfUptoRow : OpenClaim := { program := "ytodcalghnoiaeaa", sum := "84b77a63f0876b1cbc85c9bbe0e2dd3d21526354f238d5cb0b537fdff117048b", func := "loop.example/g00762/laws.FnExactRangeOf", spec := "fnExactRangeOf", recurses := true, apart := false, narrowed := true }
def FnExactRangeOfUptoSaid : Prop := fnExactRangeOfUptoRow.holds Try.pinned (OpenSpec.upto fnExactRangeOfSpec)

/-- 'laws.FnExactDepthOf', WHERE WHAT IT READS IS OF BULK AT MOST 1048576: true; the input reads as it did. -/
def fnExactDepthOfUptoRow : OpenClaim := { program := "ytodcalghnoiaeaa", sum := "84b77a63f0876b1cbc85c9bbe0e2dd3d21526354f238d5cb0b537fdff117048b", func := "loop.example/g00762/laws.FnExactDepthOf", spec := "fnExactDepthOf", recurses := true, apart := false, narrowed := true }
def FnExactDepthOfUptoSaid : Prop := fnExactDepthOfUptoRow.holds Try.pinned (OpenSpec.upto fnExactDepthOfSpec)

/-- 'laws.FnDocWith', WHERE WHAT IT READS IS OF BULK AT MOST 1048576: true; the input reads as it did. -/
def fnDocWithUptoRow : OpenClaim := { program := "ytodcalghnoiaeaa", sum := "84b77a63f0876b1cbc85c9bbe0e2dd3d21526354f238d5cb0b537fdff117048b", func := "loop.example/g00762/laws.FnDocWith", spec := "fnDocWith", apart := false, narrowed := true }
def FnDocWithUptoSaid : Prop := fnDocWithUptoRow.holds Try.pinned (OpenSpec.upto fnDocWithSpec)

/-- 'laws.FnGone', WHERE WHAT IT READS IS OF BULK AT MOST 1048576: true; the input reads as it did. -/
def fnGoneUptoRow : OpenClaim := { program := "ytodcalghnoiaeaa", sum := "84b77a63f0876b1cbc85c9bbe0e2dd3d21526354f238d5cb0b537fdff117048b", func := "loop.example/g00762/laws.FnGone", spec := "fnGone", apart := false, narrowed := true }
def FnGoneUptoSaid : Prop := fnGoneUptoRow.holds Try.pinned (OpenSpec.upto fnGoneSpec)

/-- 'laws.FnDocTwo', WHERE WHAT IT READS IS OF BULK AT MOST 1048576: true; the input reads as it did. -/
def fnDocTwoUptoRow : OpenClaim := { program := "ytodcalghnoiaeaa", sum := "84b77a63f0876b1cbc85c9bbe0e2dd3d21526354f238d5cb0b537fdff117048b", func := "loop.example/g00762/laws.FnDocTwo", spec := "fnDocTwo", apart := false, narrowed := true }
def FnDocTwoUptoSaid : Prop := fnDocTwoUptoRow.holds Try.pinned (OpenSpec.upto fnDocTwoSpec)

/-- 'laws.FnPath', WHERE WHAT IT READS IS OF BULK AT MOST 1048576: true; the input reads as it did. -/
def fnPathUptoRow : OpenClaim := { program := "ytodcalghnoiaeaa", sum := "84b77a63f0876b1cbc85c9bbe0e2dd3d21526354f238d5cb0b537fdff117048b", func := "loop.example/g00762/laws.FnPath", spec := "fnPath", recurses := true, apart := false, narrowed := true }
def FnPathUptoSaid : Prop := fnPathUptoRow.holds Try.pinned (OpenSpec.upto fnPathSpec)

/-- 'laws.FnDepth', WHERE WHAT IT READS IS OF BULK AT MOST 1048576: true; the input reads as it did. -/
def fnDepthUptoRow : OpenClaim := { program := "ytodcalghnoiaeaa", sum := "84b77a63f0876b1cbc85c9bbe0e2dd3d21526354f238d5cb0b537fdff117048b", func := "loop.example/g00762/laws.FnDepth", spec := "fnDepth", recurses := true, apart := false, narrowed := true }
def FnDepthUptoSaid : Prop := fnDepthUptoRow.holds Try.pinned (OpenSpec.upto fnDepthSpec)

/-- 'laws.FnUntouched', WHERE WHAT IT READS IS OF BULK AT MOST 1048576: true; the input reads as it did. -/
def fnUntouchedUptoRow : OpenClaim := { program := "ytodcalghnoiaeaa", sum := "84b77a63f0876b1cbc85c9bbe0e2dd3d21526354f238d5cb0b537fdff117048b", func := "loop.example/g00762/laws.FnUntouched", spec := "fnUntouched", recurses := true, apart := false, narrowed := true }
def FnUntouchedUptoSaid : Prop := fnUntouchedUptoRow.holds Try.pinned (OpenSpec.upto fnUntouchedSpec)

/-- 'laws.FnUnder', WHERE WHAT IT READS IS OF BULK AT MOST 1048576: true; the input reads as it did. -/
def fnUnderUptoRow : OpenClaim := { program := "ytodcalghnoiaeaa", sum := "84b77a63f0876b1cbc85c9bbe0e2dd3d21526354f238d5cb0b537fdff117048b", func := "loop.example/g00762/laws.FnUnder", spec := "fnUnder", recurses := true, apart := false, narrowed := true }
def FnUnderUptoSaid : Prop := fnUnderUptoRow.holds Try.pinned (OpenSpec.upto fnUnderSpec)

/-- 'laws.FnTreeFeats', WHERE WHAT IT READS IS OF BULK AT MOST 1048576: true; the input reads as it did. -/
def fnTreeFeatsUptoRow : OpenClaim := { program := "ytodcalghnoiaeaa", sum := "84b77a63f0876b1cbc85c9bbe0e2dd3d21526354f238d5cb0b537fdff117048b", func := "loop.example/g00762/laws.FnTreeFeats", spec := "fnTreeFeats", recurses := true, apart := false, narrowed := true }
def FnTreeFeatsUptoSaid : Prop := fnTreeFeatsUptoRow.holds Try.pinned (OpenSpec.upto fnTreeFeatsSpec)

/-- 'laws.FnStump', WHERE WHAT IT READS IS OF BULK AT MOST 1048576: true; the input reads as it did. -/
def fnStumpUptoRow : OpenClaim := { program := "ytodcalghnoiaeaa", sum := "84b77a63f0876b1cbc85c9bbe0e2dd3d21526354f238d5cb0b537fdff117048b", func := "loop.example/g00762/laws.FnStump", spec := "fnStump", apart := false, narrowed := true }
def FnStumpUptoSaid : Prop := fnStumpUptoRow.holds Try.pinned (OpenSpec.upto fnStumpSpec)

/-- 'laws.FnMiss', WHERE WHAT IT READS IS OF BULK AT MOST 1048576: true; the input reads as it did. -/
def fnMissUptoRow : OpenClaim := { program := "ytodcalghnoiaeaa", sum := "84b77a63f0876b1cbc85c9bbe0e2dd3d21526354f238d5cb0b537fdff117048b", func := "loop.example/g00762/laws.FnMiss", spec := "fnMiss", recurses := true, apart := false, narrowed := true }
def FnMissUptoSaid : Prop := fnMissUptoRow.holds Try.pinned (OpenSpec.upto fnMissSpec)

end Rows
end Go.Proofs.Ytodcalghnoiaeaa
