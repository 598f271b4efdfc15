/-
  No cell of these rows narrows 'for every input' (looked for: loops, veiled, ifaces, maps, wideKeys, modest, calm, conditions, laid).
  DERIVED. THE GIVEN ROWS OF THIS SEAT. 5 by the template 'for every input the law returns true; each argument reads behind the call as it read before'; 0 by the template 'total and deterministic' (their statements: YtlgomifpohdniaaGreatTotals.lean).
  GIVEN WITH THE SEED: the statements are not yours to turn. If you find one false, say at which input.
  Laid BY PROGRAM, IN A SANDBOX (cutbox-rows.mjs): the forced cells as the released guide's own fill.sh prints them over the translation f6104fdd8b26825c… (all of the seat's roots in one cut). By AI agents, Wed Nov 11 2026. No macro, syntax, notation, axiom, sorry.
-/
import Derived.Test.YtlgomifpohdniaaGreatChecked
import GoSem.Claim
import GoSem.ClaimJoined
import GoSem.ClaimMapViews
import Derived.JoinedTies
import Derived.KernelRfl
namespace Go.Proofs.YtlgomifpohdniaaGreat
/- THE CELL 'sum', in the pinned program and in every row, IS THE sha256 OF THE DUMP (.gsa) THAT YtlgomifpohdniaaGreatProg.lean LOADS. Nothing in Lean hashes anything: it is a label: what it is worth is what the hold of that sum in a sandbox is worth. -/
noncomputable def Tryz.pinned : Pinned := { name := "ytlgomifpohdniaagreat", sum := "f6104fdd8b26825c0c2c15f9587e5fefe7d9c6ddf60a78ff5802d413d64f4b4d", checked := Tryz.checked }
namespace Rows
def none {H : Type} : Left H := { results := [], args := [] }

/-- 'laws.FnState': WHATEVER THE INPUT: true; the input reads as it did. -/
def fnStateSpec : ChangeSpec := { name := "fnState", fn := fun _ => fun
  | [d] => { results := [.lit (.bool true)], args := [d] }
  | _ => none }
def fnStateRow : OpenClaim := { program := "ytlgomifpohdniaagreat", sum := "f6104fdd8b26825c0c2c15f9587e5fefe7d9c6ddf60a78ff5802d413d64f4b4d", func := "loop.example/g00762/laws.FnState", spec := "fnState", inPlace := ["slices.overlaps[int64]"], unfollowed := true, recurses := true, apart := false }
def FnStateSaid : Prop := fnStateRow.holds Tryz.pinned (OpenSpec.ofChange fnStateSpec)

/-- ITS FALSE NEIGHBOUR: 'it returns false'. Refute it at one input. -/
def fnStateWrong : ChangeSpec := { name := "fnState", fn := fun _ => fun
  | [d] => { results := [.lit (.bool false)], args := [d] }
  | _ => none }
def FnStateWrongFalsely : Prop := fnStateRow.holds Tryz.pinned (OpenSpec.ofChange fnStateWrong)

/-- 'laws.FnClassify': WHATEVER THE INPUT: true; the input reads as it did. -/
def fnClassifySpec : ChangeSpec := { name := "fnClassify", fn := fun _ => fun
  | [d] => { results := [.lit (.bool true)], args := [d] }
  | _ => none }
def fnClassifyRow : OpenClaim := { program := "ytlgomifpohdniaagreat", sum := "f6104fdd8b26825c0c2c15f9587e5fefe7d9c6ddf60a78ff5802d413d64f4b4d", func := "loop.example/g00762/laws.FnClassify", spec := "fnClassify", inPlace := ["slices.overlaps[int64]", "internal/reflectlite.ValueOf", "internal/reflectlite.Swapper", "(internal/reflectlite.Value).Len"], unfollowed := true, recurses := true, apart := false }
def FnClassifySaid : Prop := fnClassifyRow.holds Tryz.pinned (OpenSpec.ofChange fnClassifySpec)

/-- ITS FALSE NEIGHBOUR: 'it returns false'. Refute it at one input. -/
def fnClassifyWrong : ChangeSpec := { name := "fnClassify", fn := fun _ => fun
  | [d] => { results := [.lit (.bool false)], args := [d] }
  | _ => none }
def FnClassifyWrongFalsely : Prop := fnClassifyRow.holds Tryz.pinned (OpenSpec.ofChange fnClassifyWrong)

/-- 'laws.FnExit': WHATEVER THE INPUT: true; the input reads as it did. -/
def fnExitSpec : ChangeSpec := { name := "fnExit", fn := fun _ => fun
  | [d] => { results := [.lit (.bool true)], args := [d] }
  | _ => none }
def fnExitRow : OpenClaim := { program := "ytlgomifpohdniaagreat", sum := "f6104fdd8b26825c0c2c15f9587e5fefe7d9c6ddf60a78ff5802d413d64f4b4d", func := "loop.example/g00762/laws.FnExit", spec := "fnExit", inPlace := ["slices.overlaps[int64]"], unfollowed := true, recurses := true, apart := false }
def FnExitSaid : Prop := fnExitRow.holds Tryz.pinned (OpenSpec.ofChange fnExitSpec)

/-- ITS FALSE NEIGHBOUR: 'it returns false'. Refute it at one input. -/
def fnExitWrong : ChangeSpec := { name := "fnExit", fn := fun _ => fun
  | [d] => { results := [.lit (.bool false)], args := [d] }
  | _ => none }
def FnExitWrongFalsely : Prop := fnExitRow.holds Tryz.pinned (OpenSpec.ofChange fnExitWrong)

/-- 'laws.FnOneStage': WHATEVER THE INPUT: true; the input reads as it did. -/
def fnOneStageSpec : ChangeSpec := { name := "fnOneStage", fn := fun _ => fun
  | [d] => { results := [.lit (.bool true)], args := [d] }
  | _ => none }
def fnOneStageRow : OpenClaim := { program := "ytlgomifpohdniaagreat", sum := "f6104fdd8b26825c0c2c15f9587e5fefe7d9c6ddf60a78ff5802d413d64f4b4d", func := "loop.example/g00762/laws.FnOneStage", spec := "fnOneStage", inPlace := ["internal/reflectlite.ValueOf", "internal/reflectlite.Swapper", "(internal/reflectlite.Value).Len", "slices.overlaps[int64]"], unfollowed := true, recurses := true, apart := false }
def FnOneStageSaid : Prop := fnOneStageRow.holds Tryz.pinned (OpenSpec.ofChange fnOneStageSpec)

/-- ITS FALSE NEIGHBOUR: 'it returns false'. Refute it at one input. -/
def fnOneStageWrong : ChangeSpec := { name := "fnOneStage", fn := fun _ => fun
  | [d] => { results := [.lit (.bool false)], args := [d] }
  | _ => none }
def FnOneStageWrongFalsely : Prop := fnOneStageRow.holds Tryz.pinned (OpenSpec.ofChange fnOneStageWrong)

/-- 'laws.FnAnyOrder': WHATEVER THE INPUT: true; the input reads as it did. -/
def fnAnyOrderSpec : ChangeSpec := { name := "fnAnyOrder", fn := fun _ => fun
  | [d] => { results := [.lit (.bool true)], args := [d] }
  | _ => none }
def fnAnyOrderRow : OpenClaim := { program := "ytlgomifpohdniaagreat", sum := "f6104fdd8b26825c0c2c15f9587e5fefe7d9c6ddf60a78ff5802d413d64f4b4d", func := "loop.example/g00762/laws.FnAnyOrder", spec := "fnAnyOrder", inPlace := ["internal/reflectlite.ValueOf", "internal/reflectlite.Swapper", "(internal/reflectlite.Value).Len", "slices.overlaps[int64]"], unfollowed := true, recurses := true, apart := false }
def FnAnyOrderSaid : Prop := fnAnyOrderRow.holds Tryz.pinned (OpenSpec.ofChange fnAnyOrderSpec)

/-- ITS FALSE NEIGHBOUR: 'it returns false'. Refute it at one input. -/
def fnAnyOrderWrong : ChangeSpec := { name := "fnAnyOrder", fn := fun _ => fun
  | [d] => { results := [.lit (.bool false)], args := [d] }
  | _ => none }
def FnAnyOrderWrongFalsely : Prop := fnAnyOrderRow.holds Tryz.pinned (OpenSpec.ofChange fnAnyOrderWrong)

/- THE SECOND FORM. 'bulk': how many values and letters a reading holds, each counted each time it is reached (what is shared counts as often as it is met; a slice's spare places count too). A statement '..UptoSaid' is the law's where the arguments, and the package variables that the reading takes, are together of bulk at most 1048576: NARROWER than '..Said'. Prove '..Said' where nothing that the law and all that it calls make is longer than what came in: it says more and counts as full. Else prove '..UptoSaid'. A law counts once. -/
mutual
def uptoBulk {H : Type} : DataW H → Nat
  | .lit (.string bytes) => bytes.length + 1
  | .lit _ => 1
  | .nil => 1
  | .ptr d => uptoBulk d + 1
  | .slice elems spare => uptoBulkAll elems + uptoBulkAll spare + 1
  | .agg parts => uptoBulkAll parts + 1
  | .iface _ d => uptoBulk d + 1
  | .map entries => uptoBulkEntries entries + 1
  | .held _ => 1
def uptoBulkAll {H : Type} : List (DataW H) → Nat
  | [] => 0
  | d :: r => uptoBulk d + uptoBulkAll r
def uptoBulkEntries {H : Type} : List (Lit × DataW H) → Nat
  | [] => 0
  | x :: r => uptoBulkEntry x + uptoBulkEntries r
def uptoBulkEntry {H : Type} : Lit × DataW H → Nat
  | (.string bytes, d) => bytes.length + uptoBulk d + 1
  | (_, d) => uptoBulk d + 1
 end
def uptoSmall : (H : Type) → List (DataW H) → Bool := fun _ ds => decide (uptoBulkAll ds ≤ 1048576)
def OpenSpec.upto (s : _root_.Go.ChangeSpec) : _root_.Go.OpenSpec := { _root_.Go.OpenSpec.ofChange s with cond := some uptoSmall }

/-- 'laws.FnState', WHERE WHAT IT READS IS OF BULK AT MOST 1048576: true; the input reads as it did. -/
def fnStateUptoRow : OpenClaim := { program := "ytlgomifpohdniaagreat", sum := "f6104fdd8b26825c0c2c15f9587e5fefe7d9c6ddf60a78ff5802d413d64f4b4d", func := "loop.example/g00762/laws.FnState", spec := "fnState", inPlace := ["slices.overlaps[int64]"], unfollowed := true, recurses := true, apart := false, narrowed := true }
def FnStateUptoSaid : Prop := fnStateUptoRow.holds Tryz.pinned (OpenSpec.upto fnStateSpec)

/-- 'laws.FnClassify', WHERE WHAT IT READS IS OF BULK AT MOST 1048576: true; the input reads as it did. -/
def fnClassifyUptoRow : OpenClaim := { program := "ytlgomifpohdniaagreat", sum := "f6104fdd8b26825c0c2c15f9587e5fefe7d9c6ddf60a78ff5802d413d64f4b4d", func := "loop.example/g00762/laws.FnClassify", spec := "fnClassify", inPlace := ["slices.overlaps[int64]", "internal/reflectlite.ValueOf", "internal/reflectlite.Swapper", "(internal/reflectlite.Value).Len"], unfollowed := true, recurses := true, apart := false, narrowed := true }
def FnClassifyUptoSaid : Prop := fnClassifyUptoRow.holds Tryz.pinned (OpenSpec.upto fnClassifySpec)

/-- 'laws.FnExit', WHERE WHAT IT READS IS OF BULK AT MOST 1048576: true; the input reads as it did. -/
def fnExitUptoRow : OpenClaim := { program := "ytlgomifpohdniaagreat", sum := "f6104fdd8b26825c0c2c15f9587e5fefe7d9c6ddf60a78ff5802d413d64f4b4d", func := "loop.example/g00762/laws.FnExit", spec := "fnExit", inPlace := ["slices.overlaps[int64]"], unfollowed := true, recurses := true, apart := false, narrowed := true }
def FnExitUptoSaid : Prop := fnExitUptoRow.holds Tryz.pinned (OpenSpec.upto fnExitSpec)

/-- 'laws.FnOneStage', WHERE WHAT IT READS IS OF BULK AT MOST 1048576: true; the input reads as it did. -/
def fnOneStageUptoRow : OpenClaim := { program := "ytlgomifpohdniaagreat", sum := "f6104fdd8b26825c0c2c15f9587e5fefe7d9c6ddf60a78ff5802d413d64f4b4d", func := "loop.example/g00762/laws.FnOneStage", spec := "fnOneStage", inPlace := ["internal/reflectlite.ValueOf", "internal/reflectlite.Swapper", "(internal/reflectlite.Value).Len", "slices.overlaps[int64]"], unfollowed := true, recurses := true, apart := false, narrowed := true }
def FnOneStageUptoSaid : Prop := fnOneStageUptoRow.holds Tryz.pinned (OpenSpec.upto fnOneStageSpec)

/-- 'laws.FnAnyOrder', WHERE WHAT IT READS IS OF BULK AT MOST 1048576: true; the input reads as it did. -/
def fnAnyOrderUptoRow : OpenClaim := { program := "ytlgomifpohdniaagreat", sum := "f6104fdd8b26825c0c2c15f9587e5fefe7d9c6ddf60a78ff5802d413d64f4b4d", func := "loop.example/g00762/laws.FnAnyOrder", spec := "fnAnyOrder", inPlace := ["internal/reflectlite.ValueOf", "internal/reflectlite.Swapper", "(internal/reflectlite.Value).Len", "slices.overlaps[int64]"], unfollowed := true, recurses := true, apart := false, narrowed := true }
def FnAnyOrderUptoSaid : Prop := fnAnyOrderUptoRow.holds Tryz.pinned (OpenSpec.upto fnAnyOrderSpec)

end Rows
end Go.Proofs.YtlgomifpohdniaaGreat
