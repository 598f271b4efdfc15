/- Hits: which of two is better, on both sides; the walk of the exact law of HitLess. -/
import Derived.Test.YthjphnopcgdgdaaDoorLaw
import Derived.Test.YthjphnopcgdgdaaDoorK1
import Derived.Test.YthjphnopcgdgdaaDoorK2
import Derived.Below
import Derived.Deep.RegionHeld3
namespace Go.Proofs.YthjphnopcgdgdaaDoor
open Go.RowKit Go.Deep
set_option linter.unusedVariables false
set_option linter.unusedSimpArgs false

abbrev hitV (i s : Int) : Value := .agg #[.int .i64 i, .int .i64 s]
/-- Is the first Hit better than the second one? -/
def lessB (i s j t : Int) : Bool := decide (t < s) || (decide (s = t) && decide (i < j))
theorem size_hit : (Tryd.prog.info? 25).map (·.size) = some 2 := by kernel_rfl

end Go.Proofs.YthjphnopcgdgdaaDoor
