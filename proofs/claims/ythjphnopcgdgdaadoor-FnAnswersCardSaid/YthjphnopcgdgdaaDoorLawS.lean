/- A slice of spans that came in, as the walks take it. -/
import Derived.Test.YthjphnopcgdgdaaDoorK8
import Derived.Test.YthjphnopcgdgdaaDoorK2
namespace Go.Proofs.YthjphnopcgdgdaaDoor
open Go.ChangeShapes Go.WideShapes Go.Deep

/-- A slice of spans that came in. -/
def IsSpans (w : World) (a : Option Addr) (len _cap : Nat) (g : Nat → Sp) : Prop := RdS w w.heap.size a len g ∧ len ≤ 9223372036854775807

end Go.Proofs.YthjphnopcgdgdaaDoor
