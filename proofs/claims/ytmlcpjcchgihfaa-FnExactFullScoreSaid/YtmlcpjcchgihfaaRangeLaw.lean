/- The walk of the exact law of RangeOf. -/
import Derived.Test.YtmlcpjcchgihfaaTreeH
namespace Go.Proofs.Ytmlcpjcchgihfaa
open Go.RowKit Go.Deep
end Go.Proofs.Ytmlcpjcchgihfaa
