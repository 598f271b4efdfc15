/- The walk of the exact law of DepthOf. -/
import Derived.Test.YtmlcpjcchgihfaaTreeI
namespace Go.Proofs.Ytmlcpjcchgihfaa
open Go.RowKit Go.Deep
end Go.Proofs.Ytmlcpjcchgihfaa
