/- Contracts of the closure that cuts a span, and of its other side. -/
import Derived.Test.YtmpgefpaoogoiaaBoxC
import Derived.Test.YtmpgefpaoogoiaaDrawD
namespace Go.Proofs.Ytmpgefpaoogoiaa
open Go.RowKit Go.Deep

end Go.Proofs.Ytmpgefpaoogoiaa
