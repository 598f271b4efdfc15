/- The walk of the exact law of RangeOf. -/
import Derived.Test.YtmpgefpaoogoiaaTreeH
namespace Go.Proofs.Ytmpgefpaoogoiaa
open Go.RowKit Go.Deep
end Go.Proofs.Ytmpgefpaoogoiaa
