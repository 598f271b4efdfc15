/- The walk of the exact law of RangeOf. -/
import Derived.Test.YthdilioflhknpaaTreeH
namespace Go.Proofs.Ythdilioflhknpaa
open Go.RowKit Go.Deep
end Go.Proofs.Ythdilioflhknpaa
