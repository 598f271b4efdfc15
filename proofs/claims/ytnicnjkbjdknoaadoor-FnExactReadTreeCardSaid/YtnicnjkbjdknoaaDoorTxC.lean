/- The text of a document, of the other side; the law's walk. -/
import Derived.Test.YtnicnjkbjdknoaaDoorTxB
import Derived.Test.YtnicnjkbjdknoaaDoorLaw
namespace Go.Proofs.YtnicnjkbjdknoaaDoor
open Go.RowKit Go.Deep

end Go.Proofs.YtnicnjkbjdknoaaDoor
