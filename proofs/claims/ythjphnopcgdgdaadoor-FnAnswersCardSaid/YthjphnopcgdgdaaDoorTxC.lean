/- The text of a document, of the other side; the law's walk. -/
import Derived.Test.YthjphnopcgdgdaaDoorTxB
import Derived.Test.YthjphnopcgdgdaaDoorLaw
namespace Go.Proofs.YthjphnopcgdgdaaDoor
open Go.RowKit Go.Deep

end Go.Proofs.YthjphnopcgdgdaaDoor
