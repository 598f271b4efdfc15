/- A Hit read: the other side, and the law's walk. -/
import Derived.Test.YthjphnopcgdgdaaDoorRhA
import Derived.Test.YthjphnopcgdgdaaDoorHtB
namespace Go.Proofs.YthjphnopcgdgdaaDoor
open Go.RowKit Go.Deep

end Go.Proofs.YthjphnopcgdgdaaDoor
