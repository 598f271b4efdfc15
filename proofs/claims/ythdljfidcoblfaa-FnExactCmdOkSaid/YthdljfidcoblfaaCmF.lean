/- The text of a command, of the other side. -/
import Derived.Test.YthdljfidcoblfaaCmE
import Derived.Deep.RegionWith
import Derived.Deep.DeepCutAuto
namespace Go.Proofs.Ythdljfidcoblfaa
open Go.RowKit Go.Deep
set_option linter.unusedVariables false
set_option linter.unusedSimpArgs false

end Go.Proofs.Ythdljfidcoblfaa
