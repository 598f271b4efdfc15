/- The contract of the library's stable sort, laid at this program. -/
import Derived.Shelf.GgSortMore.Stable
import Derived.Test.YtghjeaffnocihaaProg
namespace Go.Proofs.Ytghjeaffnocihaa
open Go.Shelf
end Go.Proofs.Ytghjeaffnocihaa
