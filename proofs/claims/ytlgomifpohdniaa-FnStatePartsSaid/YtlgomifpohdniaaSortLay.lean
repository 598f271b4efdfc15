/- The contract of the library's stable sort, laid at this program. -/
import Derived.Shelf.GgSortMore.Stable
import Derived.Test.YtlgomifpohdniaaProg
namespace Go.Proofs.Ytlgomifpohdniaa
open Go.Shelf
end Go.Proofs.Ytlgomifpohdniaa
