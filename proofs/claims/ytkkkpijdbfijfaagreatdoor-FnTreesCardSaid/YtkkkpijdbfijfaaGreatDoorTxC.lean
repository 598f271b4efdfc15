/- The text of a document, of the other side; the law's walk. -/
import Derived.Test.YtkkkpijdbfijfaaGreatDoorTxB
import Derived.Test.YtkkkpijdbfijfaaGreatDoorLaw
namespace Go.Proofs.YtkkkpijdbfijfaaGreatDoor
open Go.RowKit Go.Deep

end Go.Proofs.YtkkkpijdbfijfaaGreatDoor
