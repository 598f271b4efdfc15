/- Marks in rows of nodes. -/
import Derived.Test.YtmkipdhappikhaaGreatDoorK2
import Derived.Test.YtmkipdhappikhaaGreatDoorK5
import Derived.Test.YtmkipdhappikhaaGreatDoorK4
namespace Go.Proofs.YtmkipdhappikhaaGreatDoor
open Go.RowKit Go.Deep
set_option linter.unusedVariables false
set_option linter.unusedSimpArgs false

/-! ### marks -/
def markN (k0 : Int) : Nat → Nd := fun i => ⟨k0 + 6 * i, k0 + 6 * i + 1, k0 + 6 * i + 1 + 1, k0 + 6 * i + 1 + 1 + 1, (k0 + 6 * i + 1 + 1 + 1 + 1) % 3 == 0, k0 + 6 * i + 1 + 1 + 1 + 1 + 1⟩

end Go.Proofs.YtmkipdhappikhaaGreatDoor
