/- The walk of the exact law of StateTo. -/
import Derived.Test.YtlgomifpohdniaaGreatStK
import Derived.Test.YtlgomifpohdniaaGreatStb
import Derived.Test.YtlgomifpohdniaaGreatK8
import Derived.Deep.RegionHeld3
namespace Go.Proofs.YtlgomifpohdniaaGreat
open Go.RowKit Go.Deep
set_option linter.unusedVariables false
set_option linter.unusedSimpArgs false

theorem stb_st (a s q : Int) (Y : Bool) : ∃ a' s' q', stAns Y a s q = stV a' s' q' := by
  cases Y with
  | false => exact ⟨0, 0, 0, rfl⟩
  | true => exact ⟨a, s, q, rfl⟩

section
variable {w0 W : World} {ec pc : Array Value} {q : Option Nat} {x0 x1 x2 y0 y1 y2 y3 : Value} {x : Nat}
end
end Go.Proofs.YtlgomifpohdniaaGreat
