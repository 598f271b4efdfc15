/- The walk of the exact law of DocWith. -/
import Derived.Test.YtmpgefpaoogoiaaDocF
import Derived.WalkSmall
namespace Go.Proofs.Ytmpgefpaoogoiaa
open Go.RowKit Go.Deep

/-- A slice of no element or over a row of one's own block. -/
theorem rd_of {w : World} {t : TypeId} {b n : Nat} {z : Nat → Int} (h : Row w t b n z) : Rd w w.heap.size (some ⟨b, 0, none⟩) n z := h.rd h.lt
theorem row_grown {w w' : World} {t : TypeId} {b b' n : Nat} {z : Nat → Int} (h : Row w t b n z) (hg : w.grownBy w' (some b')) (hne : b ≠ b') : Row w' t b n z :=
  h.keep (hg.block b h.lt (by simpa using hne))

theorem rd_none {w : World} {B : Nat} {A : Option Addr} {z : Nat → Int} : Rd w B A 0 z := fun h => absurd h (by omega)

end Go.Proofs.Ytmpgefpaoogoiaa
