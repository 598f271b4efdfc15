/- Contracts on single spans and on boxes, on both sides. -/
import Derived.Test.YtmpgefpaoogoiaaSpanB
import Derived.Test.YtmpgefpaoogoiaaDocD
namespace Go.Proofs.Ytmpgefpaoogoiaa
open Go.RowKit Go.Deep

theorem spanB_yes {d : Sp} (h : d.lo ≤ d.hi) : spanB d = (decide (-1000000 ≤ d.lo) && decide (d.hi ≤ 1000000)) := by unfold spanB; rw [if_pos h]
theorem spanB_no {d : Sp} (h : ¬ d.lo ≤ d.hi) : spanB d = ((d.lo == 1 && d.hi == 0) && d.gone) := by unfold spanB; rw [if_neg h]

end Go.Proofs.Ytmpgefpaoogoiaa
