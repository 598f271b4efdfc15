/- Ensembles: copies, comparisons and sizes of the exact laws; what is an ensemble, on both sides. -/
import Derived.Test.YtnhbgagdppbldaaEnsA
import Derived.Test.YtnhbgagdppbldaaBoxDrawA
import Derived.Deep.RegionHeld
namespace Go.Proofs.Ytnhbgagdppbldaa
open Go.RowKit Go.Deep

abbrev enV (f b : Int) (A : Option Addr) (n c : Nat) : Value := .agg #[.int .i64 f, .int .i64 b, .slice A n c]
theorem size_ens : (Try.prog.info? 54).map (·.size) = some 3 := by kernel_rfl

end Go.Proofs.Ytnhbgagdppbldaa
