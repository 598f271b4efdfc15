/- The walk of the exact law of RangeOf. -/
import Derived.Test.YtnhbgagdppbldaaTreeH
namespace Go.Proofs.Ytnhbgagdppbldaa
open Go.RowKit Go.Deep
theorem sRange_no (A : Option Addr) (n cap : Nat) (g : Nat → Nd) (w : World) (h : RdN w w.heap.size A n g) (hn : n ≤ 4194304) (ht : treeB g n 6 = false) :
    Calls Try.prog 28 #[.slice A n cap] w fun e w' => e = .returned (.tuple #[.int .i64 0, .int .i64 0]) ∧ Below w.heap.size w w' := sRange_any A n cap g false w h hn ht
theorem sRange_yes (A : Option Addr) (n cap : Nat) (g : Nat → Nd) (w : World) (h : RdN w w.heap.size A n g) (hn : n ≤ 4194304) (ht : treeB g n 6 = true) :
    Calls Try.prog 28 #[.slice A n cap] w fun e w' => e = .returned (.tuple #[.int .i64 (loTo g n), .int .i64 (hiTo g n)]) ∧ Below w.heap.size w w' := sRange_any A n cap g true w h hn ht

end Go.Proofs.Ytnhbgagdppbldaa
