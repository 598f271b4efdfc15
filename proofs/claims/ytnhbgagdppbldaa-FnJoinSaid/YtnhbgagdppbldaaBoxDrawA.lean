/- What is drawn of spans. -/
import Derived.Test.YtnhbgagdppbldaaMeetA
namespace Go.Proofs.Ytnhbgagdppbldaa
open Go.RowKit Go.Deep

theorem buildSpan2 (x : Int) (q : Bool) (w : World) : (Instr.build 44 #[(0, .int .i64 x), (2, .bool q)]).run Try.prog w = .ok (.agg #[.int .i64 x, .int .i64 0, .bool q]) w := run_build w 44 _ _ (by kernel_rfl)
theorem blk_cells3 {w : World} {b : Nat} {t : TypeId} {x y z : Value} (h : Blk w b t #[x, y, z]) :
    w.cell? ⟨b, 0, none⟩ = some x ∧ w.cell? ⟨b, 1, none⟩ = some y ∧ w.cell? ⟨b, 2, none⟩ = some z ∧ w.frozen? ⟨b, 0, none⟩ = false ∧ w.frozen? ⟨b, 1, none⟩ = false ∧ w.frozen? ⟨b, 2, none⟩ = false :=
  ⟨h.cell 0, h.cell 1, h.cell 2, h.frozen 0, h.frozen 1, h.frozen 2⟩

end Go.Proofs.Ytnhbgagdppbldaa
