/- What is drawn of spans. -/
import Derived.Test.YtmpgefpaoogoiaaMeetA
namespace Go.Proofs.Ytmpgefpaoogoiaa
open Go.RowKit Go.Deep

theorem blk_cells3 {w : World} {b : Nat} {t : TypeId} {x y z : Value} (h : Blk w b t #[x, y, z]) :
    w.cell? ⟨b, 0, none⟩ = some x ∧ w.cell? ⟨b, 1, none⟩ = some y ∧ w.cell? ⟨b, 2, none⟩ = some z ∧ w.frozen? ⟨b, 0, none⟩ = false ∧ w.frozen? ⟨b, 1, none⟩ = false ∧ w.frozen? ⟨b, 2, none⟩ = false :=
  ⟨h.cell 0, h.cell 1, h.cell 2, h.frozen 0, h.frozen 1, h.frozen 2⟩

end Go.Proofs.Ytmpgefpaoogoiaa
