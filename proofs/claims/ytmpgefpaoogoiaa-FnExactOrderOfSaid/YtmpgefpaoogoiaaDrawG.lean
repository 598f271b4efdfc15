/- Drawn trees with a number of features, and drawn trees with documents. -/
import Derived.Test.YtmpgefpaoogoiaaDrawH
namespace Go.Proofs.Ytmpgefpaoogoiaa
open Go.RowKit Go.Deep

/-- A drawn list of nodes and a number. -/
def DrawnTree (w : World) (e : Ending) (w' : World) : Prop :=
  ∃ (m : Nat) (g : Nat → Nd) (b c : Nat) (f : Int), 1 ≤ m ∧ m ≤ 16 ∧ e = .returned (.tuple #[.slice (some ⟨b, 0, none⟩) m c, .int .i64 f]) ∧ w.heap.size ≤ b ∧ b < w'.heap.size ∧ NdRow w' b m g ∧ m ≤ c ∧ Below w.heap.size w w'

theorem ndRow_keep {w w' : World} {b m R : Nat} {g : Nat → Nd} (h : NdRow w b m g) (hg : w.grownBy w' (some R)) (hb : b < w.heap.size) (hne : b ≠ R) : NdRow w' b m g :=
  fun i hi => (h i hi).keep fun o => World.cell?_of_block (hg.block b hb (by intro e; injection e with e; exact hne e))
theorem ndRow_below {w w' : World} {b m B : Nat} {g : Nat → Nd} (h : NdRow w b m g) (hg : Below B w w') (hb : b < B) : NdRow w' b m g :=
  fun i hi => (h i hi).keep fun _ => World.cell?_of_block (hg.block b hb)

/-- A drawn list of nodes and a drawn list of numbers. -/
def DrawnPath (w : World) (e : Ending) (w' : World) : Prop :=
  ∃ (m : Nat) (g : Nat → Nd) (b c f : Nat) (z : Nat → Int) (D : Option Addr) (dc : Nat), 1 ≤ m ∧ m ≤ 16 ∧ f ≤ 17 ∧ e = .returned (.tuple #[.slice (some ⟨b, 0, none⟩) m c, .slice D f dc]) ∧
    w.heap.size ≤ b ∧ b < w'.heap.size ∧ NdRow w' b m g ∧ m ≤ c ∧ Rd w' w'.heap.size D f z ∧ Below w.heap.size w w'

end Go.Proofs.Ytmpgefpaoogoiaa
