/- Drawn trees with a number of features, and drawn trees with documents. -/
import Derived.Test.YthdilioflhknpaaDrawH
namespace Go.Proofs.Ythdilioflhknpaa
open Go.RowKit Go.Deep

/-- A drawn list of nodes and a number. -/
def DrawnTree (w : World) (e : Ending) (w' : World) : Prop :=
  ∃ (m : Nat) (g : Nat → Nd) (b c : Nat) (f : Int), 1 ≤ m ∧ m ≤ 16 ∧ e = .returned (.tuple #[.slice (some ⟨b, 0, none⟩) m c, .int .i64 f]) ∧ w.heap.size ≤ b ∧ b < w'.heap.size ∧ NdRow w' b m g ∧ m ≤ c ∧ Below w.heap.size w w'

theorem ndRow_keep {w w' : World} {b m R : Nat} {g : Nat → Nd} (h : NdRow w b m g) (hg : w.grownBy w' (some R)) (hb : b < w.heap.size) (hne : b ≠ R) : NdRow w' b m g :=
  fun i hi => (h i hi).keep fun o => World.cell?_of_block (hg.block b hb (by intro e; injection e with e; exact hne e))
theorem ndRow_below {w w' : World} {b m B : Nat} {g : Nat → Nd} (h : NdRow w b m g) (hg : Below B w w') (hb : b < B) : NdRow w' b m g :=
  fun i hi => (h i hi).keep fun _ => World.cell?_of_block (hg.block b hb)

/-- A drawn list of nodes and a drawn list of numbers. -/
def DrawnPath (w : World) (e : Ending) (w' : World) : Prop :=
  ∃ (m : Nat) (g : Nat → Nd) (b c f : Nat) (z : Nat → Int) (D : Option Addr) (dc : Nat), 1 ≤ m ∧ m ≤ 16 ∧ f ≤ 17 ∧ e = .returned (.tuple #[.slice (some ⟨b, 0, none⟩) m c, .slice D f dc]) ∧
    w.heap.size ≤ b ∧ b < w'.heap.size ∧ NdRow w' b m g ∧ m ≤ c ∧ Rd w' w'.heap.size D f z ∧ Below w.heap.size w w'

set_option maxHeartbeats 1000000 in
theorem drawPathOf (A : Option Addr) (n cap : Nat) (w : World) (h : Bs w w.heap.size A n) (hn : n ≤ 4194304) :
    Calls Try.prog 22 #[.slice A n cap] w (DrawnPath w) := by
  go_enter Try.func22, Try.ntmps22
  go_wp2_with fail
  refine (open_draw A n cap _ h hn).mono ?_
  rintro e w1 ⟨rfl, hR1, hb1⟩
  go_wp2_with fail
  refine (below_draw _ n cap A 4 _ hR1 (by omega) (by omega)).mono ?_
  rintro e w2 ⟨x, rfl, hx0, hx1, hR2, hg2⟩
  have hb2 := hb1.trans (below_grown hg2 hR1.lt)
  go_wp2_with fail
  refine (tree_draw _ n cap A (1 + x) (by omega) (by omega) _ hR2).mono ?_
  rintro e w3 ⟨m, ds, A', c, hm, hm', rfl, hown, hR3, hg3⟩
  have hb3 := hb2.trans (below_grown hg3 hR2.lt)
  go_wp2_with fail
  refine (hurtTree_draw _ n cap w2.heap.size A A' m c ds _ hR3 hR2.lt hg3.size hm (by omega) hown).mono ?_
  rintro e w4 ⟨m', g, b, c', hm1, hm2, rfl, hRb, hbL, hrow, hmc, hR4, hb4⟩
  have hb5 := hb3.trans hb4
  go_wp2_with fail
  refine (doc_drawI _ n cap A _ _ hR4 (by omega) (by omega)).mono ?_
  rintro e w5 ⟨f, z, D, dc, hf, rfl, hown5, hR5, hg5⟩
  have hrow5 := ndRow_keep hrow hg5 hbL (by omega)
  have hb6 := hb5.trans (below_grown hg5 hR4.lt)
  have hs5 := hg5.size
  go_wp2_with fail
  refine (hurtDoc_kept _ n cap w4.heap.size A D f dc z _ hR5 hR4.lt hg5.size hf hown5).mono ?_
  rintro e w6 ⟨⟨f', z', D', dc', hf', rfl, hdoc, hR6, hb7⟩, hk⟩
  have hrow6 : NdRow w6 b m' g := fun i hi => (hrow5 i hi).keep fun o => World.cell?_of_block (hk b hbL (by omega))
  have hs6 := hb7.size
  go_wp2_with fail
  go_ret2
  exact ⟨m', g, b, c', f', z', D', dc', hm1, hm2, hf', rfl, by omega, by omega, hrow6, hmc, (fun h0 => by obtain ⟨q, rfl, _, hr⟩ := hdoc h0; exact (rd_of hr) h0), hb6.trans hb7⟩
end Go.Proofs.Ythdilioflhknpaa
