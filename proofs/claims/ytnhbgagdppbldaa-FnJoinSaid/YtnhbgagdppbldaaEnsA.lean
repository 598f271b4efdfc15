/- Slices of slices of nodes: what reads as a list of lists of nodes; copies, comparisons and sizes of the exact laws. -/
import Derived.Test.YtnhbgagdppbldaaRangeLaw
import Derived.Test.YtnhbgagdppbldaaLeafLaw
import Derived.Test.YtnhbgagdppbldaaLawN
namespace Go.Proofs.Ytnhbgagdppbldaa
open Go.RowKit Go.Deep

/-- The slice at A reads as n lists of nodes, and lies with them below block B. -/
def RdT (w : World) (B : Nat) (A : Option Addr) (n : Nat) (len : Nat → Nat) (g : Nat → Nat → Nd) : Prop :=
  0 < n → ∃ b off, A = some ⟨b, off, none⟩ ∧ b < B ∧ ∀ i, i < n → ∃ Ai ci, w.cell? ⟨b, off + i, none⟩ = some (.slice Ai (len i) ci) ∧ RdN w B Ai (len i) (g i)
section
variable {w w' : World} {B B' n : Nat} {A : Option Addr} {len : Nat → Nat} {g : Nat → Nat → Nd}
theorem RdT.keep (h : RdT w B A n len g) (hk : ∀ p : Addr, p.block < B → w'.cell? p = w.cell? p) : RdT w' B A n len g := fun hn => by
  obtain ⟨b, off, e, hb, hc⟩ := h hn
  refine ⟨b, off, e, hb, fun i hi => ?_⟩
  obtain ⟨Ai, ci, h1, h2⟩ := hc i hi
  exact ⟨Ai, ci, (hk ⟨b, off + i, none⟩ hb).trans h1, h2.keep hk⟩
theorem RdT.more (h : RdT w B A n len g) (hB : B ≤ B') : RdT w B' A n len g := fun hn => by
  obtain ⟨b, off, e, hb, hc⟩ := h hn
  refine ⟨b, off, e, by omega, fun i hi => ?_⟩
  obtain ⟨Ai, ci, h1, h2⟩ := hc i hi
  exact ⟨Ai, ci, h1, h2.more hB⟩
theorem RdT.below (h : RdT w B A n len g) (hb : Below B w w') : RdT w' B A n len g := h.keep fun _ hp => hb.cell hp
theorem RdT.to (h : RdT w w.heap.size A n len g) (hb : Below w.heap.size w w') (hB : w.heap.size ≤ w'.heap.size) : RdT w' w'.heap.size A n len g := (h.below hb).more hB
theorem RdT.at_ {k : Nat} (h : RdT w B A n len g) (hk : k < n) : ∃ b off Ai ci, A = some ⟨b, off, none⟩ ∧ b < B ∧ w.cell? ⟨b, off + k, none⟩ = some (.slice Ai (len k) ci) ∧ RdN w B Ai (len k) (g k) := by
  obtain ⟨b, off, e, hb, hc⟩ := h (by omega)
  obtain ⟨Ai, ci, h1, h2⟩ := hc k hk
  exact ⟨b, off, Ai, ci, e, hb, h1, h2⟩
end
theorem rdt_none {w : World} {B : Nat} {A : Option Addr} {len : Nat → Nat} {g : Nat → Nat → Nd} : RdT w B A 0 len g := fun h => absurd h (by omega)

/-- The same in new memory: blocks from L on. -/
def LoT (w : World) (L B : Nat) (A : Option Addr) (n : Nat) (len : Nat → Nat) (g : Nat → Nat → Nd) : Prop :=
  0 < n → ∃ b, A = some ⟨b, 0, none⟩ ∧ L ≤ b ∧ b < B ∧ ∀ i, i < n → ∃ bi ci, w.cell? ⟨b, i, none⟩ = some (.slice (some ⟨bi, 0, none⟩) (len i) ci) ∧ L ≤ bi ∧ bi < B ∧ ∀ j, j < len i → NdAt w bi (j * 6) (g i j)
theorem LoT.rdT {w : World} {L B n : Nat} {A : Option Addr} {len : Nat → Nat} {g : Nat → Nat → Nd} (h : LoT w L B A n len g) : RdT w B A n len g := fun hn => by
  obtain ⟨b, e, _, hb, hc⟩ := h hn
  refine ⟨b, 0, e, hb, fun i hi => ?_⟩
  obtain ⟨bi, ci, h1, _, h2, h3⟩ := hc i hi
  exact ⟨_, ci, by rw [Nat.zero_add]; exact h1, fun _ => ⟨bi, 0, rfl, h2, fun j hj => by rw [Nat.zero_add]; exact h3 j hj⟩⟩
theorem LoT.keep {w w' : World} {L B n : Nat} {A : Option Addr} {len : Nat → Nat} {g : Nat → Nat → Nd} (h : LoT w L B A n len g) (hk : ∀ p : Addr, L ≤ p.block → p.block < B → w'.cell? p = w.cell? p) : LoT w' L B A n len g := fun hn => by
  obtain ⟨b, e, hL, hb, hc⟩ := h hn
  refine ⟨b, e, hL, hb, fun i hi => ?_⟩
  obtain ⟨bi, ci, h1, h2, h3, h4⟩ := hc i hi
  exact ⟨bi, ci, (hk ⟨b, i, none⟩ hL hb).trans h1, h2, h3, fun j hj => (h4 j hj).keep fun o => hk ⟨bi, o, none⟩ h2 h3⟩

theorem info_nodes : (Try.prog.info? 24).map (fun i => (i.zero, i.size, i.bytes)) = some (some (.slice none 0 0), 1, 24) := by kernel_rfl

end Go.Proofs.Ytnhbgagdppbldaa
