/- Draws of trees and boxes; plans on both sides. -/
import Derived.Test.YtmkipdhappikhaaDoorK5
import Derived.Test.YtmkipdhappikhaaDoorLaw
import Derived.Test.YtmkipdhappikhaaDoorK4
import Derived.Test.YtmkipdhappikhaaDoorK1
import Derived.Test.YtmkipdhappikhaaDoorK2
namespace Go.Proofs.YtmkipdhappikhaaDoor

/-! ### Codes -/
section
set_option linter.unusedVariables false
set_option linter.unusedSimpArgs false
open Go.RowKit Go.Deep

/-- A slice of bytes that came in reads as bytes. -/
theorem IsRow.bs {w : World} {a : Option Addr} {len cap : Nat} {zs : List Int} (h : IsRow .u8 w a len cap zs) : Bs w w.heap.size a len := fun hn => by
  rcases h with ⟨_, h0, _⟩ | ⟨x, rfl, hl, hm, hz, hc, hw⟩
  · omega
  · obtain ⟨b, off, spot⟩ := x
    have h0 := hc 0 (by omega)
    have hs : spot = none := by simpa [Addr.add] using World.cell?_spot h0
    subst hs
    refine ⟨b, off, rfl, ?_, fun i hi => ?_⟩
    · have := cell_lt h0
      simpa [Addr.add_lit] using this
    · have h1 := hc i (by omega)
      rw [Addr.add_lit] at h1
      have hb := hw (zs.getD i 0) (by rw [List.getD_eq_getElem?_getD, List.getElem?_eq_getElem (by omega)]; simp)
      simp [Lit.wf, IntKind.min, IntKind.max, IntKind.signed, IntKind.bits] at hb
      exact ⟨_, h1, by simpa using hb.1, by simpa using hb.2⟩

end

/-! ### DrawD -/
section
set_option linter.unusedVariables false
set_option linter.unusedSimpArgs false
open Go.RowKit Go.Deep

theorem size_node : (Tryd.prog.info? 48).map (·.size) = some 6 := by kernel_rfl
/-- A drawn list of nodes, in memory of its own. -/
def Owned (w : World) (B : Nat) (A' : Option Addr) (m c : Nat) (ds : List Nd) : Prop := ds.length = m ∧ w.ownsRow B 48 6 (.slice A' m c) m (ds.flatMap ndC)

/-- A row of one's own as cells. -/
theorem own_cells {w : World} {B : Nat} {e : TypeId} {A' : Option Addr} {m c : Nat} {xs : List Value} (h : w.ownsRow B e 6 (.slice A' m c) m xs) (hm : 0 < m) :
    ∃ g, A' = some ⟨g, 0, none⟩ ∧ B ≤ g ∧ g < w.heap.size ∧ ∀ j u, xs[j]? = some u → w.cell? ⟨g, j, none⟩ = some u := by
  rcases h.2 with ⟨_, h0⟩ | ⟨g, cap, cur, hv, hb, hg, _, _, _, ht⟩
  · omega
  · injection hv with e1 _ _
    refine ⟨g, e1, hb, Blk.lt hg, fun j u hu => ?_⟩
    rw [← ht, List.getElem?_take] at hu
    split at hu
    · rw [Array.getElem?_toList] at hu
      exact (cell_of_row w g j cur e (0, 0) hg).trans hu
    · cases hu
theorem ndC_one (ds : List Nd) : ∀ u ∈ ds.flatMap ndC, u.oneCell' = true := by
  intro u hu
  simp only [List.mem_flatMap] at hu
  obtain ⟨d, _, hd⟩ := hu
  simp only [ndC, List.mem_cons, List.not_mem_nil, or_false] at hd
  rcases hd with rfl | rfl | rfl | rfl | rfl | rfl <;> rfl
theorem ndC_len (ds : List Nd) : (ds.flatMap ndC).length = ds.length * 6 := by
  induction ds with
  | nil => rfl
  | cons d ds ih => simp only [List.flatMap_cons, List.length_append, ih, List.length_cons, ndC, List.length_nil]; omega
theorem cells_grown {w w' : World} {r : Option Nat} {g : Nat} {xs : List Value} (h : ∀ j u, xs[j]? = some u → w.cell? ⟨g, j, none⟩ = some u) (hg : w.grownBy w' r) (hlt : g < w.heap.size) (hne : some g ≠ r) :
    ∀ j u, xs[j]? = some u → w'.cell? ⟨g, j, none⟩ = some u := fun j u hu => (World.cell?_of_block (hg.block g hlt hne)).trans (h j u hu)

theorem grown_keep {w w1 w3 : World} {r row : Option Nat} (h : w.grownBy w1 r) (hg : w1.grownBy w3 row) (hr : ∀ k, row = some k → w.heap.size ≤ k) : w.grownBy w3 r :=
  ⟨hg.os.trans h.os, hg.tape.trans h.tape, hg.output.trans h.output, Nat.le_trans h.size hg.size, fun i hi hne => (hg.block i (Nat.lt_of_lt_of_le hi h.size) (fun e => by have := hr i e.symm; omega)).trans (h.block i hi hne)⟩
theorem owned_new {B : Nat} {w : World} (hB : B ≤ w.heap.size) (d : Nd) :
    World.ownsRow (w.alloc (.cells #[.int .i64 d.feat, .int .i64 d.cut, .int .i64 d.left, .int .i64 d.right, .bool d.miss, .int .i64 d.value] 48)) B 48 6 (.slice (some ⟨w.heap.size, 0, none⟩) 1 1) 1 ([d].flatMap ndC) :=
  ⟨rfl, .inr ⟨w.heap.size, 1, _, rfl, hB, heap_alloc_new w _, Nat.le_refl _, by unfold maxLen; omega, rfl, rfl⟩⟩

end

/-! ### MeetA -/
section
set_option linter.unusedVariables false
set_option linter.unusedSimpArgs false
open Go.RowKit Go.Deep

end

/-! ### BoxDrawA -/
section
set_option linter.unusedVariables false
set_option linter.unusedSimpArgs false
open Go.RowKit Go.Deep

theorem blk_cells3 {w : World} {b : Nat} {t : TypeId} {x y z : Value} (h : Blk w b t #[x, y, z]) :
    w.cell? ⟨b, 0, none⟩ = some x ∧ w.cell? ⟨b, 1, none⟩ = some y ∧ w.cell? ⟨b, 2, none⟩ = some z ∧ w.frozen? ⟨b, 0, none⟩ = false ∧ w.frozen? ⟨b, 1, none⟩ = false ∧ w.frozen? ⟨b, 2, none⟩ = false :=
  ⟨h.cell 0, h.cell 1, h.cell 2, h.frozen 0, h.frozen 1, h.frozen 2⟩

end

/-! ### PlB -/
section
set_option linter.unusedVariables false
set_option linter.unusedSimpArgs false
open Go.RowKit Go.Deep

abbrev plV (A1 : Option Addr) (n1 c1 : Nat) (A2 : Option Addr) (n2 c2 : Nat) (A3 : Option Addr) (n3 c3 : Nat) (A4 : Option Addr) (n4 c4 : Nat) : Value := .agg #[.slice A1 n1 c1, .slice A2 n2 c2, .slice A3 n3 c3, .slice A4 n4 c4]
theorem blk_cells4 {w : World} {b : Nat} {t : TypeId} {x y z u : Value} (h : Blk w b t #[x, y, z, u]) :
    (w.cell? ⟨b, 0, none⟩ = some x ∧ w.cell? ⟨b, 1, none⟩ = some y ∧ w.cell? ⟨b, 2, none⟩ = some z ∧ w.cell? ⟨b, 3, none⟩ = some u) ∧ w.frozen? ⟨b, 0, none⟩ = false ∧ w.frozen? ⟨b, 1, none⟩ = false ∧ w.frozen? ⟨b, 2, none⟩ = false ∧ w.frozen? ⟨b, 3, none⟩ = false :=
  ⟨⟨h.cell 0, h.cell 1, h.cell 2, h.cell 3⟩, h.frozen 0, h.frozen 1, h.frozen 2, h.frozen 3⟩
/-- The four lists of a plan are to be read. -/
structure RdP (w : World) (B : Nat) (A1 : Option Addr) (n1 : Nat) (z1 : Nat → Int) (A2 : Option Addr) (n2 : Nat) (z2 : Nat → Int) (A3 : Option Addr) (n3 : Nat) (z3 : Nat → Int) (A4 : Option Addr) (n4 : Nat) (z4 : Nat → Int) : Prop where
  o : Rd w B A1 n1 z1
  e : Rd w B A2 n2 z2
  m : Rd w B A3 n3 z3
  x : Rd w B A4 n4 z4
section
variable {w w' : World} {B B' : Nat} {A1 A2 A3 A4 : Option Addr} {n1 n2 n3 n4 : Nat} {z1 z2 z3 z4 : Nat → Int}
theorem RdP.below (h : RdP w B A1 n1 z1 A2 n2 z2 A3 n3 z3 A4 n4 z4) (hb : Below B w w') : RdP w' B A1 n1 z1 A2 n2 z2 A3 n3 z3 A4 n4 z4 := ⟨h.o.below hb, h.e.below hb, h.m.below hb, h.x.below hb⟩
theorem RdP.more (h : RdP w B A1 n1 z1 A2 n2 z2 A3 n3 z3 A4 n4 z4) (hB : B ≤ B') : RdP w B' A1 n1 z1 A2 n2 z2 A3 n3 z3 A4 n4 z4 := ⟨h.o.more hB, h.e.more hB, h.m.more hB, h.x.more hB⟩
theorem RdP.to (h : RdP w B A1 n1 z1 A2 n2 z2 A3 n3 z3 A4 n4 z4) (hb : Below B w w') (hB : B ≤ w'.heap.size) : RdP w' w'.heap.size A1 n1 z1 A2 n2 z2 A3 n3 z3 A4 n4 z4 := (h.below hb).more hB
end
end
end Go.Proofs.YtmkipdhappikhaaDoor
