/- Hits: which of two is better, on both sides; the walk of the exact law of HitLess. -/
import Derived.Test.YtnicnjkbjdknoaaDoorLaw
import Derived.Test.YtnicnjkbjdknoaaDoorK1
import Derived.Test.YtnicnjkbjdknoaaDoorK2
import Derived.Below
import Derived.Deep.RegionHeld3
namespace Go.Proofs.YtnicnjkbjdknoaaDoor
open Go.RowKit Go.Deep
set_option linter.unusedVariables false
set_option linter.unusedSimpArgs false

abbrev hitV (i s : Int) : Value := .agg #[.int .i64 i, .int .i64 s]
/-- Is the first Hit better than the second one? -/
def lessB (i s j t : Int) : Bool := decide (t < s) || (decide (s = t) && decide (i < j))
theorem size_hit : (Tryd.prog.info? 25).map (·.size) = some 2 := by kernel_rfl

set_option maxRecDepth 100000 in
set_option maxHeartbeats 1000000 in
theorem toHit_any (i s : Int) (w : World) :
    Calls Tryd.prog 10 #[hitV i s] w fun e w' => e = .returned (hitV i s) ∧ Below w.heap.size w w' := by
  have hX : Blk (((w.alloc (.cells #[.int .i64 i, .int .i64 s] 23)).alloc (.cells #[.int .i64 i, .int .i64 s] 25)).alloc (.cells #[.int .i64 i, .int .i64 s] 25)) (w.heap.size + 1) 25 #[.int .i64 i, .int .i64 s] := (Blk.new2 w _ _ _).alloc _
  go_enter Tryd.func10, Tryd.ntmps10
  have HX := hid hX
  clear hX
  go_wp2_with fail
  (try simp only [Exit.inBlock, Exit.then])
  refine bodyPost_ret (results_cell_row rfl _ _ (w.heap.size + 1) 25 #[.int .i64 i, .int .i64 s] (0, 0) _ rfl HX.out Tryd.underlying25 rfl size_hit) rfl ?_
  exact ⟨rfl, (((Below.refl w.heap.size w).alloc (Nat.le_refl _) _).alloc (by simp) _).alloc (by simp; omega) _⟩

/-- The two Hits in their boxes. -/
def HS (w0 : World) (x0 x1 y0 y1 : Value) (w : World) : Prop := Blk w w0.heap.size 23 #[x0, x1] ∧ Blk w (w0.heap.size + 1) 23 #[y0, y1] ∧ Below w0.heap.size w0 w
theorem HS.below {w0 w w' : World} {x0 x1 y0 y1 : Value} (h : HS w0 x0 x1 y0 y1 w) (hb : Below w.heap.size w w') : HS w0 x0 x1 y0 y1 w' :=
  ⟨h.1.below hb h.1.lt, h.2.1.below hb h.2.1.lt, h.2.2.trans (hb.mono h.2.2.size)⟩
theorem HS.drew {w0 w : World} {x0 x1 y0 y1 : Value} (h : HS w0 x0 x1 y0 y1 w) : HS w0 x0 x1 y0 y1 w.drew := h.below (Below.refl _ w).drew
theorem HS.cells {w0 w : World} {x0 x1 y0 y1 : Value} (h : HS w0 x0 x1 y0 y1 w) : w.cell? ⟨w0.heap.size, 0, none⟩ = some x0 ∧ w.cell? ⟨w0.heap.size, 1, none⟩ = some x1 ∧ w.cell? ⟨w0.heap.size + 1, 0, none⟩ = some y0 ∧ w.cell? ⟨w0.heap.size + 1, 1, none⟩ = some y1 :=
  ⟨h.1.cell 0, h.1.cell 1, h.2.1.cell 0, h.2.1.cell 1⟩

end Go.Proofs.YtnicnjkbjdknoaaDoor
