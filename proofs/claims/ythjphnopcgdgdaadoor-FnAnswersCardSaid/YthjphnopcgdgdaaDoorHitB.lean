/- Drawn Hits; the walk of the law of their order. -/
import Derived.Test.YthjphnopcgdgdaaDoorHitA
import Derived.Test.YthjphnopcgdgdaaDoorK5
import Derived.Test.YthjphnopcgdgdaaDoorK6
namespace Go.Proofs.YthjphnopcgdgdaaDoor
open Go.RowKit Go.Deep
set_option linter.unusedVariables false
set_option linter.unusedSimpArgs false

theorem results_cell_two {P : Program} {fn : Func} {p q : Tmp} {ty : TypeId} (h : fn.results = #[.cell p ty, .cell q ty]) (tmps : Array Value) (w : World) (g g' : Nat) (t t' : TypeId) (cs cs' : Array Value) (fr fr' : Nat × Nat) (d : TypeDesc)
    (hp : tmps.getD p undef = .pointer (some ⟨g, 0, none⟩)) (hg : w.heap[g]? = some (.cells cs t fr)) (hq : tmps.getD q undef = .pointer (some ⟨g', 0, none⟩)) (hg' : w.heap[g']? = some (.cells cs' t' fr'))
    (hu : P.underlying ty = some d) (hd : (match d with | .struct _ | .array _ _ => true | _ => false) = true) (hi : (P.info? ty).map (·.size) = some cs.size) (hi' : (P.info? ty).map (·.size) = some cs'.size) :
    (results fn tmps).run P w = .ok (.tuple #[.agg cs, .agg cs']) w := by
  have hp' : tmps[p]?.getD undef = .pointer (some ⟨g, 0, none⟩) := by simpa using hp
  have hq' : tmps[q]?.getD undef = .pointer (some ⟨g', 0, none⟩) := by simpa using hq
  simp [results, h, hp', hq', asAddr, Result.andThen, run_loadVar_row w g t ty cs fr d hg hu hd hi, run_loadVar_row w g' t' ty cs' fr' d hg' hu hd hi']

theorem eqHit (i s j t : Int) (w : World) : (Op.equalIn 10000 25 (.agg #[.int .i64 i, .int .i64 s]) (.agg #[.int .i64 j, .int .i64 t])).run Tryd.prog w = .ok (i == j && s == t) w := by
  have u2 := Tryd.underlying2
  have p2 := Tryd.isAgg2
  have z2 := Tryd.sizeOf2
  have hS : Tryd.prog.underlying 25 = some (.struct (Tryd.prog.fieldsOf 25)) := by kernel_rfl
  have hp : Tryd.prog.stoodInHeld 25 = false := by kernel_rfl
  rw [show (10000 : Nat) = 9999 + 1 from rfl, run_equalIn_agg w 9999 25 _ _ hS hp]
  simp only [Program.fieldsOf, Tryd.underlying25]
  go_simp
  by_cases h1 : i = j
  · by_cases h2 : s = t <;> simp [h1, h2]
  · simp [h1]

set_option maxRecDepth 100000 in
set_option maxHeartbeats 1000000 in
theorem hit_draw (R n cap : Nat) (A : Option Addr) (w : World) (h : Rs w R A n cap) :
    Calls Tryd.prog 26 #[.pointer (some ⟨R, 0, none⟩)] w fun e w' => ∃ i s : Int, e = .returned (hitV i s) ∧ Rs w' R A n cap ∧ w.grownBy w' (some R) := by
  have hRw := h.lt
  go_enter Tryd.func26, Tryd.ntmps26
  go_wp2_with fail
  refine (below_draw R n cap A 9 _ (h.alloc _) (by omega) (by omega)).mono ?_
  rintro e w1 ⟨x, rfl, hx0, hx1, hR1, hg1⟩
  have hB1 : Blk w1 w.heap.size 25 #[.int .i64 0, .int .i64 0] := (hg1.block w.heap.size (by rw [World.size_alloc]; omega) (by intro e; injection e with e; omega)).trans (Blk.new w _ _)
  have hw1 : w.grownBy w1 (some R) := grown_trans (World.grownBy_alloc _ _ _) hg1
  clear hg1
  go_wp2_with fail
  refine (below_draw R n cap A 9 _ hR1 (by omega) (by omega)).mono ?_
  rintro e w2 ⟨y, rfl, hy0, hy1, hR2, hg2⟩
  have hs1 := hB1.lt
  have hB2 : Blk w2 w.heap.size 25 #[.int .i64 0, .int .i64 0] := (hg2.block w.heap.size hs1 (by intro e; injection e with e; omega)).trans hB1
  have hw2 := grown_trans hw1 hg2
  have c0 := hB2.cell 0
  have c1 := hB2.cell 1
  have f0 := hB2.frozen 0
  have f1 := hB2.frozen 1
  have HB2 := hid hB2
  have HW2 := hid hw2
  have HR2 := hid hR2
  clear hg2 hB1 hw1 hR1 hB2 hw2 hR2
  go_wp2_with fail
  (try simp only [Exit.inBlock, Exit.then])
  refine bodyPost_ret (results_cell_row rfl _ _ w.heap.size 25 #[.int .i64 x, .int .i64 (y - 4)] (0, 0) _ rfl ((HB2.out.set_ 0 (.int .i64 x)).set_ 1 (.int .i64 (y - 4))) Tryd.underlying25 rfl size_hit) rfl ?_
  exact ⟨x, y - 4, rfl, rs_set (rs_set HR2.out hRw _) hRw _, grown_setNew (grown_setNew HW2.out (Nat.le_refl _) _) (Nat.le_refl _) _⟩

end Go.Proofs.YthjphnopcgdgdaaDoor
