/- Drawn numbers, spans and Hits, and what is known of their size. -/
import Derived.Test.YthjphnopcgdgdaaDoorSpT
import Derived.Test.YthjphnopcgdgdaaDoorHitB
import Derived.Test.YthjphnopcgdgdaaDoorK6
import Derived.Test.YthjphnopcgdgdaaDoorRdD
namespace Go.Proofs.YthjphnopcgdgdaaDoor
open Go.RowKit Go.Deep
set_option linter.unusedVariables false
set_option linter.unusedSimpArgs false

set_option maxHeartbeats 2000000 in
theorem near_draw2 (R n cap : Nat) (A : Option Addr) (lo hi : Int) (w : World) (h : Rs w R A n cap) (h1 : -200000000000 ≤ lo) (h2 : hi ≤ 200000000000) (h3 : lo ≤ 200000000000) (h4 : -200000000000 ≤ hi) :
    Calls Tryd.prog 53 #[.pointer (some ⟨R, 0, none⟩), .int .i64 lo, .int .i64 hi] w fun e w' =>
      ∃ x : Int, e = .returned (.int .i64 x) ∧ I64 x ∧ Rs w' R A n cap ∧ w.grownBy w' (some R) := by
  go_enter Tryd.func53, Tryd.ntmps53
  go_wp2_with fail
  refine (below_draw R n cap A 8 _ h (by omega) (by omega)).mono ?_
  rintro e w1 ⟨k, rfl, hk0, hk1, hR1, hg1⟩
  by_cases hk : k = 0
  · subst hk
    go_wp2_with fail
    go_ret
    exact ⟨lo, rfl, by unfold I64; omega, hR1, hg1⟩
  by_cases hk' : k = 1
  · subst hk'
    go_wp2_with fail
    go_ret
    exact ⟨hi, rfl, by unfold I64; omega, hR1, hg1⟩
  by_cases hlt : hi < lo
  · go_wp2_with fail
    go_ret
    exact ⟨lo, rfl, by unfold I64; omega, hR1, hg1⟩
  · go_wp2_with fail
    refine (word_draw R n cap A _ hR1).mono ?_
    rintro e w2 ⟨x, rfl, hx0, hx1, hR2, hg2⟩
    have i1 : (0 : Int) < hi - lo + 1 := by omega
    go_wp2_with fail
    go_ret
    refine ⟨_, rfl, ?_, hR2, grown_trans hg1 hg2⟩
    first | exact wrapI _ | exact wrapI' _ | (unfold I64; omega)

set_option maxHeartbeats 2000000 in
theorem off_draw2 (R n cap : Nat) (A : Option Addr) (lo hi : Int) (w : World) (h : Rs w R A n cap) (h1 : -200000000000 ≤ lo) (h2 : hi ≤ 200000000000) (h3 : lo ≤ 200000000000) (h4 : -200000000000 ≤ hi) :
    Calls Tryd.prog 28 #[.pointer (some ⟨R, 0, none⟩), .int .i64 lo, .int .i64 hi] w fun e w' =>
      ∃ x : Int, e = .returned (.int .i64 x) ∧ I64 x ∧ Rs w' R A n cap ∧ w.grownBy w' (some R) := by
  go_enter Tryd.func28, Tryd.ntmps28
  go_wp2_with fail
  refine (once_draw R n cap A 24 _ h (by omega) (by omega)).mono ?_
  rintro e w1 ⟨q, rfl, hR1, hg1⟩
  cases q
  · go_wp2_with fail
    refine (near_draw2 R n cap A lo hi _ hR1 h1 h2 h3 h4).mono ?_
    rintro e w2 ⟨x, rfl, hx, hR2, hg2⟩
    go_wp2_with fail
    go_ret
    exact ⟨x, rfl, hx, hR2, grown_trans hg1 hg2⟩
  · have hRlt := hR1.lt
    go_wp2_with fail
    refine (below_draw R n cap A 4 _ (hR1.alloc _) (by omega) (by omega)).mono ?_
    rintro e w2 ⟨k, rfl, hk0, hk1, hR2, hg2⟩
    have hB := Blk.grown (Blk.new w1 _ _) hg2 (by simp; omega)
    have c0 := hB.cell 0; have c1 := hB.cell 1; have c2 := hB.cell 2; have c3 := hB.cell 3
    simp at c0 c1 c2 c3
    have hgg := grown_trans hg1 (grown_trans (World.grownBy_alloc w1 _ (some R)) hg2)
    have hGG := hid hgg
    clear hB hg2 hgg
    obtain rfl | rfl | rfl | rfl : k = 0 ∨ k = 1 ∨ k = 2 ∨ k = 3 := by omega
    all_goals
      go_wp2_with fail
      go_ret
      exact ⟨_, rfl, by unfold I64; omega, hR2, hGG.out⟩

set_option maxRecDepth 100000 in
set_option maxHeartbeats 4000000 in
theorem span_draw2 (R n cap : Nat) (A : Option Addr) (w : World) (h : Rs w R A n cap) :
    Calls Tryd.prog 38 #[.pointer (some ⟨R, 0, none⟩)] w fun e w' =>
      ∃ d : Sp, e = .returned (spV d) ∧ SpIn d ∧ Rs w' R A n cap ∧ w.grownBy w' (some R) := by
  have hbs := buildSpan2
  go_enter Tryd.func38, Tryd.ntmps38
  go_wp2_with fail
  refine (below_draw R n cap A 20 _ (h.alloc _) (by omega) (by omega)).mono ?_
  rintro e w1 ⟨x, rfl, hx0, hx1, hR1, hg1⟩
  have hRw := h.lt
  have hB1 : Blk w1 w.heap.size 32 #[.int .i64 0, .int .i64 0, .bool false] :=
    (hg1.block w.heap.size (by rw [World.size_alloc]; omega) (by intro e; injection e with e; omega)).trans (Blk.new w _ _)
  have hw1 : w.grownBy w1 (some R) := grown_trans (World.grownBy_alloc _ _ _) hg1
  clear hg1
  go_wp2_with fail
  refine (once_draw R n cap A 2 _ hR1 (by omega) (by omega)).mono ?_
  rintro e w2 ⟨q, rfl, hR2, hg2⟩
  have hB2 : Blk w2 w.heap.size 32 #[.int .i64 0, .int .i64 0, .bool false] := (hg2.block w.heap.size hB1.lt (by intro e; injection e with e; omega)).trans hB1
  have hw2 := grown_trans hw1 hg2
  have hs2 := hw2.size
  clear hg2 hw1 hB1 hR1
  have hS3 := Blk.new w2 32 #[.int .i64 (x - 10), .int .i64 0, .bool q]
  have hB3 := hB2.alloc (.cells #[.int .i64 (x - 10), .int .i64 0, .bool q] 32)
  have hR3 := hR2.alloc (.cells #[.int .i64 (x - 10), .int .i64 0, .bool q] 32)
  have hw3 : w.grownBy (w2.alloc (.cells #[.int .i64 (x - 10), .int .i64 0, .bool q] 32)) (some R) := grown_trans hw2 (World.grownBy_alloc _ _ _)
  have hlt3 := hS3.lt
  have hB4lt : w.heap.size < w2.heap.size := hB2.lt
  have hR3d : Rs (w2.alloc (.cells #[.int .i64 (x - 10), .int .i64 0, .bool q] 32)).drew R A n cap := hR3
  have c30 : (w2.alloc (.cells #[.int .i64 (x - 10), .int .i64 0, .bool q] 32)).cell? ⟨w2.heap.size, 0, none⟩ = some (.int .i64 (x - 10)) := hS3.cell 0
  go_wp2_with fail
  go_region_held3 (fun w' => w'.cell? ⟨w2.heap.size, 0, none⟩ = some (.int .i64 (x - 10)))
    (first | exact c40 | (simp [go_sem]; done) | (simp [go_sem, *]; done))
    (first
      | (go_at_call 27; refine (below_draw R n cap A 12 (w2.alloc (.cells #[.int .i64 (x - 10), .int .i64 0, .bool q] 32)).drew hR3d (by omega) (by omega)).mono ?_; rintro e w4 ⟨y, rfl, hy0, hy1, hR4, hg4⟩; have hS4 : Blk w4 w2.heap.size 32 #[.int .i64 (x - 10), .int .i64 0, .bool q] := (hg4.block w2.heap.size hlt3 (by intro e; injection e with e; omega)).trans hS3; obtain ⟨c40, c41, c42, f40, f41, f42⟩ := blk_cells3 hS4))
  have hB4 : Blk w4 w.heap.size 32 #[.int .i64 0, .int .i64 0, .bool false] := (hg4.block w.heap.size hB3.lt (by intro e; injection e with e; omega)).trans hB3
  have hw3d : w.grownBy (w2.alloc (.cells #[.int .i64 (x - 10), .int .i64 0, .bool q] 32)).drew (some R) := ⟨hw3.os, hw3.tape, hw3.output, hw3.size, hw3.block⟩
  have hw4 : w.grownBy w4 (some R) := grown_trans hw3d hg4
  have hRlt : R < w2.heap.size := hR2.lt
  have hvi : I64 (IntKind.i64.wrap (x - 10 + y)) := wrapI _
  have hlo : I64 (x - 10) := by unfold I64; omega
  generalize hv : IntKind.i64.wrap (x - 10 + y) = v at hvi
  have hS5 : Blk (w4.setCell ⟨w2.heap.size, 1, none⟩ (.int .i64 v)) w2.heap.size 32 #[.int .i64 (x - 10), .int .i64 v, .bool q] := hS4.set_ 1 (.int .i64 v)
  have hB5 := hB4.far (p := ⟨w2.heap.size, 1, none⟩) (by simp; omega) (.int .i64 v)
  have hR5 := rs_set hR4 (p := ⟨w2.heap.size, 1, none⟩) hRlt (.int .i64 v)
  have hw5 := grown_setNew hw4 (p := ⟨w2.heap.size, 1, none⟩) hs2 (.int .i64 v)
  clear hv hw3d hS3 hB3 hR3 hR3d hw3 hg4 hS4 hB4 hR4 hw4 c30 c40 c41 c42 f40 f41 f42 hB2 hR2 hw2
  have hsW : w.heap.size ≤ w2.heap.size := hs2
  have hbne : w.heap.size ≠ w2.heap.size := Nat.ne_of_lt hB4lt
  generalize hW : w4.setCell ⟨w2.heap.size, 1, none⟩ (.int .i64 v) = W5 at hS5 hB5 hR5 hw5 ⊢
  clear hW
  generalize w2.heap.size = sb at *
  generalize x - 10 = lo at *
  go_wp2_with fail
  refine (below_draw R n cap A 12 _ hR5 (by omega) (by omega)).mono ?_
  rintro e w6 ⟨t, rfl, ht0, ht1, hR6, hg6⟩
  have hS6 : Blk w6 sb 32 #[.int .i64 lo, .int .i64 v, .bool q] := (hg6.block sb hS5.lt (by intro e; injection e with e; omega)).trans hS5
  have hB6 : Blk w6 w.heap.size 32 #[.int .i64 0, .int .i64 0, .bool false] := (hg6.block w.heap.size hB5.lt (by intro e; injection e with e; omega)).trans hB5
  have hw6 := grown_trans hw5 hg6
  clear hS5 hB5 hR5 hw5 hg6
  by_cases e0 : t = 0
  · subst e0
    go_wp2_with fail
    refine (once_draw R n cap A 4 _ hR6 (by omega) (by omega)).mono ?_
    rintro e w7 ⟨q7, rfl, hR7, hg7⟩
    have hB7 : Blk w7 w.heap.size 32 #[.int .i64 0, .int .i64 0, .bool false] := (hg7.block w.heap.size hB6.lt (by intro e; injection e with e; omega)).trans hB6
    have hw7 := grown_trans hw6 hg7
    clear hS6 hB6 hR6 hw6 hg7
    obtain ⟨r0, r1, r2, g0, g1, g2⟩ := blk_cells3 hB7
    go_wp2_with fail
    (try simp only [Exit.inBlock, Exit.then])
    refine bodyPost_ret (results_cell_row rfl _ _ w.heap.size 32 #[.int .i64 1, .int .i64 0, .bool (!q7)] (0, 0) _ rfl (((hB7.set_ 0 (.int .i64 1)).set_ 1 (.int .i64 0)).set_ 2 (.bool (!q7))) Tryd.underlying32 rfl size_span) rfl ?_
    refine ⟨⟨_, _, _⟩, rfl, ⟨by first | assumption | (show _ ∧ _; dsimp only; omega), by first | assumption | (show _ ∧ _; dsimp only; omega)⟩, ?_, ?_⟩
    · exact rs_set (rs_set (rs_set hR7 (p := ⟨w.heap.size, 0, none⟩) hRw _) (p := ⟨w.heap.size, 1, none⟩) hRw _) (p := ⟨w.heap.size, 2, none⟩) hRw _
    · exact grown_setNew (grown_setNew (grown_setNew hw7 (p := ⟨w.heap.size, 0, none⟩) (Nat.le_refl _) _) (p := ⟨w.heap.size, 1, none⟩) (Nat.le_refl _) _) (p := ⟨w.heap.size, 2, none⟩) (Nat.le_refl _) _
  by_cases e1 : t = 1
  · subst e1
    go_wp2_with fail
    refine (off_draw2 R n cap A (-1000000) 0 _ hR6 (by omega) (by omega) (by omega) (by omega)).mono ?_
    rintro e w7 ⟨z, rfl, hz, hR7, hg7⟩
    have hS7 : Blk w7 sb 32 #[.int .i64 lo, .int .i64 v, .bool q] := (hg7.block sb hS6.lt (by intro e; injection e with e; omega)).trans hS6
    have hB7 : Blk w7 w.heap.size 32 #[.int .i64 0, .int .i64 0, .bool false] := (hg7.block w.heap.size hB6.lt (by intro e; injection e with e; omega)).trans hB6
    have hw7 := grown_trans hw6 hg7
    clear hS6 hB6 hR6 hw6 hg7
    obtain ⟨c0, c1, c2, f0, f1, f2⟩ := blk_cells3 hS7
    obtain ⟨r0, r1, r2, g0, g1, g2⟩ := blk_cells3 hB7
    go_wp2_with fail
    (try simp only [Exit.inBlock, Exit.then])
    refine bodyPost_ret (results_cell_row rfl _ _ w.heap.size 32 #[.int .i64 z, .int .i64 v, .bool q] (0, 0) _ rfl ((((hB7.far (p := ⟨sb, 0, none⟩) hbne (.int .i64 z)).set_ 0 (.int .i64 z)).set_ 1 (.int .i64 v)).set_ 2 (.bool q)) Tryd.underlying32 rfl size_span) rfl ?_
    refine ⟨⟨_, _, _⟩, rfl, ⟨by first | assumption | (show _ ∧ _; dsimp only; omega), by first | assumption | (show _ ∧ _; dsimp only; omega)⟩, ?_, ?_⟩
    · exact rs_set (rs_set (rs_set (rs_set hR7 (p := ⟨sb, 0, none⟩) hRlt (.int .i64 z)) (p := ⟨w.heap.size, 0, none⟩) hRw _) (p := ⟨w.heap.size, 1, none⟩) hRw _) (p := ⟨w.heap.size, 2, none⟩) hRw _
    · exact grown_setNew (grown_setNew (grown_setNew (grown_setNew hw7 (p := ⟨sb, 0, none⟩) hsW (.int .i64 z)) (p := ⟨w.heap.size, 0, none⟩) (Nat.le_refl _) _) (p := ⟨w.heap.size, 1, none⟩) (Nat.le_refl _) _) (p := ⟨w.heap.size, 2, none⟩) (Nat.le_refl _) _
  by_cases e2 : t = 2
  · subst e2
    go_wp2_with fail
    refine (off_draw2 R n cap A 0 1000000 _ hR6 (by omega) (by omega) (by omega) (by omega)).mono ?_
    rintro e w7 ⟨z, rfl, hz, hR7, hg7⟩
    have hS7 : Blk w7 sb 32 #[.int .i64 lo, .int .i64 v, .bool q] := (hg7.block sb hS6.lt (by intro e; injection e with e; omega)).trans hS6
    have hB7 : Blk w7 w.heap.size 32 #[.int .i64 0, .int .i64 0, .bool false] := (hg7.block w.heap.size hB6.lt (by intro e; injection e with e; omega)).trans hB6
    have hw7 := grown_trans hw6 hg7
    clear hS6 hB6 hR6 hw6 hg7
    obtain ⟨c0, c1, c2, f0, f1, f2⟩ := blk_cells3 hS7
    obtain ⟨r0, r1, r2, g0, g1, g2⟩ := blk_cells3 hB7
    go_wp2_with fail
    (try simp only [Exit.inBlock, Exit.then])
    refine bodyPost_ret (results_cell_row rfl _ _ w.heap.size 32 #[.int .i64 lo, .int .i64 z, .bool q] (0, 0) _ rfl ((((hB7.far (p := ⟨sb, 1, none⟩) hbne (.int .i64 z)).set_ 0 (.int .i64 lo)).set_ 1 (.int .i64 z)).set_ 2 (.bool q)) Tryd.underlying32 rfl size_span) rfl ?_
    refine ⟨⟨_, _, _⟩, rfl, ⟨by first | assumption | (show _ ∧ _; dsimp only; omega), by first | assumption | (show _ ∧ _; dsimp only; omega)⟩, ?_, ?_⟩
    · exact rs_set (rs_set (rs_set (rs_set hR7 (p := ⟨sb, 1, none⟩) hRlt (.int .i64 z)) (p := ⟨w.heap.size, 0, none⟩) hRw _) (p := ⟨w.heap.size, 1, none⟩) hRw _) (p := ⟨w.heap.size, 2, none⟩) hRw _
    · exact grown_setNew (grown_setNew (grown_setNew (grown_setNew hw7 (p := ⟨sb, 1, none⟩) hsW (.int .i64 z)) (p := ⟨w.heap.size, 0, none⟩) (Nat.le_refl _) _) (p := ⟨w.heap.size, 1, none⟩) (Nat.le_refl _) _) (p := ⟨w.heap.size, 2, none⟩) (Nat.le_refl _) _
  obtain ⟨c0, c1, c2, f0, f1, f2⟩ := blk_cells3 hS6
  obtain ⟨r0, r1, r2, g0, g1, g2⟩ := blk_cells3 hB6
  go_wp2_with fail
  (try simp only [Exit.inBlock, Exit.then])
  refine bodyPost_ret (results_cell_row rfl _ _ w.heap.size 32 #[.int .i64 lo, .int .i64 v, .bool q] (0, 0) _ rfl (((hB6.set_ 0 (.int .i64 lo)).set_ 1 (.int .i64 v)).set_ 2 (.bool q)) Tryd.underlying32 rfl size_span) rfl ?_
  refine ⟨⟨_, _, _⟩, rfl, ⟨by first | assumption | (show _ ∧ _; dsimp only; omega), by first | assumption | (show _ ∧ _; dsimp only; omega)⟩, ?_, ?_⟩
  · exact rs_set (rs_set (rs_set hR6 (p := ⟨w.heap.size, 0, none⟩) hRw _) (p := ⟨w.heap.size, 1, none⟩) hRw _) (p := ⟨w.heap.size, 2, none⟩) hRw _
  · exact grown_setNew (grown_setNew (grown_setNew hw6 (p := ⟨w.heap.size, 0, none⟩) (Nat.le_refl _) _) (p := ⟨w.heap.size, 1, none⟩) (Nat.le_refl _) _) (p := ⟨w.heap.size, 2, none⟩) (Nat.le_refl _) _
set_option maxHeartbeats 1000000 in
theorem hit_draw2 (R n cap : Nat) (A : Option Addr) (w : World) (h : Rs w R A n cap) :
    Calls Tryd.prog 26 #[.pointer (some ⟨R, 0, none⟩)] w fun e w' => ∃ i s : Int, e = .returned (hitV i s) ∧ (0 ≤ i ∧ i ≤ 8 ∧ -4 ≤ s ∧ s ≤ 4) ∧ Rs w' R A n cap ∧ w.grownBy w' (some R) := by
  have hRw := h.lt
  go_enter Tryd.func26, Tryd.ntmps26
  go_wp2_with fail
  refine (below_draw R n cap A 9 _ (h.alloc _) (by omega) (by omega)).mono ?_
  rintro e w1 ⟨x, rfl, hx0, hx1, hR1, hg1⟩
  have hB1 : Blk w1 w.heap.size 25 #[.int .i64 0, .int .i64 0] := (hg1.block w.heap.size (by rw [World.size_alloc]; omega) (by intro e; injection e with e; omega)).trans (Blk.new w _ _)
  have hw1 : w.grownBy w1 (some R) := grown_trans (World.grownBy_alloc _ _ _) hg1
  clear hg1
  go_wp2_with fail
  refine (below_draw R n cap A 9 _ hR1 (by omega) (by omega)).mono ?_
  rintro e w2 ⟨y, rfl, hy0, hy1, hR2, hg2⟩
  have hs1 := hB1.lt
  have hB2 : Blk w2 w.heap.size 25 #[.int .i64 0, .int .i64 0] := (hg2.block w.heap.size hs1 (by intro e; injection e with e; omega)).trans hB1
  have hw2 := grown_trans hw1 hg2
  have c0 := hB2.cell 0
  have c1 := hB2.cell 1
  have f0 := hB2.frozen 0
  have f1 := hB2.frozen 1
  have HB2 := hid hB2
  have HW2 := hid hw2
  have HR2 := hid hR2
  clear hg2 hB1 hw1 hR1 hB2 hw2 hR2
  go_wp2_with fail
  (try simp only [Exit.inBlock, Exit.then])
  refine bodyPost_ret (results_cell_row rfl _ _ w.heap.size 25 #[.int .i64 x, .int .i64 (y - 4)] (0, 0) _ rfl ((HB2.out.set_ 0 (.int .i64 x)).set_ 1 (.int .i64 (y - 4))) Tryd.underlying25 rfl size_hit) rfl ?_
  exact ⟨x, y - 4, rfl, by omega, rs_set (rs_set HR2.out hRw _) hRw _, grown_setNew (grown_setNew HW2.out (Nat.le_refl _) _) (Nat.le_refl _) _⟩

end Go.Proofs.YthjphnopcgdgdaaDoor
