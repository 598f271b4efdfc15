/- Draws of trees and boxes; plans on both sides. -/
import Derived.Test.YthjphnopcgdgdaaDoorK5
import Derived.Test.YthjphnopcgdgdaaDoorLaw
import Derived.Test.YthjphnopcgdgdaaDoorK4
import Derived.Test.YthjphnopcgdgdaaDoorK1
import Derived.Test.YthjphnopcgdgdaaDoorK2
namespace Go.Proofs.YthjphnopcgdgdaaDoor

/-! ### Codes -/
section
set_option linter.unusedVariables false
set_option linter.unusedSimpArgs false
open Go.RowKit Go.Deep

/-- A slice of bytes that came in reads as bytes. -/
theorem IsRow.bs {w : World} {a : Option Addr} {len cap : Nat} {zs : List Int} (h : IsRow .u8 w a len cap zs) : Bs w w.heap.size a len := fun hn => by
  rcases h with ⟨_, h0, _⟩ | ⟨x, rfl, hl, hm, hz, hc, hw⟩
  · omega
  · obtain ⟨b, off, spot⟩ := x
    have h0 := hc 0 (by omega)
    have hs : spot = none := by simpa [Addr.add] using World.cell?_spot h0
    subst hs
    refine ⟨b, off, rfl, ?_, fun i hi => ?_⟩
    · have := cell_lt h0
      simpa [Addr.add_lit] using this
    · have h1 := hc i (by omega)
      rw [Addr.add_lit] at h1
      have hb := hw (zs.getD i 0) (by rw [List.getD_eq_getElem?_getD, List.getElem?_eq_getElem (by omega)]; simp)
      simp [Lit.wf, IntKind.min, IntKind.max, IntKind.signed, IntKind.bits] at hb
      exact ⟨_, h1, by simpa using hb.1, by simpa using hb.2⟩

theorem big_no (A : Option Addr) (n cap : Nat) (w : World) (h : ¬ (1048576 : Int) < (n : Int)) :
    Calls Tryd.prog 7 #[.slice A n cap] w fun e w' => e = .returned (.bool false) ∧ w = w' := by
  go_enter Tryd.func7, Tryd.ntmps7
  go_wp2_with fail
  go_ret
  exact ⟨by simp, rfl⟩
theorem big_yes (A : Option Addr) (n cap : Nat) (w : World) (h : (1048576 : Int) < (n : Int)) :
    Calls Tryd.prog 7 #[.slice A n cap] w fun e w' => e = .returned (.bool true) ∧ w = w' := by
  go_enter Tryd.func7, Tryd.ntmps7
  go_wp2_with fail
  go_ret
  exact ⟨by simp, rfl⟩
end

/-! ### DrawD -/
section
set_option linter.unusedVariables false
set_option linter.unusedSimpArgs false
open Go.RowKit Go.Deep

set_option maxHeartbeats 1000000 in
/-- A number below one that is not negative: with no byte read where there is no choice. -/
theorem below_any (R n cap : Nat) (A : Option Addr) (m : Int) (w : World) (h : Rs w R A n cap) (hm1 : 1 ≤ m) (hm : m ≤ 256) :
    Calls Tryd.prog 27 #[.pointer (some ⟨R, 0, none⟩), .int .i64 m] w fun e w' =>
      ∃ x : Int, e = .returned (.int .i64 x) ∧ 0 ≤ x ∧ x < m ∧ Rs w' R A n cap ∧ w.grownBy w' (some R) := by
  by_cases h1 : 1 < m
  · exact below_draw R n cap A m w h h1 hm
  · obtain rfl : m = 1 := by omega
    go_enter Tryd.func27, Tryd.ntmps27
    go_wp2_with fail
    go_ret
    exact ⟨0, rfl, by omega, by omega, h, World.grownBy.refl _ _⟩

theorem rs_set {w : World} {R n cap : Nat} {A : Option Addr} (h : Rs w R A n cap) {p : Addr} (hp : R < p.block) (u : Value) : Rs (w.setCell p u) R A n cap := h.keep fun b hb => Below.heap_setCell _ _ _ b (by omega)

/-- A row of one's own as cells. -/
theorem own_cells {w : World} {B : Nat} {e : TypeId} {A' : Option Addr} {m c : Nat} {xs : List Value} (h : w.ownsRow B e 6 (.slice A' m c) m xs) (hm : 0 < m) :
    ∃ g, A' = some ⟨g, 0, none⟩ ∧ B ≤ g ∧ g < w.heap.size ∧ ∀ j u, xs[j]? = some u → w.cell? ⟨g, j, none⟩ = some u := by
  rcases h.2 with ⟨_, h0⟩ | ⟨g, cap, cur, hv, hb, hg, _, _, _, ht⟩
  · omega
  · injection hv with e1 _ _
    refine ⟨g, e1, hb, Blk.lt hg, fun j u hu => ?_⟩
    rw [← ht, List.getElem?_take] at hu
    split at hu
    · rw [Array.getElem?_toList] at hu
      exact (cell_of_row w g j cur e (0, 0) hg).trans hu
    · cases hu
theorem ndC_one (ds : List Nd) : ∀ u ∈ ds.flatMap ndC, u.oneCell' = true := by
  intro u hu
  simp only [List.mem_flatMap] at hu
  obtain ⟨d, _, hd⟩ := hu
  simp only [ndC, List.mem_cons, List.not_mem_nil, or_false] at hd
  rcases hd with rfl | rfl | rfl | rfl | rfl | rfl <;> rfl
theorem ndC_len (ds : List Nd) : (ds.flatMap ndC).length = ds.length * 6 := by
  induction ds with
  | nil => rfl
  | cons d ds ih => simp only [List.flatMap_cons, List.length_append, ih, List.length_cons, ndC, List.length_nil]; omega
theorem cells_grown {w w' : World} {r : Option Nat} {g : Nat} {xs : List Value} (h : ∀ j u, xs[j]? = some u → w.cell? ⟨g, j, none⟩ = some u) (hg : w.grownBy w' r) (hlt : g < w.heap.size) (hne : some g ≠ r) :
    ∀ j u, xs[j]? = some u → w'.cell? ⟨g, j, none⟩ = some u := fun j u hu => (World.cell?_of_block (hg.block g hlt hne)).trans (h j u hu)

theorem grown_keep {w w1 w3 : World} {r row : Option Nat} (h : w.grownBy w1 r) (hg : w1.grownBy w3 row) (hr : ∀ k, row = some k → w.heap.size ≤ k) : w.grownBy w3 r :=
  ⟨hg.os.trans h.os, hg.tape.trans h.tape, hg.output.trans h.output, Nat.le_trans h.size hg.size, fun i hi hne => (hg.block i (Nat.lt_of_lt_of_le hi h.size) (fun e => by have := hr i e.symm; omega)).trans (h.block i hi hne)⟩
theorem rs_keep {w1 w3 : World} {B R n cap : Nat} {A : Option Addr} {row : Option Nat} (h : Rs w1 R A n cap) (hg : w1.grownBy w3 row) (hr : ∀ k, row = some k → B ≤ k) (hB : R < B) : Rs w3 R A n cap :=
  h.keep fun b hb => hg.block b (Nat.lt_of_le_of_lt hb h.lt) (fun e => by have := hr b e.symm; omega)

end

/-! ### MeetA -/
section
set_option linter.unusedVariables false
set_option linter.unusedSimpArgs false
open Go.RowKit Go.Deep

theorem size_span : (Tryd.prog.info? 32).map (·.size) = some 3 := by kernel_rfl

end

/-! ### BoxDrawA -/
section
set_option linter.unusedVariables false
set_option linter.unusedSimpArgs false
open Go.RowKit Go.Deep

theorem buildSpan2 (x : Int) (q : Bool) (w : World) : (Instr.build 32 #[(0, .int .i64 x), (2, .bool q)]).run Tryd.prog w = .ok (.agg #[.int .i64 x, .int .i64 0, .bool q]) w := run_build w 32 _ _ (by kernel_rfl)
theorem blk_cells3 {w : World} {b : Nat} {t : TypeId} {x y z : Value} (h : Blk w b t #[x, y, z]) :
    w.cell? ⟨b, 0, none⟩ = some x ∧ w.cell? ⟨b, 1, none⟩ = some y ∧ w.cell? ⟨b, 2, none⟩ = some z ∧ w.frozen? ⟨b, 0, none⟩ = false ∧ w.frozen? ⟨b, 1, none⟩ = false ∧ w.frozen? ⟨b, 2, none⟩ = false :=
  ⟨h.cell 0, h.cell 1, h.cell 2, h.frozen 0, h.frozen 1, h.frozen 2⟩

set_option maxRecDepth 100000 in
set_option maxHeartbeats 4000000 in
theorem span_draw (R n cap : Nat) (A : Option Addr) (w : World) (h : Rs w R A n cap) :
    Calls Tryd.prog 38 #[.pointer (some ⟨R, 0, none⟩)] w fun e w' =>
      ∃ d : Sp, e = .returned (spV d) ∧ Rs w' R A n cap ∧ w.grownBy w' (some R) := by
  have hbs := buildSpan2
  go_enter Tryd.func38, Tryd.ntmps38
  go_wp2_with fail
  refine (below_draw R n cap A 20 _ (h.alloc _) (by omega) (by omega)).mono ?_
  rintro e w1 ⟨x, rfl, hx0, hx1, hR1, hg1⟩
  have hRw := h.lt
  have hB1 : Blk w1 w.heap.size 32 #[.int .i64 0, .int .i64 0, .bool false] :=
    (hg1.block w.heap.size (by rw [World.size_alloc]; omega) (by intro e; injection e with e; omega)).trans (Blk.new w _ _)
  have hw1 : w.grownBy w1 (some R) := grown_trans (World.grownBy_alloc _ _ _) hg1
  clear hg1
  go_wp2_with fail
  refine (once_draw R n cap A 2 _ hR1 (by omega) (by omega)).mono ?_
  rintro e w2 ⟨q, rfl, hR2, hg2⟩
  have hB2 : Blk w2 w.heap.size 32 #[.int .i64 0, .int .i64 0, .bool false] := (hg2.block w.heap.size hB1.lt (by intro e; injection e with e; omega)).trans hB1
  have hw2 := grown_trans hw1 hg2
  have hs2 := hw2.size
  clear hg2 hw1 hB1 hR1
  have hS3 := Blk.new w2 32 #[.int .i64 (x - 10), .int .i64 0, .bool q]
  have hB3 := hB2.alloc (.cells #[.int .i64 (x - 10), .int .i64 0, .bool q] 32)
  have hR3 := hR2.alloc (.cells #[.int .i64 (x - 10), .int .i64 0, .bool q] 32)
  have hw3 : w.grownBy (w2.alloc (.cells #[.int .i64 (x - 10), .int .i64 0, .bool q] 32)) (some R) := grown_trans hw2 (World.grownBy_alloc _ _ _)
  have hlt3 := hS3.lt
  have hB4lt : w.heap.size < w2.heap.size := hB2.lt
  have hR3d : Rs (w2.alloc (.cells #[.int .i64 (x - 10), .int .i64 0, .bool q] 32)).drew R A n cap := hR3
  have c30 : (w2.alloc (.cells #[.int .i64 (x - 10), .int .i64 0, .bool q] 32)).cell? ⟨w2.heap.size, 0, none⟩ = some (.int .i64 (x - 10)) := hS3.cell 0
  go_wp2_with fail
  go_region_held3 (fun w' => w'.cell? ⟨w2.heap.size, 0, none⟩ = some (.int .i64 (x - 10)))
    (first | exact c40 | (simp [go_sem]; done) | (simp [go_sem, *]; done))
    (first
      | (go_at_call 27; refine (below_draw R n cap A 12 (w2.alloc (.cells #[.int .i64 (x - 10), .int .i64 0, .bool q] 32)).drew hR3d (by omega) (by omega)).mono ?_; rintro e w4 ⟨y, rfl, hy0, hy1, hR4, hg4⟩; have hS4 : Blk w4 w2.heap.size 32 #[.int .i64 (x - 10), .int .i64 0, .bool q] := (hg4.block w2.heap.size hlt3 (by intro e; injection e with e; omega)).trans hS3; obtain ⟨c40, c41, c42, f40, f41, f42⟩ := blk_cells3 hS4))
  have hB4 : Blk w4 w.heap.size 32 #[.int .i64 0, .int .i64 0, .bool false] := (hg4.block w.heap.size hB3.lt (by intro e; injection e with e; omega)).trans hB3
  have hw3d : w.grownBy (w2.alloc (.cells #[.int .i64 (x - 10), .int .i64 0, .bool q] 32)).drew (some R) := ⟨hw3.os, hw3.tape, hw3.output, hw3.size, hw3.block⟩
  have hw4 : w.grownBy w4 (some R) := grown_trans hw3d hg4
  have hRlt : R < w2.heap.size := hR2.lt
  generalize hv : IntKind.i64.wrap (x - 10 + y) = v
  have hS5 : Blk (w4.setCell ⟨w2.heap.size, 1, none⟩ (.int .i64 v)) w2.heap.size 32 #[.int .i64 (x - 10), .int .i64 v, .bool q] := hS4.set_ 1 (.int .i64 v)
  have hB5 := hB4.far (p := ⟨w2.heap.size, 1, none⟩) (by simp; omega) (.int .i64 v)
  have hR5 := rs_set hR4 (p := ⟨w2.heap.size, 1, none⟩) hRlt (.int .i64 v)
  have hw5 := grown_setNew hw4 (p := ⟨w2.heap.size, 1, none⟩) hs2 (.int .i64 v)
  clear hv hw3d hS3 hB3 hR3 hR3d hw3 hg4 hS4 hB4 hR4 hw4 c30 c40 c41 c42 f40 f41 f42 hB2 hR2 hw2
  have hsW : w.heap.size ≤ w2.heap.size := hs2
  have hbne : w.heap.size ≠ w2.heap.size := Nat.ne_of_lt hB4lt
  generalize hW : w4.setCell ⟨w2.heap.size, 1, none⟩ (.int .i64 v) = W5 at hS5 hB5 hR5 hw5 ⊢
  clear hW
  generalize w2.heap.size = sb at *
  generalize x - 10 = lo at *
  go_wp2_with fail
  refine (below_draw R n cap A 12 _ hR5 (by omega) (by omega)).mono ?_
  rintro e w6 ⟨t, rfl, ht0, ht1, hR6, hg6⟩
  have hS6 : Blk w6 sb 32 #[.int .i64 lo, .int .i64 v, .bool q] := (hg6.block sb hS5.lt (by intro e; injection e with e; omega)).trans hS5
  have hB6 : Blk w6 w.heap.size 32 #[.int .i64 0, .int .i64 0, .bool false] := (hg6.block w.heap.size hB5.lt (by intro e; injection e with e; omega)).trans hB5
  have hw6 := grown_trans hw5 hg6
  clear hS5 hB5 hR5 hw5 hg6
  by_cases e0 : t = 0
  · subst e0
    go_wp2_with fail
    refine (once_draw R n cap A 4 _ hR6 (by omega) (by omega)).mono ?_
    rintro e w7 ⟨q7, rfl, hR7, hg7⟩
    have hB7 : Blk w7 w.heap.size 32 #[.int .i64 0, .int .i64 0, .bool false] := (hg7.block w.heap.size hB6.lt (by intro e; injection e with e; omega)).trans hB6
    have hw7 := grown_trans hw6 hg7
    clear hS6 hB6 hR6 hw6 hg7
    obtain ⟨r0, r1, r2, g0, g1, g2⟩ := blk_cells3 hB7
    go_wp2_with fail
    (try simp only [Exit.inBlock, Exit.then])
    refine bodyPost_ret (results_cell_row rfl _ _ w.heap.size 32 #[.int .i64 1, .int .i64 0, .bool (!q7)] (0, 0) _ rfl (((hB7.set_ 0 (.int .i64 1)).set_ 1 (.int .i64 0)).set_ 2 (.bool (!q7))) Tryd.underlying32 rfl size_span) rfl ?_
    refine ⟨⟨_, _, _⟩, rfl, ?_, ?_⟩
    · exact rs_set (rs_set (rs_set hR7 (p := ⟨w.heap.size, 0, none⟩) hRw _) (p := ⟨w.heap.size, 1, none⟩) hRw _) (p := ⟨w.heap.size, 2, none⟩) hRw _
    · exact grown_setNew (grown_setNew (grown_setNew hw7 (p := ⟨w.heap.size, 0, none⟩) (Nat.le_refl _) _) (p := ⟨w.heap.size, 1, none⟩) (Nat.le_refl _) _) (p := ⟨w.heap.size, 2, none⟩) (Nat.le_refl _) _
  by_cases e1 : t = 1
  · subst e1
    go_wp2_with fail
    refine (off_draw R n cap A (-1000000) 0 _ hR6 (by omega) (by omega) (by omega) (by omega)).mono ?_
    rintro e w7 ⟨z, rfl, hR7, hg7⟩
    have hS7 : Blk w7 sb 32 #[.int .i64 lo, .int .i64 v, .bool q] := (hg7.block sb hS6.lt (by intro e; injection e with e; omega)).trans hS6
    have hB7 : Blk w7 w.heap.size 32 #[.int .i64 0, .int .i64 0, .bool false] := (hg7.block w.heap.size hB6.lt (by intro e; injection e with e; omega)).trans hB6
    have hw7 := grown_trans hw6 hg7
    clear hS6 hB6 hR6 hw6 hg7
    obtain ⟨c0, c1, c2, f0, f1, f2⟩ := blk_cells3 hS7
    obtain ⟨r0, r1, r2, g0, g1, g2⟩ := blk_cells3 hB7
    go_wp2_with fail
    (try simp only [Exit.inBlock, Exit.then])
    refine bodyPost_ret (results_cell_row rfl _ _ w.heap.size 32 #[.int .i64 z, .int .i64 v, .bool q] (0, 0) _ rfl ((((hB7.far (p := ⟨sb, 0, none⟩) hbne (.int .i64 z)).set_ 0 (.int .i64 z)).set_ 1 (.int .i64 v)).set_ 2 (.bool q)) Tryd.underlying32 rfl size_span) rfl ?_
    refine ⟨⟨_, _, _⟩, rfl, ?_, ?_⟩
    · exact rs_set (rs_set (rs_set (rs_set hR7 (p := ⟨sb, 0, none⟩) hRlt (.int .i64 z)) (p := ⟨w.heap.size, 0, none⟩) hRw _) (p := ⟨w.heap.size, 1, none⟩) hRw _) (p := ⟨w.heap.size, 2, none⟩) hRw _
    · exact grown_setNew (grown_setNew (grown_setNew (grown_setNew hw7 (p := ⟨sb, 0, none⟩) hsW (.int .i64 z)) (p := ⟨w.heap.size, 0, none⟩) (Nat.le_refl _) _) (p := ⟨w.heap.size, 1, none⟩) (Nat.le_refl _) _) (p := ⟨w.heap.size, 2, none⟩) (Nat.le_refl _) _
  by_cases e2 : t = 2
  · subst e2
    go_wp2_with fail
    refine (off_draw R n cap A 0 1000000 _ hR6 (by omega) (by omega) (by omega) (by omega)).mono ?_
    rintro e w7 ⟨z, rfl, hR7, hg7⟩
    have hS7 : Blk w7 sb 32 #[.int .i64 lo, .int .i64 v, .bool q] := (hg7.block sb hS6.lt (by intro e; injection e with e; omega)).trans hS6
    have hB7 : Blk w7 w.heap.size 32 #[.int .i64 0, .int .i64 0, .bool false] := (hg7.block w.heap.size hB6.lt (by intro e; injection e with e; omega)).trans hB6
    have hw7 := grown_trans hw6 hg7
    clear hS6 hB6 hR6 hw6 hg7
    obtain ⟨c0, c1, c2, f0, f1, f2⟩ := blk_cells3 hS7
    obtain ⟨r0, r1, r2, g0, g1, g2⟩ := blk_cells3 hB7
    go_wp2_with fail
    (try simp only [Exit.inBlock, Exit.then])
    refine bodyPost_ret (results_cell_row rfl _ _ w.heap.size 32 #[.int .i64 lo, .int .i64 z, .bool q] (0, 0) _ rfl ((((hB7.far (p := ⟨sb, 1, none⟩) hbne (.int .i64 z)).set_ 0 (.int .i64 lo)).set_ 1 (.int .i64 z)).set_ 2 (.bool q)) Tryd.underlying32 rfl size_span) rfl ?_
    refine ⟨⟨_, _, _⟩, rfl, ?_, ?_⟩
    · exact rs_set (rs_set (rs_set (rs_set hR7 (p := ⟨sb, 1, none⟩) hRlt (.int .i64 z)) (p := ⟨w.heap.size, 0, none⟩) hRw _) (p := ⟨w.heap.size, 1, none⟩) hRw _) (p := ⟨w.heap.size, 2, none⟩) hRw _
    · exact grown_setNew (grown_setNew (grown_setNew (grown_setNew hw7 (p := ⟨sb, 1, none⟩) hsW (.int .i64 z)) (p := ⟨w.heap.size, 0, none⟩) (Nat.le_refl _) _) (p := ⟨w.heap.size, 1, none⟩) (Nat.le_refl _) _) (p := ⟨w.heap.size, 2, none⟩) (Nat.le_refl _) _
  obtain ⟨c0, c1, c2, f0, f1, f2⟩ := blk_cells3 hS6
  obtain ⟨r0, r1, r2, g0, g1, g2⟩ := blk_cells3 hB6
  go_wp2_with fail
  (try simp only [Exit.inBlock, Exit.then])
  refine bodyPost_ret (results_cell_row rfl _ _ w.heap.size 32 #[.int .i64 lo, .int .i64 v, .bool q] (0, 0) _ rfl (((hB6.set_ 0 (.int .i64 lo)).set_ 1 (.int .i64 v)).set_ 2 (.bool q)) Tryd.underlying32 rfl size_span) rfl ?_
  refine ⟨⟨_, _, _⟩, rfl, ?_, ?_⟩
  · exact rs_set (rs_set (rs_set hR6 (p := ⟨w.heap.size, 0, none⟩) hRw _) (p := ⟨w.heap.size, 1, none⟩) hRw _) (p := ⟨w.heap.size, 2, none⟩) hRw _
  · exact grown_setNew (grown_setNew (grown_setNew hw6 (p := ⟨w.heap.size, 0, none⟩) (Nat.le_refl _) _) (p := ⟨w.heap.size, 1, none⟩) (Nat.le_refl _) _) (p := ⟨w.heap.size, 2, none⟩) (Nat.le_refl _) _
end

/-! ### PlB -/
section
set_option linter.unusedVariables false
set_option linter.unusedSimpArgs false
open Go.RowKit Go.Deep

abbrev plV (A1 : Option Addr) (n1 c1 : Nat) (A2 : Option Addr) (n2 c2 : Nat) (A3 : Option Addr) (n3 c3 : Nat) (A4 : Option Addr) (n4 c4 : Nat) : Value := .agg #[.slice A1 n1 c1, .slice A2 n2 c2, .slice A3 n3 c3, .slice A4 n4 c4]
theorem blk_cells4 {w : World} {b : Nat} {t : TypeId} {x y z u : Value} (h : Blk w b t #[x, y, z, u]) :
    (w.cell? ⟨b, 0, none⟩ = some x ∧ w.cell? ⟨b, 1, none⟩ = some y ∧ w.cell? ⟨b, 2, none⟩ = some z ∧ w.cell? ⟨b, 3, none⟩ = some u) ∧ w.frozen? ⟨b, 0, none⟩ = false ∧ w.frozen? ⟨b, 1, none⟩ = false ∧ w.frozen? ⟨b, 2, none⟩ = false ∧ w.frozen? ⟨b, 3, none⟩ = false :=
  ⟨⟨h.cell 0, h.cell 1, h.cell 2, h.cell 3⟩, h.frozen 0, h.frozen 1, h.frozen 2, h.frozen 3⟩
/-- The four lists of a plan are to be read. -/
structure RdP (w : World) (B : Nat) (A1 : Option Addr) (n1 : Nat) (z1 : Nat → Int) (A2 : Option Addr) (n2 : Nat) (z2 : Nat → Int) (A3 : Option Addr) (n3 : Nat) (z3 : Nat → Int) (A4 : Option Addr) (n4 : Nat) (z4 : Nat → Int) : Prop where
  o : Rd w B A1 n1 z1
  e : Rd w B A2 n2 z2
  m : Rd w B A3 n3 z3
  x : Rd w B A4 n4 z4
section
variable {w w' : World} {B B' : Nat} {A1 A2 A3 A4 : Option Addr} {n1 n2 n3 n4 : Nat} {z1 z2 z3 z4 : Nat → Int}
theorem RdP.below (h : RdP w B A1 n1 z1 A2 n2 z2 A3 n3 z3 A4 n4 z4) (hb : Below B w w') : RdP w' B A1 n1 z1 A2 n2 z2 A3 n3 z3 A4 n4 z4 := ⟨h.o.below hb, h.e.below hb, h.m.below hb, h.x.below hb⟩
theorem RdP.more (h : RdP w B A1 n1 z1 A2 n2 z2 A3 n3 z3 A4 n4 z4) (hB : B ≤ B') : RdP w B' A1 n1 z1 A2 n2 z2 A3 n3 z3 A4 n4 z4 := ⟨h.o.more hB, h.e.more hB, h.m.more hB, h.x.more hB⟩
theorem RdP.to (h : RdP w B A1 n1 z1 A2 n2 z2 A3 n3 z3 A4 n4 z4) (hb : Below B w w') (hB : B ≤ w'.heap.size) : RdP w' w'.heap.size A1 n1 z1 A2 n2 z2 A3 n3 z3 A4 n4 z4 := (h.below hb).more hB
end
end
end Go.Proofs.YthjphnopcgdgdaaDoor
