/- Drawn Hits; the walk of the law of their order. -/
import Derived.Test.YtghjeaffnocihaaHitA
import Derived.Test.YtghjeaffnocihaaK5
import Derived.Test.YtghjeaffnocihaaK6
namespace Go.Proofs.Ytghjeaffnocihaa
open Go.RowKit Go.Deep
set_option linter.unusedVariables false
set_option linter.unusedSimpArgs false

theorem results_cell_two {P : Program} {fn : Func} {p q : Tmp} {ty : TypeId} (h : fn.results = #[.cell p ty, .cell q ty]) (tmps : Array Value) (w : World) (g g' : Nat) (t t' : TypeId) (cs cs' : Array Value) (fr fr' : Nat × Nat) (d : TypeDesc)
    (hp : tmps.getD p undef = .pointer (some ⟨g, 0, none⟩)) (hg : w.heap[g]? = some (.cells cs t fr)) (hq : tmps.getD q undef = .pointer (some ⟨g', 0, none⟩)) (hg' : w.heap[g']? = some (.cells cs' t' fr'))
    (hu : P.underlying ty = some d) (hd : (match d with | .struct _ | .array _ _ => true | _ => false) = true) (hi : (P.info? ty).map (·.size) = some cs.size) (hi' : (P.info? ty).map (·.size) = some cs'.size) :
    (results fn tmps).run P w = .ok (.tuple #[.agg cs, .agg cs']) w := by
  have hp' : tmps[p]?.getD undef = .pointer (some ⟨g, 0, none⟩) := by simpa using hp
  have hq' : tmps[q]?.getD undef = .pointer (some ⟨g', 0, none⟩) := by simpa using hq
  simp [results, h, hp', hq', asAddr, Result.andThen, run_loadVar_row w g t ty cs fr d hg hu hd hi, run_loadVar_row w g' t' ty cs' fr' d hg' hu hd hi']

theorem eqHit (i s j t : Int) (w : World) : (Op.equalIn 10000 94 (.agg #[.int .i64 i, .int .i64 s]) (.agg #[.int .i64 j, .int .i64 t])).run Try.prog w = .ok (i == j && s == t) w := by
  have u2 := Try.underlying2
  have p2 := Try.isAgg2
  have z2 := Try.sizeOf2
  have hS : Try.prog.underlying 94 = some (.struct (Try.prog.fieldsOf 94)) := by kernel_rfl
  have hp : Try.prog.stoodInHeld 94 = false := by kernel_rfl
  rw [show (10000 : Nat) = 9999 + 1 from rfl, run_equalIn_agg w 9999 94 _ _ hS hp]
  simp only [Program.fieldsOf, Try.underlying94]
  go_simp
  by_cases h1 : i = j
  · by_cases h2 : s = t <;> simp [h1, h2]
  · simp [h1]

set_option maxRecDepth 100000 in
set_option maxHeartbeats 1000000 in
theorem hit_draw (R n cap : Nat) (A : Option Addr) (w : World) (h : Rs w R A n cap) :
    Calls Try.prog 127 #[.pointer (some ⟨R, 0, none⟩)] w fun e w' => ∃ i s : Int, e = .returned (hitV i s) ∧ Rs w' R A n cap ∧ w.grownBy w' (some R) := by
  have hRw := h.lt
  go_enter Try.func127, Try.ntmps127
  go_wp2_with fail
  refine (below_draw R n cap A 9 _ (h.alloc _) (by omega) (by omega)).mono ?_
  rintro e w1 ⟨x, rfl, hx0, hx1, hR1, hg1⟩
  have hB1 : Blk w1 w.heap.size 94 #[.int .i64 0, .int .i64 0] := (hg1.block w.heap.size (by rw [World.size_alloc]; omega) (by intro e; injection e with e; omega)).trans (Blk.new w _ _)
  have hw1 : w.grownBy w1 (some R) := grown_trans (World.grownBy_alloc _ _ _) hg1
  clear hg1
  go_wp2_with fail
  refine (below_draw R n cap A 9 _ hR1 (by omega) (by omega)).mono ?_
  rintro e w2 ⟨y, rfl, hy0, hy1, hR2, hg2⟩
  have hs1 := hB1.lt
  have hB2 : Blk w2 w.heap.size 94 #[.int .i64 0, .int .i64 0] := (hg2.block w.heap.size hs1 (by intro e; injection e with e; omega)).trans hB1
  have hw2 := grown_trans hw1 hg2
  have c0 := hB2.cell 0
  have c1 := hB2.cell 1
  have f0 := hB2.frozen 0
  have f1 := hB2.frozen 1
  have HB2 := hid hB2
  have HW2 := hid hw2
  have HR2 := hid hR2
  clear hg2 hB1 hw1 hR1 hB2 hw2 hR2
  go_wp2_with fail
  (try simp only [Exit.inBlock, Exit.then])
  refine bodyPost_ret (results_cell_row rfl _ _ w.heap.size 94 #[.int .i64 x, .int .i64 (y - 4)] (0, 0) _ rfl ((HB2.out.set_ 0 (.int .i64 x)).set_ 1 (.int .i64 (y - 4))) Try.underlying94 rfl size_hit) rfl ?_
  exact ⟨x, y - 4, rfl, rs_set (rs_set HR2.out hRw _) hRw _, grown_setNew (grown_setNew HW2.out (Nat.le_refl _) _) (Nat.le_refl _) _⟩

set_option maxRecDepth 100000 in
set_option maxHeartbeats 2000000 in
theorem drawHits (A : Option Addr) (n cap : Nat) (w : World) (h : Bs w w.heap.size A n) (hn : n ≤ 4194304) :
    Calls Try.prog 64 #[.slice A n cap] w fun e w' => ∃ i s j t : Int, e = .returned (.tuple #[hitV i s, hitV j t]) ∧ Below w.heap.size w w' := by
  have hb0 := ((Below.refl w.heap.size w).alloc (Nat.le_refl _) (.cells #[.int .i64 0, .int .i64 0] 94)).alloc (by simp) (.cells #[.int .i64 0, .int .i64 0] 94)
  have h1 : Blk ((w.alloc (.cells #[.int .i64 0, .int .i64 0] 94)).alloc (.cells #[.int .i64 0, .int .i64 0] 94)) w.heap.size 94 #[.int .i64 0, .int .i64 0] := (Blk.new w _ _).alloc _
  have h2 : Blk ((w.alloc (.cells #[.int .i64 0, .int .i64 0] 94)).alloc (.cells #[.int .i64 0, .int .i64 0] 94)) (w.heap.size + 1) 94 #[.int .i64 0, .int .i64 0] := Blk.new2 w _ _ _
  have hB0 : Bs ((w.alloc (.cells #[.int .i64 0, .int .i64 0] 94)).alloc (.cells #[.int .i64 0, .int .i64 0] 94)) ((w.alloc (.cells #[.int .i64 0, .int .i64 0] 94)).alloc (.cells #[.int .i64 0, .int .i64 0] 94)).heap.size A n := Bs.more (Bs.keep h fun _ hp => hb0.cell hp) hb0.size
  go_enter Try.func64, Try.ntmps64
  go_wp2_with fail
  obtain ⟨W0, hW0⟩ : ∃ W, (w.alloc (.cells #[.int .i64 0, .int .i64 0] 94)).alloc (.cells #[.int .i64 0, .int .i64 0] 94) = W := ⟨_, rfl⟩
  rw [hW0] at hb0 h1 h2 hB0 ⊢
  clear hW0
  refine (open_draw A n cap W0 hB0 hn).mono ?_
  rintro e w1 ⟨rfl, hR1, hb1⟩
  obtain ⟨R, hRe⟩ : ∃ R, W0.heap.size = R := ⟨_, rfl⟩
  have hl2 := h2.lt
  have k1 := h1.below hb1 h1.lt
  have k2 := h2.below hb1 h2.lt
  have kb := hb0.trans (hb1.mono hb0.size)
  rw [hRe] at hR1 hl2
  try rw [hRe]
  clear hRe hB0 h1 h2 hb0 hb1 h
  go_wp2_with fail
  refine (hit_draw R n cap A w1 hR1).mono ?_
  rintro e w2 ⟨i, s, rfl, hR2, hg2⟩
  have m1 := k1.grown hg2 (by intro e; injection e with e; omega)
  have m2 := k2.grown hg2 (by intro e; injection e with e; omega)
  have mb := kb.grown hg2 kb.size (fun k e => by injection e with e; omega)
  clear hg2 k1 k2 kb hR1
  go_wp2_with fail
  refine (hit_draw R n cap A w2 hR2).mono ?_
  rintro e w3 ⟨j, t, rfl, hR3, hg3⟩
  have n1 := m1.grown hg3 (by intro e; injection e with e; omega)
  have n2 := m2.grown hg3 (by intro e; injection e with e; omega)
  have nb := mb.grown hg3 mb.size (fun k e => by injection e with e; omega)
  clear hg3 m1 m2 mb hR2 hR3
  have c0 := n1.cell 0
  have c1 := n1.cell 1
  have f0 := n1.frozen 0
  have f1 := n1.frozen 1
  have d0 := n2.cell 0
  have d1 := n2.cell 1
  have e0 := n2.frozen 0
  have e1 := n2.frozen 1
  have N1 := hid n1
  have N2 := hid n2
  have NB := hid nb
  clear n1 n2 nb
  go_wp2_with fail
  (try simp only [Exit.inBlock, Exit.then])
  have q1 : Blk ((((w3.setCell ⟨w.heap.size, 0, none⟩ (.int .i64 i)).setCell ⟨w.heap.size, 1, none⟩ (.int .i64 s)).setCell ⟨w.heap.size + 1, 0, none⟩ (.int .i64 j)).setCell ⟨w.heap.size + 1, 1, none⟩ (.int .i64 t)) w.heap.size 94 #[.int .i64 i, .int .i64 s] :=
    (((N1.out.set_ 0 (.int .i64 i)).set_ 1 (.int .i64 s)).far (p := ⟨w.heap.size + 1, 0, none⟩) (by show w.heap.size ≠ w.heap.size + 1; omega) _).far (p := ⟨w.heap.size + 1, 1, none⟩) (by show w.heap.size ≠ w.heap.size + 1; omega) _
  have q2 : Blk ((((w3.setCell ⟨w.heap.size, 0, none⟩ (.int .i64 i)).setCell ⟨w.heap.size, 1, none⟩ (.int .i64 s)).setCell ⟨w.heap.size + 1, 0, none⟩ (.int .i64 j)).setCell ⟨w.heap.size + 1, 1, none⟩ (.int .i64 t)) (w.heap.size + 1) 94 #[.int .i64 j, .int .i64 t] :=
    ((((N2.out.far (p := ⟨w.heap.size, 0, none⟩) (by show w.heap.size + 1 ≠ w.heap.size; omega) (.int .i64 i)).far (p := ⟨w.heap.size, 1, none⟩) (by show w.heap.size + 1 ≠ w.heap.size; omega) (.int .i64 s)).set_ 0 (.int .i64 j)).set_ 1 (.int .i64 t))
  refine bodyPost_ret (results_cell_two rfl _ _ w.heap.size (w.heap.size + 1) 94 94 #[.int .i64 i, .int .i64 s] #[.int .i64 j, .int .i64 t] (0, 0) (0, 0) _ rfl q1 rfl q2 Try.underlying94 rfl size_hit size_hit) rfl ?_
  exact ⟨i, s, j, t, rfl, (((NB.out.setCell (p := ⟨w.heap.size, 0, none⟩) (Nat.le_refl _) _).setCell (p := ⟨w.heap.size, 1, none⟩) (Nat.le_refl _) _).setCell (p := ⟨w.heap.size + 1, 0, none⟩) (Nat.le_succ _) _).setCell (p := ⟨w.heap.size + 1, 1, none⟩) (Nat.le_succ _) _⟩
end Go.Proofs.Ytghjeaffnocihaa
