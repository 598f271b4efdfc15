/- Drawn Hits and drawn texts of Hits. -/
import Derived.Test.YthjphnopcgdgdaaDoorDiA
import Derived.Test.YthjphnopcgdgdaaDoorSdS
import Derived.Test.YthjphnopcgdgdaaDoorRhB
namespace Go.Proofs.YthjphnopcgdgdaaDoor
open Go.RowKit Go.Deep

/-- A Hit being drawn: the reader lies between the answer and the Hit. -/
def DH (w0 : World) (R n cap : Nat) (A : Option Addr) (q : Nat) (i s : Int) (w : World) : Prop :=
  Rs w R A n cap ∧ Blk w w0.heap.size 25 #[.int .i64 0, .int .i64 0] ∧ Blk w q 25 #[.int .i64 i, .int .i64 s] ∧ w0.heap.size < R ∧ R < q ∧ Below w0.heap.size w0 w
theorem DH.grown {w0 w w' : World} {R n cap : Nat} {A : Option Addr} {q : Nat} {i s : Int} (h : DH w0 R n cap A q i s w) (hR : Rs w' R A n cap) (hg : w.grownBy w' (some R)) : DH w0 R n cap A q i s w' := by
  obtain ⟨_, h1, h2, h3, h4, h5⟩ := h
  exact ⟨hR, h1.grown hg (by intro e; injection e with e; omega), h2.grown hg (by intro e; injection e with e; omega), h3, h4, h5.grown hg h5.size (fun k e => by injection e with e; omega)⟩
theorem DH.setI {w0 w : World} {R n cap : Nat} {A : Option Addr} {q : Nat} {i s : Int} (h : DH w0 R n cap A q i s w) (x : Int) : DH w0 R n cap A q x s (w.setCell ⟨q, 0, none⟩ (.int .i64 x)) := by
  obtain ⟨h0, h1, h2, h3, h4, h5⟩ := h
  exact ⟨rs_set h0 h4 _, h1.far (p := ⟨q, 0, none⟩) (by show w0.heap.size ≠ q; omega) _, h2.set_ 0 _, h3, h4, h5.setCell (p := ⟨q, 0, none⟩) (by show w0.heap.size ≤ q; omega) _⟩
theorem DH.setS {w0 w : World} {R n cap : Nat} {A : Option Addr} {q : Nat} {i s : Int} (h : DH w0 R n cap A q i s w) (x : Int) : DH w0 R n cap A q i x (w.setCell ⟨q, 1, none⟩ (.int .i64 x)) := by
  obtain ⟨h0, h1, h2, h3, h4, h5⟩ := h
  exact ⟨rs_set h0 h4 _, h1.far (p := ⟨q, 1, none⟩) (by show w0.heap.size ≠ q; omega) _, h2.set_ 1 _, h3, h4, h5.setCell (p := ⟨q, 1, none⟩) (by show w0.heap.size ≤ q; omega) _⟩
/-- The end of the draw: the Hit is copied into the answer. -/
theorem DH.ends {w0 w : World} {R n cap : Nat} {A : Option Addr} {q : Nat} {i s : Int} (h : DH w0 R n cap A q i s w) :
    Blk ((w.setCell ⟨w0.heap.size, 0, none⟩ (.int .i64 i)).setCell ⟨w0.heap.size, 1, none⟩ (.int .i64 s)) w0.heap.size 25 #[.int .i64 i, .int .i64 s] ∧ Below w0.heap.size w0 ((w.setCell ⟨w0.heap.size, 0, none⟩ (.int .i64 i)).setCell ⟨w0.heap.size, 1, none⟩ (.int .i64 s)) := by
  obtain ⟨h0, h1, h2, h3, h4, h5⟩ := h
  exact ⟨(h1.set_ 0 (.int .i64 i)).set_ 1 (.int .i64 s), (h5.setCell (p := ⟨w0.heap.size, 0, none⟩) (Nat.le_refl _) _).setCell (p := ⟨w0.heap.size, 1, none⟩) (Nat.le_refl _) _⟩

set_option maxRecDepth 100000 in
set_option maxHeartbeats 4000000 in
theorem drawHit (A : Option Addr) (n cap : Nat) (w : World) (h : Bs w w.heap.size A n) (hn : n ≤ 4194304) :
    Calls Tryd.prog 8 #[.slice A n cap] w fun e w' => ∃ i s : Int, e = .returned (hitV i s) ∧ (I64 i ∧ I64 s) ∧ Below w.heap.size w w' := by
  have hb0 := (Below.refl w.heap.size w).alloc (Nat.le_refl _) (.cells #[.int .i64 0, .int .i64 0] 25)
  have h1 := Blk.new w 25 #[.int .i64 0, .int .i64 0]
  have hB0 : Bs (w.alloc (.cells #[.int .i64 0, .int .i64 0] 25)) (w.alloc (.cells #[.int .i64 0, .int .i64 0] 25)).heap.size A n := Bs.more (Bs.keep h fun _ hp => hb0.cell hp) hb0.size
  go_enter Tryd.func8, Tryd.ntmps8
  go_wp2_with fail
  generalize w.alloc (.cells #[.int .i64 0, .int .i64 0] 25) = W0 at hb0 h1 hB0 ⊢
  refine (open_draw A n cap W0 hB0 hn).mono ?_
  rintro e w1 ⟨rfl, hR1, hb1⟩
  have hl2 := h1.lt
  have k1 := h1.below hb1 h1.lt
  have kb := hb0.trans (hb1.mono hb0.size)
  generalize W0.heap.size = R at hR1 hl2 ⊢
  clear hB0 h1 hb0 hb1 h
  go_wp2_with fail
  refine (hit_draw2 R n cap A w1 hR1).mono ?_
  rintro e w2 ⟨i, s, rfl, his, hR2, hg2⟩
  have D2 : DH w R n cap A w2.heap.size i s (w2.alloc (.cells #[.int .i64 i, .int .i64 s] 25)) := by
    have m1 := k1.grown hg2 (by intro e; injection e with e; omega)
    have mb := kb.grown hg2 kb.size (fun k e => by injection e with e; omega)
    exact ⟨hR2.alloc _, m1.alloc _, Blk.new w2 _ _, hl2, hR2.lt, mb.alloc mb.size _⟩
  have hI : I64 i ∧ I64 s := by unfold I64; omega
  have HI := hid hI
  clear hg2 k1 kb hR1 his hI hR2
  go_wp2_with fail
  generalize w2.alloc (.cells #[.int .i64 i, .int .i64 s] 25) = W3 at D2 ⊢
  generalize w2.heap.size = q at D2 ⊢
  refine (below_draw R n cap A 8 _ D2.1 (by omega) (by omega)).mono ?_
  rintro e w4 ⟨k, rfl, hk0, hk1, hR4, hg4⟩
  have D4 := D2.grown hR4 hg4
  clear D2 hR4 hg4
  by_cases e0 : k = 0
  · subst e0
    go_wp2_with fail
    refine (off_draw2 R n cap A 0 19 _ D4.1 (by omega) (by omega) (by omega) (by omega)).mono ?_
    rintro e w5 ⟨x, rfl, hx, hR5, hg5⟩
    have D5 := D4.grown hR5 hg5
    have D6 := D5.setI x
    have c0 := D5.2.2.1.cell 0; have f0 := D5.2.2.1.frozen 0; have c1 := D5.2.2.1.cell 1
    have d0 := D5.2.1.cell 0; have g0 := D5.2.1.frozen 0; have d1 := D5.2.1.cell 1; have g1 := D5.2.1.frozen 1
    have hne : w.heap.size ≠ q := by have := D5.2.2.2.1; have := D5.2.2.2.2.1; omega
    have hne' : q ≠ w.heap.size := fun e => hne e.symm
    have E := D6.ends
    clear D4 hR5 hg5 D5 D6
    go_wp2_with fail
    (try simp only [Exit.inBlock, Exit.then])
    refine bodyPost_ret (results_cell_row rfl _ _ w.heap.size 25 #[.int .i64 x, .int .i64 s] (0, 0) _ rfl E.1 Tryd.underlying25 rfl size_hit) rfl ?_
    exact ⟨x, s, rfl, ⟨hx, HI.out.2⟩, E.2⟩
  by_cases e1 : k = 1
  · subst e1
    go_wp2_with fail
    refine (off_draw2 R n cap A (-100000000000) 100000000000 _ D4.1 (by omega) (by omega) (by omega) (by omega)).mono ?_
    rintro e w5 ⟨x, rfl, hx, hR5, hg5⟩
    have D5 := D4.grown hR5 hg5
    have D6 := D5.setS x
    have c0 := D5.2.2.1.cell 0; have f1 := D5.2.2.1.frozen 1; have c1 := D5.2.2.1.cell 1
    have d0 := D5.2.1.cell 0; have g0 := D5.2.1.frozen 0; have d1 := D5.2.1.cell 1; have g1 := D5.2.1.frozen 1
    have hne : w.heap.size ≠ q := by have := D5.2.2.2.1; have := D5.2.2.2.2.1; omega
    have hne' : q ≠ w.heap.size := fun e => hne e.symm
    have E := D6.ends
    clear D4 hR5 hg5 D5 D6
    go_wp2_with fail
    (try simp only [Exit.inBlock, Exit.then])
    refine bodyPost_ret (results_cell_row rfl _ _ w.heap.size 25 #[.int .i64 i, .int .i64 x] (0, 0) _ rfl E.1 Tryd.underlying25 rfl size_hit) rfl ?_
    exact ⟨i, x, rfl, ⟨HI.out.1, hx⟩, E.2⟩
  have c0 := D4.2.2.1.cell 0; have c1 := D4.2.2.1.cell 1
  have d0 := D4.2.1.cell 0; have g0 := D4.2.1.frozen 0; have d1 := D4.2.1.cell 1; have g1 := D4.2.1.frozen 1
  have E := D4.ends
  clear D4
  go_wp2_with fail
  (try simp only [Exit.inBlock, Exit.then])
  refine bodyPost_ret (results_cell_row rfl _ _ w.heap.size 25 #[.int .i64 i, .int .i64 s] (0, 0) _ rfl E.1 Tryd.underlying25 rfl size_hit) rfl ?_
  exact ⟨i, s, rfl, HI.out, E.2⟩

set_option maxRecDepth 100000 in
set_option maxHeartbeats 4000000 in
theorem drawReadHit (A : Option Addr) (n cap : Nat) (w : World) (h : Bs w w.heap.size A n) (hn : n ≤ 4194304) :
    Calls Tryd.prog 10 #[.slice A n cap] w fun e w' => ∃ s : ByteArray, e = .returned (.string s) ∧ s.size ≤ 252 ∧ Below w.heap.size w w' := by
  go_enter Tryd.func10, Tryd.ntmps10
  go_wp2_with fail
  refine (open_draw A n cap w h hn).mono ?_
  rintro e w1 ⟨rfl, hR1, hb1⟩
  have hRw : w.heap.size < w1.heap.size := hR1.lt
  go_wp2_with fail
  refine (hit_draw2 w.heap.size n cap A w1 hR1).mono ?_
  rintro e w2 ⟨i, s, rfl, his, hR2, hg2⟩
  have hw2 := hb1.grown hg2 hb1.size (fun k e => by injection e with e; omega)
  clear hg2 hR1 hb1
  go_wp2_with fail
  refine (sHitText_any i s _).mono ?_
  rintro e w3 ⟨rfl, hb3⟩
  have hok : htB i s = true := htB_iff.2 (by omega)
  have hsz : (htT i s).size ≤ 40 := by rw [htT_yes hok]; exact htS_40 hok
  have hw3 := hw2.trans (hb3.mono hw2.size)
  have hR3 := hR2.below hb3
  clear hb3 hw2 hR2 his hok
  generalize htT i s = u at hsz ⊢
  go_wp2_with fail
  refine (below_draw w.heap.size n cap A 5 _ hR3 (by omega) (by omega)).mono ?_
  rintro e w4 ⟨k, rfl, hk0, hk1, hR4, hg4⟩
  have hw4 := hw3.grown hg4 hw3.size (fun k e => by injection e with e; omega)
  clear hg4 hR3 hw3
  by_cases e0 : k = 0
  · subst e0
    go_wp2_with fail
    refine (hurt_draw w.heap.size n cap A u _ hR4 (by omega)).mono ?_
    rintro e w5 ⟨v, rfl, hv, hR5, hg5⟩
    have hw5 := hw4.grown hg5 hw4.size (fun k e => by injection e with e; omega)
    go_wp2_with fail
    go_ret
    exact ⟨v, rfl, hv, hw5⟩
  by_cases e1 : k = 1
  · subst e1
    have hRlt := hR4.lt
    go_wp2_with fail
    refine (below_draw w.heap.size n cap A 8 _ (hR4.alloc _) (by omega) (by omega)).mono ?_
    rintro e w5 ⟨j, rfl, hj0, hj1, hR5, hg5⟩
    have hB := Blk.grown (Blk.new w4 _ _) hg5 (by simp; omega)
    have c0 := hB.cell 0; have c1 := hB.cell 1; have c2 := hB.cell 2; have c3 := hB.cell 3; have c4 := hB.cell 4; have c5 := hB.cell 5; have c6 := hB.cell 6; have c7 := hB.cell 7
    simp at c0 c1 c2 c3 c4 c5 c6 c7
    have hw5 := (hw4.alloc hw4.size _).grown hg5 (hw4.alloc hw4.size _).size (fun k e => by injection e with e; omega)
    have HW := hid hw5
    clear hB hg5 hw5
    obtain rfl | rfl | rfl | rfl | rfl | rfl | rfl | rfl : j = 0 ∨ j = 1 ∨ j = 2 ∨ j = 3 ∨ j = 4 ∨ j = 5 ∨ j = 6 ∨ j = 7 := by omega
    all_goals
      go_wp2_with fail
      go_ret
      exact ⟨_, rfl, by decide, HW.out⟩
  go_wp2_with fail
  go_ret
  exact ⟨u, rfl, by omega, hw4⟩
end Go.Proofs.YthjphnopcgdgdaaDoor
