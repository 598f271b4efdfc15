/- Drawn ensembles and drawn texts of ensembles. -/
import Derived.Test.YtmkipdhappikhaaGreatDoorEnsX
import Derived.Test.YtmkipdhappikhaaGreatDoorSdU
import Derived.Test.YtmkipdhappikhaaGreatDoorReX
namespace Go.Proofs.YtmkipdhappikhaaGreatDoor
open Go.RowKit Go.Deep

def DrawnEns (w : World) (e : Ending) (w' : World) : Prop :=
  ∃ (f b : Int) (k : Nat) (A' : Option Addr) (c : Nat) (len : Nat → Nat) (g : Nat → Nat → Nd), k ≤ 12 ∧ (∀ i, i < k → len i ≤ 16) ∧ e = .returned (enV f b A' k c) ∧ (∀ w'' : World, (∀ x, w.heap.size ≤ x → x < w'.heap.size → w''.heap[x]? = w'.heap[x]?) → RdT w'' w'.heap.size A' k len g) ∧ Below w.heap.size w w'

set_option maxRecDepth 100000 in
set_option maxHeartbeats 4000000 in
theorem drawEnsOk (A : Option Addr) (n cap : Nat) (w : World) (h : Bs w w.heap.size A n) (hn : n ≤ 4194304) :
    Calls Tryz.prog 22 #[.slice A n cap] w (DrawnEns w) := by
  go_enter Tryz.func22, Tryz.ntmps22
  go_wp2_with fail
  have hbz := (Below.refl w.heap.size w).alloc (Nat.le_refl _) (.cells #[.int .i64 0, .int .i64 0, .slice none 0 0] 26)
  have h1 : Bs (w.alloc (.cells #[.int .i64 0, .int .i64 0, .slice none 0 0] 26)) (w.alloc (.cells #[.int .i64 0, .int .i64 0, .slice none 0 0] 26)).heap.size A n := (h.keep fun _ hp => hbz.cell hp).more hbz.size
  have hsz : (w.alloc (.cells #[.int .i64 0, .int .i64 0, .slice none 0 0] 26)).heap.size = w.heap.size + 1 := by simp
  refine (open_draw A n cap _ h1 hn).mono ?_
  rintro e w1 ⟨rfl, hR1, hb1⟩
  have hZ1 : Blk w1 w.heap.size 26 #[.int .i64 0, .int .i64 0, .slice none 0 0] := (Blk.new w 26 _).below hb1 (by omega)
  have hw1 : Below w.heap.size w w1 := hbz.trans (hb1.mono hbz.size)
  rw [hsz] at hR1
  generalize hRR : w.heap.size + 1 = R at *
  clear hb1 hbz h1 hsz
  have hRw := hR1.lt
  go_wp2_with fail
  refine (below_draw R n cap A 3 _ hR1 (by omega) (by omega)).mono ?_
  rintro e w2 ⟨x, rfl, hx0, hx1, hR2, hg2⟩
  have hZ2 := hZ1.grown hg2 (by intro e; injection e with e; omega)
  have hw2 := hw1.trans ((below_grown hg2 hRw).mono (show w.heap.size ≤ R by omega))
  clear hg2 hZ1 hw1 hR1
  go_wp2_with fail
  refine (ens_draw R n cap A (1 + x) (by omega) (by omega) _ hR2).mono ?_
  rintro e w3 ⟨f, b, k, A', c, bl, ln, cp, ds, hk, rfl, hown, hT, hR3, hg3⟩
  have hZ3 := hZ2.grown hg3 (by intro e; injection e with e; omega)
  have hw3 := hw2.trans ((below_grown hg3 hR2.lt).mono (show w.heap.size ≤ R by omega))
  have hRw2 := hR2.lt
  clear hg3 hZ2 hw2 hR2
  go_wp2_with fail
  refine (hurtEns_draw R n cap w2.heap.size A A' f b k c bl ln cp ds _ hR3 hRw2 hk hown hT).mono ?_
  rintro e w4 ⟨f', b', k', A2, c', len, g, hk', hl, rfl, hHi, hR4, hb4⟩
  have hZ4 := hZ3.below hb4 (show w.heap.size < R by omega)
  have hw4 := hw3.trans (hb4.mono (show w.heap.size ≤ R by omega))
  clear hZ3 hw3 hR3 hb4 hown hT
  have a0 := hZ4.cell 0
  have a1 := hZ4.cell 1
  have a2 := hZ4.cell 2
  have a3 := hZ4.frozen 0
  have a4 := hZ4.frozen 1
  have a5 := hZ4.frozen 2
  go_wp2_with fail
  have hblk := ((hZ4.set_ 0 (.int .i64 f')).set_ 1 (.int .i64 b')).set_ 2 (.slice A2 k' c')
  have hks : ∀ (i : Nat), i ≠ w.heap.size → (((w4.setCell ⟨w.heap.size, 0, none⟩ (.int .i64 f')).setCell ⟨w.heap.size, 1, none⟩ (.int .i64 b')).setCell ⟨w.heap.size, 2, none⟩ (.slice A2 k' c')).heap[i]? = w4.heap[i]? := fun i hi =>
    (Below.heap_setCell _ _ _ i hi).trans ((Below.heap_setCell _ _ _ i hi).trans (Below.heap_setCell _ _ _ i hi))
  have hss : (((w4.setCell ⟨w.heap.size, 0, none⟩ (.int .i64 f')).setCell ⟨w.heap.size, 1, none⟩ (.int .i64 b')).setCell ⟨w.heap.size, 2, none⟩ (.slice A2 k' c')).heap.size = w4.heap.size := by simp [World.setCell]
  (try simp only [Exit.inBlock, Exit.then])
  refine bodyPost_ret (results_cell_row rfl _ _ w.heap.size 26 #[.int .i64 f', .int .i64 b', .slice A2 k' c'] (0, 0) _ rfl hblk Tryz.underlying26 rfl size_ens) rfl ?_
  refine ⟨f', b', k', A2, c', len, g, hk', hl, rfl, ?_, ((hw4.setCell (Nat.le_refl _) _).setCell (Nat.le_refl _) _).setCell (Nat.le_refl _) _⟩
  rw [hss]
  exact fun w2 h2 => (hHi.keep (w' := w2) (Q := fun x => R < x ∧ x < w4.heap.size) (fun x hx => (h2 x (by omega) hx.2).trans (hks x (by omega))) (fun x hx => hx)).rdT (fun x hx => hx.2)


theorem drawEnsText (A : Option Addr) (n cap : Nat) (w : World) (h : Bs w w.heap.size A n) (hn : n ≤ 4194304) :
    Calls Tryz.prog 6 #[.slice A n cap] w (DrawnEns w) := by
  go_enter Tryz.func6, Tryz.ntmps6
  go_wp2_with fail
  have hbz := (Below.refl w.heap.size w).alloc (Nat.le_refl _) (.cells #[.int .i64 0, .int .i64 0, .slice none 0 0] 26)
  have h1 : Bs (w.alloc (.cells #[.int .i64 0, .int .i64 0, .slice none 0 0] 26)) (w.alloc (.cells #[.int .i64 0, .int .i64 0, .slice none 0 0] 26)).heap.size A n := (h.keep fun _ hp => hbz.cell hp).more hbz.size
  refine (drawEnsOk A n cap _ h1 hn).mono ?_
  rintro e w1 ⟨f, b, k, A', c, len, g, hk, hl, rfl, hr1, hb1⟩
  have hZ1 : Blk w1 w.heap.size 26 #[.int .i64 0, .int .i64 0, .slice none 0 0] := (Blk.new w 26 _).below hb1 (by simp)
  have hw1 : Below w.heap.size w w1 := hbz.trans (hb1.mono hbz.size)
  clear hb1 hbz h1
  go_wp2_with (first
    | (refine wpList_store_row rfl 26 _ _ rfl w.heap.size #[.int .i64 f, .int .i64 b, .slice A' k c] rfl rfl 26 _ hZ1 size_ens rfl (by simp [Value.oneCell']) ?_))
  refine bodyPost_ret (results_cell_row rfl _ _ w.heap.size 26 #[.int .i64 f, .int .i64 b, .slice A' k c] (0, 0) _ rfl (setRow_heap _ _ _ _ _ _ hZ1) Tryz.underlying26 rfl size_ens) rfl ?_
  have hsz : (w.alloc (.cells #[.int .i64 0, .int .i64 0, .slice none 0 0] 26)).heap.size = w.heap.size + 1 := by simp
  refine ⟨f, b, k, A', c, len, g, hk, hl, rfl, fun w2 h2 => ?_, below_setRow hw1 (Nat.le_refl _) _⟩
  have hss : (World.setRow w1 w.heap.size #[.int .i64 f, .int .i64 b, .slice A' k c]).heap.size = w1.heap.size := by simp [World.setRow]
  rw [hss] at h2 ⊢
  exact hr1 w2 fun x hx1 hx2 => (h2 x (by omega) hx2).trans (setRow_other _ _ _ _ (by omega))
theorem ensS_any {f b : Int} {n : Nat} {len : Nat → Nat} {g : Nat → Nat → Nd} : (ensS f b n len g).size ≤ 7839 := by
  cases h : ensB f b n len g
  · have : ensS f b n len g = ⟨#[]⟩ := by unfold ensS; rw [h]; rfl
    rw [this]; decide
  · exact ens_8000 h

set_option maxRecDepth 100000 in
set_option maxHeartbeats 4000000 in
theorem drawReadEns (A : Option Addr) (n cap : Nat) (w : World) (h : Bs w w.heap.size A n) (hn : n ≤ 4194304) :
    Calls Tryz.prog 8 #[.slice A n cap] w fun e w' => ∃ s : ByteArray, e = .returned (.string s) ∧ s.size ≤ 7841 ∧ Below w.heap.size w w' := by
  go_enter Tryz.func8, Tryz.ntmps8
  go_wp2_with fail
  refine (open_draw A n cap w h hn).mono ?_
  rintro e w1 ⟨rfl, hR1, hb1⟩
  have hRw : w.heap.size < w1.heap.size := hR1.lt
  go_wp2_with fail
  refine (below_draw w.heap.size n cap A 3 _ hR1 (by omega) (by omega)).mono ?_
  rintro e w2 ⟨x, rfl, hx0, hx1, hR2, hg2⟩
  have hw2 := hb1.grown hg2 hb1.size (fun k e => by injection e with e; omega)
  clear hg2 hR1 hb1
  go_wp2_with fail
  refine (ens_draw w.heap.size n cap A (1 + x) (by omega) (by omega) _ hR2).mono ?_
  rintro e w3 ⟨f, b, k, A', c, bl, ln, cp, ds, hk, rfl, hown, hT, hR3, hg3⟩
  have hw3 := hw2.grown hg3 hw2.size (fun k e => by injection e with e; omega)
  have hrd : RdT w3 w3.heap.size A' k ln (nds ds) := (hit_own hown hT).rdT (fun x hx => hx.2)
  have hl : Hid (∀ i, i < k → ln i ≤ 4194304) := fun i hi => by have := (hT i hi).1; omega
  have hk4 : k ≤ 4194304 := by omega
  clear hg3 hR2 hw2 hown hT
  go_wp2_with fail
  refine (sEnsText_any f b A' k c ln _ _ hrd hk4 hl).mono ?_
  rintro e w4 ⟨rfl, hb4⟩
  have hsz : (ensS f b k ln (nds ds)).size ≤ 7839 := ensS_any
  have hw4 := hw3.trans (hb4.mono hw3.size)
  have hR4 := hR3.below hb4
  clear hb4 hw3 hR3 hrd
  generalize ensS f b k ln (nds ds) = u at hsz ⊢
  go_wp2_with fail
  refine (below_draw w.heap.size n cap A 5 _ hR4 (by omega) (by omega)).mono ?_
  rintro e w5 ⟨k, rfl, hk0, hk1, hR5, hg5⟩
  have hw5 := hw4.grown hg5 hw4.size (fun k e => by injection e with e; omega)
  clear hg5 hR4 hw4
  by_cases e0 : k = 0
  · subst e0
    go_wp2_with fail
    refine (hurtM_draw 7839 (by omega) w.heap.size n cap A u _ hR5 hsz).mono ?_
    rintro e w6 ⟨v, rfl, hv, hR6, hg6⟩
    have hw6 := hw5.grown hg6 hw5.size (fun k e => by injection e with e; omega)
    go_wp2_with fail
    go_ret
    exact ⟨v, rfl, hv, hw6⟩
  by_cases e1 : k = 1
  · subst e1
    have hRlt := hR5.lt
    go_wp2_with fail
    refine (below_draw w.heap.size n cap A 11 _ (hR5.alloc _) (by omega) (by omega)).mono ?_
    rintro e w6 ⟨j, rfl, hj0, hj1, hR6, hg6⟩
    have hB := Blk.grown (Blk.new w5 _ _) hg6 (by simp; omega)
    have c0 := hB.cell 0; have c1 := hB.cell 1; have c2 := hB.cell 2; have c3 := hB.cell 3; have c4 := hB.cell 4; have c5 := hB.cell 5; have c6 := hB.cell 6; have c7 := hB.cell 7; have c8 := hB.cell 8; have c9 := hB.cell 9; have c10 := hB.cell 10
    simp at c0 c1 c2 c3 c4 c5 c6 c7 c8 c9 c10
    have hw6 := (hw5.alloc hw5.size _).grown hg6 (hw5.alloc hw5.size _).size (fun k e => by injection e with e; omega)
    have HW := hid hw6
    clear hB hg6 hw6
    obtain rfl | rfl | rfl | rfl | rfl | rfl | rfl | rfl | rfl | rfl | rfl : j = 0 ∨ j = 1 ∨ j = 2 ∨ j = 3 ∨ j = 4 ∨ j = 5 ∨ j = 6 ∨ j = 7 ∨ j = 8 ∨ j = 9 ∨ j = 10 := by omega
    all_goals
      go_wp2_with fail
      go_ret
      exact ⟨_, rfl, by decide, HW.out⟩
  go_wp2_with fail
  go_ret
  exact ⟨u, rfl, by omega, hw5⟩
end Go.Proofs.YtmkipdhappikhaaGreatDoor
