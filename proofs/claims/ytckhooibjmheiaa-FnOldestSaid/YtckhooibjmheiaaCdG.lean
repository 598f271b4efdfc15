/- What DrawCachePut draws. -/
import Derived.Test.YtckhooibjmheiaaCdD
namespace Go.Proofs.Ytckhooibjmheiaa
open Go.RowKit Go.Deep
set_option linter.unusedVariables false
set_option linter.unusedSimpArgs false

def DrawnPut (w : World) (e : Ending) (w' : World) : Prop :=
  ∃ (cp ck : Int) (A' : Option Addr) (k c : Nat) (s : Nat → Slt) (D : Option Addr) (f dc : Nat) (g : Nat → Sp) (x : Int), (k ≤ 8 ∧ ∀ i, i < k → (s i).n ≤ 16) ∧ f ≤ 16 ∧ e = .returned (.tuple #[.agg #[.int .i64 cp, .int .i64 ck, .slice A' k c], .slice D f dc, .int .i64 x]) ∧ RdC w' w'.heap.size A' k s ∧ RdS w' w'.heap.size D f g ∧ Below w.heap.size w w'
theorem OwM.grownR {w w' : World} {L H k R : Nat} {A : Option Addr} {s : Nat → Slt} (h : OwM w L H A k s) (hg : w.grownBy w' (some R)) (hR : R < L) : OwM w' L H A k s :=
  h.soft fun x cs hx hB => hg.block x (by rcases hB with h | h <;> exact h.lt) (by intro e; injection e with e; omega)
set_option maxRecDepth 100000 in
set_option maxHeartbeats 4000000 in
theorem drawCachePut (A : Option Addr) (n cap : Nat) (w : World) (h : Bs w w.heap.size A n) (hn : n ≤ 4194304) :
    Calls Try.prog 28 #[.slice A n cap] w (DrawnPut w) := by
  have hb0 := (Below.refl w.heap.size w).alloc (Nat.le_refl _) (.cells #[.int .i64 0, .int .i64 0, .slice none 0 0] 26)
  have hZ0 := Blk.new w 26 #[.int .i64 0, .int .i64 0, .slice none 0 0]
  have hs0 : (w.alloc (.cells #[.int .i64 0, .int .i64 0, .slice none 0 0] 26)).heap.size = w.heap.size + 1 := World.size_alloc _ _
  have hB0 : Bs (w.alloc (.cells #[.int .i64 0, .int .i64 0, .slice none 0 0] 26)) w.heap.size A n := h.keep fun p hp => hb0.cell hp
  go_enter Try.func28, Try.ntmps28
  go_wp2_with fail
  refine (open_draw A n cap _ (hB0.more (by omega)) hn).mono ?_
  rintro e w1 ⟨rfl, hR1, hb1⟩
  generalize hRd : (w.alloc (.cells #[.int .i64 0, .int .i64 0, .slice none 0 0] 26)).heap.size = R at *
  have hRw : w.heap.size < R := by omega
  have hZ1 : Blk w1 w.heap.size 26 #[.int .i64 0, .int .i64 0, .slice none 0 0] := (hb1.block _ hRw).trans hZ0
  have hB1 := hb0.trans (hb1.mono (Nat.le_of_lt hRw))
  clear hb0 hZ0 hB0 hs0 hb1 hRd
  go_wp2_with fail
  refine (below_draw R n cap A 3 _ hR1 (by omega) (by omega)).mono ?_
  rintro e w2 ⟨x, rfl, hx0, hx1, hR2, hg2⟩
  have hZ2 : Blk w2 w.heap.size 26 #[.int .i64 0, .int .i64 0, .slice none 0 0] := (hg2.block _ hZ1.lt (by intro e; injection e with e; omega)).trans hZ1
  have hB2 : Below w.heap.size w w2 := hB1.trans ⟨hg2.os, hg2.tape, hg2.output, hg2.size, fun y hy => hg2.block y (Nat.lt_trans hy hZ1.lt) (by intro e; injection e with e; omega)⟩
  clear hZ1 hB1 hR1 hg2
  go_wp2_with fail
  refine (cache_draw R n cap A (1 + x) (by omega) (by omega) _ hR2).mono ?_
  rintro e w3 ⟨cp, ck, A', k, c, s, rfl, hgo, ⟨H, hown⟩, hR3, hg3⟩
  have hZ3 : Blk w3 w.heap.size 26 #[.int .i64 0, .int .i64 0, .slice none 0 0] := (hg3.block _ hZ2.lt (by intro e; injection e with e; omega)).trans hZ2
  have hB3 : Below w.heap.size w w3 := hB2.trans ⟨hg3.os, hg3.tape, hg3.output, hg3.size, fun y hy => hg3.block y (Nat.lt_trans hy hZ2.lt) (by intro e; injection e with e; omega)⟩
  have hwL : w.heap.size < w2.heap.size := hZ2.lt
  have hRL : R < w2.heap.size := hR2.lt
  have hHG := hid hgo
  clear hZ2 hB2 hR2 hg3 hgo
  go_wp2_with fail
  refine (box_drawI R n cap A (1 + x) _ hR3 (by omega) (by omega)).mono ?_
  rintro e w4 ⟨f, g, D, dc, -, hf, rfl, hrow, hR4, hg4⟩
  have hZ4 : Blk w4 w.heap.size 26 #[.int .i64 0, .int .i64 0, .slice none 0 0] := (hg4.block _ hZ3.lt (by intro e; injection e with e; omega)).trans hZ3
  have hB4 : Below w.heap.size w w4 := hB3.trans ⟨hg4.os, hg4.tape, hg4.output, hg4.size, fun y hy => hg4.block y (Nat.lt_trans hy hZ3.lt) (by intro e; injection e with e; omega)⟩
  have hown4 := hown.grownR hg4 hRL
  have hRr : R < w3.heap.size := hR3.lt
  have hwr3 : w.heap.size < w3.heap.size := hZ3.lt
  clear hZ3 hB3 hR3 hg4 hown
  go_wp2_with fail
  refine (below_draw R n cap A 90 _ hR4 (by omega) (by omega)).mono ?_
  rintro e w5 ⟨y, rfl, hy0, hy1, hR5, hg5⟩
  have hZ5 : Blk w5 w.heap.size 26 #[.int .i64 0, .int .i64 0, .slice none 0 0] := (hg5.block _ hZ4.lt (by intro e; injection e with e; omega)).trans hZ4
  have hB5 : Below w.heap.size w w5 := hB4.trans ⟨hg5.os, hg5.tape, hg5.output, hg5.size, fun y hy => hg5.block y (Nat.lt_trans hy hZ4.lt) (by intro e; injection e with e; omega)⟩
  have hown5 := hid (hown4.grownR hg5 hRL)
  have hrow5 := hid (own_grown hrow hg5 hRr)
  obtain ⟨y0, y1, y2, v0, v1, v2⟩ := blk_cells3 hZ5
  have HZ := hid hZ5
  have HB := hid hB5
  clear hZ4 hB4 hR4 hR5 hg5 hown4 hrow hZ5 hB5
  go_wp2_with fail
  (try simp only [Exit.inBlock, Exit.then])
  have f1 : Blk (((w5.setCell ⟨w.heap.size, 0, none⟩ (.int .i64 cp)).setCell ⟨w.heap.size, 1, none⟩ (.int .i64 ck)).setCell ⟨w.heap.size, 2, none⟩ (.slice A' k c)) w.heap.size 26 #[.int .i64 cp, .int .i64 ck, .slice A' k c] := ((HZ.out.set_ 0 _).set_ 1 _).set_ 2 _
  have hbel : Below w.heap.size w (((w5.setCell ⟨w.heap.size, 0, none⟩ (.int .i64 cp)).setCell ⟨w.heap.size, 1, none⟩ (.int .i64 ck)).setCell ⟨w.heap.size, 2, none⟩ (.slice A' k c)) := ((HB.out.setCell (p := ⟨w.heap.size, 0, none⟩) (Nat.le_refl _) _).setCell (p := ⟨w.heap.size, 1, none⟩) (Nat.le_refl _) _).setCell (p := ⟨w.heap.size, 2, none⟩) (Nat.le_refl _) _
  refine bodyPost_ret (results_cell_row_tmp2C rfl _ _ w.heap.size 26 _ (0, 0) _ rfl f1 Try.underlying26 rfl size_cache) rfl ?_
  exact ⟨cp, ck, A', k, c, s, D, f, dc, g, y, hHG.out, hf, rfl, (hown5.out.soft fun x cs hx _ => far3 _ _ _ x (by omega)).rdC, rds_own (own_far3 hrow5.out hwr3 _ _ _), hbel⟩
end Go.Proofs.Ytckhooibjmheiaa
