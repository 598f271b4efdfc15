/- Draws of trees and boxes; plans on both sides. -/
import Derived.Test.YtmkipdhappikhaaGreatDoorK5
import Derived.Test.YtmkipdhappikhaaGreatDoorLaw
import Derived.Test.YtmkipdhappikhaaGreatDoorK4
import Derived.Test.YtmkipdhappikhaaGreatDoorK1
import Derived.Test.YtmkipdhappikhaaGreatDoorK2
namespace Go.Proofs.YtmkipdhappikhaaGreatDoor

/-! ### Codes -/
section
set_option linter.unusedVariables false
set_option linter.unusedSimpArgs false
open Go.RowKit Go.Deep

/-- A slice of bytes that came in reads as bytes. -/
theorem IsRow.bs {w : World} {a : Option Addr} {len cap : Nat} {zs : List Int} (h : IsRow .u8 w a len cap zs) : Bs w w.heap.size a len := fun hn => by
  rcases h with ⟨_, h0, _⟩ | ⟨x, rfl, hl, hm, hz, hc, hw⟩
  · omega
  · obtain ⟨b, off, spot⟩ := x
    have h0 := hc 0 (by omega)
    have hs : spot = none := by simpa [Addr.add] using World.cell?_spot h0
    subst hs
    refine ⟨b, off, rfl, ?_, fun i hi => ?_⟩
    · have := cell_lt h0
      simpa [Addr.add_lit] using this
    · have h1 := hc i (by omega)
      rw [Addr.add_lit] at h1
      have hb := hw (zs.getD i 0) (by rw [List.getD_eq_getElem?_getD, List.getElem?_eq_getElem (by omega)]; simp)
      simp [Lit.wf, IntKind.min, IntKind.max, IntKind.signed, IntKind.bits] at hb
      exact ⟨_, h1, by simpa using hb.1, by simpa using hb.2⟩

theorem big_no (A : Option Addr) (n cap : Nat) (w : World) (h : ¬ (1048576 : Int) < (n : Int)) :
    Calls Tryz.prog 5 #[.slice A n cap] w fun e w' => e = .returned (.bool false) ∧ w = w' := by
  go_enter Tryz.func5, Tryz.ntmps5
  go_wp2_with fail
  go_ret
  exact ⟨by simp, rfl⟩
theorem big_yes (A : Option Addr) (n cap : Nat) (w : World) (h : (1048576 : Int) < (n : Int)) :
    Calls Tryz.prog 5 #[.slice A n cap] w fun e w' => e = .returned (.bool true) ∧ w = w' := by
  go_enter Tryz.func5, Tryz.ntmps5
  go_wp2_with fail
  go_ret
  exact ⟨by simp, rfl⟩
end

/-! ### DrawD -/
section
set_option linter.unusedVariables false
set_option linter.unusedSimpArgs false
open Go.RowKit Go.Deep

set_option maxHeartbeats 1000000 in
/-- A number below one that is not negative: with no byte read where there is no choice. -/
theorem below_any (R n cap : Nat) (A : Option Addr) (m : Int) (w : World) (h : Rs w R A n cap) (hm1 : 1 ≤ m) (hm : m ≤ 256) :
    Calls Tryz.prog 29 #[.pointer (some ⟨R, 0, none⟩), .int .i64 m] w fun e w' =>
      ∃ x : Int, e = .returned (.int .i64 x) ∧ 0 ≤ x ∧ x < m ∧ Rs w' R A n cap ∧ w.grownBy w' (some R) := by
  by_cases h1 : 1 < m
  · exact below_draw R n cap A m w h h1 hm
  · obtain rfl : m = 1 := by omega
    go_enter Tryz.func29, Tryz.ntmps29
    go_wp2_with fail
    go_ret
    exact ⟨0, rfl, by omega, by omega, h, World.grownBy.refl _ _⟩

theorem size_node : (Tryz.prog.info? 58).map (·.size) = some 6 := by kernel_rfl
theorem rs_set {w : World} {R n cap : Nat} {A : Option Addr} (h : Rs w R A n cap) {p : Addr} (hp : R < p.block) (u : Value) : Rs (w.setCell p u) R A n cap := h.keep fun b hb => Below.heap_setCell _ _ _ b (by omega)

set_option maxRecDepth 100000 in
set_option maxHeartbeats 1000000 in
theorem leaf_draw (R n cap : Nat) (A : Option Addr) (w : World) (h : Rs w R A n cap) :
    Calls Tryz.prog 65 #[.pointer (some ⟨R, 0, none⟩)] w fun e w' =>
      ∃ d : Nd, e = .returned (ndV d) ∧ Rs w' R A n cap ∧ w.grownBy w' (some R) := by
  go_enter Tryz.func65, Tryz.ntmps65
  go_wp2_with fail
  refine (once_draw R n cap A 12 _ (h.alloc _) (by omega) (by omega)).mono ?_
  rintro e w1 ⟨q, rfl, hR1, hg1⟩
  have hRw := h.lt
  have hB1 : Blk w1 w.heap.size 58 #[.int .i64 0, .int .i64 0, .int .i64 0, .int .i64 0, .bool false, .int .i64 0] :=
    (hg1.block w.heap.size (by rw [World.size_alloc]; omega) (by intro e; injection e with e; omega)).trans (Blk.new w _ _)
  have hw1 : w.grownBy w1 (some R) := grown_trans (World.grownBy_alloc _ _ _) hg1
  have hs1 : w.heap.size < w1.heap.size := hB1.lt
  clear hg1
  cases q
  · go_wp2_with fail
    refine (below_draw R n cap A 60 _ hR1 (by omega) (by omega)).mono ?_
    rintro e w2 ⟨x, rfl, hx0, hx1, hR2, hg2⟩
    have hB2 : Blk w2 w.heap.size 58 #[.int .i64 0, .int .i64 0, .int .i64 0, .int .i64 0, .bool false, .int .i64 0] := (hg2.block w.heap.size hs1 (by intro e; injection e with e; omega)).trans hB1
    have c0 := hB2.cell 0
    have c1 := hB2.cell 1
    have c2 := hB2.cell 2
    have c3 := hB2.cell 3
    have c4 := hB2.cell 4
    have c5 := hB2.cell 5
    have f0 := hB2.frozen 0
    have f1 := hB2.frozen 1
    have f2 := hB2.frozen 2
    have f3 := hB2.frozen 3
    have f4 := hB2.frozen 4
    have f5 := hB2.frozen 5
    have hw2 := grown_trans hw1 hg2
    go_wp2_with fail
    (try simp only [Exit.inBlock, Exit.then])
    refine bodyPost_ret (results_cell_row rfl _ _ w.heap.size 58 #[.int .i64 0, .int .i64 0, .int .i64 0, .int .i64 0, .bool false, .int .i64 (x - 30)] (0, 0) _ rfl ((((((hB2.set_ 0 (.int .i64 0)).set_ 1 (.int .i64 0)).set_ 2 (.int .i64 0)).set_ 3 (.int .i64 0)).set_ 4 (.bool false)).set_ 5 (.int .i64 (x - 30))) Tryz.underlying58 rfl size_node) rfl ?_
    refine ⟨⟨0, 0, 0, 0, false, x - 30⟩, rfl, ?_, ?_⟩
    · exact rs_set (rs_set (rs_set (rs_set (rs_set (rs_set hR2 hRw _) hRw _) hRw _) hRw _) hRw _) hRw _
    · exact grown_setNew (grown_setNew (grown_setNew (grown_setNew (grown_setNew (grown_setNew hw2 (Nat.le_refl _) _) (Nat.le_refl _) _) (Nat.le_refl _) _) (Nat.le_refl _) _) (Nat.le_refl _) _) (Nat.le_refl _) _
  · go_wp2_with fail
    refine (off_draw R n cap A (-1000000000) 1000000000 _ hR1 (by omega) (by omega) (by omega) (by omega)).mono ?_
    rintro e w2 ⟨x, rfl, hR2, hg2⟩
    have hB2 : Blk w2 w.heap.size 58 #[.int .i64 0, .int .i64 0, .int .i64 0, .int .i64 0, .bool false, .int .i64 0] := (hg2.block w.heap.size hs1 (by intro e; injection e with e; omega)).trans hB1
    have c0 := hB2.cell 0
    have c1 := hB2.cell 1
    have c2 := hB2.cell 2
    have c3 := hB2.cell 3
    have c4 := hB2.cell 4
    have c5 := hB2.cell 5
    have f0 := hB2.frozen 0
    have f1 := hB2.frozen 1
    have f2 := hB2.frozen 2
    have f3 := hB2.frozen 3
    have f4 := hB2.frozen 4
    have f5 := hB2.frozen 5
    have hw2 := grown_trans hw1 hg2
    go_wp2_with fail
    (try simp only [Exit.inBlock, Exit.then])
    refine bodyPost_ret (results_cell_row rfl _ _ w.heap.size 58 #[.int .i64 0, .int .i64 0, .int .i64 0, .int .i64 0, .bool false, .int .i64 (_)] (0, 0) _ rfl ((((((hB2.set_ 0 (.int .i64 0)).set_ 1 (.int .i64 0)).set_ 2 (.int .i64 0)).set_ 3 (.int .i64 0)).set_ 4 (.bool false)).set_ 5 (.int .i64 (_))) Tryz.underlying58 rfl size_node) rfl ?_
    refine ⟨⟨0, 0, 0, 0, false, _⟩, rfl, ?_, ?_⟩
    · exact rs_set (rs_set (rs_set (rs_set (rs_set (rs_set hR2 hRw _) hRw _) hRw _) hRw _) hRw _) hRw _
    · exact grown_setNew (grown_setNew (grown_setNew (grown_setNew (grown_setNew (grown_setNew hw2 (Nat.le_refl _) _) (Nat.le_refl _) _) (Nat.le_refl _) _) (Nat.le_refl _) _) (Nat.le_refl _) _) (Nat.le_refl _) _

/-- A drawn list of nodes, in memory of its own. -/
def Owned (w : World) (B : Nat) (A' : Option Addr) (m c : Nat) (ds : List Nd) : Prop := ds.length = m ∧ w.ownsRow B 58 6 (.slice A' m c) m (ds.flatMap ndC)

/-- A row of one's own as cells. -/
theorem own_cells {w : World} {B : Nat} {e : TypeId} {A' : Option Addr} {m c : Nat} {xs : List Value} (h : w.ownsRow B e 6 (.slice A' m c) m xs) (hm : 0 < m) :
    ∃ g, A' = some ⟨g, 0, none⟩ ∧ B ≤ g ∧ g < w.heap.size ∧ ∀ j u, xs[j]? = some u → w.cell? ⟨g, j, none⟩ = some u := by
  rcases h.2 with ⟨_, h0⟩ | ⟨g, cap, cur, hv, hb, hg, _, _, _, ht⟩
  · omega
  · injection hv with e1 _ _
    refine ⟨g, e1, hb, Blk.lt hg, fun j u hu => ?_⟩
    rw [← ht, List.getElem?_take] at hu
    split at hu
    · rw [Array.getElem?_toList] at hu
      exact (cell_of_row w g j cur e (0, 0) hg).trans hu
    · cases hu
theorem ndC_one (ds : List Nd) : ∀ u ∈ ds.flatMap ndC, u.oneCell' = true := by
  intro u hu
  simp only [List.mem_flatMap] at hu
  obtain ⟨d, _, hd⟩ := hu
  simp only [ndC, List.mem_cons, List.not_mem_nil, or_false] at hd
  rcases hd with rfl | rfl | rfl | rfl | rfl | rfl <;> rfl
theorem ndC_len (ds : List Nd) : (ds.flatMap ndC).length = ds.length * 6 := by
  induction ds with
  | nil => rfl
  | cons d ds ih => simp only [List.flatMap_cons, List.length_append, ih, List.length_cons, ndC, List.length_nil]; omega
theorem cells_grown {w w' : World} {r : Option Nat} {g : Nat} {xs : List Value} (h : ∀ j u, xs[j]? = some u → w.cell? ⟨g, j, none⟩ = some u) (hg : w.grownBy w' r) (hlt : g < w.heap.size) (hne : some g ≠ r) :
    ∀ j u, xs[j]? = some u → w'.cell? ⟨g, j, none⟩ = some u := fun j u hu => (World.cell?_of_block (hg.block g hlt hne)).trans (h j u hu)

theorem grown_keep {w w1 w3 : World} {r row : Option Nat} (h : w.grownBy w1 r) (hg : w1.grownBy w3 row) (hr : ∀ k, row = some k → w.heap.size ≤ k) : w.grownBy w3 r :=
  ⟨hg.os.trans h.os, hg.tape.trans h.tape, hg.output.trans h.output, Nat.le_trans h.size hg.size, fun i hi hne => (hg.block i (Nat.lt_of_lt_of_le hi h.size) (fun e => by have := hr i e.symm; omega)).trans (h.block i hi hne)⟩
theorem rs_keep {w1 w3 : World} {B R n cap : Nat} {A : Option Addr} {row : Option Nat} (h : Rs w1 R A n cap) (hg : w1.grownBy w3 row) (hr : ∀ k, row = some k → B ≤ k) (hB : R < B) : Rs w3 R A n cap :=
  h.keep fun b hb => hg.block b (Nat.lt_of_le_of_lt hb h.lt) (fun e => by have := hr b e.symm; omega)

theorem owned_new {B : Nat} {w : World} (hB : B ≤ w.heap.size) (d : Nd) :
    World.ownsRow (w.alloc (.cells #[.int .i64 d.feat, .int .i64 d.cut, .int .i64 d.left, .int .i64 d.right, .bool d.miss, .int .i64 d.value] 58)) B 58 6 (.slice (some ⟨w.heap.size, 0, none⟩) 1 1) 1 ([d].flatMap ndC) :=
  ⟨rfl, .inr ⟨w.heap.size, 1, _, rfl, hB, heap_alloc_new w _, Nat.le_refl _, by unfold maxLen; omega, rfl, rfl⟩⟩

def GrownPost (R n cap : Nat) (A : Option Addr) (k : Nat) (w : World) (e : Ending) (w' : World) : Prop :=
  ∃ (m : Nat) (ds : List Nd) (A' : Option Addr) (c : Nat), 1 ≤ m ∧ m < 2 ^ (k + 1) ∧ e = .returned (.slice A' m c) ∧ Owned w' w.heap.size A' m c ds ∧ Rs w' R A n cap ∧ w.grownBy w' (some R)

set_option maxRecDepth 100000 in
set_option maxHeartbeats 4000000 in
theorem grown_draw (R n cap : Nat) (A : Option Addr) (f : Int) (hf1 : 1 ≤ f) (hf6 : f ≤ 6) : ∀ (k : Nat) (at_ : Int) (w : World), Rs w R A n cap → k ≤ 3 → 0 ≤ at_ → at_ ≤ 1000 - 100 * (k : Int) →
    Calls Tryz.prog 98 #[.pointer (some ⟨R, 0, none⟩), .int .i64 f, .int .i64 k, .int .i64 at_] w (GrownPost R n cap A k w) := by
  intro k
  induction k with
  | zero =>
    intro at_ w h _ h0 h1
    have hRw := h.lt
    go_enter Tryz.func98, Tryz.ntmps98
    go_wp2_with fail
    refine (leaf_draw R n cap A _ h).mono ?_
    rintro e w1 ⟨d, rfl, hR1, hg1⟩
    have e1 : ndV d = .agg #[.int .i64 d.feat, .int .i64 d.cut, .int .i64 d.left, .int .i64 d.right, .bool d.miss, .int .i64 d.value] := rfl
    have hs1 := hg1.size
    rw [e1]
    go_wp2_with fail
    go_ret
    exact ⟨1, [d], _, 1, by omega, by simp, rfl, ⟨rfl, owned_new hs1 d⟩, hR1.alloc _, grown_trans hg1 (World.grownBy_alloc _ _ _)⟩
  | succ k ih =>
    intro at_ w h hk h0 h1
    have hRw := h.lt
    go_enter Tryz.func98, Tryz.ntmps98
    have i0 : ¬ ((k + 1 : Nat) : Int) = 0 := by omega
    go_wp2_with fail
    refine (once_draw R n cap A 4 _ h (by omega) (by omega)).mono ?_
    rintro e w1 ⟨q, rfl, hR1, hg1⟩
    have hs1 := hg1.size
    cases q
    · go_wp2_with fail
      refine (below_any R n cap A f _ hR1 hf1 (by omega)).mono ?_
      rintro e w2 ⟨ft, rfl, hft0, hft1, hR2, hg2⟩
      go_wp2_with fail
      refine (below_draw R n cap A 20 _ hR2 (by omega) (by omega)).mono ?_
      rintro e w3 ⟨ct, rfl, hct0, hct1, hR3, hg3⟩
      go_wp2_with fail
      refine (once_draw R n cap A 2 _ hR3 (by omega) (by omega)).mono ?_
      rintro e w4 ⟨ms, rfl, hR4, hg4⟩
      have hw4 := grown_trans (grown_trans (grown_trans hg1 hg2) hg3) hg4
      have HW4 := hid hw4
      have hs4 := hw4.size
      clear hg1 hg2 hg3 hg4 hw4 hR1 hR2 hR3
      go_wp2_with fail
      refine (ih (at_ + 1) _ (hR4.alloc _) (by omega) (by omega) (by omega)).mono ?_
      rintro e w5 ⟨m5, ds5, A5, c5, hm5, hm5', rfl, hown5, hR5, hg5⟩
      have hp5 : m5 ≤ 15 := by
        have : 2 ^ (k + 1) ≤ 2 ^ 3 := Nat.pow_le_pow_right (by omega) (by omega)
        omega
      have hB5 : Blk w5 w4.heap.size 58 #[.int .i64 ft, .int .i64 (ct - 10), .int .i64 (at_ + 1), .int .i64 0, .bool ms, .int .i64 0] := (Blk.new w4 _ _).grown hg5 (by intro e; injection e with e; omega)
      have hw5 := grown_trans HW4.out (grown_trans (World.grownBy_alloc _ _ _) hg5)
      have HW5 := hid hw5
      have hs5 := hw5.size
      have hl5 := hB5.lt
      have f3 := hB5.frozen 3
      have k3 : w5.cell? ⟨w4.heap.size, 3, none⟩ = some (.int .i64 0) := hB5.cell 3
      have H5 := hid hB5
      have hsz4 : (w4.alloc (.cells #[.int .i64 ft, .int .i64 (ct - 10), .int .i64 (at_ + 1), .int .i64 0, .bool ms, .int .i64 0] 58)).heap.size = w4.heap.size + 1 := World.size_alloc _ _
      unfold Owned at hown5
      rw [hsz4] at hown5
      clear hg5 hw5 hB5 hsz4
      go_wp2_with fail
      refine (ih (at_ + 1 + m5) _ (rs_set hR5 (by simp; omega) _) (by omega) (by omega) (by omega)).mono ?_
      rintro e w6 ⟨m6, ds6, A6, c6, hm6, hm6', rfl, hown6, hR6, hg6⟩
      have hp6 : m6 ≤ 15 := by
        have : 2 ^ (k + 1) ≤ 2 ^ 3 := Nat.pow_le_pow_right (by omega) (by omega)
        omega
      have hB6 : Blk w6 w4.heap.size 58 #[.int .i64 ft, .int .i64 (ct - 10), .int .i64 (at_ + 1), .int .i64 (at_ + 1 + m5), .bool ms, .int .i64 0] := (H5.out.set_ 3 _).grown hg6 (by intro e; injection e with e; omega)
      have hw6 := grown_trans (grown_setNew HW5.out (p := ⟨w4.heap.size, 3, none⟩) (by simp; omega) (.int .i64 (at_ + 1 + m5))) hg6
      have c0 := hB6.cell 0
      have c1 := hB6.cell 1
      have c2 := hB6.cell 2
      have c3 := hB6.cell 3
      have c4 := hB6.cell 4
      have c5' := hB6.cell 5
      have hs6 := hw6.size
      have HW6 := hid hw6
      clear hw6
      obtain ⟨i0, hi0, hz0, hz1, hz2⟩ := info_parts info_node
      obtain ⟨g5, rfl, hg5B, hg5L, hc5⟩ := own_cells hown5.2 (by omega)
      unfold Owned at hown6
      rw [World.size_setCell] at hown6
      obtain ⟨g6, rfl, hg6B, hg6L, hc6⟩ := own_cells hown6.2 (by omega)
      have hn5 := hown5.1
      have hn6 := hown6.1
      have hs56 := hg6.size
      rw [World.size_setCell] at hs56
      have hc5a : ∀ j u, (ds5.flatMap ndC)[j]? = some u → (w5.setCell ⟨w4.heap.size, 3, none⟩ (.int .i64 (at_ + 1 + m5))).cell? ⟨g5, j, none⟩ = some u :=
        fun j u hu => (World.cell?_of_block (Below.heap_setCell _ _ _ g5 (by simp; omega))).trans (hc5 j u hu)
      have hc5b := cells_grown hc5a hg6 (by rw [World.size_setCell]; exact hg5L) (by intro e; injection e with e; omega)
      have hc5c := fun o => cells_grown hc5b (World.grownBy_alloc w6 o none) (by omega) (by intro e; cases e)
      clear hc5 hc5a hc5b hg6 hown5 hown6
      have hnew := owned_new (B := w.heap.size) (w := w6) hs6 ⟨ft, ct - 10, at_ + 1, at_ + 1 + m5, ms, 0⟩
      go_wp2_with (at_builtin; refine wpList_append_own _ rfl (.tmp 53) (.tmp 54) 45 rfl w.heap.size 58 i0 (ndV ⟨0, 0, 0, 0, false, 0⟩) 6 48 Tryz.underlying45 hi0 hz0 hz1 hz2 rfl (by decide) _ 1 _ rfl hnew ⟨g5, 0, none⟩ m5 c5 (ds5.flatMap ndC) rfl (by rw [ndC_len, hn5]) (fun j u hu => by simpa [Addr.add_lit] using hc5c _ j u hu) (ndC_one _) (by unfold maxLen; omega) (by omega) (by rw [World.size_alloc]; omega) ?_)
      intro v' w7 hown7 hg7 _
      obtain ⟨A7, c7, rfl⟩ := own_form hown7
      have hc6a := cells_grown (cells_grown hc6 (World.grownBy_alloc w6 _ none) hg6L (by intro e; cases e)) hg7 (by rw [World.size_alloc]; omega) (by intro e; injection e with e; simp at e; omega)
      have hw7 := grown_own HW6.out _ hg7 (fun x hx => by injection hx with hx; simp at hx; omega)
      have hR7 := rs_own (B := w.heap.size) hR6 _ hg7 (fun x hx => by injection hx with hx; simp at hx; omega) hRw
      have hs7 := hw7.size
      have HW7 := hid hw7
      clear hw7 hg7
      go_wp2_with (at_builtin; refine wpList_append_own _ rfl (.tmp 55) (.tmp 56) 45 rfl w.heap.size 58 i0 (ndV ⟨0, 0, 0, 0, false, 0⟩) 6 48 Tryz.underlying45 hi0 hz0 hz1 hz2 rfl (by decide) _ (1 + m5) _ rfl hown7 ⟨g6, 0, none⟩ m6 c6 (ds6.flatMap ndC) rfl (by rw [ndC_len, hn6]) (fun j u hu => by simpa [Addr.add_lit] using hc6a j u hu) (ndC_one _) (by unfold maxLen; omega) (by omega) hs7 ?_)
      intro v'' w8 hown8 hg8 _
      obtain ⟨A8, c8, rfl⟩ := own_form hown8
      have hw8 := grown_keep HW7.out hg8 (fun x hx => (hown7.lt x hx).1)
      have hR8 := rs_keep (B := w.heap.size) hR7 hg8 (fun x hx => (hown7.lt x hx).1) hRw
      go_wp2_with fail
      go_ret
      refine ⟨1 + m5 + m6, [⟨ft, ct - 10, at_ + 1, at_ + 1 + m5, ms, 0⟩] ++ ds5 ++ ds6, A8, c8, by omega, ?_, rfl, ⟨by simp; omega, ?_⟩, hR8, hw8⟩
      · rw [Nat.pow_succ]; omega
      · rw [List.flatMap_append, List.flatMap_append]; exact hown8
    · go_wp2_with fail
      refine (leaf_draw R n cap A _ hR1).mono ?_
      rintro e w2 ⟨d, rfl, hR2, hg2⟩
      have e1 : ndV d = .agg #[.int .i64 d.feat, .int .i64 d.cut, .int .i64 d.left, .int .i64 d.right, .bool d.miss, .int .i64 d.value] := rfl
      have hs2 := (grown_trans hg1 hg2).size
      rw [e1]
      go_wp2_with fail
      go_ret
      exact ⟨1, [d], _, 1, by omega, by have := Nat.one_le_two_pow (n := k); rw [Nat.pow_succ, Nat.pow_succ]; omega, rfl, ⟨rfl, owned_new hs2 d⟩, hR2.alloc _, grown_trans (grown_trans hg1 hg2) (World.grownBy_alloc _ _ _)⟩
end

/-! ### MeetA -/
section
set_option linter.unusedVariables false
set_option linter.unusedSimpArgs false
open Go.RowKit Go.Deep

end

/-! ### BoxDrawA -/
section
set_option linter.unusedVariables false
set_option linter.unusedSimpArgs false
open Go.RowKit Go.Deep

theorem blk_cells3 {w : World} {b : Nat} {t : TypeId} {x y z : Value} (h : Blk w b t #[x, y, z]) :
    w.cell? ⟨b, 0, none⟩ = some x ∧ w.cell? ⟨b, 1, none⟩ = some y ∧ w.cell? ⟨b, 2, none⟩ = some z ∧ w.frozen? ⟨b, 0, none⟩ = false ∧ w.frozen? ⟨b, 1, none⟩ = false ∧ w.frozen? ⟨b, 2, none⟩ = false :=
  ⟨h.cell 0, h.cell 1, h.cell 2, h.frozen 0, h.frozen 1, h.frozen 2⟩

end

/-! ### PlB -/
section
set_option linter.unusedVariables false
set_option linter.unusedSimpArgs false
open Go.RowKit Go.Deep

abbrev plV (A1 : Option Addr) (n1 c1 : Nat) (A2 : Option Addr) (n2 c2 : Nat) (A3 : Option Addr) (n3 c3 : Nat) (A4 : Option Addr) (n4 c4 : Nat) : Value := .agg #[.slice A1 n1 c1, .slice A2 n2 c2, .slice A3 n3 c3, .slice A4 n4 c4]
theorem blk_cells4 {w : World} {b : Nat} {t : TypeId} {x y z u : Value} (h : Blk w b t #[x, y, z, u]) :
    (w.cell? ⟨b, 0, none⟩ = some x ∧ w.cell? ⟨b, 1, none⟩ = some y ∧ w.cell? ⟨b, 2, none⟩ = some z ∧ w.cell? ⟨b, 3, none⟩ = some u) ∧ w.frozen? ⟨b, 0, none⟩ = false ∧ w.frozen? ⟨b, 1, none⟩ = false ∧ w.frozen? ⟨b, 2, none⟩ = false ∧ w.frozen? ⟨b, 3, none⟩ = false :=
  ⟨⟨h.cell 0, h.cell 1, h.cell 2, h.cell 3⟩, h.frozen 0, h.frozen 1, h.frozen 2, h.frozen 3⟩
/-- The four lists of a plan are to be read. -/
structure RdP (w : World) (B : Nat) (A1 : Option Addr) (n1 : Nat) (z1 : Nat → Int) (A2 : Option Addr) (n2 : Nat) (z2 : Nat → Int) (A3 : Option Addr) (n3 : Nat) (z3 : Nat → Int) (A4 : Option Addr) (n4 : Nat) (z4 : Nat → Int) : Prop where
  o : Rd w B A1 n1 z1
  e : Rd w B A2 n2 z2
  m : Rd w B A3 n3 z3
  x : Rd w B A4 n4 z4
section
variable {w w' : World} {B B' : Nat} {A1 A2 A3 A4 : Option Addr} {n1 n2 n3 n4 : Nat} {z1 z2 z3 z4 : Nat → Int}
theorem RdP.below (h : RdP w B A1 n1 z1 A2 n2 z2 A3 n3 z3 A4 n4 z4) (hb : Below B w w') : RdP w' B A1 n1 z1 A2 n2 z2 A3 n3 z3 A4 n4 z4 := ⟨h.o.below hb, h.e.below hb, h.m.below hb, h.x.below hb⟩
theorem RdP.more (h : RdP w B A1 n1 z1 A2 n2 z2 A3 n3 z3 A4 n4 z4) (hB : B ≤ B') : RdP w B' A1 n1 z1 A2 n2 z2 A3 n3 z3 A4 n4 z4 := ⟨h.o.more hB, h.e.more hB, h.m.more hB, h.x.more hB⟩
theorem RdP.to (h : RdP w B A1 n1 z1 A2 n2 z2 A3 n3 z3 A4 n4 z4) (hb : Below B w w') (hB : B ≤ w'.heap.size) : RdP w' w'.heap.size A1 n1 z1 A2 n2 z2 A3 n3 z3 A4 n4 z4 := (h.below hb).more hB
end
end
end Go.Proofs.YtmkipdhappikhaaGreatDoor
