/- Drawn trees and drawn texts of trees. -/
import Derived.Test.YtkkkpijdbfijfaaGreatDoorDrawX
import Derived.Test.YtkkkpijdbfijfaaGreatDoorSdT
import Derived.Test.YtkkkpijdbfijfaaGreatDoorRtB
namespace Go.Proofs.YtkkkpijdbfijfaaGreatDoor
open Go.RowKit Go.Deep

/-- A drawn list of nodes. -/
def DrawnNds (w : World) (e : Ending) (w' : World) : Prop :=
  ∃ (m : Nat) (g : Nat → Nd) (A : Option Addr) (c : Nat), 1 ≤ m ∧ m ≤ 16 ∧ e = .returned (.slice A m c) ∧ RdN w' w'.heap.size A m g ∧ Below w.heap.size w w'
theorem drawRangeT (A : Option Addr) (n cap : Nat) (w : World) (h : Bs w w.heap.size A n) (hn : n ≤ 4194304) :
    Calls Tryz.prog 20 #[.slice A n cap] w (DrawnNds w) := by
  go_enter Tryz.func20, Tryz.ntmps20
  go_wp2_with fail
  refine (drawTreeOk A n cap _ h hn).mono ?_
  rintro e w1 ⟨m, g, b, c, f, hm1, hm2, rfl, hwb, hbL, hrow, hmc, hb1⟩
  go_wp2_with fail
  go_ret
  exact ⟨m, g, _, c, hm1, hm2, rfl, hrow.rdN hbL, hb1⟩
theorem drawTreeText (A : Option Addr) (n cap : Nat) (w : World) (h : Bs w w.heap.size A n) (hn : n ≤ 4194304) :
    Calls Tryz.prog 6 #[.slice A n cap] w (DrawnNds w) := by
  go_enter Tryz.func6, Tryz.ntmps6
  go_wp2_with fail
  refine (drawRangeT A n cap _ h hn).mono ?_
  rintro e w1 ⟨m, g, b, c, hm1, hm2, rfl, hr, hb1⟩
  go_wp2_with fail
  go_ret
  exact ⟨m, g, _, c, hm1, hm2, rfl, hr, hb1⟩
theorem treS_any {n : Nat} {g : Nat → Nd} : (treS n g).size ≤ 600 := by
  cases h : treeB g n 6
  · have : treS n g = ⟨#[]⟩ := by unfold treS; rw [h]; rfl
    rw [this]; decide
  · exact treS_600 h

set_option maxRecDepth 100000 in
set_option maxHeartbeats 4000000 in
theorem drawReadTree (A : Option Addr) (n cap : Nat) (w : World) (h : Bs w w.heap.size A n) (hn : n ≤ 4194304) :
    Calls Tryz.prog 8 #[.slice A n cap] w fun e w' => ∃ s : ByteArray, e = .returned (.string s) ∧ s.size ≤ 602 ∧ Below w.heap.size w w' := by
  go_enter Tryz.func8, Tryz.ntmps8
  go_wp2_with fail
  refine (open_draw A n cap w h hn).mono ?_
  rintro e w1 ⟨rfl, hR1, hb1⟩
  have hRw : w.heap.size < w1.heap.size := hR1.lt
  go_wp2_with fail
  refine (tree_draw w.heap.size n cap A 3 (by omega) (by omega) _ hR1).mono ?_
  rintro e w2 ⟨m, ds, A', c, hm, hm', rfl, hown, hR2, hg2⟩
  have hw2 := hb1.grown hg2 hb1.size (fun k e => by injection e with e; omega)
  have hrd := own_rdL hown.2 hown.1
  have hm16 : m ≤ 4194304 := by omega
  clear hg2 hR1 hb1 hown
  go_wp2_with fail
  refine (sTreeText_any A' m c _ _ hrd hm16).mono ?_
  rintro e w3 ⟨rfl, hb3⟩
  have hsz : (treS m (fun i => ds.getD i zNd)).size ≤ 600 := treS_any
  have hw3 := hw2.trans (hb3.mono hw2.size)
  have hR3 := hR2.below hb3
  clear hb3 hw2 hR2 hrd
  generalize treS m (fun i => ds.getD i zNd) = u at hsz ⊢
  go_wp2_with fail
  refine (below_draw w.heap.size n cap A 5 _ hR3 (by omega) (by omega)).mono ?_
  rintro e w4 ⟨k, rfl, hk0, hk1, hR4, hg4⟩
  have hw4 := hw3.grown hg4 hw3.size (fun k e => by injection e with e; omega)
  clear hg4 hR3 hw3
  by_cases e0 : k = 0
  · subst e0
    go_wp2_with fail
    refine (hurtW_draw w.heap.size n cap A u _ hR4 hsz).mono ?_
    rintro e w5 ⟨v, rfl, hv, hR5, hg5⟩
    have hw5 := hw4.grown hg5 hw4.size (fun k e => by injection e with e; omega)
    go_wp2_with fail
    go_ret
    exact ⟨v, rfl, hv, hw5⟩
  by_cases e1 : k = 1
  · subst e1
    have hRlt := hR4.lt
    go_wp2_with fail
    refine (below_draw w.heap.size n cap A 10 _ (hR4.alloc _) (by omega) (by omega)).mono ?_
    rintro e w5 ⟨j, rfl, hj0, hj1, hR5, hg5⟩
    have hB := Blk.grown (Blk.new w4 _ _) hg5 (by simp; omega)
    have c0 := hB.cell 0; have c1 := hB.cell 1; have c2 := hB.cell 2; have c3 := hB.cell 3; have c4 := hB.cell 4; have c5 := hB.cell 5; have c6 := hB.cell 6; have c7 := hB.cell 7; have c8 := hB.cell 8; have c9 := hB.cell 9
    simp at c0 c1 c2 c3 c4 c5 c6 c7 c8 c9
    have hw5 := (hw4.alloc hw4.size _).grown hg5 (hw4.alloc hw4.size _).size (fun k e => by injection e with e; omega)
    have HW := hid hw5
    clear hB hg5 hw5
    obtain rfl | rfl | rfl | rfl | rfl | rfl | rfl | rfl | rfl | rfl : j = 0 ∨ j = 1 ∨ j = 2 ∨ j = 3 ∨ j = 4 ∨ j = 5 ∨ j = 6 ∨ j = 7 ∨ j = 8 ∨ j = 9 := by omega
    all_goals
      go_wp2_with fail
      go_ret
      exact ⟨_, rfl, by decide, HW.out⟩
  go_wp2_with fail
  go_ret
  exact ⟨u, rfl, by omega, hw4⟩
end Go.Proofs.YtkkkpijdbfijfaaGreatDoor
