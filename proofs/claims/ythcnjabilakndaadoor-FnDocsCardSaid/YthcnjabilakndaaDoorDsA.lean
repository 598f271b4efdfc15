/- A document's text drawn by a code, hurt or not. -/
import Derived.Test.YthcnjabilakndaaDoorSdS
import Derived.Test.YthcnjabilakndaaDoorRdE
namespace Go.Proofs.YthcnjabilakndaaDoor
open Go.RowKit Go.Deep

theorem docS_any (n : Nat) (z : Nat → Int) : (docS n z).size ≤ 54 := by
  cases h : docB n z
  · unfold docS; rw [h]; show 0 ≤ 54; omega
  · exact docS_sz h
set_option maxRecDepth 100000 in
set_option maxHeartbeats 4000000 in
theorem drawReadDoc (A : Option Addr) (n cap : Nat) (w : World) (h : Bs w w.heap.size A n) (hn : n ≤ 4194304) :
    Calls Tryd.prog 7 #[.slice A n cap] w fun e w' => ∃ t : ByteArray, e = .returned (.string t) ∧ t.size ≤ 252 ∧ Below w.heap.size w w' := by
  go_enter Tryd.func7, Tryd.ntmps7
  go_wp2_with fail
  refine (open_draw A n cap _ h hn).mono ?_
  rintro e w1 ⟨rfl, hR1, hb1⟩
  go_wp2_with fail
  refine (belowN_any w.heap.size n cap A 5 _ hR1 (by omega)).mono ?_
  rintro e w2 ⟨x, rfl, hx, hR2, hg2⟩
  have hx5 := hx (by omega)
  have hb2 := hid (hb1.trans (below_grown hg2 hR1.lt))
  clear hx hg2 hb1 hR1
  go_wp2_with fail
  refine (doc_drawI w.heap.size n cap A (1 + (x : Int)) _ hR2 (by omega) (by omega)).mono ?_
  rintro e w3 ⟨m, z, A', c, hm, rfl, hown, hR3, hg3⟩
  have hb3 := hid (hb2.out.trans (below_grown hg3 hR2.lt))
  have hrd : Rd w3 w3.heap.size A' m z := by
    intro hm0
    obtain ⟨g, hA, hg, hrow⟩ := rd_own hR2.lt hown hm0
    subst hA
    exact (hrow.rd hrow.lt) hm0
  clear hg3 hown hR2
  go_wp2_with fail
  refine (sDocText_any A' m c z _ hrd (by omega)).mono ?_
  rintro e w4 ⟨rfl, hb4⟩
  have hR4 := hR3.below hb4
  have hb5 := hid (hb3.out.trans (hb4.mono (Nat.le_of_lt hR3.lt)))
  obtain ⟨s, hs, hss⟩ : ∃ s, docS m z = s ∧ s.size ≤ 54 := ⟨_, rfl, docS_any m z⟩
  rw [hs]
  clear hb4 hrd hR3 hs
  go_wp2_with fail
  refine (belowN_any w.heap.size n cap A 5 _ hR4 (by omega)).mono ?_
  rintro e w5 ⟨k, rfl, hk, hR5, hg5⟩
  have hk5 := hk (by omega)
  have hb6 := hid (hb5.out.trans (below_grown hg5 hR4.lt))
  clear hk hg5 hR4
  by_cases k0 : k = 0
  · subst k0
    go_wp2_with fail
    refine (hurt_draw w.heap.size n cap A s _ hR5 (by omega)).mono ?_
    rintro e w6 ⟨x2, rfl, hx2, hR6, hg6⟩
    have hb7 := hid (hb6.out.trans (below_grown hg6 hR5.lt))
    clear hg6
    go_wp2_with fail
    go_ret
    exact ⟨x2, rfl, hx2, hb7.out⟩
  by_cases k1 : k = 1
  · subst k1
    go_wp2_with fail
    refine (belowN_any w.heap.size n cap A 11 _ (hR5.alloc _) (by omega)).mono ?_
    rintro e w6 ⟨q, rfl, hq, hR6, hg6⟩
    have hq11 := hq (by omega)
    have hB := Blk.grown (Blk.new w5 _ _) hg6 (by simp; have := hR5.lt; omega)
    have hb7 := hid (hb6.out.trans (below_grown (grown_trans (World.grownBy_alloc w5 _ (some w.heap.size)) hg6) hR5.lt))
    have c0 := hB.cell 0; have c1 := hB.cell 1; have c2 := hB.cell 2; have c3 := hB.cell 3; have c4 := hB.cell 4; have c5 := hB.cell 5
    have c6 := hB.cell 6; have c7 := hB.cell 7; have c8 := hB.cell 8; have c9 := hB.cell 9; have c10 := hB.cell 10
    simp at c0 c1 c2 c3 c4 c5 c6 c7 c8 c9 c10
    clear hB hg6 hq
    obtain rfl | rfl | rfl | rfl | rfl | rfl | rfl | rfl | rfl | rfl | rfl : q = 0 ∨ q = 1 ∨ q = 2 ∨ q = 3 ∨ q = 4 ∨ q = 5 ∨ q = 6 ∨ q = 7 ∨ q = 8 ∨ q = 9 ∨ q = 10 := by omega
    all_goals
      go_wp2_with fail
      go_ret
      exact ⟨_, rfl, by decide, hb7.out⟩
  · go_wp2_with fail
    go_ret
    exact ⟨s, rfl, by omega, hb6.out⟩
end Go.Proofs.YthcnjabilakndaaDoor
