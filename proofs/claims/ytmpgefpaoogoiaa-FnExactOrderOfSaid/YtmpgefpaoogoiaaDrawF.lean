/- What is drawn of trees: hurt ones. -/
import Derived.Test.YtmpgefpaoogoiaaDrawE
namespace Go.Proofs.Ytmpgefpaoogoiaa
open Go.RowKit Go.Deep

def TreeDrawn (R n cap : Nat) (A : Option Addr) (w : World) (e : Ending) (w' : World) : Prop :=
  ∃ (m : Nat) (g : Nat → Nd) (b c : Nat), 1 ≤ m ∧ m ≤ 16 ∧ e = .returned (.slice (some ⟨b, 0, none⟩) m c) ∧ R < b ∧ b < w'.heap.size ∧ NdRow w' b m g ∧ m ≤ c ∧ Rs w' R A n cap ∧ Below R w w'

theorem own_grown' {w w' : World} {base size : Nat} {e : TypeId} {v : Value} {m R : Nat} {xs : List Value} (h : w.ownsRow base e size v m xs) (hg : w.grownBy w' (some R)) (hR : R < base) : w'.ownsRow base e size v m xs := own_grown h hg hR

def setF (o : Nat) (x : Int) (d : Nd) : Nd := if o = 0 then { d with feat := x } else if o = 1 then { d with cut := x } else if o = 2 then { d with left := x } else if o = 3 then { d with right := x } else { d with value := x }

theorem own_blk {w : World} {B b m c size : Nat} {e : TypeId} {xs : List Value} (h : w.ownsRow B e size (.slice (some ⟨b, 0, none⟩) m c) m xs) (_hm : 0 < m) : m ≤ c ∧ ∃ cur, Blk w b e cur := by
  rcases h.2 with ⟨h0, _⟩ | ⟨g, cap, cur, hv, hb, hg, hle, _⟩
  · injection h0 with h0; cases h0
  · injection hv with e1 _ e3
    injection e1 with e1
    injection e1 with e1
    subst e1
    exact ⟨by omega, cur, hg⟩

/-- One field of the node at k, written. -/
theorem NdRow.put {w : World} {b m k o : Nat} {g : Nat → Nd} (h : NdRow w b m g) (_hk : k < m) (ho : o = 0 ∨ o = 1 ∨ o = 2 ∨ o = 5) (x : Int) :
    NdRow (w.setCell ⟨b, k * 6 + o, none⟩ (.int .i64 x)) b m (fun i => if i = k then setF o x (g k) else g i) := by
  intro i hi
  have hs : ∀ p, p ≠ k * 6 + o → (w.setCell ⟨b, k * 6 + o, none⟩ (.int .i64 x)).cell? ⟨b, p, none⟩ = w.cell? ⟨b, p, none⟩ := fun p hne => World.cell?_setCell_other _ _ _ _ (fun e => by injection e with _ e; omega)
  obtain ⟨h0, h1, h2, h3, h4, h5⟩ := h i hi
  by_cases e : i = k
  · subst e
    have hx : ∀ u, w.cell? ⟨b, i * 6 + o, none⟩ = some u → (w.setCell ⟨b, i * 6 + o, none⟩ (.int .i64 x)).cell? ⟨b, i * 6 + o, none⟩ = some (.int .i64 x) := fun u hu => World.cell?_setCell_same _ _ _ hu
    simp only [if_true]
    rcases ho with rfl | rfl | rfl | rfl
    · exact ⟨hx _ h0, (hs _ (by omega)).trans h1, (hs _ (by omega)).trans h2, (hs _ (by omega)).trans h3, (hs _ (by omega)).trans h4, (hs _ (by omega)).trans h5⟩
    · exact ⟨(hs _ (by omega)).trans h0, hx _ h1, (hs _ (by omega)).trans h2, (hs _ (by omega)).trans h3, (hs _ (by omega)).trans h4, (hs _ (by omega)).trans h5⟩
    · exact ⟨(hs _ (by omega)).trans h0, (hs _ (by omega)).trans h1, hx _ h2, (hs _ (by omega)).trans h3, (hs _ (by omega)).trans h4, (hs _ (by omega)).trans h5⟩
    · exact ⟨(hs _ (by omega)).trans h0, (hs _ (by omega)).trans h1, (hs _ (by omega)).trans h2, (hs _ (by omega)).trans h3, (hs _ (by omega)).trans h4, hx _ h5⟩
  · simp only [if_neg e]
    exact ⟨(hs _ (by omega)).trans h0, (hs _ (by omega)).trans h1, (hs _ (by omega)).trans h2, (hs _ (by omega)).trans h3, (hs _ (by omega)).trans h4, (hs _ (by omega)).trans h5⟩

set_option maxRecDepth 100000 in
set_option maxHeartbeats 4000000 in
theorem hurtTree_draw (R n cap B : Nat) (A A' : Option Addr) (m c : Nat) (ds : List Nd) (w : World) (h : Rs w R A n cap) (hB : R < B) (hBw : B ≤ w.heap.size) (hm1 : 1 ≤ m) (hm : m ≤ 15) (hown : Owned w B A' m c ds) :
    Calls Try.prog 147 #[.pointer (some ⟨R, 0, none⟩), .slice A' m c] w (TreeDrawn R n cap A w) := by
  have hRw := h.lt
  obtain ⟨b, rfl, hbB, hbL, hrow⟩ := ndRow_own hown (by omega)
  have hown0 := hown.2
  obtain ⟨hmc, cur, hcur⟩ := own_blk hown0 (by omega)
  go_enter Try.func147, Try.ntmps147
  have i0 : ¬ (m : Int) < 1 := by omega
  have i1 : (0 : Int) < (m : Int) := by omega
  go_wp2_with fail
  refine (below_any R n cap A m _ h (by omega) (by omega)).mono ?_
  rintro e w1 ⟨at_, rfl, ha0, ha1, hR1, hg1⟩
  obtain ⟨k, rfl⟩ := Int.eq_ofNat_of_zero_le ha0
  have hk : k < m := by omega
  go_wp2_with fail
  refine (below_draw R n cap A 24 _ hR1 (by omega) (by omega)).mono ?_
  rintro e w2 ⟨q, rfl, hq0, hq1, hR2, hg2⟩
  have hg := grown_trans hg1 hg2
  have hrow2 : NdRow w2 b m _ := fun i hi => (hrow i hi).keep fun o => World.cell?_of_block (hg.block b hbL (by intro e; injection e with e; omega))
  have hb2 := below_grown hg hRw
  have hcur2 : Blk w2 b 135 cur := hcur.grown hg (by intro e; injection e with e; omega)
  have hown2 : w2.ownsRow B 135 6 (.slice (some ⟨b, 0, none⟩) m c) m (ds.flatMap ndC) := own_grown' hown0 hg hB
  have hL2 : b < w2.heap.size := hcur2.lt
  have hs2 := hg.size
  have hgo := hg
  clear hg1 hg2 hg hrow hR1
  by_cases e0 : q = 0
  · subst e0
    clear hown0 hown2
    go_wp2_with fail
    refine (off_draw R n cap A (0) (m) _ hR2 (by omega) (by omega) (by omega) (by omega)).mono ?_
    rintro e w3 ⟨x, rfl, hR3, hg3⟩
    have hrow3 : NdRow w3 b m _ := fun i hi => (hrow2 i hi).keep fun o => World.cell?_of_block (hg3.block b hL2 (by intro e; injection e with e; omega))
    have hb3 := hb2.trans (below_grown hg3 hR2.lt)
    have hs3 := hg3.size
    have hc3 : Blk w3 b 135 cur := hcur2.grown hg3 (by intro e; injection e with e; omega)
    obtain ⟨h0, h1, h2, h3, h4, h5⟩ := hrow3 k hk
    have f0 := hc3.frozen (k * 6 + 2)
    have ik : (k : Int) < (m : Int) := by omega
    go_wp2_with fail
    go_ret
    exact ⟨m, _, b, c, hm1, by omega, rfl, by omega, by rw [World.size_setCell]; omega, hrow3.put (o := 2) hk (by omega) x, hmc, rs_set hR3 (by simp; omega) _, hb3.setCell (by simp; omega) _⟩
  by_cases e1 : q = 1
  · subst e1
    clear hown0 hown2
    go_wp2_with fail
    refine (off_draw R n cap A (-1000000000) (1000000000) _ hR2 (by omega) (by omega) (by omega) (by omega)).mono ?_
    rintro e w3 ⟨x, rfl, hR3, hg3⟩
    have hrow3 : NdRow w3 b m _ := fun i hi => (hrow2 i hi).keep fun o => World.cell?_of_block (hg3.block b hL2 (by intro e; injection e with e; omega))
    have hb3 := hb2.trans (below_grown hg3 hR2.lt)
    have hs3 := hg3.size
    have hc3 : Blk w3 b 135 cur := hcur2.grown hg3 (by intro e; injection e with e; omega)
    obtain ⟨h0, h1, h2, h3, h4, h5⟩ := hrow3 k hk
    have f0 := hc3.frozen (k * 6 + 5)
    have ik : (k : Int) < (m : Int) := by omega
    go_wp2_with fail
    go_ret
    exact ⟨m, _, b, c, hm1, by omega, rfl, by omega, by rw [World.size_setCell]; omega, hrow3.put (o := 5) hk (by omega) x, hmc, rs_set hR3 (by simp; omega) _, hb3.setCell (by simp; omega) _⟩
  by_cases e2 : q = 2
  · subst e2
    clear hown0 hown2
    go_wp2_with fail
    refine (off_draw R n cap A (0) (5) _ hR2 (by omega) (by omega) (by omega) (by omega)).mono ?_
    rintro e w3 ⟨x, rfl, hR3, hg3⟩
    have hrow3 : NdRow w3 b m _ := fun i hi => (hrow2 i hi).keep fun o => World.cell?_of_block (hg3.block b hL2 (by intro e; injection e with e; omega))
    have hb3 := hb2.trans (below_grown hg3 hR2.lt)
    have hs3 := hg3.size
    have hc3 : Blk w3 b 135 cur := hcur2.grown hg3 (by intro e; injection e with e; omega)
    obtain ⟨h0, h1, h2, h3, h4, h5⟩ := hrow3 k hk
    have f0 := hc3.frozen (k * 6)
    have ik : (k : Int) < (m : Int) := by omega
    go_wp2_with fail
    go_ret
    exact ⟨m, _, b, c, hm1, by omega, rfl, by omega, by rw [World.size_setCell]; omega, hrow3.put (o := 0) hk (by omega) x, hmc, rs_set hR3 (by simp; omega) _, hb3.setCell (by simp; omega) _⟩
  by_cases e3 : q = 3
  · subst e3
    clear hown0 hown2
    go_wp2_with fail
    refine (off_draw R n cap A (-1000000) (1000000) _ hR2 (by omega) (by omega) (by omega) (by omega)).mono ?_
    rintro e w3 ⟨x, rfl, hR3, hg3⟩
    have hrow3 : NdRow w3 b m _ := fun i hi => (hrow2 i hi).keep fun o => World.cell?_of_block (hg3.block b hL2 (by intro e; injection e with e; omega))
    have hb3 := hb2.trans (below_grown hg3 hR2.lt)
    have hs3 := hg3.size
    have hc3 : Blk w3 b 135 cur := hcur2.grown hg3 (by intro e; injection e with e; omega)
    obtain ⟨h0, h1, h2, h3, h4, h5⟩ := hrow3 k hk
    have f0 := hc3.frozen (k * 6 + 1)
    have ik : (k : Int) < (m : Int) := by omega
    go_wp2_with fail
    go_ret
    exact ⟨m, _, b, c, hm1, by omega, rfl, by omega, by rw [World.size_setCell]; omega, hrow3.put (o := 1) hk (by omega) x, hmc, rs_set hR3 (by simp; omega) _, hb3.setCell (by simp; omega) _⟩
  by_cases e4 : q = 4
  · subst e4
    obtain ⟨i0, hi0, hz0, hz1, hz2⟩ := info_parts info_node
    have hN : Blk (w2.alloc (.cells #[.int .i64 0, .int .i64 0, .int .i64 0, .int .i64 0, .bool false, .int .i64 1] 135)) w2.heap.size 135 _ := Blk.new w2 _ _
    have hcell : ∀ j u, ([(⟨0, 0, 0, 0, false, 1⟩ : Nd)].flatMap ndC)[j]? = some u → (w2.alloc (.cells #[.int .i64 0, .int .i64 0, .int .i64 0, .int .i64 0, .bool false, .int .i64 1] 135)).cell? ⟨w2.heap.size, j, none⟩ = some u :=
      fun j u hu => (hN.cell j).trans (by rw [← hu]; simp [ndC])
    go_wp2_with (at_builtin; refine wpList_append_own _ rfl (.tmp 52) (.tmp 54) 74 rfl B 135 i0 (ndV ⟨0, 0, 0, 0, false, 0⟩) 6 48 Try.underlying74 hi0 hz0 hz1 hz2 rfl (by decide) _ m _ rfl (hown2.alloc _) ⟨w2.heap.size, 0, none⟩ 1 1 ([(⟨0, 0, 0, 0, false, 1⟩ : Nd)].flatMap ndC) rfl rfl (fun j u hu => by simpa [Addr.add_lit] using hcell j u hu) (ndC_one _) (by unfold maxLen; omega) (by omega) (by rw [World.size_alloc]; omega) ?_)
    intro v' w3 hown3 hg3 _
    obtain ⟨A3, c3, rfl⟩ := own_form hown3
    have hR3 := rs_own (B := B) hR2 _ hg3 (fun x hx => (hown2.lt x hx).1) hB
    have hb3 : Below R w2 w3 := ((Below.refl R w2).alloc (by omega) _).grown hg3 (by rw [World.size_alloc]; omega) (fun x hx => by have := (hown2.lt x hx).1; omega)
    have hown3' : Owned w3 B A3 (m + 1) c3 (ds ++ [⟨0, 0, 0, 0, false, 1⟩]) := ⟨by simp; exact hown.1, by rw [List.flatMap_append]; exact hown3⟩
    obtain ⟨b3, rfl, hB3, hL3, hrow3⟩ := ndRow_own hown3' (by omega)
    go_wp2_with fail
    go_ret
    exact ⟨m + 1, _, b3, c3, by omega, by omega, rfl, by omega, hL3, hrow3, (own_blk hown3'.2 (by omega)).1, hR3, hb2.trans hb3⟩
  · go_wp2_with fail
    go_ret
    exact ⟨m, _, b, c, hm1, by omega, rfl, by omega, by omega, hrow2, hmc, hR2, hb2⟩
end Go.Proofs.Ytmpgefpaoogoiaa
