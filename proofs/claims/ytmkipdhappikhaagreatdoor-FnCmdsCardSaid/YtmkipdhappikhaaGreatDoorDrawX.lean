/- Draws, rows of nodes, joins, marks, ends of stages, plans compared. -/
import Derived.Test.YtmkipdhappikhaaGreatDoorK6
import Derived.Test.YtmkipdhappikhaaGreatDoorK8
import Derived.Deep.RegionLaw
import Derived.Deep.AppendLies
import Derived.Test.YtmkipdhappikhaaGreatDoorK4
namespace Go.Proofs.YtmkipdhappikhaaGreatDoor

/-! ### DrawE -/
section
set_option linter.unusedVariables false
set_option linter.unusedSimpArgs false
open Go.RowKit Go.Deep

theorem own_more {w : World} {B B2 : Nat} {e : TypeId} {size : Nat} {v : Value} {n : Nat} {xs : List Value} (h : w.ownsRow B2 e size v n xs) (hB : B ≤ B2) : w.ownsRow B e size v n xs := by
  refine ⟨h.1, ?_⟩
  rcases h.2 with h0 | ⟨g, cap, cur, hv, hb, rest⟩
  · exact .inl h0
  · exact .inr ⟨g, cap, cur, hv, Nat.le_trans hB hb, rest⟩

theorem tree_draw (R n cap : Nat) (A : Option Addr) (f : Int) (hf1 : 1 ≤ f) (hf6 : f ≤ 6) (w : World) (h : Rs w R A n cap) :
    Calls Tryz.prog 63 #[.pointer (some ⟨R, 0, none⟩), .int .i64 f] w (GrownPost R n cap A 3 w) := by
  go_enter Tryz.func63, Tryz.ntmps63
  go_wp2_with fail
  refine (below_draw R n cap A 4 _ h (by omega) (by omega)).mono ?_
  rintro e w1 ⟨x, rfl, hx0, hx1, hR1, hg1⟩
  obtain ⟨k, rfl⟩ := Int.eq_ofNat_of_zero_le hx0
  have hs1 := hg1.size
  go_wp2_with fail
  refine (grown_draw R n cap A f hf1 hf6 k 0 _ hR1 (by omega) (by omega) (by omega)).mono ?_
  rintro e w2 ⟨m, ds, A', c, hm, hm', rfl, hown, hR2, hg2⟩
  go_wp2_with fail
  go_ret
  exact ⟨m, ds, A', c, hm, Nat.lt_of_lt_of_le hm' (Nat.pow_le_pow_right (by omega) (by omega)), rfl, ⟨hown.1, own_more hown.2 hs1⟩, hR2, grown_trans hg1 hg2⟩

theorem flat_at (ds : List Nd) : ∀ (i j : Nat), i < ds.length → j < 6 → (ds.flatMap ndC)[i * 6 + j]? = (ndC (ds.getD i ⟨0, 0, 0, 0, false, 0⟩))[j]? := by
  induction ds with
  | nil => intro i j hi; simp at hi
  | cons d ds ih =>
    intro i j hi hj
    rw [List.flatMap_cons]
    cases i with
    | zero => rw [List.getElem?_append_left (by simp [ndC]; omega)]; simp
    | succ i =>
      rw [List.getElem?_append_right (by simp [ndC]; omega)]
      have e : (i + 1) * 6 + j - (ndC d).length = i * 6 + j := by simp [ndC]; omega
      rw [e, ih i j (by simpa using hi) hj]
      simp

/-- The block g holds m nodes. -/
def NdRow (w : World) (b m : Nat) (g : Nat → Nd) : Prop := ∀ i, i < m → NdAt w b (i * 6) (g i)

theorem ndRow_own {w : World} {B m c : Nat} {A' : Option Addr} {ds : List Nd} (h : Owned w B A' m c ds) (hm : 0 < m) :
    ∃ b, A' = some ⟨b, 0, none⟩ ∧ B ≤ b ∧ b < w.heap.size ∧ NdRow w b m (fun i => ds.getD i ⟨0, 0, 0, 0, false, 0⟩) := by
  obtain ⟨b, e, hB, hlt, hc⟩ := own_cells h.2 hm
  refine ⟨b, e, hB, hlt, fun i hi => ?_⟩
  have hf := fun j hj => flat_at ds i j (by rw [h.1]; exact hi) hj
  exact ⟨hc _ _ (hf 0 (by omega)), hc _ _ (hf 1 (by omega)), hc _ _ (hf 2 (by omega)), hc _ _ (hf 3 (by omega)), hc _ _ (hf 4 (by omega)), hc _ _ (hf 5 (by omega))⟩
theorem NdRow.rdN {w : World} {b m : Nat} {g : Nat → Nd} (h : NdRow w b m g) (hb : b < w.heap.size) : RdN w w.heap.size (some ⟨b, 0, none⟩) m g := fun _ => ⟨b, 0, rfl, hb, fun i hi => by rw [Nat.zero_add]; exact h i hi⟩
end

/-! ### DrawF -/
section
set_option linter.unusedVariables false
set_option linter.unusedSimpArgs false
open Go.RowKit Go.Deep

def TreeDrawn (R n cap : Nat) (A : Option Addr) (w : World) (e : Ending) (w' : World) : Prop :=
  ∃ (m : Nat) (g : Nat → Nd) (b c : Nat), 1 ≤ m ∧ m ≤ 16 ∧ e = .returned (.slice (some ⟨b, 0, none⟩) m c) ∧ R < b ∧ b < w'.heap.size ∧ NdRow w' b m g ∧ m ≤ c ∧ Rs w' R A n cap ∧ Below R w w'

theorem own_grown' {w w' : World} {base size : Nat} {e : TypeId} {v : Value} {m R : Nat} {xs : List Value} (h : w.ownsRow base e size v m xs) (hg : w.grownBy w' (some R)) (hR : R < base) : w'.ownsRow base e size v m xs := own_grown h hg hR

def setF (o : Nat) (x : Int) (d : Nd) : Nd := if o = 0 then { d with feat := x } else if o = 1 then { d with cut := x } else if o = 2 then { d with left := x } else if o = 3 then { d with right := x } else { d with value := x }

theorem own_blk {w : World} {B b m c size : Nat} {e : TypeId} {xs : List Value} (h : w.ownsRow B e size (.slice (some ⟨b, 0, none⟩) m c) m xs) (_hm : 0 < m) : m ≤ c ∧ ∃ cur, Blk w b e cur := by
  rcases h.2 with ⟨h0, _⟩ | ⟨g, cap, cur, hv, hb, hg, hle, _⟩
  · injection h0 with h0; cases h0
  · injection hv with e1 _ e3
    injection e1 with e1
    injection e1 with e1
    subst e1
    exact ⟨by omega, cur, hg⟩

/-- One field of the node at k, written. -/
theorem NdRow.put {w : World} {b m k o : Nat} {g : Nat → Nd} (h : NdRow w b m g) (_hk : k < m) (ho : o = 0 ∨ o = 1 ∨ o = 2 ∨ o = 5) (x : Int) :
    NdRow (w.setCell ⟨b, k * 6 + o, none⟩ (.int .i64 x)) b m (fun i => if i = k then setF o x (g k) else g i) := by
  intro i hi
  have hs : ∀ p, p ≠ k * 6 + o → (w.setCell ⟨b, k * 6 + o, none⟩ (.int .i64 x)).cell? ⟨b, p, none⟩ = w.cell? ⟨b, p, none⟩ := fun p hne => World.cell?_setCell_other _ _ _ _ (fun e => by injection e with _ e; omega)
  obtain ⟨h0, h1, h2, h3, h4, h5⟩ := h i hi
  by_cases e : i = k
  · subst e
    have hx : ∀ u, w.cell? ⟨b, i * 6 + o, none⟩ = some u → (w.setCell ⟨b, i * 6 + o, none⟩ (.int .i64 x)).cell? ⟨b, i * 6 + o, none⟩ = some (.int .i64 x) := fun u hu => World.cell?_setCell_same _ _ _ hu
    simp only [if_true]
    rcases ho with rfl | rfl | rfl | rfl
    · exact ⟨hx _ h0, (hs _ (by omega)).trans h1, (hs _ (by omega)).trans h2, (hs _ (by omega)).trans h3, (hs _ (by omega)).trans h4, (hs _ (by omega)).trans h5⟩
    · exact ⟨(hs _ (by omega)).trans h0, hx _ h1, (hs _ (by omega)).trans h2, (hs _ (by omega)).trans h3, (hs _ (by omega)).trans h4, (hs _ (by omega)).trans h5⟩
    · exact ⟨(hs _ (by omega)).trans h0, (hs _ (by omega)).trans h1, hx _ h2, (hs _ (by omega)).trans h3, (hs _ (by omega)).trans h4, (hs _ (by omega)).trans h5⟩
    · exact ⟨(hs _ (by omega)).trans h0, (hs _ (by omega)).trans h1, (hs _ (by omega)).trans h2, (hs _ (by omega)).trans h3, (hs _ (by omega)).trans h4, hx _ h5⟩
  · simp only [if_neg e]
    exact ⟨(hs _ (by omega)).trans h0, (hs _ (by omega)).trans h1, (hs _ (by omega)).trans h2, (hs _ (by omega)).trans h3, (hs _ (by omega)).trans h4, (hs _ (by omega)).trans h5⟩

set_option maxRecDepth 100000 in
set_option maxHeartbeats 16000000 in
theorem hurtTree_draw (R n cap B : Nat) (A A' : Option Addr) (m c : Nat) (ds : List Nd) (w : World) (h : Rs w R A n cap) (hB : R < B) (hBw : B ≤ w.heap.size) (hm1 : 1 ≤ m) (hm : m ≤ 15) (hown : Owned w B A' m c ds) :
    Calls Tryz.prog 92 #[.pointer (some ⟨R, 0, none⟩), .slice A' m c] w (TreeDrawn R n cap A w) := by
  have hRw := h.lt
  obtain ⟨b, rfl, hbB, hbL, hrow⟩ := ndRow_own hown (by omega)
  have hown0 := hown.2
  obtain ⟨hmc, cur, hcur⟩ := own_blk hown0 (by omega)
  go_enter Tryz.func92, Tryz.ntmps92
  have i0 : ¬ (m : Int) < 1 := by omega
  have i1 : (0 : Int) < (m : Int) := by omega
  go_wp2_with fail
  refine (below_any R n cap A m _ h (by omega) (by omega)).mono ?_
  rintro e w1 ⟨at_, rfl, ha0, ha1, hR1, hg1⟩
  obtain ⟨k, rfl⟩ := Int.eq_ofNat_of_zero_le ha0
  have hk : k < m := by omega
  go_wp2_with fail
  refine (below_draw R n cap A 24 _ hR1 (by omega) (by omega)).mono ?_
  rintro e w2 ⟨q, rfl, hq0, hq1, hR2, hg2⟩
  have hg := grown_trans hg1 hg2
  have hrow2 : NdRow w2 b m _ := fun i hi => (hrow i hi).keep fun o => World.cell?_of_block (hg.block b hbL (by intro e; injection e with e; omega))
  have hb2 := below_grown hg hRw
  have hcur2 : Blk w2 b 58 cur := hcur.grown hg (by intro e; injection e with e; omega)
  have hown2 : w2.ownsRow B 58 6 (.slice (some ⟨b, 0, none⟩) m c) m (ds.flatMap ndC) := own_grown' hown0 hg hB
  have hL2 : b < w2.heap.size := hcur2.lt
  have hs2 := hg.size
  have hgo := hg
  clear hg1 hg2 hg hrow hR1
  by_cases e0 : q = 0
  · subst e0
    clear hown0 hown2
    go_wp2_with fail
    refine (off_draw R n cap A (0) (m) _ hR2 (by omega) (by omega) (by omega) (by omega)).mono ?_
    rintro e w3 ⟨x, rfl, hR3, hg3⟩
    have hrow3 : NdRow w3 b m _ := fun i hi => (hrow2 i hi).keep fun o => World.cell?_of_block (hg3.block b hL2 (by intro e; injection e with e; omega))
    have hb3 := hb2.trans (below_grown hg3 hR2.lt)
    have hs3 := hg3.size
    have hc3 : Blk w3 b 58 cur := hcur2.grown hg3 (by intro e; injection e with e; omega)
    obtain ⟨h0, h1, h2, h3, h4, h5⟩ := hrow3 k hk
    have f0 := hc3.frozen (k * 6 + 2)
    have ik : (k : Int) < (m : Int) := by omega
    go_wp2_with fail
    go_ret
    exact ⟨m, _, b, c, hm1, by omega, rfl, by omega, by rw [World.size_setCell]; omega, hrow3.put (o := 2) hk (by omega) x, hmc, rs_set hR3 (by simp; omega) _, hb3.setCell (by simp; omega) _⟩
  by_cases e1 : q = 1
  · subst e1
    clear hown0 hown2
    go_wp2_with fail
    refine (off_draw R n cap A (-1000000000) (1000000000) _ hR2 (by omega) (by omega) (by omega) (by omega)).mono ?_
    rintro e w3 ⟨x, rfl, hR3, hg3⟩
    have hrow3 : NdRow w3 b m _ := fun i hi => (hrow2 i hi).keep fun o => World.cell?_of_block (hg3.block b hL2 (by intro e; injection e with e; omega))
    have hb3 := hb2.trans (below_grown hg3 hR2.lt)
    have hs3 := hg3.size
    have hc3 : Blk w3 b 58 cur := hcur2.grown hg3 (by intro e; injection e with e; omega)
    obtain ⟨h0, h1, h2, h3, h4, h5⟩ := hrow3 k hk
    have f0 := hc3.frozen (k * 6 + 5)
    have ik : (k : Int) < (m : Int) := by omega
    go_wp2_with fail
    go_ret
    exact ⟨m, _, b, c, hm1, by omega, rfl, by omega, by rw [World.size_setCell]; omega, hrow3.put (o := 5) hk (by omega) x, hmc, rs_set hR3 (by simp; omega) _, hb3.setCell (by simp; omega) _⟩
  by_cases e2 : q = 2
  · subst e2
    clear hown0 hown2
    go_wp2_with fail
    refine (off_draw R n cap A (0) (5) _ hR2 (by omega) (by omega) (by omega) (by omega)).mono ?_
    rintro e w3 ⟨x, rfl, hR3, hg3⟩
    have hrow3 : NdRow w3 b m _ := fun i hi => (hrow2 i hi).keep fun o => World.cell?_of_block (hg3.block b hL2 (by intro e; injection e with e; omega))
    have hb3 := hb2.trans (below_grown hg3 hR2.lt)
    have hs3 := hg3.size
    have hc3 : Blk w3 b 58 cur := hcur2.grown hg3 (by intro e; injection e with e; omega)
    obtain ⟨h0, h1, h2, h3, h4, h5⟩ := hrow3 k hk
    have f0 := hc3.frozen (k * 6)
    have ik : (k : Int) < (m : Int) := by omega
    go_wp2_with fail
    go_ret
    exact ⟨m, _, b, c, hm1, by omega, rfl, by omega, by rw [World.size_setCell]; omega, hrow3.put (o := 0) hk (by omega) x, hmc, rs_set hR3 (by simp; omega) _, hb3.setCell (by simp; omega) _⟩
  by_cases e3 : q = 3
  · subst e3
    clear hown0 hown2
    go_wp2_with fail
    refine (off_draw R n cap A (-1000000) (1000000) _ hR2 (by omega) (by omega) (by omega) (by omega)).mono ?_
    rintro e w3 ⟨x, rfl, hR3, hg3⟩
    have hrow3 : NdRow w3 b m _ := fun i hi => (hrow2 i hi).keep fun o => World.cell?_of_block (hg3.block b hL2 (by intro e; injection e with e; omega))
    have hb3 := hb2.trans (below_grown hg3 hR2.lt)
    have hs3 := hg3.size
    have hc3 : Blk w3 b 58 cur := hcur2.grown hg3 (by intro e; injection e with e; omega)
    obtain ⟨h0, h1, h2, h3, h4, h5⟩ := hrow3 k hk
    have f0 := hc3.frozen (k * 6 + 1)
    have ik : (k : Int) < (m : Int) := by omega
    go_wp2_with fail
    go_ret
    exact ⟨m, _, b, c, hm1, by omega, rfl, by omega, by rw [World.size_setCell]; omega, hrow3.put (o := 1) hk (by omega) x, hmc, rs_set hR3 (by simp; omega) _, hb3.setCell (by simp; omega) _⟩
  by_cases e4 : q = 4
  · subst e4
    obtain ⟨i0, hi0, hz0, hz1, hz2⟩ := info_parts info_node
    have hN : Blk (w2.alloc (.cells #[.int .i64 0, .int .i64 0, .int .i64 0, .int .i64 0, .bool false, .int .i64 1] 58)) w2.heap.size 58 _ := Blk.new w2 _ _
    have hcell : ∀ j u, ([(⟨0, 0, 0, 0, false, 1⟩ : Nd)].flatMap ndC)[j]? = some u → (w2.alloc (.cells #[.int .i64 0, .int .i64 0, .int .i64 0, .int .i64 0, .bool false, .int .i64 1] 58)).cell? ⟨w2.heap.size, j, none⟩ = some u :=
      fun j u hu => (hN.cell j).trans (by rw [← hu]; simp [ndC])
    go_wp2_with (at_builtin; refine wpList_append_own _ rfl (.tmp 52) (.tmp 54) 45 rfl B 58 i0 (ndV ⟨0, 0, 0, 0, false, 0⟩) 6 48 Tryz.underlying45 hi0 hz0 hz1 hz2 rfl (by decide) _ m _ rfl (hown2.alloc _) ⟨w2.heap.size, 0, none⟩ 1 1 ([(⟨0, 0, 0, 0, false, 1⟩ : Nd)].flatMap ndC) rfl rfl (fun j u hu => by simpa [Addr.add_lit] using hcell j u hu) (ndC_one _) (by unfold maxLen; omega) (by omega) (by rw [World.size_alloc]; omega) ?_)
    intro v' w3 hown3 hg3 _
    obtain ⟨A3, c3, rfl⟩ := own_form hown3
    have hR3 := rs_own (B := B) hR2 _ hg3 (fun x hx => (hown2.lt x hx).1) hB
    have hb3 : Below R w2 w3 := ((Below.refl R w2).alloc (by omega) _).grown hg3 (by rw [World.size_alloc]; omega) (fun x hx => by have := (hown2.lt x hx).1; omega)
    have hown3' : Owned w3 B A3 (m + 1) c3 (ds ++ [⟨0, 0, 0, 0, false, 1⟩]) := ⟨by simp; exact hown.1, by rw [List.flatMap_append]; exact hown3⟩
    obtain ⟨b3, rfl, hB3, hL3, hrow3⟩ := ndRow_own hown3' (by omega)
    go_wp2_with fail
    go_ret
    exact ⟨m + 1, _, b3, c3, by omega, by omega, rfl, by omega, hL3, hrow3, (own_blk hown3'.2 (by omega)).1, hR3, hb2.trans hb3⟩
  · go_wp2_with fail
    go_ret
    exact ⟨m, _, b, c, hm1, by omega, rfl, by omega, by omega, hrow2, hmc, hR2, hb2⟩
end

/-! ### DrawH -/
section
set_option linter.unusedVariables false
set_option linter.unusedSimpArgs false
open Go.RowKit Go.Deep

def Kept (B R : Nat) (w w' : World) : Prop := ∀ k, k < B → k ≠ R → w'.heap[k]? = w.heap[k]?
theorem Kept.trans {B R : Nat} {a b c : World} (h : Kept B R a b) (h' : Kept B R b c) : Kept B R a c := fun k hk hne => (h' k hk hne).trans (h k hk hne)
theorem kept_grown {B R : Nat} {w w' : World} (h : w.grownBy w' (some R)) (hB : B ≤ w.heap.size) : Kept B R w w' := fun k hk hne => h.block k (by omega) (by intro e; injection e with e; exact hne e)
theorem kept_row {B R : Nat} {w w' : World} {row : Option Nat} (h : w.grownBy w' row) (hB : B ≤ w.heap.size) (hr : ∀ x, row = some x → B ≤ x) : Kept B R w w' := fun k hk _ => h.block k (by omega) (fun e => by have := hr k e.symm; omega)
theorem kept_alloc {B R : Nat} (w : World) (o : Obj) (hB : B ≤ w.heap.size) : Kept B R w (w.alloc o) := fun k hk _ => Below.heap_alloc w o k (by omega)
theorem kept_set {B R : Nat} (w : World) {p : Addr} (hp : B ≤ p.block) (u : Value) : Kept B R w (w.setCell p u) := fun k hk _ => Below.heap_setCell _ _ _ k (by omega)

set_option maxRecDepth 100000 in
set_option maxHeartbeats 16000000 in
theorem hurtDoc_kept (R n cap B : Nat) (A A' : Option Addr) (m c : Nat) (z : Nat → Int) (w : World) (h : Rs w R A n cap) (hB : R < B) (hBw : B ≤ w.heap.size) (hm : m ≤ 16) (hown : w.ownsRow B 2 1 (.slice A' m c) m (numsOf m z)) :
    Calls Tryz.prog 106 #[.pointer (some ⟨R, 0, none⟩), .slice A' m c] w (fun e w' => DocDrawn R n cap A w e w' ∧ Kept B R w w') := by
  obtain ⟨i0, hi0, hz0, hz1, hz2⟩ := info_parts info_int
  have hRw := h.lt
  go_enter Tryz.func106, Tryz.ntmps106
  go_wp2_with fail
  refine (below_draw R n cap A 30 _ h (by omega) (by omega)).mono ?_
  rintro e w1 ⟨k, rfl, hk0, hk1, hR1, hg1⟩
  have hown1 := own_grown hown hg1 hB
  have hb1 := below_grown hg1 hRw
  have hRw1 := hR1.lt
  have hs1 := hg1.size
  have hq1 := kept_grown hg1 hBw
  clear hg1 hown
  by_cases e0 : k = 0
  · subst e0
    go_wp2_with (at_builtin; refine wpList_append_own _ rfl (.tmp 9) (.tmp 10) 67 rfl B 2 i0 (.int .i64 0) 1 8 Tryz.underlying67 hi0 hz0 hz1 hz2 rfl (by decide) _ m _ rfl (hown1.alloc _) ⟨w1.heap.size, 0, none⟩ 1 1 [.int .i64 0] rfl rfl (cell_one_new _ _ _) (by intro u hu; simp at hu; subst hu; rfl) (by unfold maxLen; omega) (by omega) (by simp; omega) ?_)
    intro v' w3 hown3 hg3 _
    have hR3 := rs_own (B := B) hR1 _ hg3 (fun x hx => (hown1.lt x hx).1) hB
    have hb3 : Below R w1 w3 := ((Below.refl R w1).alloc (by omega) _).grown hg3 (by simp; omega) (fun x hx => by have := (hown1.lt x hx).1; omega)
    obtain ⟨A3, c3, rfl⟩ := own_form hown3
    have hk3 : Kept B R w1 w3 := (kept_alloc w1 _ (by omega)).trans (kept_row hg3 (by rw [World.size_alloc]; omega) (fun x hx => (hown1.lt x hx).1))
    clear hg3
    go_wp2_with fail
    go_ret
    exact ⟨⟨m + 1, ext z m 0, A3, c3, by omega, rfl, rd_own hB (by rw [numsOf_ext]; exact hown3), hR3, hb1.trans hb3⟩, hq1.trans hk3⟩
  by_cases e1 : k = 1
  · subst e1
    go_wp2_with fail
    go_ret
    exact ⟨⟨0, nul, none, 0, by omega, rfl, (fun h => absurd h (by omega)), hR1, hb1⟩, hq1⟩
  by_cases e2 : k = 2
  · subst e2
    by_cases hm0 : 0 < m
    · have i1 : (0 : Int) < (m : Int) := by omega
      go_wp2_with fail
      refine (off_draw R n cap A (-1000000) 1000000 _ hR1 (by omega) (by omega) (by omega) (by omega)).mono ?_
      rintro e w2 ⟨x, rfl, hR2, hg2⟩
      have hown2 := own_grown hown1 hg2 hB
      have hb2 := below_grown hg2 hRw1
      obtain ⟨g, c', hv, hgB, hr⟩ := own_row hown2 hm0
      injection hv with ev1 ev2 ev3
      subst ev1
      have hc := hr.cell hm0
      have hf := hr.frozen 0
      have hbb := hb1.trans hb2
      have hkk := hq1.trans (kept_grown hg2 (by omega))
      have hne : R < g := by omega
      clear hg2 hown2 hown1 hb1 hb2
      go_wp2_with fail
      go_ret
      refine ⟨⟨m, _, _, _, by omega, rfl, (fun _ => ⟨g, rfl, by omega, hr.set_ (i := 0) x⟩), ?_, hbb.setCell (by simp; omega) _⟩, hkk.trans (kept_set _ (by simp; omega) _)⟩
      exact hR2.keep fun b hb => Below.heap_setCell _ _ _ b (by simp; omega)
    · have i1 : ¬ (0 : Int) < (m : Int) := by omega
      have hm00 : m = 0 := by omega
      subst hm00
      go_wp2_with fail
      go_ret
      exact ⟨⟨0, nul, _, c, by omega, rfl, (fun h => absurd h (by omega)), hR1, hb1⟩, hq1⟩
  by_cases e3 : k = 3
  · subst e3
    have hmk6 := run_make_row' (P := Tryz.prog) 67 2 (.int .i64 0) 8 Tryz.underlying67 info_int rfl .i64 .i64 6 (by omega) (by omega)
    have hmk7 := run_make_row' (P := Tryz.prog) 67 2 (.int .i64 0) 8 Tryz.underlying67 info_int rfl .i64 .i64 7 (by omega) (by omega)
    simp only [Int.cast_ofNat_Int] at hmk6 hmk7
    go_wp2_with fail
    refine (below_draw R n cap A 2 _ hR1 (by omega) (by omega)).mono ?_
    rintro e w2 ⟨x, rfl, hx0, hx1, hR2, hg2⟩
    have hbb := hb1.trans (below_grown hg2 hRw1)
    have hkk := hq1.trans (kept_grown hg2 (by omega))
    have hs2 := hg2.size
    have hRw2 := hR2.lt
    clear hg2 hb1
    obtain rfl | rfl : x = 0 ∨ x = 1 := by omega
    · clear hmk7
      go_wp2_with fail
      go_ret
      exact ⟨⟨6, nul, _, 6, by omega, rfl, (fun _ => ⟨_, rfl, hRw2, _, Blk.new w2 _ _, by simp [madeCells], fun j hj => by simp [madeCells, hj, nul, Nat.mod_one]⟩), hR2.alloc _, hbb.alloc (by omega) _⟩, hkk.trans (kept_alloc _ _ (by omega))⟩
    · clear hmk6
      go_wp2_with fail
      go_ret
      exact ⟨⟨7, nul, _, 7, by omega, rfl, (fun _ => ⟨_, rfl, hRw2, _, Blk.new w2 _ _, by simp [madeCells], fun j hj => by simp [madeCells, hj, nul, Nat.mod_one]⟩), hR2.alloc _, hbb.alloc (by omega) _⟩, hkk.trans (kept_alloc _ _ (by omega))⟩
  · go_wp2_with fail
    go_ret
    exact ⟨⟨m, z, A', c, by omega, rfl, rd_own hB hown1, hR1, hb1⟩, hq1⟩
end

/-! ### DrawG -/
section
set_option linter.unusedVariables false
set_option linter.unusedSimpArgs false
open Go.RowKit Go.Deep

/-- A drawn list of nodes and a number. -/
def DrawnTree (w : World) (e : Ending) (w' : World) : Prop :=
  ∃ (m : Nat) (g : Nat → Nd) (b c : Nat) (f : Int), 1 ≤ m ∧ m ≤ 16 ∧ e = .returned (.tuple #[.slice (some ⟨b, 0, none⟩) m c, .int .i64 f]) ∧ w.heap.size ≤ b ∧ b < w'.heap.size ∧ NdRow w' b m g ∧ m ≤ c ∧ Below w.heap.size w w'

theorem ndRow_keep {w w' : World} {b m R : Nat} {g : Nat → Nd} (h : NdRow w b m g) (hg : w.grownBy w' (some R)) (hb : b < w.heap.size) (hne : b ≠ R) : NdRow w' b m g :=
  fun i hi => (h i hi).keep fun o => World.cell?_of_block (hg.block b hb (by intro e; injection e with e; exact hne e))
theorem ndRow_below {w w' : World} {b m B : Nat} {g : Nat → Nd} (h : NdRow w b m g) (hg : Below B w w') (hb : b < B) : NdRow w' b m g :=
  fun i hi => (h i hi).keep fun _ => World.cell?_of_block (hg.block b hb)

/-- A drawn list of nodes and a drawn list of numbers. -/
def DrawnPath (w : World) (e : Ending) (w' : World) : Prop :=
  ∃ (m : Nat) (g : Nat → Nd) (b c f : Nat) (z : Nat → Int) (D : Option Addr) (dc : Nat), 1 ≤ m ∧ m ≤ 16 ∧ f ≤ 17 ∧ e = .returned (.tuple #[.slice (some ⟨b, 0, none⟩) m c, .slice D f dc]) ∧
    w.heap.size ≤ b ∧ b < w'.heap.size ∧ NdRow w' b m g ∧ m ≤ c ∧ Rd w' w'.heap.size D f z ∧ Below w.heap.size w w'

end

/-! ### NodeRows -/
section
set_option linter.unusedVariables false
set_option linter.unusedSimpArgs false
open Go.RowKit Go.Deep

def nodesC (n : Nat) (g : Nat → Nd) : List Value := (List.range n).flatMap fun i => ndC (g i)
theorem nodesC_succ (n : Nat) (g : Nat → Nd) : nodesC (n + 1) g = nodesC n g ++ ndC (g n) := by
  unfold nodesC
  rw [List.range_succ, List.flatMap_append]
  simp
theorem nodesC_len (n : Nat) (g : Nat → Nd) : (nodesC n g).length = n * 6 := by
  induction n with
  | zero => rfl
  | succ n ih => rw [nodesC_succ, List.length_append, ih]; simp [ndC]; omega
theorem nodesC_one (n : Nat) (g : Nat → Nd) : ∀ u ∈ nodesC n g, u.oneCell' = true := by
  intro u hu
  unfold nodesC at hu
  simp only [List.mem_flatMap] at hu
  obtain ⟨i, _, hd⟩ := hu
  simp only [ndC, List.mem_cons, List.not_mem_nil, or_false] at hd
  rcases hd with rfl | rfl | rfl | rfl | rfl | rfl <;> rfl
theorem nodesC_at (g : Nat → Nd) : ∀ (n i j : Nat), i < n → j < 6 → (nodesC n g)[i * 6 + j]? = (ndC (g i))[j]? := by
  intro n
  induction n with
  | zero => intro i j hi; omega
  | succ n ih =>
    intro i j hi hj
    rw [nodesC_succ]
    by_cases e : i = n
    · subst e
      rw [List.getElem?_append_right (by rw [nodesC_len]; omega), nodesC_len]
      congr 1; omega
    · rw [List.getElem?_append_left (by rw [nodesC_len]; omega)]
      exact ih i j (by omega) hj
theorem ndAt_get {w : World} {b o : Nat} {d : Nd} (h : NdAt w b o d) (j : Nat) (u : Value) (hu : (ndC d)[j]? = some u) : w.cell? ⟨b, o + j, none⟩ = some u := by
  obtain ⟨c0, c1, c2, c3, c4, c5⟩ := h
  match j, hu with
  | 0, hu => exact c0.trans hu
  | 1, hu => exact c1.trans hu
  | 2, hu => exact c2.trans hu
  | 3, hu => exact c3.trans hu
  | 4, hu => exact c4.trans hu
  | 5, hu => exact c5.trans hu
  | j + 6, hu => simp [ndC] at hu
theorem nodes_src {w : World} {b off n : Nat} {g : Nat → Nd} (hC : ∀ i, i < n → NdAt w b (off + i * 6) (g i)) : ∀ j u, (nodesC n g)[j]? = some u → w.cell? (Addr.add ⟨b, off, none⟩ j) = some u := by
  intro j u hu
  have hj : j < n * 6 := by
    have := (List.getElem?_eq_some_iff.1 hu).1
    rwa [nodesC_len] at this
  have e : j = (j / 6) * 6 + j % 6 := by omega
  rw [e, nodesC_at g n (j / 6) (j % 6) (by omega) (by omega)] at hu
  rw [Addr.add_lit, e]
  have := ndAt_get (hC (j / 6) (by omega)) (j % 6) u hu
  rw [← this]
  congr 2; omega
theorem own_rowN {w : World} {B m c : Nat} {t : TypeId} {A' : Option Addr} {g : Nat → Nd} (h : w.ownsRow B t 6 (.slice A' m c) m (nodesC m g)) (hm : 0 < m) :
    ∃ b, A' = some ⟨b, 0, none⟩ ∧ B ≤ b ∧ m ≤ c ∧ RowN w t b m g := by
  rcases h.2 with ⟨_, h0⟩ | ⟨b, cap, cur, hv, hb, hg, h1, _, h3, ht⟩
  · omega
  · injection hv with e1 _ e3
    refine ⟨b, e1, hb, by omega, cur, hg, by rw [h3]; exact Nat.mul_le_mul_right 6 h1, fun i hi j hj => ?_⟩
    have hlt : i * 6 + j < m * 6 := by omega
    have := nodesC_at g m i j hi hj
    rw [← ht, List.getElem?_take, if_pos hlt, Array.getElem?_toList] at this
    exact this
/-- One cell of a node written anew. -/
theorem RowN.miss {w : World} {t : TypeId} {b n k : Nat} {g : Nat → Nd} (h : RowN w t b n g) (hk : k < n) (q : Bool) :
    RowN (w.setCell ⟨b, k * 6 + 4, none⟩ (.bool q)) t b n (fun i => if i = k then { g i with miss := q } else g i) := by
  obtain ⟨cs, hB, hsz, hc⟩ := h
  refine ⟨_, hB.set_ (k * 6 + 4) (.bool q), by simpa using hsz, fun i hi j hj => ?_⟩
  show _ = (ndC (if i = k then { g i with miss := q } else g i))[j]?
  by_cases e : i = k
  · subst e
    rw [if_pos rfl]
    by_cases e4 : j = 4
    · subst e4
      rw [Array.getElem?_setIfInBounds_self_of_lt (by omega)]; rfl
    · rw [Array.getElem?_setIfInBounds_ne (by omega), hc i hi j hj]
      obtain rfl | rfl | rfl | rfl | rfl : j = 0 ∨ j = 1 ∨ j = 2 ∨ j = 3 ∨ j = 5 := by omega
      all_goals rfl
  · rw [if_neg e, Array.getElem?_setIfInBounds_ne (by omega)]
    exact hc i hi j hj
theorem RowN.congr {w : World} {t : TypeId} {b n : Nat} {g g' : Nat → Nd} (h : RowN w t b n g) (he : ∀ i, i < n → g i = g' i) : RowN w t b n g' := by
  obtain ⟨cs, hB, hsz, hc⟩ := h
  exact ⟨cs, hB, hsz, fun i hi j hj => by rw [← he i hi]; exact hc i hi j hj⟩
theorem RowN.frozen {w : World} {t : TypeId} {b n : Nat} {g : Nat → Nd} (h : RowN w t b n g) (i : Nat) : w.frozen? ⟨b, i, none⟩ = false := by obtain ⟨cs, hb, _⟩ := h; exact hb.frozen i
end

/-! ### JoinA -/
section
set_option linter.unusedVariables false
set_option linter.unusedSimpArgs false
open Go.RowKit Go.Deep

/-- Headers of trees. -/
def hdJ (n : Nat) (bl len cp : Nat → Nat) : List Value := (List.range n).map fun i => .slice (some ⟨bl i, 0, none⟩) (len i) (cp i)
def setN (f : Nat → Nat) (k x : Nat) : Nat → Nat := fun i => if i = k then x else f i
theorem setN_same (f : Nat → Nat) (k x : Nat) : setN f k x k = x := if_pos rfl
theorem setN_other {f : Nat → Nat} {k x i : Nat} (h : i ≠ k) : setN f k x i = f i := if_neg h
theorem hdJ_len (n : Nat) (bl len cp : Nat → Nat) : (hdJ n bl len cp).length = n := by simp [hdJ]
theorem hdJ_at {n : Nat} {bl len cp : Nat → Nat} {i : Nat} (hi : i < n) : (hdJ n bl len cp)[i]? = some (.slice (some ⟨bl i, 0, none⟩) (len i) (cp i)) := by
  unfold hdJ
  rw [List.getElem?_map, List.getElem?_range hi]
  rfl
theorem hdJ_one (n : Nat) (bl len cp : Nat → Nat) : ∀ u ∈ hdJ n bl len cp, u.oneCell' = true := by
  intro u hu
  obtain ⟨i, _, rfl⟩ := List.mem_map.1 hu
  rfl
theorem hdJ_snoc (n : Nat) (bl len cp : Nat → Nat) (b c : Nat) : hdJ (n + 1) (setN bl n b) len (setN cp n c) = hdJ n bl len cp ++ [.slice (some ⟨b, 0, none⟩) (len n) c] := by
  unfold hdJ
  rw [List.range_succ, List.map_append, List.map_cons, List.map_nil, setN_same, setN_same]
  congr 1
  refine List.map_congr_left fun i hi => ?_
  have hi' : i ≠ n := by have := List.mem_range.1 hi; omega
  rw [setN_other hi', setN_other hi']

/-- Trees in memory of their own, each in a block of its own. -/
def TreesN (w : World) (B n : Nat) (bl len : Nat → Nat) (g : Nat → Nat → Nd) : Prop := ∀ i, i < n → B ≤ bl i ∧ RowN w 58 (bl i) (len i) (g i) ∧ ∀ j, j < i → bl j ≠ bl i
theorem TreesN.keep {w w' : World} {B n : Nat} {bl len : Nat → Nat} {g : Nat → Nat → Nd} (h : TreesN w B n bl len g) (hk : ∀ i, i < n → w'.heap[bl i]? = w.heap[bl i]?) : TreesN w' B n bl len g := fun i hi =>
  ⟨(h i hi).1, (h i hi).2.1.keep (hk i hi), (h i hi).2.2⟩
theorem TreesN.below {w w' : World} {B n : Nat} {bl len : Nat → Nat} {g : Nat → Nat → Nd} (h : TreesN w B n bl len g) (hb : Below w.heap.size w w') : TreesN w' B n bl len g :=
  h.keep fun i hi => hb.block _ (h i hi).2.1.lt
theorem TreesN.less {w : World} {B B' n : Nat} {bl len : Nat → Nat} {g : Nat → Nat → Nd} (h : TreesN w B n bl len g) (hB : B' ≤ B) : TreesN w B' n bl len g := fun i hi =>
  ⟨Nat.le_trans hB (h i hi).1, (h i hi).2⟩
theorem TreesN.snoc {w : World} {B n b : Nat} {bl len : Nat → Nat} {g : Nat → Nat → Nd} (h : TreesN w B n bl len g) (hb : B ≤ b) (hr : RowN w 58 b (len n) (g n)) (hlt : ∀ i, i < n → bl i ≠ b) : TreesN w B (n + 1) (setN bl n b) len g := fun i hi => by
  by_cases e : i = n
  · subst e
    rw [setN_same]
    refine ⟨hb, hr, fun j hj => ?_⟩
    rw [setN_other (by omega)]
    exact hlt j hj
  · rw [setN_other e]
    have hi' : i < n := by omega
    refine ⟨(h i hi').1, (h i hi').2.1, fun j hj => ?_⟩
    rw [setN_other (by omega)]
    exact (h i hi').2.2 j hj
theorem treesN_nil {w : World} {B : Nat} {bl len : Nat → Nat} {g : Nat → Nat → Nd} : TreesN w B 0 bl len g := fun i hi => by omega
theorem own_keepJ {w w' : World} {B : Nat} {e : TypeId} {size : Nat} {v : Value} {n : Nat} {xs : List Value} (h : w.ownsRow B e size v n xs) (hk : ∀ g, B ≤ g → g < w.heap.size → v.ownBlock = some g → w'.heap[g]? = w.heap[g]?) : w'.ownsRow B e size v n xs := by
  refine ⟨h.1, ?_⟩
  rcases h.2 with h0 | ⟨g, cap, cur, hv, hb, hg, rest⟩
  · exact .inl h0
  · exact .inr ⟨g, cap, cur, hv, hb, (hk g hb (Blk.lt hg) (by rw [hv]; rfl)).trans hg, rest⟩
theorem own_ltJ {w : World} {B : Nat} {e : TypeId} {size : Nat} {v : Value} {n : Nat} {xs : List Value} (h : w.ownsRow B e size v n xs) : ∀ x, v.ownBlock = some x → B ≤ x ∧ x < w.heap.size ∧ ∃ cs, Blk w x e cs := by
  intro x hx
  rcases h.2 with ⟨rfl, _⟩ | ⟨g, cap, cur, rfl, hb, hg, _⟩
  · cases hx
  · have e1 : (Value.slice (some ⟨g, 0, none⟩) n cap).ownBlock = some g := rfl
    rw [e1] at hx
    injection hx with hx
    subst hx
    exact ⟨hb, Blk.lt hg, _, hg⟩
/-- The cells of a row of headers. -/
theorem own_hdJ {w : World} {B n c : Nat} {A : Option Addr} {xs : List Value} (h : w.ownsRow B 45 1 (.slice A n c) n xs) (hn : 0 < n) :
    ∃ gg, A = some ⟨gg, 0, none⟩ ∧ B ≤ gg ∧ gg < w.heap.size ∧ (∃ cs, Blk w gg 45 cs) ∧ ∀ i u, xs[i]? = some u → w.cell? ⟨gg, i, none⟩ = some u := by
  have hlen := h.1
  rcases h.2 with ⟨_, h0⟩ | ⟨gg, cap, cur, hv, hb, hg, _, _, _, ht⟩
  · omega
  · injection hv with hA _ _
    refine ⟨gg, hA, hb, Blk.lt hg, ⟨cur, hg⟩, fun i u hu => ?_⟩
    have hi : i < n * 1 := by have := (List.getElem?_eq_some_iff.1 hu).1; omega
    have h1 : (cur.toList.take (n * 1))[i]? = xs[i]? := by rw [ht]
    rw [List.getElem?_take, if_pos hi, Array.getElem?_toList, hu] at h1
    exact (Blk.cell hg i).trans h1
theorem rdT_J {w : World} {B B' n c : Nat} {A : Option Addr} {bl len cp : Nat → Nat} {g : Nat → Nat → Nd} (h : w.ownsRow B 45 1 (.slice A n c) n (hdJ n bl len cp)) (hT : TreesN w B' n bl len g) : RdT w w.heap.size A n len g := fun hn => by
  obtain ⟨gg, hA, _, hlt, _, hc⟩ := own_hdJ h hn
  refine ⟨gg, 0, hA, hlt, fun i hi => ⟨some ⟨bl i, 0, none⟩, cp i, ?_, rdN_of (hT i hi).2.1⟩⟩
  rw [Nat.zero_add]
  exact hc i _ (hdJ_at hi)

/-- The first k trees copied. -/
def Copied (w : World) (len : Nat → Nat) (g : Nat → Nat → Nd) (v : Value) (k : Nat) (wr : World) : Prop :=
  ∃ gb c bl cp, v = .slice (some ⟨gb, 0, none⟩) k c ∧ wr.ownsRow w.heap.size 45 1 (.slice (some ⟨gb, 0, none⟩) k c) k (hdJ k bl len cp) ∧ TreesN wr w.heap.size k bl len g ∧ Below w.heap.size w wr

end

/-! ### Marks -/
section
set_option linter.unusedVariables false
set_option linter.unusedSimpArgs false
open Go.RowKit Go.Deep

/-- What a mark writes into nodes, from number k on. -/
def mkN (k : Int) : Nat → Nd := fun i => ⟨k + 6 * i, k + 6 * i + 1, k + 6 * i + 2, k + 6 * i + 3, (k + 6 * i + 4) % 3 == 0, k + 6 * i + 5⟩
theorem mkN_at {k0 q : Int} {m : Nat} (hq : q = k0 + 6 * m) : mkN k0 m = ⟨q, q + 1, q + 1 + 1, q + 1 + 1 + 1, (q + 1 + 1 + 1 + 1) % 3 == 0, q + 1 + 1 + 1 + 1 + 1⟩ := by
  have e4 : k0 + 6 * (m : Int) + 4 = q + 1 + 1 + 1 + 1 := by omega
  unfold mkN
  rw [e4]
  simp only [Nd.mk.injEq]
  refine ⟨by omega, by omega, by omega, by omega, trivial, by omega⟩

/-- How many nodes the first k trees have. -/
def cumL (len : Nat → Nat) : Nat → Nat
  | 0 => 0
  | k + 1 => cumL len k + len k
theorem cumL_le {len : Nat → Nat} {n M : Nat} (h : ∀ i, i < n → len i ≤ M) : ∀ k, k ≤ n → cumL len k ≤ k * M := by
  intro k
  induction k with
  | zero => intro _; simp [cumL]
  | succ k ih =>
    intro hk
    have := ih (by omega)
    have := h k (by omega)
    rw [Nat.succ_mul]
    simp only [cumL]
    omega
theorem cumL_mono {len : Nat → Nat} {n : Nat} : ∀ k, k ≤ n → cumL len k ≤ cumL len n := by
  intro k hk
  induction n with
  | zero => have : k = 0 := by omega
            subst this; exact Nat.le_refl _
  | succ n ih =>
    by_cases e : k = n + 1
    · subst e; exact Nat.le_refl _
    · have := ih (by omega)
      simp only [cumL]
      omega

/-- Trees whose blocks lie from L to H, each of its own. -/
def Laid (w : World) (L H : Nat) (A : Option Addr) (n : Nat) (len : Nat → Nat) (g : Nat → Nat → Nd) : Prop :=
  ∃ (gg : Nat) (bl cp : Nat → Nat), (0 < n → A = some ⟨gg, 0, none⟩ ∧ L ≤ gg ∧ gg < H ∧ (∃ cs, Blk w gg 45 cs) ∧ ∀ i, i < n → w.cell? ⟨gg, i, none⟩ = some (.slice (some ⟨bl i, 0, none⟩) (len i) (cp i))) ∧
    ∀ i, i < n → L ≤ bl i ∧ bl i < H ∧ RowN w 58 (bl i) (len i) (g i) ∧ ∀ j, j < i → bl j ≠ bl i
theorem Laid.keep {w w' : World} {L H n : Nat} {A : Option Addr} {len : Nat → Nat} {g : Nat → Nat → Nd} (h : Laid w L H A n len g) (hk : ∀ x, L ≤ x → x < H → w'.heap[x]? = w.heap[x]?) : Laid w' L H A n len g := by
  obtain ⟨gg, bl, cp, h1, h2⟩ := h
  refine ⟨gg, bl, cp, fun h0 => ?_, fun i hi => ?_⟩
  · obtain ⟨a, b, c, ⟨cs, d⟩, e⟩ := h1 h0
    exact ⟨a, b, c, ⟨cs, (hk gg b c).trans d⟩, fun i hi => (World.cell?_of_block (hk gg b c)).trans (e i hi)⟩
  · obtain ⟨a, b, c, d⟩ := h2 i hi
    exact ⟨a, b, c.keep (hk _ a b), d⟩
theorem Laid.less {w : World} {L L' H H' n : Nat} {A : Option Addr} {len : Nat → Nat} {g : Nat → Nat → Nd} (h : Laid w L H A n len g) (hL : L' ≤ L) (hH : H ≤ H') : Laid w L' H' A n len g := by
  obtain ⟨gg, bl, cp, h1, h2⟩ := h
  refine ⟨gg, bl, cp, fun h0 => ?_, fun i hi => ?_⟩
  · obtain ⟨a, b, c, d⟩ := h1 h0
    exact ⟨a, by omega, by omega, d⟩
  · obtain ⟨a, b, c⟩ := h2 i hi
    exact ⟨by omega, by omega, c⟩
theorem Laid.below {w w' : World} {L H n : Nat} {A : Option Addr} {len : Nat → Nat} {g : Nat → Nat → Nd} (h : Laid w L H A n len g) (hb : Below w.heap.size w w') (hH : H ≤ w.heap.size) : Laid w' L H A n len g :=
  h.keep fun x _ hx => hb.block x (by omega)
theorem Laid.rdT {w : World} {L H n : Nat} {A : Option Addr} {len : Nat → Nat} {g : Nat → Nat → Nd} (h : Laid w L H A n len g) : RdT w w.heap.size A n len g := fun hn => by
  obtain ⟨gg, bl, cp, h1, h2⟩ := h
  obtain ⟨hA, _, _, ⟨cs, hB⟩, hc⟩ := h1 hn
  exact ⟨gg, 0, hA, Blk.lt hB, fun i hi => ⟨some ⟨bl i, 0, none⟩, cp i, by rw [Nat.zero_add]; exact hc i hi, rdN_of (h2 i hi).2.2.1⟩⟩
theorem laid_none {w : World} {L H : Nat} {A : Option Addr} {len : Nat → Nat} {g : Nat → Nat → Nd} : Laid w L H A 0 len g := ⟨0, fun _ => 0, fun _ => 0, fun h => absurd h (by omega), fun i hi => by omega⟩

/-- Only what lies from L to H was written. -/
def KeptR (L H : Nat) (w w' : World) : Prop := w'.os = w.os ∧ w'.tape = w.tape ∧ w'.output = w.output ∧ w.heap.size ≤ w'.heap.size ∧ ∀ x, x < w.heap.size → (x < L ∨ H ≤ x) → w'.heap[x]? = w.heap[x]?
theorem KeptR.refl (L H : Nat) (w : World) : KeptR L H w w := ⟨rfl, rfl, rfl, Nat.le_refl _, fun _ _ _ => rfl⟩
theorem KeptR.grown {L H b : Nat} {w w1 w2 : World} (h : KeptR L H w w1) (hg : w1.grownBy w2 (some b)) (hb : L ≤ b ∧ b < H) : KeptR L H w w2 :=
  ⟨hg.os.trans h.1, hg.tape.trans h.2.1, hg.output.trans h.2.2.1, Nat.le_trans h.2.2.2.1 hg.size, fun x hx hr => (hg.block x (Nat.lt_of_lt_of_le hx h.2.2.2.1) (by intro e; injection e with e; omega)).trans (h.2.2.2.2 x hx hr)⟩
theorem KeptR.after {L H : Nat} {w w1 w2 : World} (hb : Below w.heap.size w w1) (h : KeptR L H w1 w2) : KeptR L H w w2 :=
  ⟨h.1.trans hb.os, h.2.1.trans hb.tape, h.2.2.1.trans hb.output, Nat.le_trans hb.size h.2.2.2.1, fun x hx hr => (h.2.2.2.2 x (Nat.lt_of_lt_of_le hx hb.size) hr).trans (hb.block x hx)⟩
theorem KeptR.below {L H B : Nat} {a w w' : World} (h : KeptR L H w w') (hb : Below B a w) (hBL : B ≤ L) (hs : B ≤ w.heap.size) : Below B a w' :=
  ⟨h.1.trans hb.os, h.2.1.trans hb.tape, h.2.2.1.trans hb.output, Nat.le_trans hb.size h.2.2.2.1, fun x hx => (h.2.2.2.2 x (by omega) (.inl (by omega))).trans (hb.block x hx)⟩

/-- The content that a mark writes. -/
def mkT (k0 : Int) (len : Nat → Nat) : Nat → Nat → Nd := fun i => mkN (k0 + 6 * (cumL len i : Nat))

end

/-! ### FlR -/
section
set_option linter.unusedVariables false
set_option linter.unusedSimpArgs false
open Go.RowKit Go.Deep

theorem own_moreF {w : World} {B B2 : Nat} {e : TypeId} {size : Nat} {v : Value} {n : Nat} {xs : List Value} (h : w.ownsRow B2 e size v n xs) (hB : B ≤ B2) : w.ownsRow B e size v n xs := by
  refine ⟨h.1, ?_⟩
  rcases h.2 with h0 | ⟨g, cap, cur, hv, hb, rest⟩
  · exact .inl h0
  · exact .inr ⟨g, cap, cur, hv, Nat.le_trans hB hb, rest⟩
def upF {α : Type} (f : Nat → α) (j : Nat) (x : α) : Nat → α := fun i => if i = j then x else f i
theorem upF_same {α : Type} (f : Nat → α) (j : Nat) (x : α) : upF f j x j = x := if_pos rfl
theorem upF_other {α : Type} {f : Nat → α} {j i : Nat} {x : α} (h : i ≠ j) : upF f j x i = f i := if_neg h
/-- How long list j is: the first one n, the next q one more than p, the others p. -/
def nsF (n p q : Nat) : Nat → Nat
  | 0 => n
  | j + 1 => if j < q then p + 1 else p
abbrev slF (As : Nat → Option Addr) (cs : Nat → Nat) (n p q j : Nat) : Value := .slice (As j) (nsF n p q j) (cs j)
abbrev flC (f b : Int) (As : Nat → Option Addr) (cs : Nat → Nat) (n p q : Nat) : Array Value :=
  #[.int .i64 f, .int .i64 b, slF As cs n p q 0, slF As cs n p q 1, slF As cs n p q 2, slF As cs n p q 3, slF As cs n p q 4, slF As cs n p q 5, slF As cs n p q 6]
abbrev nilF : Array Value := #[.int .i64 0, .int .i64 0, .slice none 0 0, .slice none 0 0, .slice none 0 0, .slice none 0 0, .slice none 0 0, .slice none 0 0, .slice none 0 0]
/-- Seven lists of numbers, each in memory of its own. -/
def Lists (w : World) (B : Nat) (As : Nat → Option Addr) (cs : Nat → Nat) (n p q : Nat) (zs : Nat → Nat → Int) : Prop :=
  ∀ j, j < 7 → w.ownsRow B 2 1 (slF As cs n p q j) (nsF n p q j) (numsOf (nsF n p q j) (zs j)) ∧ ∀ i, i < j → ∀ x, (slF As cs n p q j).ownBlock = some x → (slF As cs n p q i).ownBlock ≠ some x
theorem nsF_old {n p q j : Nat} (h : j ≠ q + 1) : nsF n p (q + 1) j = nsF n p q j := by
  cases j with
  | zero => rfl
  | succ j => simp only [nsF]; split <;> split <;> omega
theorem nsF_new (n p q : Nat) : nsF n p (q + 1) (q + 1) = p + 1 := by simp only [nsF]; rw [if_pos (by omega)]
theorem nsF_cur (n p q : Nat) : nsF n p q (q + 1) = p := by simp only [nsF]; rw [if_neg (by omega)]
theorem nsF_full {n p j : Nat} (h : j < 7) : nsF n p 6 j = nsF n (p + 1) 0 j := by
  cases j with
  | zero => rfl
  | succ j => simp only [nsF]; rw [if_pos (by omega), if_neg (by omega)]
section
variable {w : World} {B n p q : Nat} {As : Nat → Option Addr} {cs : Nat → Nat} {zs : Nat → Nat → Int}
theorem Lists.keep {w' : World} (h : Lists w B As cs n p q zs) (hk : ∀ x c, B ≤ x → Blk w x 2 c → w'.heap[x]? = w.heap[x]?) : Lists w' B As cs n p q zs := fun j hj =>
  ⟨own_keepJ (h j hj).1 fun g hg _ ho => by
    obtain ⟨_, _, c, hc⟩ := own_ltJ (h j hj).1 g ho
    exact hk g c hg hc, (h j hj).2⟩
theorem Lists.below {w' : World} (h : Lists w B As cs n p q zs) (hb : Below w.heap.size w w') : Lists w' B As cs n p q zs := h.keep fun x _ _ hc => hb.block x hc.lt
theorem Lists.full (h : Lists w B As cs n p 6 zs) : Lists w B As cs n (p + 1) 0 zs := by
  intro j hj
  have e : ∀ i, i < 7 → slF As cs n p 6 i = slF As cs n (p + 1) 0 i := fun i hi => by show Value.slice _ _ _ = Value.slice _ _ _; rw [nsF_full hi]
  obtain ⟨h1, h2⟩ := h j hj
  rw [e j hj, nsF_full hj] at h1
  refine ⟨h1, fun i hi x hx => ?_⟩
  rw [← e j hj] at hx
  rw [← e i (by omega)]
  exact h2 i hi x hx
/-- One number more in list j. -/
theorem Lists.step {w5 : World} {n' p' q' j gg c5 m : Nat} {O : Obj} (h : Lists w B As cs n p q zs) (hj : j < 7) (hm : nsF n p q j = m) (hm' : nsF n' p' q' j = m + 1) (ho : ∀ i, i ≠ j → nsF n' p' q' i = nsF n p q i)
    (hown : w5.ownsRow B 2 1 (.slice (some ⟨gg, 0, none⟩) (m + 1) c5) (m + 1) (numsOf (m + 1) (zs j))) (hg : (w.alloc O).grownBy w5 (Value.slice (As j) m (cs j)).ownBlock) (hat : (Value.slice (As j) m (cs j)).ownBlock = some gg ∨ gg = w.heap.size + 1) :
    Lists w5 B (upF As j (some ⟨gg, 0, none⟩)) (upF cs j c5) n' p' q' zs := by
  have hs : ∀ i, i ≠ j → slF (upF As j (some ⟨gg, 0, none⟩)) (upF cs j c5) n' p' q' i = slF As cs n p q i := fun i hi => by show Value.slice _ _ _ = Value.slice _ _ _; rw [upF_other hi, upF_other hi, ho i hi]
  have hsj : slF (upF As j (some ⟨gg, 0, none⟩)) (upF cs j c5) n' p' q' j = .slice (some ⟨gg, 0, none⟩) (m + 1) c5 := by show Value.slice _ _ _ = _; rw [upF_same, upF_same, hm']
  have hcj : slF As cs n p q j = .slice (As j) m (cs j) := by show Value.slice _ _ _ = _; rw [hm]
  have hfar : ∀ i, i < 7 → i ≠ j → ∀ x, (slF As cs n p q i).ownBlock = some x → (slF As cs n p q j).ownBlock ≠ some x := by
    intro i hi hne x hx
    rcases Nat.lt_or_gt_of_ne hne with hlt | hgt
    · exact fun e => (h j hj).2 i hlt x e hx
    · exact (h i hi).2 j hgt x hx
  have hgg : ∀ i, i < 7 → i ≠ j → (slF As cs n p q i).ownBlock ≠ some gg := by
    intro i hi hne e
    rcases hat with hat | hat
    · exact hfar i hi hne gg e (by rw [hcj]; exact hat)
    · have := (own_ltJ (h i hi).1 gg e).2.1
      omega
  intro i hi
  by_cases e : i = j
  · subst e
    rw [hsj, hm']
    refine ⟨hown, fun k hk x hx => ?_⟩
    injection hx with hx
    have hx : gg = x := hx
    subst hx
    rw [hs k (by omega)]
    exact hgg k (by omega) (by omega)
  · rw [hs i e, ho i e]
    refine ⟨own_keepJ (h i hi).1 fun g _ hg2 hgo => ?_, fun k hk x hx => ?_⟩
    · refine (hg.block g (by rw [World.size_alloc]; omega) ?_).trans (Below.heap_alloc w O g hg2)
      intro e2
      exact hfar i hi e g hgo (by rw [hcj]; exact e2.symm)
    · by_cases ek : k = j
      · subst ek
        rw [hsj]
        intro e2
        injection e2 with e2
        have e2 : gg = x := e2
        subst e2
        exact hgg i hi e hx
      · rw [hs k ek]
        exact (h i hi).2 k hk x hx
end

def oneF (A : Option Addr) : Nat → Option Addr := fun j => match j with | 0 => A | _ => none
def oneC (c : Nat) : Nat → Nat := fun j => match j with | 0 => c | _ => 0
theorem Lists.less {w : World} {B B' n p q : Nat} {As : Nat → Option Addr} {cs : Nat → Nat} {zs : Nat → Nat → Int} (h : Lists w B As cs n p q zs) (hB : B' ≤ B) : Lists w B' As cs n p q zs := fun j hj => ⟨own_moreF (h j hj).1 hB, (h j hj).2⟩
theorem own_rdF {w : World} {B n c : Nat} {A : Option Addr} {z : Nat → Int} (h : w.ownsRow B 2 1 (.slice A n c) n (numsOf n z)) : Rd w w.heap.size A n z := fun hn => by
  obtain ⟨g, c', e, _, hr⟩ := own_row h hn
  injection e with e1 e2 e3
  subst e1
  exact hr.rd hr.lt hn
/-- Seven lists to be read. -/
def RdL (w : World) (B : Nat) (As : Nat → Option Addr) (n p : Nat) (zs : Nat → Nat → Int) : Prop := ∀ j, j < 7 → Rd w B (As j) (nsF n p 0 j) (zs j)
theorem Lists.rdL {w : World} {B n p : Nat} {As : Nat → Option Addr} {cs : Nat → Nat} {zs : Nat → Nat → Int} (h : Lists w B As cs n p 0 zs) : RdL w w.heap.size As n p zs := fun j hj => own_rdF (h j hj).1
theorem RdL.below {w w' : World} {B n p : Nat} {As : Nat → Option Addr} {zs : Nat → Nat → Int} (h : RdL w B As n p zs) (hb : Below B w w') : RdL w' B As n p zs := fun j hj => (h j hj).below hb
theorem RdL.more {w : World} {B B' n p : Nat} {As : Nat → Option Addr} {zs : Nat → Nat → Int} (h : RdL w B As n p zs) (hB : B ≤ B') : RdL w B' As n p zs := fun j hj => (h j hj).more hB
theorem RdL.to {w w' : World} {n p : Nat} {As : Nat → Option Addr} {zs : Nat → Nat → Int} (h : RdL w w.heap.size As n p zs) (hb : Below w.heap.size w w') : RdL w' w'.heap.size As n p zs := (h.below hb).more hb.size

/-- Seven lists, each from the start of its block, the blocks from L to H and different. -/
def RowsF (w : World) (L H : Nat) (As : Nat → Option Addr) (n p : Nat) (bl : Nat → Nat) (zs : Nat → Nat → Int) : Prop :=
  ∀ j, j < 7 → 0 < nsF n p 0 j → (As j = some ⟨bl j, 0, none⟩ ∧ L ≤ bl j ∧ bl j < H ∧ Row w 2 (bl j) (nsF n p 0 j) (zs j)) ∧ ∀ i, i < 7 → i ≠ j → 0 < nsF n p 0 i → bl i ≠ bl j
theorem RowsF.keep {w w' : World} {L H n p : Nat} {As : Nat → Option Addr} {bl : Nat → Nat} {zs : Nat → Nat → Int} (h : RowsF w L H As n p bl zs) (hk : ∀ x, L ≤ x → x < H → w'.heap[x]? = w.heap[x]?) : RowsF w' L H As n p bl zs := fun j hj hp => by
  obtain ⟨⟨h1, h2, h3, h4⟩, h5⟩ := h j hj hp
  exact ⟨⟨h1, h2, h3, h4.keep (hk _ h2 h3)⟩, h5⟩
theorem RowsF.congr {w : World} {L H n p : Nat} {As : Nat → Option Addr} {bl : Nat → Nat} {zs ys : Nat → Nat → Int} (h : RowsF w L H As n p bl zs) (he : ∀ j, j < 7 → ∀ i, i < nsF n p 0 j → zs j i = ys j i) : RowsF w L H As n p bl ys := fun j hj hp => by
  obtain ⟨⟨h1, h2, h3, h4⟩, h5⟩ := h j hj hp
  exact ⟨⟨h1, h2, h3, h4.congr (he j hj)⟩, h5⟩
theorem Lists.rows {w : World} {B n p : Nat} {As : Nat → Option Addr} {cs : Nat → Nat} {zs : Nat → Nat → Int} (h : Lists w B As cs n p 0 zs) : ∃ bl, RowsF w B w.heap.size As n p bl zs := by
  refine ⟨fun j => match As j with | some a => a.block | none => 0, fun j hj hp => ?_⟩
  obtain ⟨g, c, e, hb, hr⟩ := own_row (h j hj).1 hp
  injection e with e1 e2 e3
  have hbl : (match As j with | some a => a.block | none => 0) = g := by rw [e1]
  simp only [hbl]
  refine ⟨⟨e1, hb, hr.lt, hr⟩, fun i hi hne hpi => ?_⟩
  obtain ⟨g2, c2, f, hb2, hr2⟩ := own_row (h i hi).1 hpi
  injection f with f1 f2 f3
  rw [f1]
  intro eg
  have eg : g2 = g := eg
  subst eg
  rcases Nat.lt_or_gt_of_ne hne with hlt | hgt
  · exact (h j hj).2 i hlt g2 (by show Value.ownBlock (Value.slice (As j) _ _) = _; rw [e1]; rfl) (by show Value.ownBlock (Value.slice (As i) _ _) = _; rw [f1]; rfl)
  · exact (h i hi).2 j hgt g2 (by show Value.ownBlock (Value.slice (As i) _ _) = _; rw [f1]; rfl) (by show Value.ownBlock (Value.slice (As j) _ _) = _; rw [e1]; rfl)
theorem RowsF.rdL {w : World} {L H n p : Nat} {As : Nat → Option Addr} {bl : Nat → Nat} {zs : Nat → Nat → Int} (h : RowsF w L H As n p bl zs) : RdL w H As n p zs := fun j hj hp => by
  obtain ⟨⟨h1, h2, h3, h4⟩, _⟩ := h j hj hp
  rw [h1]
  exact h4.rd h3 hp
def MarkK (L H : Nat) (w w' : World) : Prop := KeptR L H w w' ∧ ∀ (x : Nat) (t : TypeId) (c : Array Value), 2 ≠ t → Blk w x t c → Blk w' x t c
theorem MarkK.trans {L H : Nat} {a b d : World} (h : MarkK L H a b) (k : MarkK L H b d) : MarkK L H a d := by
  obtain ⟨⟨h1, h2, h3, h4, h5⟩, h6⟩ := h
  obtain ⟨⟨k1, k2, k3, k4, k5⟩, k6⟩ := k
  exact ⟨⟨k1.trans h1, k2.trans h2, k3.trans h3, Nat.le_trans h4 k4, fun x hx hr => (k5 x (by omega) hr).trans (h5 x hx hr)⟩, fun x t c hne hb => k6 x t c hne (h6 x t c hne hb)⟩
theorem MarkK.alloc {L H : Nat} {w : World} (_hH : H ≤ w.heap.size) (o : Obj) : MarkK L H w (w.alloc o) :=
  ⟨⟨rfl, rfl, rfl, by rw [World.size_alloc]; omega, fun x hx _ => Below.heap_alloc w o x hx⟩, fun _ _ _ _ hb => hb.alloc o⟩
/-- The numbers that a mark writes. -/
def mkS (k0 : Int) (n p : Nat) : Nat → Int
  | 0 => k0
  | 1 => k0 + n
  | 2 => k0 + n + p
  | 3 => k0 + n + p + p
  | 4 => k0 + n + p + p + p
  | 5 => k0 + n + p + p + p + p
  | _ => k0 + n + p + p + p + p + p
def mkZ (k0 : Int) (n p : Nat) (j i : Nat) : Int := mkS k0 n p j + i

theorem RdL.keepH {w w' : World} {B n p : Nat} {As : Nat → Option Addr} {zs : Nat → Nat → Int} (h : RdL w B As n p zs) (hk : ∀ x, x < B → w'.heap[x]? = w.heap[x]?) : RdL w' B As n p zs := fun j hj => (h j hj).keep fun p hp => World.cell?_of_block (hk p.block hp)
end

/-! ### PlG -/
section
set_option linter.unusedVariables false
set_option linter.unusedSimpArgs false
open Go.RowKit Go.Deep
set_option linter.unusedVariables false
set_option linter.unusedSimpArgs false

def endZ (n st : Nat) : Nat → Int := fun j => if (j + 1) * st < n then (((j + 1) * st : Nat) : Int) else (n : Int)
def endN (n st : Nat) : Nat := if n = 0 then 0 else (n - 1) / st + 1
theorem endN_of {n st k : Nat} (h1 : k = 0 ∨ k * st < n) (h2 : ¬ (k + 1) * st < n) (hn : 0 < n) : endN n st = k + 1 := by
  unfold endN
  rw [if_neg (by omega)]
  congr 1
  refine Nat.div_eq_of_lt_le ?_ (by omega)
  rcases h1 with rfl | h
  · omega
  · omega
theorem numsOf_snoc {k : Nat} {z : Nat → Int} {x : Int} (h : z k = x) : numsOf (k + 1) z = numsOf k z ++ [.int .i64 x] := by
  unfold numsOf
  rw [List.range_succ, List.map_append, List.map_cons, List.map_nil, h]
theorem endZ_lt {n st k m : Nat} (hm : (k + 1) * st = m) (h : m < n) : endZ n st k = (m : Int) := by
  unfold endZ
  rw [hm, if_pos h]
theorem endZ_ge {n st k m : Nat} (hm : (k + 1) * st = m) (h : ¬ m < n) : endZ n st k = (n : Int) := by
  unfold endZ
  rw [hm, if_neg h]
theorem k_le {k st n : Nat} (h : k = 0 ∨ k * st < n) (hs : 1 ≤ st) (hn : n ≤ 12) : k ≤ 12 := by
  rcases h with rfl | h
  · omega
  · have := Nat.le_mul_of_pos_right k hs
    omega

end

/-! ### PlF -/
section
set_option linter.unusedVariables false
set_option linter.unusedSimpArgs false
open Go.RowKit Go.Deep
set_option linter.unusedVariables false
set_option linter.unusedSimpArgs false

theorem setC4 {w : World} {b : Nat} {t : TypeId} {x y z u : Value} (h : Blk w b t #[x, y, z, u]) (v : Value) : Blk (w.setCell ⟨b, 0, none⟩ v) b t #[v, y, z, u] ∧ Blk (w.setCell ⟨b, 1, none⟩ v) b t #[x, v, z, u] ∧ Blk (w.setCell ⟨b, 2, none⟩ v) b t #[x, y, v, u] ∧ Blk (w.setCell ⟨b, 3, none⟩ v) b t #[x, y, z, v] :=
  ⟨h.set_ 0 v, h.set_ 1 v, h.set_ 2 v, h.set_ 3 v⟩
end
end Go.Proofs.YtmkipdhappikhaaGreatDoor
