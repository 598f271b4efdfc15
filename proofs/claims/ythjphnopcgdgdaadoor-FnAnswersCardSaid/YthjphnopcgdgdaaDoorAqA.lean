/- Drawn answers: what holds while they are drawn. -/
import Derived.Test.YthjphnopcgdgdaaDoorDiA
import Derived.Test.YthjphnopcgdgdaaDoorAnI
import Derived.Test.YthjphnopcgdgdaaDoorRdL
namespace Go.Proofs.YthjphnopcgdgdaaDoor
open Go.RowKit Go.Deep

/-! ### rows by lists -/
def numsL (L : List Int) : List Value := L.map (Value.int .i64)
def hitsL (L : List Ht) : List Value := L.flatMap htC
theorem numsL_len (L : List Int) : (numsL L).length = L.length * 1 := by simp [numsL]
theorem hitsL_len (L : List Ht) : (hitsL L).length = L.length * 2 := by
  induction L with
  | nil => rfl
  | cons d L ih => show (htC d ++ hitsL L).length = _; rw [List.length_append, ih]; simp [htC]; omega
theorem numsL_snoc (L : List Int) (x : Int) : numsL (L ++ [x]) = numsL L ++ [.int .i64 x] := by simp [numsL]
theorem hitsL_snoc (L : List Ht) (x : Ht) : hitsL (L ++ [x]) = hitsL L ++ htC x := by simp [hitsL]
theorem own_at {w : World} {B : Nat} {e : TypeId} {size : Nat} {A' : Option Addr} {m c : Nat} {xs : List Value} (h : w.ownsRow B e size (.slice A' m c) m xs) (hm : 0 < m) :
    ∃ g, A' = some ⟨g, 0, none⟩ ∧ B ≤ g ∧ g < w.heap.size ∧ ∀ j u, xs[j]? = some u → w.cell? ⟨g, j, none⟩ = some u := by
  rcases h.2 with ⟨_, h0⟩ | ⟨g, cap, cur, hv, hb, hg, _, _, _, ht⟩
  · omega
  · injection hv with e1 _ _
    refine ⟨g, e1, hb, Blk.lt hg, fun j u hu => ?_⟩
    rw [← ht, List.getElem?_take] at hu
    split at hu
    · rw [Array.getElem?_toList] at hu
      exact (cell_of_row w g j cur e (0, 0) hg).trans hu
    · cases hu
theorem own_rdI {w : World} {B : Nat} {A : Option Addr} {c : Nat} {L : List Int} (h : w.ownsRow B 2 1 (.slice A L.length c) L.length (numsL L)) : Rd w w.heap.size A L.length (fun i => L.getD i 0) := fun hm => by
  obtain ⟨g, rfl, _, hg, hc⟩ := own_at h hm
  refine ⟨g, 0, rfl, hg, fun i hi => ?_⟩
  rw [Nat.zero_add]
  refine hc i _ ?_
  show (numsL L)[i]? = some (.int .i64 (L.getD i 0))
  unfold numsL
  rw [List.getElem?_map, List.getD_eq_getElem?_getD, List.getElem?_eq_getElem hi]
  rfl
theorem hitsL_at : ∀ (L : List Ht) (i j : Nat), i < L.length → j < 2 → (hitsL L)[i * 2 + j]? = (htC (L.getD i ⟨0, 0⟩))[j]?
  | [], i, j, h, _ => by simp at h
  | d :: L, 0, j, _, hj => by
    show (htC d ++ hitsL L)[0 * 2 + j]? = _
    rw [List.getElem?_append_left (by simp [htC]; omega), Nat.zero_mul, Nat.zero_add]
    rfl
  | d :: L, i + 1, j, h, hj => by
    show (htC d ++ hitsL L)[(i + 1) * 2 + j]? = _
    rw [List.getElem?_append_right (by simp [htC]; omega)]
    have e : (i + 1) * 2 + j - (htC d).length = i * 2 + j := by simp [htC]; omega
    rw [e, hitsL_at L i j (by simpa using h) hj]
    rfl
theorem own_rdH {w : World} {B : Nat} {A : Option Addr} {c : Nat} {L : List Ht} (h : w.ownsRow B 25 2 (.slice A L.length c) L.length (hitsL L)) : RdH w w.heap.size A L.length (fun i => L.getD i ⟨0, 0⟩) := fun hm => by
  obtain ⟨g, rfl, _, hg, hc⟩ := own_at h hm
  refine ⟨g, 0, rfl, hg, fun i hi => ⟨?_, ?_⟩⟩
  · rw [Nat.zero_add]
    exact hc (i * 2) _ (by have := hitsL_at L i 0 hi (by omega); rw [Nat.add_zero] at this; rw [this]; rfl)
  · rw [Nat.zero_add]
    exact hc (i * 2 + 1) _ (by rw [hitsL_at L i 1 hi (by omega)]; rfl)
theorem own_apartA {w : World} {B B' : Nat} {e e' : TypeId} {size size' : Nat} {v v' : Value} {n n' : Nat} {xs xs' : List Value} (h : w.ownsRow B e size v n xs) (h' : w.ownsRow B' e' size' v' n' xs') (he : e ≠ e') : v.ownBlock = none ∨ v.ownBlock ≠ v'.ownBlock := by
  rcases h.2 with ⟨rfl, _⟩ | ⟨g, cap, cur, rfl, _, hg, _⟩
  · exact .inl rfl
  · rcases h'.2 with ⟨rfl, _⟩ | ⟨g', cap', cur', rfl, _, hg', _⟩
    · right; simp [Value.ownBlock]
    · right
      intro e1
      have e2 : g = g' := by simpa [Value.ownBlock] using e1
      subst e2
      rw [hg] at hg'
      injection hg' with hg'
      injection hg' with _ h3 _
      exact he h3

/-! ### the world while an answer is drawn -/
structure AQ (w0 : World) (R n cap : Nat) (A : Option Addr) (q : Nat) (co ct : Int) (nv hv : Value) (w : World) : Prop where
  rd : Rs w R A n cap
  res : Blk w w0.heap.size 44 (anC 0 none 0 0 none 0 0 0)
  ans : Blk w q 44 #[.int .i64 co, nv, hv, .int .i64 ct]
  lt1 : w0.heap.size < R
  lt2 : R < q
  bel : Below w0.heap.size w0 w
section
variable {w0 w w' : World} {R n cap : Nat} {A : Option Addr} {q : Nat} {co ct : Int} {nv hv : Value}
theorem AQ.grown (h : AQ w0 R n cap A q co ct nv hv w) (hR : Rs w' R A n cap) (hg : w.grownBy w' (some R)) : AQ w0 R n cap A q co ct nv hv w' :=
  ⟨hR, h.res.grown hg (by intro e; injection e with e; have := h.lt1; omega), h.ans.grown hg (by intro e; injection e with e; have := h.lt2; omega), h.lt1, h.lt2, h.bel.grown hg h.bel.size (fun k e => by injection e with e; have := h.lt1; omega)⟩
theorem AQ.alloc (h : AQ w0 R n cap A q co ct nv hv w) (o : Obj) : AQ w0 R n cap A q co ct nv hv (w.alloc o) :=
  ⟨h.rd.alloc o, h.res.alloc o, h.ans.alloc o, h.lt1, h.lt2, h.bel.alloc h.bel.size o⟩
theorem AQ.own {row : Option Nat} (h : AQ w0 R n cap A q co ct nv hv w) (hg : w.grownBy w' row) (hr : ∀ k, row = some k → q + 1 ≤ k) : AQ w0 R n cap A q co ct nv hv w' :=
  ⟨h.rd.keep fun b hb => hg.block b (Nat.lt_of_le_of_lt hb h.rd.lt) (fun e => by have := hr b e.symm; have := h.lt2; omega), h.res.grown hg (fun e => by have := hr _ e.symm; have := h.lt1; have := h.lt2; omega),
   h.ans.grown hg (fun e => by have := hr _ e.symm; omega), h.lt1, h.lt2, h.bel.grown hg h.bel.size (fun k e => by have := hr k e; have := h.lt1; have := h.lt2; omega)⟩
theorem AQ.setN (h : AQ w0 R n cap A q co ct nv hv w) (v : Value) : AQ w0 R n cap A q co ct v hv (w.setCell ⟨q, 1, none⟩ v) :=
  ⟨rs_set h.rd h.lt2 _, h.res.far (p := ⟨q, 1, none⟩) (by have := h.lt1; have := h.lt2; show w0.heap.size ≠ q; omega) _, h.ans.set_ 1 v, h.lt1, h.lt2, h.bel.setCell (p := ⟨q, 1, none⟩) (by have := h.lt1; have := h.lt2; show w0.heap.size ≤ q; omega) _⟩
theorem AQ.setH (h : AQ w0 R n cap A q co ct nv hv w) (v : Value) : AQ w0 R n cap A q co ct nv v (w.setCell ⟨q, 2, none⟩ v) :=
  ⟨rs_set h.rd h.lt2 _, h.res.far (p := ⟨q, 2, none⟩) (by have := h.lt1; have := h.lt2; show w0.heap.size ≠ q; omega) _, h.ans.set_ 2 v, h.lt1, h.lt2, h.bel.setCell (p := ⟨q, 2, none⟩) (by have := h.lt1; have := h.lt2; show w0.heap.size ≤ q; omega) _⟩
theorem AQ.setC (h : AQ w0 R n cap A q co ct nv hv w) (x : Int) : AQ w0 R n cap A q x ct nv hv (w.setCell ⟨q, 0, none⟩ (.int .i64 x)) :=
  ⟨rs_set h.rd h.lt2 _, h.res.far (p := ⟨q, 0, none⟩) (by have := h.lt1; have := h.lt2; show w0.heap.size ≠ q; omega) _, h.ans.set_ 0 _, h.lt1, h.lt2, h.bel.setCell (p := ⟨q, 0, none⟩) (by have := h.lt1; have := h.lt2; show w0.heap.size ≤ q; omega) _⟩
theorem own_setq {e : TypeId} {size : Nat} {v : Value} {m o : Nat} {xs : List Value} (h : w.ownsRow (q + 1) e size v m xs) (u : Value) : (w.setCell ⟨q, o, none⟩ u).ownsRow (q + 1) e size v m xs := by
  refine h.kept (grown_set u) ?_
  cases hv : v.ownBlock with
  | none => exact .inl rfl
  | some k => right; have := (h.lt k hv).1; simp; omega
end

theorem run_build_ans (co ct : Int) (w : World) : (Instr.build 44 #[(0, .int .i64 co), (3, .int .i64 ct)]).run Tryd.prog w = .ok (.agg (anC co none 0 0 none 0 0 ct)) w := run_build w 44 _ _ (by kernel_rfl)
end Go.Proofs.YthjphnopcgdgdaaDoor
