/- Tables of plans: the library's Insert and Backward, the fold, both sides. -/
import Derived.Shelf.Spec.SlicesInsertGrow
import Derived.Deep.RegionLaw
import Derived.Test.YtlgomifpohdniaaGreatK1
import Derived.Test.YtlgomifpohdniaaGreatProg
import Derived.Test.YtlgomifpohdniaaGreatK3
import Derived.Test.YtlgomifpohdniaaGreatK8
import Derived.Deep.RegionHeld3
import Derived.RangeFuncNested
import Derived.RangeFuncBound
import Derived.RangeFuncCalls
import Derived.RangeFuncLeaves
import Derived.RangeFuncBox
import Derived.Shelf.Abstract
import Derived.Shelf.RegionOpen
import Derived.WalkKit
import Derived.OwnWalkIn
import Derived.TacticsInMore
import Derived.LoopNIn
import Derived.LoopIn
import Derived.Deep.QuietTactic
import Derived.BigQuiet
namespace Go.Proofs.YtlgomifpohdniaaGreat

/-! ### Ins -/
section
set_option linter.unusedVariables false
set_option linter.unusedSimpArgs false
open Go.RowKit Go.Deep Go.Lib

theorem insInfo : (Tryz.prog.info? 2).map (fun i => (i.zero, i.size, i.bytes)) = some (some (.int .i64 0), 1, 8) := by kernel_rfl
theorem insSize : ∀ w, (Go.sizeOf 2).run Tryz.prog w = .ok 1 w := fun _ => by kernel_rfl

set_option maxHeartbeats 4000000 in
set_option maxRecDepth 100000 in
theorem ins_shift (b off n c i vb voff m vc : Nat) (cs vs : List Value) (w : World) (hi : i < n) (hm : 0 < m) (hroom : n + m ≤ c) (hc63 : c ≤ 9223372036854775807) (hvb : vb ≠ b)
    (hcl : cs.length = n) (hvl : vs.length = m)
    (hcs : ∀ j v, cs[j]? = some v → w.cell? ⟨b, off + j, none⟩ = some v) (hsp : ∀ j, j < n + m → (w.cell? ⟨b, off + j, none⟩).isSome = true) (hfz : ∀ j, j < n + m → w.frozen? ⟨b, off + j, none⟩ = false)
    (hvs : ∀ j v, vs[j]? = some v → w.cell? ⟨vb, voff + j, none⟩ = some v) (h1c : ∀ v ∈ cs, v.oneCell' = true) (h1v : ∀ v ∈ vs, v.oneCell' = true)
    (tA tB : TypeId) (kA kB : Nat) (hsa : w.shape? vb = some (tA, kA)) (hsb : w.shape? b = some (tB, kB)) (hkB : kB ≠ 0) (hfa : w.frozen? ⟨vb, voff, none⟩ = false) (hfe : w.frozen? ⟨vb, kA, none⟩ = false) :
    Calls Tryz.prog 99 #[.slice (some ⟨b, off, none⟩) n c, .int .i64 i, .slice (some ⟨vb, voff, none⟩) m vc] w fun e w' =>
      e = .returned (.slice (some ⟨b, off, none⟩) (n + m) c) ∧ w' = (w.drew.setCells b (off + (i + m)) (cs.drop i)).setCells b (off + i) vs := by
  have hz1 : ¬ ((m : Int) = 0) := by omega
  have hz2 : ¬ ((i : Int) = (n : Int)) := by omega
  have hsz : (Tryz.prog.info? 2).map (·.size) = some 1 := by
    obtain ⟨i0, hi0, h0, h1, h2⟩ := info_parts insInfo
    rw [hi0]; simp [h1]
  have hov : ∀ lb cb, (callFunc 124 #[.slice (some ⟨vb, voff, none⟩) m vc, .slice (some ⟨b, off + (i + m), none⟩) lb cb]).run Tryz.prog w = .ok (.value (.bool false)) w := fun lb cb => by
    rw [run_callFunc_extern Tryz.func124 (by kernel_rfl) (by kernel_rfl) (by kernel_rfl) (e := Extern.SlicesOverlaps.overlaps #[27, 27] #[4]) (by kernel_rfl),
      Lib.run_overlaps_apart w 27 4 2 Tryz.underlying27 1 insSize ⟨vb, voff, none⟩ ⟨b, off + (i + m), none⟩ m vc lb cb hvb tA tB kA kB hsa hsb hkB hfa hfe]
    rfl
  have hdl : (cs.drop i).length = n - i := by rw [List.length_drop, hcl]
  have hw1 : IntKind.i64.wrap ((i : Int) + (m : Int)) = (i : Int) + (m : Int) := by rw [IntKind.wrap_i64]; omega
  have hb1 : (0 : Int) ≤ (i : Int) + (m : Int) := by omega
  have hin : i ≤ n := by omega
  have htn : ((i : Int) + (m : Int)).toNat = i + m := by omega
  have hb2 : ¬ (c = i + m) := by omega
  have hb3 : (i : Int) ≤ (n : Int) + (m : Int) := by omega
  have hb4 : ¬ (c = i) := by omega
  have hcp1 : ∀ ty dc sc, (Builtin.copy_ #[27, 27] ty #[.slice (some ⟨b, off + (i + m), none⟩) (n + m - (i + m)) dc, .slice (some ⟨b, off + i, none⟩) (n + m - i) sc]).run Tryz.prog w.drew = .ok (goInt (cs.drop i).length) (w.drew.setCells b (off + (i + m)) (cs.drop i)) := fun ty dc sc =>
    run_copy_cells w.drew _ _ ty 2 b (off + (i + m)) (n + m - (i + m)) dc ⟨b, off + i, none⟩ (n + m - i) sc (cs.drop i) Tryz.underlying27 hsz (by rw [hdl]; simp only [Nat.min_def]; split <;> omega)
      (fun j v hj => by rw [Addr.add_lit, Nat.add_assoc]; exact hcs (i + j) v (by rwa [List.getElem?_drop] at hj))
      (fun j hj => by rw [Nat.add_assoc]; exact hsp _ (by omega)) (fun j hj => by rw [Nat.add_assoc]; exact hfz _ (by omega)) (fun v hv => h1c v (List.mem_of_mem_drop hv))
  obtain ⟨W1, hW1⟩ : ∃ W1, W1 = w.drew.setCells b (off + (i + m)) (cs.drop i) := ⟨_, rfl⟩
  have hsp1 : ∀ k, k < n + m → (W1.cell? ⟨b, off + k, none⟩).isSome = true := fun k hk => by
    rw [hW1]
    exact isSome_setCells b _ _ _ (fun j hj => by rw [Nat.add_assoc]; exact hsp _ (by omega)) _ (hsp k hk)
  have hcp2 : ∀ (W : World), (∀ x, W.cell? x = W1.cell? x) → (∀ x, W.frozen? x = W1.frozen? x) → ∀ ty dc, (Builtin.copy_ #[27, 27] ty #[.slice (some ⟨b, off + i, none⟩) (n + m - i) dc, .slice (some ⟨vb, voff, none⟩) m vc]).run Tryz.prog W = .ok (goInt vs.length) (W.setCells b (off + i) vs) := fun W hWc hWf ty dc =>
    run_copy_cells W _ _ ty 2 b (off + i) (n + m - i) dc ⟨vb, voff, none⟩ m vc vs Tryz.underlying27 hsz (by rw [hvl]; simp only [Nat.min_def]; split <;> omega)
      (fun j v hj => by
        rw [Addr.add_lit, hWc, hW1, World.cell?_setCells_out b _ _ _ _ (fun h _ => absurd h hvb)]
        exact hvs j v hj)
      (fun j hj => by rw [hWc, Nat.add_assoc]; exact hsp1 _ (by omega)) (fun j hj => by rw [hWf, hW1, World.frozen?_setCells, Nat.add_assoc]; exact hfz _ (by omega)) h1v
  rw [← hW1] at hcp1
  go_enter Tryz.func99, Tryz.ntmps99
  go_wp2_with (simp only [hov])
  go_region_law (refine step_copy_runI rfl _ _ 27 27 rfl _ _ (by simp [Act.eval, Act.put]) (by simp [Act.eval, Act.put]) (hcp1 _ _ _) ?_)
  go_wp2_with (at_builtin; refine wpList_copy_runI _ rfl _ _ 27 27 rfl _ _ rfl rfl (hcp2 _ (fun _ => rfl) (fun _ => rfl) _ _) ?_)
  go_ret
  first | exact ⟨rfl, rfl⟩ | exact ⟨rfl, by rw [hW1]⟩

set_option maxHeartbeats 4000000 in
set_option maxRecDepth 100000 in
theorem ins_grow (b off n c i vb voff m vc : Nat) (cs vs : List Value) (w : World) (hi : i < n) (hm : 0 < m) (hnc : n ≤ c) (hroom : c < n + m) (hbig : (n + m) * 8 ≤ 140737488355328)
    (hcl : cs.length = n) (hvl : vs.length = m)
    (hcs : ∀ j v, cs[j]? = some v → w.cell? ⟨b, off + j, none⟩ = some v)
    (hvs : ∀ j v, vs[j]? = some v → w.cell? ⟨vb, voff + j, none⟩ = some v) (h1c : ∀ v ∈ cs, v.oneCell' = true) (h1v : ∀ v ∈ vs, v.oneCell' = true) :
    Calls Tryz.prog 99 #[.slice (some ⟨b, off, none⟩) n c, .int .i64 i, .slice (some ⟨vb, voff, none⟩) m vc] w fun e w' =>
      e = .returned (.slice (some ⟨w.heap.size, 0, none⟩) (n + m) (grownCap w (n + m) c 2)) ∧
      w' = (((w.alloc (.cells ((cs.take i).toArray ++ Builtin.zeroCells (Value.int .i64 0).cells (n + m - i) ++ Builtin.zeroCells (Value.int .i64 0).cells (grownCap w (n + m) c 2 - (n + m))) 2)).drew.setCells w.heap.size i vs).drew).setCells w.heap.size (i + m) (cs.drop i) := by
  obtain ⟨i0, hi0, hz0, hzs, hzb⟩ := info_parts insInfo
  have hz1 : ¬ ((m : Int) = 0) := by omega
  have hz2 : ¬ ((i : Int) = (n : Int)) := by omega
  have hz3 : (c : Int) < (n : Int) + (m : Int) := by omega
  have hsz : (Tryz.prog.info? 2).map (·.size) = some 1 := by rw [hi0]; simp [hzs]
  have hbw : b < w.heap.size := block_lt_of_cell (hcs 0 _ (List.getElem?_eq_getElem (by omega)))
  have hvw : vb < w.heap.size := block_lt_of_cell (hvs 0 _ (List.getElem?_eq_getElem (by omega)))
  have hkk : (n : Int) + (m : Int) - (i : Int) = ((n + m - i : Nat) : Int) := by omega
  have hik : i + (n + m - i) = n + m := by omega
  have hold : (Builtin.firstCells i0.size i (.slice (some ⟨b, off, none⟩) i c)).run Tryz.prog w.drew = .ok (cs.take i).toArray w.drew := by
    rw [hzs]
    exact run_firstCells_some w.drew 1 i ⟨b, off, none⟩ i c (cs.take i) (by rw [List.length_take]; omega) (fun j v hj => by
      rw [Addr.add_lit]
      rw [List.getElem?_take] at hj
      split at hj
      · exact hcs j v hj
      · cases hj)
  have hrz : ∀ ty, (Builtin.append_ #[27, 3] ty #[.slice (some ⟨b, off, none⟩) i c, .int .i64 ((n : Int) + (m : Int) - (i : Int))]).run Tryz.prog w =
      .ok (.slice (some ⟨w.heap.size, 0, none⟩) (n + m) (grownCap w (n + m) c 2)) (w.drew.alloc (.cells ((cs.take i).toArray ++ Builtin.zeroCells (Value.int .i64 0).cells (n + m - i) ++ Builtin.zeroCells (Value.int .i64 0).cells (grownCap w (n + m) c 2 - (n + m))) 2)) := fun ty => by
    have h := Lib.run_append_grow_zeros w 27 3 ty 2 i0 _ .i64 .i64 Tryz.underlying27 Tryz.underlying3 hi0 hz0 (some ⟨b, off, none⟩) i c (cs.take i) hold (n + m - i) (by omega) (by omega) (by omega) (by omega) (by rw [hzb]; omega) (by rw [hzb, hik]; exact growslice_fits hroom hbig)
    rw [hik] at h
    rw [hkk]
    exact h
  obtain ⟨G, hG⟩ : ∃ G, G = grownCap w (n + m) c 2 := ⟨_, rfl⟩
  obtain ⟨ROW, hROW⟩ : ∃ ROW : Array Value, ROW = (cs.take i).toArray ++ Builtin.zeroCells (Value.int .i64 0).cells (n + m - i) ++ Builtin.zeroCells (Value.int .i64 0).cells (G - (n + m)) := ⟨_, rfl⟩
  rw [← hG] at hrz ⊢
  rw [← hROW] at hrz ⊢
  have hRl : n + m ≤ ROW.size := by
    rw [hROW]
    simp [Builtin.zeroCells, Value.cells]
    omega
  obtain ⟨W1, hW1⟩ : ∃ W1, W1 = w.drew.alloc (.cells ROW 2) := ⟨_, rfl⟩
  rw [← hW1] at hrz
  have hN : ∀ j, j < n + m → (W1.cell? ⟨w.heap.size, j, none⟩).isSome = true := fun j hj => by
    rw [hW1, World.cell?_alloc_at (w := w.drew) ROW _ w.heap.size j rfl, Array.getElem?_eq_getElem (by omega)]; rfl
  have hNf : ∀ j, W1.frozen? ⟨w.heap.size, j, none⟩ = false := fun j => by rw [hW1]; exact World.frozen?_alloc_at (w := w.drew) ROW _ w.heap.size j rfl
  have hOb : ∀ j v, w.cell? ⟨b, j, none⟩ = some v → W1.cell? ⟨b, j, none⟩ = some v := fun j v h => by rw [hW1, World.cell?_alloc_past (w := w.drew) _ b j hbw]; exact h
  have hOv : ∀ j v, w.cell? ⟨vb, j, none⟩ = some v → W1.cell? ⟨vb, j, none⟩ = some v := fun j v h => by rw [hW1, World.cell?_alloc_past (w := w.drew) _ vb j hvw]; exact h
  have hcpA : ∀ (W : World), (∀ x, W.cell? x = W1.cell? x) → (∀ x, W.frozen? x = W1.frozen? x) → ∀ ty dc, (Builtin.copy_ #[27, 27] ty #[.slice (some ⟨w.heap.size, i, none⟩) (n + m - i) dc, .slice (some ⟨vb, voff, none⟩) m vc]).run Tryz.prog W = .ok (goInt vs.length) (W.setCells w.heap.size i vs) := fun W hWc hWf ty dc =>
    run_copy_cells W _ _ ty 2 w.heap.size i (n + m - i) dc ⟨vb, voff, none⟩ m vc vs Tryz.underlying27 hsz (by rw [hvl]; simp only [Nat.min_def]; split <;> omega)
      (fun j v hj => by rw [Addr.add_lit, hWc]; exact hOv _ v (hvs j v hj))
      (fun j hj => by rw [hWc]; exact hN _ (by omega)) (fun j hj => by rw [hWf]; exact hNf _) h1v
  have hGn : n + m ≤ G := by rw [hG]; exact grownCap_ge w _ _ _
  have hG63 : G ≤ 9223372036854775807 := by
    have := grownCap_le_maxLen w (n + m) c 2 (by unfold maxLen; omega)
    rw [← hG] at this
    unfold maxLen at this
    omega
  have hGi : ¬ (G = i) := by omega
  have hGim : ¬ (G = i + m) := by omega
  have hci : ¬ (c = i) := by omega
  have hbN : b ≠ w.heap.size := by omega
  have hdl : (cs.drop i).length = n - i := by rw [List.length_drop, hcl]
  have hcpB : ∀ (W : World), (∀ x, W.cell? x = (W1.setCells w.heap.size i vs).cell? x) → (∀ x, W.frozen? x = (W1.setCells w.heap.size i vs).frozen? x) → ∀ ty dc sc, (Builtin.copy_ #[27, 27] ty #[.slice (some ⟨w.heap.size, i + m, none⟩) (n + m - (i + m)) dc, .slice (some ⟨b, off + i, none⟩) (n - i) sc]).run Tryz.prog W = .ok (goInt (cs.drop i).length) (W.setCells w.heap.size (i + m) (cs.drop i)) := fun W hWc hWf ty dc sc =>
    run_copy_cells W _ _ ty 2 w.heap.size (i + m) (n + m - (i + m)) dc ⟨b, off + i, none⟩ (n - i) sc (cs.drop i) Tryz.underlying27 hsz (by rw [hdl]; simp only [Nat.min_def]; split <;> omega)
      (fun j v hj => by
        rw [Addr.add_lit, hWc, World.cell?_setCells_out _ _ _ _ _ (fun h _ => absurd h hbN), Nat.add_assoc]
        exact hOb _ v (hcs (i + j) v (by rwa [List.getElem?_drop] at hj)))
      (fun j hj => by rw [hWc]; exact isSome_setCells _ _ _ _ (fun t ht => hN _ (by omega)) _ (hN _ (by omega)))
      (fun j hj => by rw [hWf, World.frozen?_setCells]; exact hNf _) (fun v hv => h1c v (List.mem_of_mem_drop hv))
  subst hW1
  have hE1 : ∀ x, ((w.alloc (.cells ROW 2)).drew).cell? x = (w.drew.alloc (.cells ROW 2)).cell? x := fun x => rfl
  have hE2 : ∀ x, ((w.alloc (.cells ROW 2)).drew).frozen? x = (w.drew.alloc (.cells ROW 2)).frozen? x := fun x => rfl
  have hF1 : ∀ x, (((w.alloc (.cells ROW 2)).drew.setCells w.heap.size i vs).drew).cell? x = ((w.drew.alloc (.cells ROW 2)).setCells w.heap.size i vs).cell? x := fun x => rfl
  have hF2 : ∀ x, (((w.alloc (.cells ROW 2)).drew.setCells w.heap.size i vs).drew).frozen? x = ((w.drew.alloc (.cells ROW 2)).setCells w.heap.size i vs).frozen? x := fun x => rfl
  have hw1 : IntKind.i64.wrap ((i : Int) + (m : Int)) = (i : Int) + (m : Int) := by rw [IntKind.wrap_i64]; omega
  have hb1 : (0 : Int) ≤ (i : Int) + (m : Int) := by omega
  have hin : i ≤ n := by omega
  have htn : ((i : Int) + (m : Int)).toNat = i + m := by omega
  have hb3 : (i : Int) ≤ (n : Int) := by omega
  clear hkk hik hold hROW hG hRl
  go_enter Tryz.func99, Tryz.ntmps99
  go_wp2_with (first
    | (at_builtin; refine Lib.wpList_append_run _ rfl _ _ _ _ rfl _ _ rfl rfl _ _ (hrz _) ?_)
    | (at_builtin; refine wpList_copy_runI _ rfl _ _ 27 27 rfl _ _ rfl rfl (hcpA _ hE1 hE2 _ _) ?_)
    | (at_builtin; refine wpList_copy_runI _ rfl _ _ 27 27 rfl _ _ rfl rfl (hcpB _ (fun _ => rfl) (fun _ => rfl) _ _ _) ?_))
  go_region_law (refine step_copy_runI rfl _ _ 27 27 rfl (.slice (some ⟨w.heap.size, i + m, none⟩) (n + m - (i + m)) (G - (i + m))) (.slice (some ⟨b, off + i, none⟩) (n - i) (c - i)) (by simp [Act.eval, Act.put]) (by simp [Act.eval, Act.put]) (hcpB _ hF1 hF2 3 (G - (i + m)) (c - i)) ?_)
  go_wp2
  go_ret
  exact ⟨rfl, rfl⟩

theorem setCells_blk {b : Nat} {t : TypeId} : ∀ (vs : List Value) (w : World) (o : Nat) (cs : Array Value), Blk w b t cs → o + vs.length ≤ cs.size →
    ∃ cs', Blk (w.setCells b o vs) b t cs' ∧ cs'.size = cs.size ∧ (∀ p, p < o ∨ o + vs.length ≤ p → cs'[p]? = cs[p]?) ∧ ∀ j, j < vs.length → cs'[o + j]? = vs[j]? := by
  intro vs
  induction vs with
  | nil => intro w o cs h _; exact ⟨cs, h, rfl, fun _ _ => rfl, fun j hj => absurd hj (by simp)⟩
  | cons v r ih =>
    intro w o cs h hs
    have hl : (v :: r).length = r.length + 1 := rfl
    rw [hl] at hs
    obtain ⟨cs', a, b, c, d⟩ := ih _ (o + 1) _ (h.set_ o v) (by simp; omega)
    refine ⟨cs', a, by rw [b]; simp, fun p hp => ?_, fun j hj => ?_⟩
    · rw [hl] at hp
      rw [c p (by omega), Array.getElem?_setIfInBounds_ne (by omega)]
    · rw [hl] at hj
      cases j with
      | zero => rw [Nat.add_zero, c o (by omega), Array.getElem?_setIfInBounds_self_of_lt (by omega)]; rfl
      | succ j =>
        have := d j (by omega)
        rw [show o + (j + 1) = o + 1 + j by omega, this]
        simp
theorem setCells_below {b : Nat} : ∀ (vs : List Value) (w : World) (o : Nat), Below b w (w.setCells b o vs) ∧ (∀ i, i ≠ b → (w.setCells b o vs).heap[i]? = w.heap[i]?) ∧ (w.setCells b o vs).heap.size = w.heap.size := by
  intro vs
  induction vs with
  | nil => intro w o; exact ⟨Below.refl _ _, fun _ _ => rfl, rfl⟩
  | cons v r ih =>
    intro w o
    obtain ⟨h1, h2, h3⟩ := ih (w.setCell ⟨b, o, none⟩ v) (o + 1)
    exact ⟨((Below.refl b w).setCell (p := ⟨b, o, none⟩) (Nat.le_refl _) v).trans h1, fun i hi => (h2 i hi).trans (Below.heap_setCell w ⟨b, o, none⟩ v i hi), h3.trans (by simp [World.setCell])⟩
/-- Numbers in a row of the call's own. -/
def Tb (w : World) (b n c : Nat) (z : Nat → Int) : Prop := ∃ cs : Array Value, Blk w b 2 cs ∧ cs.size = c ∧ n ≤ c ∧ c ≤ maxLen ∧ ∀ p, p < n → cs[p]? = some (.int .i64 (z p))
def consZ (x : Int) (z : Nat → Int) : Nat → Int := fun p => if p = 0 then x else z (p - 1)
theorem Tb.lt {w : World} {b n c : Nat} {z : Nat → Int} (h : Tb w b n c z) : b < w.heap.size := by obtain ⟨cs, h1, _⟩ := h; exact h1.lt
theorem Tb.cell {w : World} {b n c p : Nat} {z : Nat → Int} (h : Tb w b n c z) (hp : p < n) : w.cell? ⟨b, p, none⟩ = some (.int .i64 (z p)) := by
  obtain ⟨cs, h1, _, _, _, h5⟩ := h
  rw [h1.cell, h5 p hp]
theorem Tb.keep {w w' : World} {b n c : Nat} {z : Nat → Int} (h : Tb w b n c z) (hk : w'.heap[b]? = w.heap[b]?) : Tb w' b n c z := by
  obtain ⟨cs, h1, h2, h3, h4, h5⟩ := h
  exact ⟨cs, hk.trans h1, h2, h3, h4, h5⟩
theorem Tb.congr {w : World} {b n c : Nat} {z y : Nat → Int} (h : Tb w b n c z) (he : ∀ p, p < n → z p = y p) : Tb w b n c y := by
  obtain ⟨cs, h1, h2, h3, h4, h5⟩ := h
  exact ⟨cs, h1, h2, h3, h4, fun p hp => by rw [h5 p hp, he p hp]⟩
theorem Tb.rd {w : World} {b n c B : Nat} {z : Nat → Int} (h : Tb w b n c z) (hB : b < B) : Rd w B (some ⟨b, 0, none⟩) n z := fun _ =>
  ⟨b, 0, rfl, hB, fun i hi => by rw [Nat.zero_add]; exact h.cell hi⟩

theorem tb_list {cs : Array Value} {n c : Nat} {z : Nat → Int} (h2 : cs.size = c) (h3 : n ≤ c) (h5 : ∀ p, p < n → cs[p]? = some (.int .i64 (z p))) :
    (cs.toList.take n).length = n ∧ (∀ (j : Nat) (v : Value), (cs.toList.take n)[j]? = some v → cs[j]? = some v) ∧ (∀ v ∈ cs.toList.take n, v.oneCell' = true) ∧ ∀ j : Nat, j < n → (cs.toList.take n)[j]? = some (.int .i64 (z j)) := by
  have hg : ∀ j, (cs.toList.take n)[j]? = if j < n then cs[j]? else none := fun j => by
    rw [List.getElem?_take]
    split
    · rw [Array.getElem?_toList]
    · rfl
  refine ⟨by rw [List.length_take, Array.length_toList]; omega, fun j v hj => ?_, fun v hv => ?_, fun j hj => ?_⟩
  · rw [hg] at hj
    split at hj
    · exact hj
    · cases hj
  · obtain ⟨j, hj⟩ := List.getElem?_of_mem hv
    rw [hg] at hj
    split at hj
    · rename_i hlt
      rw [h5 j hlt] at hj
      cases hj; rfl
    · cases hj
  · rw [hg, if_pos hj, h5 j hj]

theorem ins_any (b n c vb : Nat) (x : Int) (z : Nat → Int) (w : World) (h : Tb w b n c z) (hv : Blk w vb 2 #[.int .i64 x]) (hvb : vb ≠ b) (hn : 0 < n) (hn' : n ≤ 4194304) :
    Calls Tryz.prog 99 #[.slice (some ⟨b, 0, none⟩) n c, .int .i64 0, .slice (some ⟨vb, 0, none⟩) 1 1] w fun e w' =>
      ∃ b' c', e = .returned (.slice (some ⟨b', 0, none⟩) (n + 1) c') ∧ Tb w' b' (n + 1) c' (consZ x z) ∧ (b' = b ∨ b' = w.heap.size) ∧ w.grownBy w' (some b) := by
  obtain ⟨cs, h1, h2, h3, h4, h5⟩ := h
  obtain ⟨t1, t2, t3, t4⟩ := tb_list h2 h3 h5
  have hcv : ∀ (j : Nat) (v : Value), [Value.int .i64 x][j]? = some v → w.cell? ⟨vb, 0 + j, none⟩ = some v := fun j v hj => by
    cases j with
    | zero => rw [Nat.add_zero, hv.cell]; exact hj
    | succ j => simp at hj
  have hcc : ∀ (j : Nat) (v : Value), (cs.toList.take n)[j]? = some v → w.cell? ⟨b, 0 + j, none⟩ = some v := fun j v hj => by rw [Nat.zero_add, h1.cell]; exact t2 j v hj
  by_cases hroom : n + 1 ≤ c
  · refine (ins_shift b 0 n c 0 vb 0 1 1 (cs.toList.take n) [.int .i64 x] w hn (by omega) hroom (by unfold maxLen at h4; omega) hvb t1 rfl hcc (fun j hj => ?_) (fun j _ => h1.frozen _) hcv t3 (by simp [Value.oneCell']) 2 2 1 c ?_ ?_ (by omega) (hv.frozen _) (hv.frozen _)).mono ?_
    · rw [h1.cell, Array.getElem?_eq_getElem (by omega)]; rfl
    · show World.shape? w vb = _
      unfold World.shape?
      rw [show w.heap[vb]? = _ from hv]
      rfl
    · show World.shape? w b = _
      unfold World.shape?
      rw [show w.heap[b]? = _ from h1]
      simp only [h2]
    · rintro e w' ⟨rfl, rfl⟩
      rw [List.drop_zero, Nat.zero_add, Nat.zero_add]
      obtain ⟨k1, k2, k3⟩ := setCells_below (b := b) (cs.toList.take n) w.drew 1
      obtain ⟨l1, l2, l3⟩ := setCells_below (b := b) [.int .i64 x] (w.drew.setCells b 1 (cs.toList.take n)) 0
      obtain ⟨c1, m1, m2, m3, m4⟩ := setCells_blk (b := b) (t := 2) (cs.toList.take n) w.drew 1 cs h1 (by omega)
      obtain ⟨c2, p1, p2, p3, p4⟩ := setCells_blk (b := b) (t := 2) [.int .i64 x] (w.drew.setCells b 1 (cs.toList.take n)) 0 c1 m1 (by simp; omega)
      have hbel := (Below.refl b w).drew.trans (k1.trans l1)
      refine ⟨b, c, rfl, ⟨c2, p1, by omega, hroom, h4, fun p hp => ?_⟩, .inl rfl, ⟨hbel.os, hbel.tape, hbel.output, hbel.size, fun k hk hne => ?_⟩⟩
      · cases p with
        | zero => have := p4 0 (by simp); rw [Nat.add_zero] at this; rw [this]; rfl
        | succ p =>
          rw [p3 (p + 1) (by simp), show p + 1 = 1 + p by omega, m4 p (by omega), t4 p (by omega)]
          unfold consZ
          rw [if_neg (by omega)]
          congr 3
          omega
      · have hkb : k ≠ b := fun e => hne (by rw [e])
        exact (l2 k hkb).trans (k2 k hkb)
  · refine (ins_grow b 0 n c 0 vb 0 1 1 (cs.toList.take n) [.int .i64 x] w hn (by omega) h3 (by omega) (by omega) t1 rfl hcc hcv t3 (by simp [Value.oneCell'])).mono ?_
    rintro e w' ⟨rfl, rfl⟩
    obtain ⟨G, hG⟩ : ∃ G, grownCap w (n + 1) c 2 = G := ⟨_, rfl⟩
    have hG1 : n + 1 ≤ G := by rw [← hG]; exact grownCap_ge w _ _ _
    have hG2 : G ≤ maxLen := by rw [← hG]; exact grownCap_le_maxLen w (n + 1) c 2 (by unfold maxLen; omega)
    rw [hG]
    obtain ⟨ROW, hR⟩ : ∃ ROW : Array Value, ((cs.toList.take n).take 0).toArray ++ Builtin.zeroCells (Value.int .i64 0).cells (n + 1 - 0) ++ Builtin.zeroCells (Value.int .i64 0).cells (G - (n + 1)) = ROW := ⟨_, rfl⟩
    have hRs : ROW.size = G := by rw [← hR]; simp [Builtin.zeroCells, Value.cells]; omega
    rw [hR, List.drop_zero, Nat.zero_add]
    clear hG hR
    have hB0 : Blk (w.alloc (.cells ROW 2)).drew w.heap.size 2 ROW := Blk.new w _ _
    obtain ⟨k1, k2, k3⟩ := setCells_below (b := w.heap.size) [.int .i64 x] (w.alloc (.cells ROW 2)).drew 0
    obtain ⟨c1, m1, m2, m3, m4⟩ := setCells_blk (b := w.heap.size) (t := 2) [.int .i64 x] _ 0 ROW hB0 (by simp; omega)
    obtain ⟨l1, l2, l3⟩ := setCells_below (b := w.heap.size) (cs.toList.take n) ((w.alloc (.cells ROW 2)).drew.setCells w.heap.size 0 [.int .i64 x]).drew 1
    obtain ⟨c2, p1, p2, p3, p4⟩ := setCells_blk (b := w.heap.size) (t := 2) (cs.toList.take n) ((w.alloc (.cells ROW 2)).drew.setCells w.heap.size 0 [.int .i64 x]).drew 1 c1 m1 (by omega)
    have hbel := ((Below.refl w.heap.size w).alloc (Nat.le_refl _) (.cells ROW 2)).drew.trans (k1.drew.trans l1)
    refine ⟨w.heap.size, G, rfl, ⟨c2, p1, by omega, hG1, hG2, fun p hp => ?_⟩, .inr rfl, ⟨hbel.os, hbel.tape, hbel.output, hbel.size, fun k hk _ => hbel.block k hk⟩⟩
    cases p with
    | zero =>
      have := m4 0 (by simp)
      rw [Nat.add_zero] at this
      rw [p3 0 (by omega), this]
      rfl
    | succ p =>
      rw [show p + 1 = 1 + p by omega, p4 p (by omega), t4 p (by omega)]
      unfold consZ
      rw [if_neg (by omega)]
      congr 3
      omega
end

/-! ### TabA -/
section
set_option linter.unusedVariables false
set_option linter.unusedSimpArgs false
open Go.RowKit Go.Deep
set_option linter.unusedSimpArgs false
set_option linter.unusedVariables false

theorem cutA {p q : Prop} (h : p) (k : p → q) : q := k h
theorem namedT {P : Program} {f : FuncId} {args : Array Value} {w : World} {Q : Ending → World → Prop} (h : ∀ X : World, X = w → Calls P f args X Q) : Calls P f args w Q := h w rfl
abbrev tbV (b1 n1 c1 b2 n2 c2 : Nat) : Value := .agg #[.slice (some ⟨b1, 0, none⟩) n1 c1, .slice (some ⟨b2, 0, none⟩) n2 c2]
/-- What one step leaves. -/
def StepPost (W : World) (b1 b2 k : Nat) (za zb : Nat → Int) (e : Ending) (w' : World) : Prop :=
  ∃ b1' c1' b2' c2', e = .returned (tbV b1' (k + 1) c1' b2' (k + 1) c2') ∧ Tb w' b1' (k + 1) c1' za ∧ Tb w' b2' (k + 1) c2' zb ∧ b1' ≠ b2' ∧ (b1' = b1 ∨ W.heap.size ≤ b1') ∧ (b2' = b2 ∨ W.heap.size ≤ b2') ∧
    (∀ g, g < W.heap.size → g ≠ b1 → g ≠ b2 → w'.heap[g]? = W.heap[g]?) ∧ ∀ B, B ≤ b1 → B ≤ b2 → Below B W w'
theorem Tb.drew {w : World} {b n c : Nat} {z : Nat → Int} (h : Tb w b n c z) : Tb w.drew b n c z := h
theorem Tb.alloc {w : World} {b n c : Nat} {z : Nat → Int} (h : Tb w b n c z) (o : Obj) : Tb (w.alloc o) b n c z := h.keep (Below.heap_alloc w o b h.lt)
theorem Tb.below {w w' : World} {b n c : Nat} {z : Nat → Int} (h : Tb w b n c z) (hb : Below w.heap.size w w') : Tb w' b n c z := h.keep (hb.block b h.lt)
theorem Tb.frozen {w : World} {b n c : Nat} {z : Nat → Int} (h : Tb w b n c z) (i : Nat) : w.frozen? ⟨b, i, none⟩ = false := by obtain ⟨cs, h1, _⟩ := h; exact h1.frozen i
theorem heldT {X : World} {s : Nat} {a b : Value} (h : Blk X s 96 #[a, b]) : X.cell? ⟨s, 0, none⟩ = some a ∧ X.cell? ⟨s, 1, none⟩ = some b := ⟨h.cell 0, h.cell 1⟩
theorem heldT2 {X : World} {s : Nat} {a b : Value} (h : Blk X s 96 #[a, b]) (u v : Value) : ((X.setCell ⟨s + 1, 0, none⟩ u).setCell ⟨s + 1, 1, none⟩ v).cell? ⟨s, 0, none⟩ = some a ∧ ((X.setCell ⟨s + 1, 0, none⟩ u).setCell ⟨s + 1, 1, none⟩ v).cell? ⟨s, 1, none⟩ = some b :=
  heldT ((h.far (p := ⟨s + 1, 0, none⟩) (by show s ≠ s + 1; omega) u).far (p := ⟨s + 1, 1, none⟩) (by show s ≠ s + 1; omega) v)
theorem size_tables : (Tryz.prog.info? 96).map (·.size) = some 2 := by kernel_rfl
theorem tbV_cells {w : World} {b : Nat} {t : TypeId} {x y : Value} (h : Blk w b t #[x, y]) : w.cell? ⟨b, 0, none⟩ = some x ∧ w.cell? ⟨b, 1, none⟩ = some y ∧ w.frozen? ⟨b, 0, none⟩ = false ∧ w.frozen? ⟨b, 1, none⟩ = false := ⟨h.cell 0, h.cell 1, h.frozen 0, h.frozen 1⟩

theorem step_end {w w1 w3 : World} {S b1 b2 k b1' c1' b2' c2' : Nat} {za zb : Nat → Int} (hS : w.heap.size = S) (hbw : Below w.heap.size w w1) (hSw : S + 1 < w1.heap.size) (hl1 : b1 < S) (hl2 : b2 < S)
    (hT1 : Tb w3 b1' (k + 1) c1' za) (hT2 : Tb w3 b2' (k + 1) c2' zb) (h1ne : b1' ≠ b2) (HD1 : b1' = b1 ∨ w1.heap.size ≤ b1') (HD2 : b2' = b2 ∨ (w1.heap.size ≤ b2' ∧ b1' ≠ b2'))
    (HK3 : ∀ g, g < w1.heap.size → g ≠ b1 → g ≠ b2 → w3.heap[g]? = w1.heap[g]?) (HB3 : ∀ B, B ≤ b1 → B ≤ b2 → B ≤ w1.heap.size → Below B w1 w3) (u v : Value) :
    StepPost w b1 b2 k za zb (.returned (tbV b1' (k + 1) c1' b2' (k + 1) c2')) ((w3.setCell ⟨S + 1, 0, none⟩ u).setCell ⟨S + 1, 1, none⟩ v) := by
  have hk : ∀ g, g ≠ S + 1 → ((w3.setCell ⟨S + 1, 0, none⟩ u).setCell ⟨S + 1, 1, none⟩ v).heap[g]? = w3.heap[g]? := fun g hg => (Below.heap_setCell _ ⟨S + 1, 1, none⟩ v g hg).trans (Below.heap_setCell _ ⟨S + 1, 0, none⟩ u g hg)
  refine ⟨b1', c1', b2', c2', rfl, hT1.keep (hk _ ?_), hT2.keep (hk _ ?_), ?_, ?_, ?_, fun g hg h1 h2 => ?_, fun B h1 h2 => ?_⟩
  · rcases HD1 with e | e <;> omega
  · rcases HD2 with e | e <;> omega
  · rcases HD2 with e | e
    · omega
    · exact e.2
  · rcases HD1 with e | e
    · exact .inl e
    · exact .inr (by omega)
  · rcases HD2 with e | e
    · exact .inl e
    · exact .inr (by omega)
  · rw [hk g (by omega), HK3 g (by omega) h1 h2]
    exact hbw.block g hg
  · exact ((((hbw.mono (by omega)).trans (HB3 B h1 h2 (by omega))).setCell (p := ⟨S + 1, 0, none⟩) (by show B ≤ S + 1; omega) u).setCell (p := ⟨S + 1, 1, none⟩) (by show B ≤ S + 1; omega) v)

set_option maxRecDepth 100000 in
set_option maxHeartbeats 4000000 in
theorem step_any (eb : Nat) (f b : Int) (A : Option Addr) (n c : Nat) (len : Nat → Nat) (g : Nat → Nat → Nd) (i k b1 c1 b2 c2 : Nat) (z1 z2 : Nat → Int) (w : World) (he : Blk w eb 26 #[.int .i64 f, .int .i64 b, .slice A n c]) (hr : RdT w w.heap.size A n len g)
    (hi : i < n) (hn : n ≤ 4194304) (hlen : len i ≤ 4194304) (ht : treeB (g i) (len i) 6 = true) (h1 : Tb w b1 k c1 z1) (h2 : Tb w b2 k c2 z2) (hbb : b1 ≠ b2) (hk : 0 < k) (hk' : k ≤ 4194304)
    (s1 : -100000000000 ≤ z1 0 ∧ z1 0 ≤ 100000000000) (s2 : -100000000000 ≤ z2 0 ∧ z2 0 ≤ 100000000000) :
    Calls Tryz.prog 97 #[tbV b1 k c1 b2 k c2, .int .i64 (i : Int), .pointer (some ⟨eb, 0, none⟩)] w (StepPost w b1 b2 k (consZ (z1 0 + loTo (g i) (len i)) z1) (consZ (z2 0 + hiTo (g i) (len i)) z2)) := by
  obtain ⟨tb, off, Ai, ci, rfl, htb, htc, hrx⟩ := hr.at_ hi
  have hT := (treeB_iff (g i) (len i) 6).1 ht
  have HT := hid ht
  have HHT := hid hT
  clear ht hT
  have i1 : (i : Int) < (n : Int) := by omega
  have i2 : (0 : Int) ≤ (i : Int) := by omega
  have hA2 : w.cell? ⟨eb, 2, none⟩ = some (.slice (some ⟨tb, off, none⟩) n c) := he.cell 2
  have heb := he.lt
  have e2 : ((w.alloc (.cells #[.slice (some ⟨b1, 0, none⟩) k c1, .slice (some ⟨b2, 0, none⟩) k c2] 96)).alloc (.cells #[.slice none 0 0, .slice none 0 0] 96)).cell? ⟨eb, 2, none⟩ = some (.slice (some ⟨tb, off, none⟩) n c) := ((he.alloc _).alloc _).cell 2
  have hb0 := ((Below.refl w.heap.size w).alloc (Nat.le_refl _) (.cells #[.slice (some ⟨b1, 0, none⟩) k c1, .slice (some ⟨b2, 0, none⟩) k c2] 96)).alloc (by simp) (.cells #[.slice none 0 0, .slice none 0 0] 96)
  have htc2 : ((w.alloc (.cells #[.slice (some ⟨b1, 0, none⟩) k c1, .slice (some ⟨b2, 0, none⟩) k c2] 96)).alloc (.cells #[.slice none 0 0, .slice none 0 0] 96)).cell? ⟨tb, off + i, none⟩ = some (.slice Ai (len i) ci) := (hb0.cell (p := ⟨tb, off + i, none⟩) htb).trans htc
  go_enter Tryz.func97, Tryz.ntmps97
  go_wp2_with fail
  refine (iRange_yes Ai (len i) ci (g i) _ ((hrx.below hb0).more hb0.size) hlen HT.out).mono ?_
  rintro e w1 ⟨rfl, hb1⟩
  have hbw := hb0.trans (hb1.mono hb0.size)
  have HR : Hid (Blk w1 w.heap.size 96 #[.slice (some ⟨b1, 0, none⟩) k c1, .slice (some ⟨b2, 0, none⟩) k c2]) := ((Blk.new w 96 _).alloc _).below hb1 (by rw [World.size_alloc, World.size_alloc]; omega)
  have HO : Hid (Blk w1 (w.heap.size + 1) 96 #[.slice none 0 0, .slice none 0 0]) := (Blk.new2 w _ 96 _).below hb1 (by rw [World.size_alloc, World.size_alloc]; omega)
  have HT1 : Hid (Tb w1 b1 k c1 z1) := h1.below hbw
  have HT2 : Hid (Tb w1 b2 k c2 z2) := h2.below hbw
  have hl1 := h1.lt
  have hl2 := h2.lt
  obtain ⟨S, hS⟩ : ∃ S, w.heap.size = S := ⟨_, rfl⟩
  have hSw : S + 1 < w1.heap.size := by have := hb1.size; simp at this; omega
  have bdl := lo_boundO HT.out
  have bdh := hi_boundO HT.out
  obtain ⟨lo, hlo⟩ : ∃ v, loTo (g i) (len i) = v := ⟨_, rfl⟩
  obtain ⟨hi_, hhi⟩ : ∃ v, hiTo (g i) (len i) = v := ⟨_, rfl⟩
  rw [hlo] at bdl ⊢
  rw [hhi] at bdh ⊢
  obtain ⟨y1, hy1⟩ : ∃ v, z1 0 = v := ⟨_, rfl⟩
  obtain ⟨y2, hy2⟩ : ∃ v, z2 0 = v := ⟨_, rfl⟩
  have q1b : w1.cell? ⟨b1, 0, none⟩ = some (.int .i64 (z1 0)) := HT1.out.cell hk
  have q2b0 : w1.cell? ⟨b2, 0, none⟩ = some (.int .i64 (z2 0)) := HT2.out.cell hk
  obtain ⟨x1, hx1⟩ : ∃ v, z1 0 + lo = v := ⟨_, rfl⟩
  obtain ⟨x2, hx2⟩ : ∃ v, z2 0 + hi_ = v := ⟨_, rfl⟩
  have hw1 : IntKind.i64.wrap (z1 0 + lo) = x1 := by rw [IntWalk.i64_in _ (by omega)]; exact hx1
  have hw2 : IntKind.i64.wrap (z2 0 + hi_) = x2 := by rw [IntWalk.i64_in _ (by omega)]; exact hx2
  have HX1 : Hid (z1 0 + loTo (g i) (len i) = x1) := by rw [hlo]; exact hx1
  have HX2 : Hid (z2 0 + hiTo (g i) (len i) = x2) := by rw [hhi]; exact hx2
  rw [hS] at HR HO ⊢
  have q10 : w1.cell? ⟨S, 0, none⟩ = some (.slice (some ⟨b1, 0, none⟩) k c1) := HR.out.cell 0
  have q11 : w1.cell? ⟨S, 1, none⟩ = some (.slice (some ⟨b2, 0, none⟩) k c2) := HR.out.cell 1
  have hbS : b1 < S := by omega
  have hbS2 : b2 < S := by omega
  have hl1w : b1 < w1.heap.size := by omega
  have hl2w : b2 < w1.heap.size := by omega
  have kI : (0 : Int) < (k : Int) := by omega
  have hSl1 : S < w1.heap.size := by omega
  have HBW := hid hbw
  have HSE := hid hS
  clear hx1 hx2 hy1 hy2 hlo hhi hbw hS hb1 hb0 e2 htc2 hA2 htc htb hrx h1 h2 he hr bdl bdh s1 s2
  go_wp2_with fail
  refine wp_region_held_drew (S := fun w' => w'.cell? ⟨S, 0, none⟩ = some (.slice (some ⟨b1, 0, none⟩) k c1) ∧ w'.cell? ⟨S, 1, none⟩ = some (.slice (some ⟨b2, 0, none⟩) k c2)) (by kernel_rfl) ?_ (fun hHeld => ?_)
  · try dsimp only
    first | with_reducible exact heldT HR.out | with_reducible exact heldT HR.out.drew | with_reducible exact heldT (HR.out.alloc _) | with_reducible exact heldT (HR.out.alloc _).drew | with_reducible exact heldT ((HR.out.alloc _).alloc _) | with_reducible exact heldT ((HR.out.alloc _).alloc _).drew | with_reducible exact heldT hR2.out | with_reducible exact heldT (hR2.out.alloc _) | with_reducible exact heldT hR3.out | with_reducible exact heldT2 hR3.out _ _
  refine wpAnyH_take (i := 0) (v := ?_) rfl (by kernel_rfl) (by kernel_rfl) (by kernel_rfl) (fun _ _ _ h => h) (Or.inl ⟨by rfl, ?_⟩) (by assumption) ?_
  rotate_left
  · intro w hSw; (try dsimp only at hSw); go_simp; try with_reducible rfl
  try simp only [Act.put, List.setIfInBounds_toArray, List.set_cons_zero, List.set_cons_succ]
  refine wpAnyH_take (i := 1) (v := ?_) rfl (by kernel_rfl) (by kernel_rfl) (by kernel_rfl) (fun _ _ _ h => h) (Or.inl ⟨by rfl, ?_⟩) (by assumption) ?_
  rotate_left
  · intro w hSw; (try dsimp only at hSw); go_simp; try with_reducible rfl
  try simp only [Act.put, List.setIfInBounds_toArray, List.set_cons_zero, List.set_cons_succ]
  refine wpAnyH_take (i := 2) (v := ?_) rfl (by kernel_rfl) (by kernel_rfl) (by kernel_rfl) (fun _ _ _ h => h) (Or.inl ⟨by rfl, ?_⟩) (by assumption) ?_
  rotate_left
  · intro w hSw; (try dsimp only at hSw); go_simp; try with_reducible rfl
  try simp only [Act.put, List.setIfInBounds_toArray, List.set_cons_zero, List.set_cons_succ]
  refine wpAnyH_take (i := 3) (v := ?_) rfl (by kernel_rfl) (by kernel_rfl) (by kernel_rfl) (fun _ _ _ h => h) (Or.inl ⟨by rfl, ?_⟩) (by assumption) ?_
  rotate_left
  · intro w hSw; (try dsimp only at hSw); go_simp; try with_reducible rfl
  try simp only [Act.put, List.setIfInBounds_toArray, List.set_cons_zero, List.set_cons_succ]
  refine wpAnyH_take (i := 4) (v := ?_) rfl (by kernel_rfl) (by kernel_rfl) (by kernel_rfl) (fun _ _ _ h => h) (Or.inl ⟨by rfl, ?_⟩) (by assumption) ?_
  rotate_left
  · intro w hSw; (try dsimp only at hSw); go_simp; try with_reducible rfl
  try simp only [Act.put, List.setIfInBounds_toArray, List.set_cons_zero, List.set_cons_succ]
  refine wpAnyH_take (i := 6) (v := ?_) rfl (by kernel_rfl) (by kernel_rfl) (by kernel_rfl) (fun _ _ _ h => h) (Or.inl ⟨by rfl, ?_⟩) (by assumption) ?_
  rotate_left
  · intro w hSw; (try dsimp only at hSw); go_simp; try with_reducible rfl
  try simp only [Act.put, List.setIfInBounds_toArray, List.set_cons_zero, List.set_cons_succ]
  refine wpAnyH_take (i := 10) (v := ?_) rfl (by kernel_rfl) (by kernel_rfl) (by kernel_rfl) (fun _ _ _ h => h) (Or.inl ⟨by rfl, ?_⟩) (by assumption) ?_
  rotate_left
  · intro w hSw; (try dsimp only at hSw); go_simp; try with_reducible rfl
  try simp only [Act.put, List.setIfInBounds_toArray, List.set_cons_zero, List.set_cons_succ]
  refine wpAnyH_take (i := 11) (v := ?_) rfl (by kernel_rfl) (by kernel_rfl) (by kernel_rfl) (fun _ _ _ h => h) (Or.inl ⟨by rfl, ?_⟩) (by assumption) ?_
  rotate_left
  · intro w hSw; (try dsimp only at hSw); go_simp; try with_reducible rfl
  try simp only [Act.put, List.setIfInBounds_toArray, List.set_cons_zero, List.set_cons_succ]
  refine wpAnyH_take (i := 12) (v := ?_) rfl (by kernel_rfl) (by kernel_rfl) (by kernel_rfl) (fun _ _ _ h => h) (Or.inl ⟨by rfl, ?_⟩) (by assumption) ?_
  rotate_left
  · intro w hSw; (try dsimp only at hSw); go_simp; try with_reducible rfl
  try simp only [Act.put, List.setIfInBounds_toArray, List.set_cons_zero, List.set_cons_succ]
  refine wpAnyH_take (i := 13) (v := ?_) rfl (by kernel_rfl) (by kernel_rfl) (by kernel_rfl) (fun _ _ _ h => h) (Or.inl ⟨by rfl, ?_⟩) (by assumption) ?_
  rotate_left
  · intro w hSw; (try dsimp only at hSw); go_simp; try with_reducible rfl
  try simp only [Act.put, List.setIfInBounds_toArray, List.set_cons_zero, List.set_cons_succ]
  refine wpAnyH_take (i := 14) (v := ?_) rfl (by kernel_rfl) (by kernel_rfl) (by kernel_rfl) (fun _ _ _ h => h) (Or.inl ⟨by rfl, ?_⟩) (by assumption) ?_
  rotate_left
  · intro w hSw; (try dsimp only at hSw); go_simp; try with_reducible rfl
  try simp only [Act.put, List.setIfInBounds_toArray, List.set_cons_zero, List.set_cons_succ]
  refine wpAnyH_take (i := 16) (v := ?_) rfl (by kernel_rfl) (by kernel_rfl) (by kernel_rfl) (fun _ _ _ h => h) (Or.inl ⟨by rfl, ?_⟩) (by assumption) ?_
  rotate_left
  · intro w hSw; (try dsimp only at hSw); go_simp; try with_reducible rfl
  try simp only [Act.put, List.setIfInBounds_toArray, List.set_cons_zero, List.set_cons_succ]
  refine wpAnyH_ready (rs := [5, 15]) (by kernel_rfl) (by simp) ?_
  refine AllReadyH.cons rfl (fun K hK => ?_) (AllReadyH.cons rfl (fun K hK => ?_) AllReadyH.nil)
  · go_simp
    refine hK.out _ _ ?_ (fun hHeld2 => ?_)
    · try dsimp only
      first | with_reducible exact heldT HR.out | with_reducible exact heldT HR.out.drew | with_reducible exact heldT (HR.out.alloc _) | with_reducible exact heldT (HR.out.alloc _).drew | with_reducible exact heldT ((HR.out.alloc _).alloc _) | with_reducible exact heldT ((HR.out.alloc _).alloc _).drew | with_reducible exact heldT hR2.out | with_reducible exact heldT (hR2.out.alloc _) | with_reducible exact heldT hR3.out | with_reducible exact heldT2 hR3.out _ _
    clear hK K hHeld
    have hHeld := hHeld2
    clear hHeld2
    try simp only [Act.put, List.setIfInBounds_toArray, List.set_cons_zero, List.set_cons_succ]
    refine wpAnyH_take (i := 7) (v := ?_) rfl (by kernel_rfl) (by kernel_rfl) (by kernel_rfl) (fun _ _ _ h => h) (Or.inl ⟨by rfl, ?_⟩) (by assumption) ?_
    rotate_left
    · intro w hSw; (try dsimp only at hSw); go_simp; try with_reducible rfl
    try simp only [Act.put, List.setIfInBounds_toArray, List.set_cons_zero, List.set_cons_succ]
    refine wpAnyH_ready (rs := [8, 15]) (by kernel_rfl) (by simp) ?_
    refine AllReadyH.cons rfl (fun K hK => ?_) (AllReadyH.cons rfl (fun K hK => ?_) AllReadyH.nil)
    · go_simp
      refine hK.out _ _ ?_ (fun hHeld2 => ?_)
      · try dsimp only
        first | with_reducible exact heldT HR.out | with_reducible exact heldT HR.out.drew | with_reducible exact heldT (HR.out.alloc _) | with_reducible exact heldT (HR.out.alloc _).drew | with_reducible exact heldT ((HR.out.alloc _).alloc _) | with_reducible exact heldT ((HR.out.alloc _).alloc _).drew | with_reducible exact heldT hR2.out | with_reducible exact heldT (hR2.out.alloc _) | with_reducible exact heldT hR3.out | with_reducible exact heldT2 hR3.out _ _
      clear hK K hHeld
      have hHeld := hHeld2
      clear hHeld2
      try simp only [Act.put, List.setIfInBounds_toArray, List.set_cons_zero, List.set_cons_succ]
      refine wpAnyH_ready (rs := [9, 15]) (by kernel_rfl) (by simp) ?_
      refine AllReadyH.cons rfl (fun K hK => ?_) (AllReadyH.cons rfl (fun K hK => ?_) AllReadyH.nil)
      · go_simp
        (go_at_call 99; refine namedT ?_; intro X hX; refine cutA (p := Tb X b1 k c1 z1) ?_ (fun hTX => ?_); (rw [hX]; first | exact HT1.out | exact HT1.out.alloc _ | exact (HT1.out.alloc _).alloc _); refine cutA (p := Tb X b2 k c2 z2) ?_ (fun hUX => ?_); (rw [hX]; first | exact HT2.out | exact HT2.out.alloc _ | exact (HT2.out.alloc _).alloc _); refine cutA (p := Blk X S 96 #[.slice (some ⟨b1, 0, none⟩) k c1, .slice (some ⟨b2, 0, none⟩) k c2]) ?_ (fun hRX => ?_); (rw [hX]; first | exact HR.out | exact HR.out.alloc _ | exact (HR.out.alloc _).alloc _); refine cutA (p := Blk X (S + 1) 96 #[.slice none 0 0, .slice none 0 0]) ?_ (fun hOX => ?_); (rw [hX]; first | exact HO.out | exact HO.out.alloc _ | exact (HO.out.alloc _).alloc _); refine cutA (p := Below w1.heap.size w1 X) ?_ (fun hbX => ?_); (rw [hX]; first | exact ((Below.refl _ w1).alloc (Nat.le_refl _) _).drew | exact (((Below.refl _ w1).alloc (Nat.le_refl _) _).alloc (by simp) _).drew); (first | ((with_reducible refine Calls.mono (ins_any b1 k c1 w1.heap.size x1 z1 X hTX ?_ ?_ hk hk') ?_); (rw [hX]; first | exact Blk.new _ _ _ | exact (Blk.new _ _ _).alloc _); omega) | ((with_reducible refine Calls.mono (ins_any b1 k c1 (w1.heap.size + 1) x1 z1 X hTX ?_ ?_ hk hk') ?_); (rw [hX]; exact Blk.new2 _ _ _ _); omega)); rintro e w2 ⟨b1', c1', rfl, hT1', hd1, hg1⟩; have hXs := hbX.size; refine cutA (p := Hid (Tb w2 b2 k c2 z2)) ?_ (fun hT2' => ?_); (exact hUX.keep (hg1.block b2 hUX.lt (fun e => by injection e with e; omega))); refine cutA (p := Hid (Blk w2 S 96 #[.slice (some ⟨b1, 0, none⟩) k c1, .slice (some ⟨b2, 0, none⟩) k c2])) ?_ (fun hR2 => ?_); (exact hRX.grown hg1 (fun e => by injection e with e; omega)); refine cutA (p := Hid (Blk w2 (S + 1) 96 #[.slice none 0 0, .slice none 0 0])) ?_ (fun hO2 => ?_); (exact hOX.grown hg1 (fun e => by injection e with e; omega)); (first | (refine cutA (p := Hid (Blk w2 (w1.heap.size + 1) 2 #[.int .i64 x2])) ?_ (fun HV2 => ?_); (refine Blk.grown (w := X) ?_ hg1 ?_); (rw [hX]; exact Blk.new2 _ _ _ _); (intro e; injection e with e; omega)) | (refine cutA (p := Hid (Blk w2 w1.heap.size 2 #[.int .i64 x2])) ?_ (fun HV2 => ?_); (refine Blk.grown (w := X) ?_ hg1 ?_); (rw [hX]; first | exact (Blk.new _ _ _).alloc _ | exact Blk.new _ _ _); (intro e; injection e with e; omega)) | skip); have HT1' := hid hT1'; refine cutA (p := Hid (b1' = b1 ∨ w1.heap.size ≤ b1')) ?_ (fun HD1 => ?_); (rcases hd1 with e | e; exact .inl e; exact .inr (by omega)); have q20 : w2.cell? ⟨S, 0, none⟩ = some (.slice (some ⟨b1, 0, none⟩) k c1) := hR2.out.cell 0; have q21 : w2.cell? ⟨S, 1, none⟩ = some (.slice (some ⟨b2, 0, none⟩) k c2) := hR2.out.cell 1; have q2b : w2.cell? ⟨b2, 0, none⟩ = some (.int .i64 (z2 0)) := hT2'.out.cell hk; refine cutA (p := Hid (∀ g, g < w1.heap.size → g ≠ b1 → w2.heap[g]? = w1.heap[g]?)) ?_ (fun HK2 => ?_); (exact fun g hg hne => (hg1.block g (by omega) (fun e => by injection e with e; omega)).trans (hbX.block g hg)); refine cutA (p := Hid (∀ B, B ≤ b1 → B ≤ w1.heap.size → Below B w1 w2)) ?_ (fun HB2 => ?_); (exact fun B h1 h2 => (hbX.mono h2).grown hg1 (by omega) (fun k e => by injection e with e; omega)); have hs2 : w1.heap.size ≤ w2.heap.size := Nat.le_trans hXs hg1.size; have hbl2 : b2 < w2.heap.size := hT2'.out.lt; have hSl2 : S < w2.heap.size := Nat.lt_of_lt_of_le hSl1 hs2; clear hTX hUX hRX hOX hbX hT1' hd1 hg1 hXs)
        refine hK.out _ _ ?_ (fun hHeld2 => ?_)
        · try dsimp only
          first | with_reducible exact heldT HR.out | with_reducible exact heldT HR.out.drew | with_reducible exact heldT (HR.out.alloc _) | with_reducible exact heldT (HR.out.alloc _).drew | with_reducible exact heldT ((HR.out.alloc _).alloc _) | with_reducible exact heldT ((HR.out.alloc _).alloc _).drew | with_reducible exact heldT hR2.out | with_reducible exact heldT (hR2.out.alloc _) | with_reducible exact heldT hR3.out | with_reducible exact heldT2 hR3.out _ _
        clear hK K hHeld
        have hHeld := hHeld2
        clear hHeld2
        try simp only [Act.put, List.setIfInBounds_toArray, List.set_cons_zero, List.set_cons_succ]
        refine wpAnyH_ready (rs := [15]) (by kernel_rfl) (by simp) ?_
        refine AllReadyH.cons rfl (fun K hK => ?_) AllReadyH.nil
        go_simp
        refine hK.out _ _ ?_ (fun hHeld2 => ?_)
        · try dsimp only
          first | with_reducible exact heldT HR.out | with_reducible exact heldT HR.out.drew | with_reducible exact heldT (HR.out.alloc _) | with_reducible exact heldT (HR.out.alloc _).drew | with_reducible exact heldT ((HR.out.alloc _).alloc _) | with_reducible exact heldT ((HR.out.alloc _).alloc _).drew | with_reducible exact heldT hR2.out | with_reducible exact heldT (hR2.out.alloc _) | with_reducible exact heldT hR3.out | with_reducible exact heldT2 hR3.out _ _
        clear hK K hHeld
        have hHeld := hHeld2
        clear hHeld2
        try simp only [Act.put, List.setIfInBounds_toArray, List.set_cons_zero, List.set_cons_succ]
        refine wpAnyH_take (i := 17) (v := ?_) rfl (by kernel_rfl) (by kernel_rfl) (by kernel_rfl) (fun _ _ _ h => h) (Or.inl ⟨by rfl, ?_⟩) (by assumption) ?_
        rotate_left
        · intro w hSw; (try dsimp only at hSw); go_simp; try with_reducible rfl
        try simp only [Act.put, List.setIfInBounds_toArray, List.set_cons_zero, List.set_cons_succ]
        refine wpAnyH_ready (rs := [18]) (by kernel_rfl) (by simp) ?_
        refine AllReadyH.cons rfl (fun K hK => ?_) AllReadyH.nil
        go_simp
        refine hK.out _ _ ?_ (fun hHeld2 => ?_)
        · try dsimp only
          first | with_reducible exact heldT HR.out | with_reducible exact heldT HR.out.drew | with_reducible exact heldT (HR.out.alloc _) | with_reducible exact heldT (HR.out.alloc _).drew | with_reducible exact heldT ((HR.out.alloc _).alloc _) | with_reducible exact heldT ((HR.out.alloc _).alloc _).drew | with_reducible exact heldT hR2.out | with_reducible exact heldT (hR2.out.alloc _) | with_reducible exact heldT hR3.out | with_reducible exact heldT2 hR3.out _ _
        clear hK K hHeld
        have hHeld := hHeld2
        clear hHeld2
        try simp only [Act.put, List.setIfInBounds_toArray, List.set_cons_zero, List.set_cons_succ]
        refine wpAnyH_ready (rs := [19]) (by kernel_rfl) (by simp) ?_
        refine AllReadyH.cons rfl (fun K hK => ?_) AllReadyH.nil
        go_simp
        (go_at_call 99; refine namedT ?_; intro X hX; refine cutA (p := Tb X b2 k c2 z2) ?_ (fun hTX => ?_); (rw [hX]; first | exact hT2'.out | exact hT2'.out.alloc _); refine cutA (p := Tb X b1' (k + 1) c1' (consZ x1 z1)) ?_ (fun hUX => ?_); (rw [hX]; first | exact HT1'.out | exact HT1'.out.alloc _); refine cutA (p := Blk X S 96 #[.slice (some ⟨b1, 0, none⟩) k c1, .slice (some ⟨b2, 0, none⟩) k c2]) ?_ (fun hRX => ?_); (rw [hX]; first | exact hR2.out | exact hR2.out.alloc _); refine cutA (p := Blk X (S + 1) 96 #[.slice none 0 0, .slice none 0 0]) ?_ (fun hOX => ?_); (rw [hX]; first | exact hO2.out | exact hO2.out.alloc _); refine cutA (p := Below w2.heap.size w2 X) ?_ (fun hbX => ?_); (rw [hX]; first | exact Below.refl _ w2 | exact (Below.refl _ w2).drew | exact ((Below.refl _ w2).alloc (Nat.le_refl _) _) | exact ((Below.refl _ w2).alloc (Nat.le_refl _) _).drew); (first | ((with_reducible refine Calls.mono (ins_any b2 k c2 w2.heap.size x2 z2 X hTX ?_ ?_ hk hk') ?_); (rw [hX]; exact Blk.new _ _ _); omega) | ((with_reducible refine Calls.mono (ins_any b2 k c2 w1.heap.size x2 z2 X hTX ?_ ?_ hk hk') ?_); (rw [hX]; exact HV2.out); omega) | ((with_reducible refine Calls.mono (ins_any b2 k c2 (w1.heap.size + 1) x2 z2 X hTX ?_ ?_ hk hk') ?_); (rw [hX]; exact HV2.out); omega)); rintro e w3 ⟨b2', c2', rfl, hT2'', hd2, hg2⟩; have hXs := hbX.size; refine cutA (p := b1' ≠ b2) ?_ (fun h1ne => ?_); (rcases HD1.out with e | e; omega; omega); refine cutA (p := Hid (Tb w3 b1' (k + 1) c1' (consZ x1 z1))) ?_ (fun hT13 => ?_); (exact hUX.keep (hg2.block b1' hUX.lt (fun e => by injection e with e; omega))); refine cutA (p := Blk w3 (S + 1) 96 #[.slice none 0 0, .slice none 0 0]) ?_ (fun hO3 => ?_); (exact hOX.grown hg2 (fun e => by injection e with e; omega)); have hR3 : Hid (Blk w3 S 96 #[.slice (some ⟨b1, 0, none⟩) k c1, .slice (some ⟨b2, 0, none⟩) k c2]) := hRX.grown hg2 (fun e => by injection e with e; omega); have h1l : b1' < X.heap.size := hUX.lt; refine cutA (p := Hid (b2' = b2 ∨ (w1.heap.size ≤ b2' ∧ b1' ≠ b2'))) ?_ (fun HD2 => ?_); (rcases hd2 with e | e; exact .inl e; exact .inr ⟨by omega, by omega⟩); refine cutA (p := Hid (∀ g, g < w1.heap.size → g ≠ b1 → g ≠ b2 → w3.heap[g]? = w1.heap[g]?)) ?_ (fun HK3 => ?_); (exact fun g hg hne hne2 => ((hg2.block g (by omega) (fun e => by injection e with e; omega)).trans (hbX.block g (by omega))).trans (HK2.out g hg hne)); refine cutA (p := Hid (∀ B, B ≤ b1 → B ≤ b2 → B ≤ w1.heap.size → Below B w1 w3)) ?_ (fun HB3 => ?_); (exact fun B h1 h2 h3 => ((HB2.out B h1 h3).trans (hbX.mono (by omega))).grown hg2 (by omega) (fun k e => by injection e with e; omega)); have hs3 : w2.heap.size ≤ w3.heap.size := Nat.le_trans hXs hg2.size; have HT23 := hid hT2''; obtain ⟨o0, o1, of0, of1⟩ := tbV_cells hO3; clear hRX hTX hUX hOX hbX hT2'' hd2 hg2 hXs h1l)
        refine hK.out _ _ ?_ (fun hHeld2 => ?_)
        · try dsimp only
          first | with_reducible exact heldT HR.out | with_reducible exact heldT HR.out.drew | with_reducible exact heldT (HR.out.alloc _) | with_reducible exact heldT (HR.out.alloc _).drew | with_reducible exact heldT ((HR.out.alloc _).alloc _) | with_reducible exact heldT ((HR.out.alloc _).alloc _).drew | with_reducible exact heldT hR2.out | with_reducible exact heldT (hR2.out.alloc _) | with_reducible exact heldT hR3.out | with_reducible exact heldT2 hR3.out _ _
        clear hK K hHeld
        have hHeld := hHeld2
        clear hHeld2
        try simp only [Act.put, List.setIfInBounds_toArray, List.set_cons_zero, List.set_cons_succ]
        refine wpAnyH_take (i := 20) (v := ?_) rfl (by kernel_rfl) (by kernel_rfl) (by kernel_rfl) (fun _ _ _ h => h) (Or.inl ⟨by rfl, ?_⟩) (by assumption) ?_
        rotate_left
        · intro w hSw; (try dsimp only at hSw); go_simp; try with_reducible rfl
        try simp only [Act.put, List.setIfInBounds_toArray, List.set_cons_zero, List.set_cons_succ]
        refine wpAnyH_ready (rs := [21]) (by kernel_rfl) (by simp) ?_
        refine AllReadyH.cons rfl (fun K hK => ?_) AllReadyH.nil
        go_simp
        refine hK.out _ _ ?_ (fun hHeld2 => ?_)
        · try dsimp only
          first | with_reducible exact heldT HR.out | with_reducible exact heldT HR.out.drew | with_reducible exact heldT (HR.out.alloc _) | with_reducible exact heldT (HR.out.alloc _).drew | with_reducible exact heldT ((HR.out.alloc _).alloc _) | with_reducible exact heldT ((HR.out.alloc _).alloc _).drew | with_reducible exact heldT hR2.out | with_reducible exact heldT (hR2.out.alloc _) | with_reducible exact heldT hR3.out | with_reducible exact heldT2 hR3.out _ _
        clear hK K hHeld
        have hHeld := hHeld2
        clear hHeld2
        try simp only [Act.put, List.setIfInBounds_toArray, List.set_cons_zero, List.set_cons_succ]
        refine wpAnyH_done (by kernel_rfl) ?_ _
        go_wp2_with fail
        refine bodyPost_ret (results_cell_row rfl _ _ (S + 1) 96 #[.slice (some ⟨b1', 0, none⟩) (k + 1) c1', .slice (some ⟨b2', 0, none⟩) (k + 1) c2'] (0, 0) _ rfl ((hO3.set_ 0 (.slice (some ⟨b1', 0, none⟩) (k + 1) c1')).set_ 1 (.slice (some ⟨b2', 0, none⟩) (k + 1) c2')) Tryz.underlying96 rfl size_tables) rfl ?_
        rw [HX1.out, HX2.out]
        exact step_end HSE.out HBW.out hSw hbS hbS2 hT13.out HT23.out h1ne HD1.out HD2.out HK3.out HB3.out _ _
      · go_simp
        refine hK.out _ _ ?_ (fun hHeld2 => ?_)
        · try dsimp only
          first | with_reducible exact heldT HR.out | with_reducible exact heldT HR.out.drew | with_reducible exact heldT (HR.out.alloc _) | with_reducible exact heldT (HR.out.alloc _).drew | with_reducible exact heldT ((HR.out.alloc _).alloc _) | with_reducible exact heldT ((HR.out.alloc _).alloc _).drew | with_reducible exact heldT hR2.out | with_reducible exact heldT (hR2.out.alloc _) | with_reducible exact heldT hR3.out | with_reducible exact heldT2 hR3.out _ _
        clear hK K hHeld
        have hHeld := hHeld2
        clear hHeld2
        try simp only [Act.put, List.setIfInBounds_toArray, List.set_cons_zero, List.set_cons_succ]
        refine wpAnyH_take (i := 17) (v := ?_) rfl (by kernel_rfl) (by kernel_rfl) (by kernel_rfl) (fun _ _ _ h => h) (Or.inl ⟨by rfl, ?_⟩) (by assumption) ?_
        rotate_left
        · intro w hSw; (try dsimp only at hSw); go_simp; try with_reducible rfl
        try simp only [Act.put, List.setIfInBounds_toArray, List.set_cons_zero, List.set_cons_succ]
        refine wpAnyH_ready (rs := [9, 18]) (by kernel_rfl) (by simp) ?_
        refine AllReadyH.cons rfl (fun K hK => ?_) (AllReadyH.cons rfl (fun K hK => ?_) AllReadyH.nil)
        · go_simp
          (go_at_call 99; refine namedT ?_; intro X hX; refine cutA (p := Tb X b1 k c1 z1) ?_ (fun hTX => ?_); (rw [hX]; first | exact HT1.out | exact HT1.out.alloc _ | exact (HT1.out.alloc _).alloc _); refine cutA (p := Tb X b2 k c2 z2) ?_ (fun hUX => ?_); (rw [hX]; first | exact HT2.out | exact HT2.out.alloc _ | exact (HT2.out.alloc _).alloc _); refine cutA (p := Blk X S 96 #[.slice (some ⟨b1, 0, none⟩) k c1, .slice (some ⟨b2, 0, none⟩) k c2]) ?_ (fun hRX => ?_); (rw [hX]; first | exact HR.out | exact HR.out.alloc _ | exact (HR.out.alloc _).alloc _); refine cutA (p := Blk X (S + 1) 96 #[.slice none 0 0, .slice none 0 0]) ?_ (fun hOX => ?_); (rw [hX]; first | exact HO.out | exact HO.out.alloc _ | exact (HO.out.alloc _).alloc _); refine cutA (p := Below w1.heap.size w1 X) ?_ (fun hbX => ?_); (rw [hX]; first | exact ((Below.refl _ w1).alloc (Nat.le_refl _) _).drew | exact (((Below.refl _ w1).alloc (Nat.le_refl _) _).alloc (by simp) _).drew); (first | ((with_reducible refine Calls.mono (ins_any b1 k c1 w1.heap.size x1 z1 X hTX ?_ ?_ hk hk') ?_); (rw [hX]; first | exact Blk.new _ _ _ | exact (Blk.new _ _ _).alloc _); omega) | ((with_reducible refine Calls.mono (ins_any b1 k c1 (w1.heap.size + 1) x1 z1 X hTX ?_ ?_ hk hk') ?_); (rw [hX]; exact Blk.new2 _ _ _ _); omega)); rintro e w2 ⟨b1', c1', rfl, hT1', hd1, hg1⟩; have hXs := hbX.size; refine cutA (p := Hid (Tb w2 b2 k c2 z2)) ?_ (fun hT2' => ?_); (exact hUX.keep (hg1.block b2 hUX.lt (fun e => by injection e with e; omega))); refine cutA (p := Hid (Blk w2 S 96 #[.slice (some ⟨b1, 0, none⟩) k c1, .slice (some ⟨b2, 0, none⟩) k c2])) ?_ (fun hR2 => ?_); (exact hRX.grown hg1 (fun e => by injection e with e; omega)); refine cutA (p := Hid (Blk w2 (S + 1) 96 #[.slice none 0 0, .slice none 0 0])) ?_ (fun hO2 => ?_); (exact hOX.grown hg1 (fun e => by injection e with e; omega)); (first | (refine cutA (p := Hid (Blk w2 (w1.heap.size + 1) 2 #[.int .i64 x2])) ?_ (fun HV2 => ?_); (refine Blk.grown (w := X) ?_ hg1 ?_); (rw [hX]; exact Blk.new2 _ _ _ _); (intro e; injection e with e; omega)) | (refine cutA (p := Hid (Blk w2 w1.heap.size 2 #[.int .i64 x2])) ?_ (fun HV2 => ?_); (refine Blk.grown (w := X) ?_ hg1 ?_); (rw [hX]; first | exact (Blk.new _ _ _).alloc _ | exact Blk.new _ _ _); (intro e; injection e with e; omega)) | skip); have HT1' := hid hT1'; refine cutA (p := Hid (b1' = b1 ∨ w1.heap.size ≤ b1')) ?_ (fun HD1 => ?_); (rcases hd1 with e | e; exact .inl e; exact .inr (by omega)); have q20 : w2.cell? ⟨S, 0, none⟩ = some (.slice (some ⟨b1, 0, none⟩) k c1) := hR2.out.cell 0; have q21 : w2.cell? ⟨S, 1, none⟩ = some (.slice (some ⟨b2, 0, none⟩) k c2) := hR2.out.cell 1; have q2b : w2.cell? ⟨b2, 0, none⟩ = some (.int .i64 (z2 0)) := hT2'.out.cell hk; refine cutA (p := Hid (∀ g, g < w1.heap.size → g ≠ b1 → w2.heap[g]? = w1.heap[g]?)) ?_ (fun HK2 => ?_); (exact fun g hg hne => (hg1.block g (by omega) (fun e => by injection e with e; omega)).trans (hbX.block g hg)); refine cutA (p := Hid (∀ B, B ≤ b1 → B ≤ w1.heap.size → Below B w1 w2)) ?_ (fun HB2 => ?_); (exact fun B h1 h2 => (hbX.mono h2).grown hg1 (by omega) (fun k e => by injection e with e; omega)); have hs2 : w1.heap.size ≤ w2.heap.size := Nat.le_trans hXs hg1.size; have hbl2 : b2 < w2.heap.size := hT2'.out.lt; have hSl2 : S < w2.heap.size := Nat.lt_of_lt_of_le hSl1 hs2; clear hTX hUX hRX hOX hbX hT1' hd1 hg1 hXs)
          refine hK.out _ _ ?_ (fun hHeld2 => ?_)
          · try dsimp only
            first | with_reducible exact heldT HR.out | with_reducible exact heldT HR.out.drew | with_reducible exact heldT (HR.out.alloc _) | with_reducible exact heldT (HR.out.alloc _).drew | with_reducible exact heldT ((HR.out.alloc _).alloc _) | with_reducible exact heldT ((HR.out.alloc _).alloc _).drew | with_reducible exact heldT hR2.out | with_reducible exact heldT (hR2.out.alloc _) | with_reducible exact heldT hR3.out | with_reducible exact heldT2 hR3.out _ _
          clear hK K hHeld
          have hHeld := hHeld2
          clear hHeld2
          try simp only [Act.put, List.setIfInBounds_toArray, List.set_cons_zero, List.set_cons_succ]
          refine wpAnyH_ready (rs := [18]) (by kernel_rfl) (by simp) ?_
          refine AllReadyH.cons rfl (fun K hK => ?_) AllReadyH.nil
          go_simp
          refine hK.out _ _ ?_ (fun hHeld2 => ?_)
          · try dsimp only
            first | with_reducible exact heldT HR.out | with_reducible exact heldT HR.out.drew | with_reducible exact heldT (HR.out.alloc _) | with_reducible exact heldT (HR.out.alloc _).drew | with_reducible exact heldT ((HR.out.alloc _).alloc _) | with_reducible exact heldT ((HR.out.alloc _).alloc _).drew | with_reducible exact heldT hR2.out | with_reducible exact heldT (hR2.out.alloc _) | with_reducible exact heldT hR3.out | with_reducible exact heldT2 hR3.out _ _
          clear hK K hHeld
          have hHeld := hHeld2
          clear hHeld2
          try simp only [Act.put, List.setIfInBounds_toArray, List.set_cons_zero, List.set_cons_succ]
          refine wpAnyH_ready (rs := [19]) (by kernel_rfl) (by simp) ?_
          refine AllReadyH.cons rfl (fun K hK => ?_) AllReadyH.nil
          go_simp
          (go_at_call 99; refine namedT ?_; intro X hX; refine cutA (p := Tb X b2 k c2 z2) ?_ (fun hTX => ?_); (rw [hX]; first | exact hT2'.out | exact hT2'.out.alloc _); refine cutA (p := Tb X b1' (k + 1) c1' (consZ x1 z1)) ?_ (fun hUX => ?_); (rw [hX]; first | exact HT1'.out | exact HT1'.out.alloc _); refine cutA (p := Blk X S 96 #[.slice (some ⟨b1, 0, none⟩) k c1, .slice (some ⟨b2, 0, none⟩) k c2]) ?_ (fun hRX => ?_); (rw [hX]; first | exact hR2.out | exact hR2.out.alloc _); refine cutA (p := Blk X (S + 1) 96 #[.slice none 0 0, .slice none 0 0]) ?_ (fun hOX => ?_); (rw [hX]; first | exact hO2.out | exact hO2.out.alloc _); refine cutA (p := Below w2.heap.size w2 X) ?_ (fun hbX => ?_); (rw [hX]; first | exact Below.refl _ w2 | exact (Below.refl _ w2).drew | exact ((Below.refl _ w2).alloc (Nat.le_refl _) _) | exact ((Below.refl _ w2).alloc (Nat.le_refl _) _).drew); (first | ((with_reducible refine Calls.mono (ins_any b2 k c2 w2.heap.size x2 z2 X hTX ?_ ?_ hk hk') ?_); (rw [hX]; exact Blk.new _ _ _); omega) | ((with_reducible refine Calls.mono (ins_any b2 k c2 w1.heap.size x2 z2 X hTX ?_ ?_ hk hk') ?_); (rw [hX]; exact HV2.out); omega) | ((with_reducible refine Calls.mono (ins_any b2 k c2 (w1.heap.size + 1) x2 z2 X hTX ?_ ?_ hk hk') ?_); (rw [hX]; exact HV2.out); omega)); rintro e w3 ⟨b2', c2', rfl, hT2'', hd2, hg2⟩; have hXs := hbX.size; refine cutA (p := b1' ≠ b2) ?_ (fun h1ne => ?_); (rcases HD1.out with e | e; omega; omega); refine cutA (p := Hid (Tb w3 b1' (k + 1) c1' (consZ x1 z1))) ?_ (fun hT13 => ?_); (exact hUX.keep (hg2.block b1' hUX.lt (fun e => by injection e with e; omega))); refine cutA (p := Blk w3 (S + 1) 96 #[.slice none 0 0, .slice none 0 0]) ?_ (fun hO3 => ?_); (exact hOX.grown hg2 (fun e => by injection e with e; omega)); have hR3 : Hid (Blk w3 S 96 #[.slice (some ⟨b1, 0, none⟩) k c1, .slice (some ⟨b2, 0, none⟩) k c2]) := hRX.grown hg2 (fun e => by injection e with e; omega); have h1l : b1' < X.heap.size := hUX.lt; refine cutA (p := Hid (b2' = b2 ∨ (w1.heap.size ≤ b2' ∧ b1' ≠ b2'))) ?_ (fun HD2 => ?_); (rcases hd2 with e | e; exact .inl e; exact .inr ⟨by omega, by omega⟩); refine cutA (p := Hid (∀ g, g < w1.heap.size → g ≠ b1 → g ≠ b2 → w3.heap[g]? = w1.heap[g]?)) ?_ (fun HK3 => ?_); (exact fun g hg hne hne2 => ((hg2.block g (by omega) (fun e => by injection e with e; omega)).trans (hbX.block g (by omega))).trans (HK2.out g hg hne)); refine cutA (p := Hid (∀ B, B ≤ b1 → B ≤ b2 → B ≤ w1.heap.size → Below B w1 w3)) ?_ (fun HB3 => ?_); (exact fun B h1 h2 h3 => ((HB2.out B h1 h3).trans (hbX.mono (by omega))).grown hg2 (by omega) (fun k e => by injection e with e; omega)); have hs3 : w2.heap.size ≤ w3.heap.size := Nat.le_trans hXs hg2.size; have HT23 := hid hT2''; obtain ⟨o0, o1, of0, of1⟩ := tbV_cells hO3; clear hRX hTX hUX hOX hbX hT2'' hd2 hg2 hXs h1l)
          refine hK.out _ _ ?_ (fun hHeld2 => ?_)
          · try dsimp only
            first | with_reducible exact heldT HR.out | with_reducible exact heldT HR.out.drew | with_reducible exact heldT (HR.out.alloc _) | with_reducible exact heldT (HR.out.alloc _).drew | with_reducible exact heldT ((HR.out.alloc _).alloc _) | with_reducible exact heldT ((HR.out.alloc _).alloc _).drew | with_reducible exact heldT hR2.out | with_reducible exact heldT (hR2.out.alloc _) | with_reducible exact heldT hR3.out | with_reducible exact heldT2 hR3.out _ _
          clear hK K hHeld
          have hHeld := hHeld2
          clear hHeld2
          try simp only [Act.put, List.setIfInBounds_toArray, List.set_cons_zero, List.set_cons_succ]
          refine wpAnyH_take (i := 20) (v := ?_) rfl (by kernel_rfl) (by kernel_rfl) (by kernel_rfl) (fun _ _ _ h => h) (Or.inl ⟨by rfl, ?_⟩) (by assumption) ?_
          rotate_left
          · intro w hSw; (try dsimp only at hSw); go_simp; try with_reducible rfl
          try simp only [Act.put, List.setIfInBounds_toArray, List.set_cons_zero, List.set_cons_succ]
          refine wpAnyH_ready (rs := [21]) (by kernel_rfl) (by simp) ?_
          refine AllReadyH.cons rfl (fun K hK => ?_) AllReadyH.nil
          go_simp
          refine hK.out _ _ ?_ (fun hHeld2 => ?_)
          · try dsimp only
            first | with_reducible exact heldT HR.out | with_reducible exact heldT HR.out.drew | with_reducible exact heldT (HR.out.alloc _) | with_reducible exact heldT (HR.out.alloc _).drew | with_reducible exact heldT ((HR.out.alloc _).alloc _) | with_reducible exact heldT ((HR.out.alloc _).alloc _).drew | with_reducible exact heldT hR2.out | with_reducible exact heldT (hR2.out.alloc _) | with_reducible exact heldT hR3.out | with_reducible exact heldT2 hR3.out _ _
          clear hK K hHeld
          have hHeld := hHeld2
          clear hHeld2
          try simp only [Act.put, List.setIfInBounds_toArray, List.set_cons_zero, List.set_cons_succ]
          refine wpAnyH_done (by kernel_rfl) ?_ _
          go_wp2_with fail
          refine bodyPost_ret (results_cell_row rfl _ _ (S + 1) 96 #[.slice (some ⟨b1', 0, none⟩) (k + 1) c1', .slice (some ⟨b2', 0, none⟩) (k + 1) c2'] (0, 0) _ rfl ((hO3.set_ 0 (.slice (some ⟨b1', 0, none⟩) (k + 1) c1')).set_ 1 (.slice (some ⟨b2', 0, none⟩) (k + 1) c2')) Tryz.underlying96 rfl size_tables) rfl ?_
          rw [HX1.out, HX2.out]
          exact step_end HSE.out HBW.out hSw hbS hbS2 hT13.out HT23.out h1ne HD1.out HD2.out HK3.out HB3.out _ _
        · go_simp
          refine hK.out _ _ ?_ (fun hHeld2 => ?_)
          · try dsimp only
            first | with_reducible exact heldT HR.out | with_reducible exact heldT HR.out.drew | with_reducible exact heldT (HR.out.alloc _) | with_reducible exact heldT (HR.out.alloc _).drew | with_reducible exact heldT ((HR.out.alloc _).alloc _) | with_reducible exact heldT ((HR.out.alloc _).alloc _).drew | with_reducible exact heldT hR2.out | with_reducible exact heldT (hR2.out.alloc _) | with_reducible exact heldT hR3.out | with_reducible exact heldT2 hR3.out _ _
          clear hK K hHeld
          have hHeld := hHeld2
          clear hHeld2
          try simp only [Act.put, List.setIfInBounds_toArray, List.set_cons_zero, List.set_cons_succ]
          refine wpAnyH_ready (rs := [9]) (by kernel_rfl) (by simp) ?_
          refine AllReadyH.cons rfl (fun K hK => ?_) AllReadyH.nil
          go_simp
          (go_at_call 99; refine namedT ?_; intro X hX; refine cutA (p := Tb X b1 k c1 z1) ?_ (fun hTX => ?_); (rw [hX]; first | exact HT1.out | exact HT1.out.alloc _ | exact (HT1.out.alloc _).alloc _); refine cutA (p := Tb X b2 k c2 z2) ?_ (fun hUX => ?_); (rw [hX]; first | exact HT2.out | exact HT2.out.alloc _ | exact (HT2.out.alloc _).alloc _); refine cutA (p := Blk X S 96 #[.slice (some ⟨b1, 0, none⟩) k c1, .slice (some ⟨b2, 0, none⟩) k c2]) ?_ (fun hRX => ?_); (rw [hX]; first | exact HR.out | exact HR.out.alloc _ | exact (HR.out.alloc _).alloc _); refine cutA (p := Blk X (S + 1) 96 #[.slice none 0 0, .slice none 0 0]) ?_ (fun hOX => ?_); (rw [hX]; first | exact HO.out | exact HO.out.alloc _ | exact (HO.out.alloc _).alloc _); refine cutA (p := Below w1.heap.size w1 X) ?_ (fun hbX => ?_); (rw [hX]; first | exact ((Below.refl _ w1).alloc (Nat.le_refl _) _).drew | exact (((Below.refl _ w1).alloc (Nat.le_refl _) _).alloc (by simp) _).drew); (first | ((with_reducible refine Calls.mono (ins_any b1 k c1 w1.heap.size x1 z1 X hTX ?_ ?_ hk hk') ?_); (rw [hX]; first | exact Blk.new _ _ _ | exact (Blk.new _ _ _).alloc _); omega) | ((with_reducible refine Calls.mono (ins_any b1 k c1 (w1.heap.size + 1) x1 z1 X hTX ?_ ?_ hk hk') ?_); (rw [hX]; exact Blk.new2 _ _ _ _); omega)); rintro e w2 ⟨b1', c1', rfl, hT1', hd1, hg1⟩; have hXs := hbX.size; refine cutA (p := Hid (Tb w2 b2 k c2 z2)) ?_ (fun hT2' => ?_); (exact hUX.keep (hg1.block b2 hUX.lt (fun e => by injection e with e; omega))); refine cutA (p := Hid (Blk w2 S 96 #[.slice (some ⟨b1, 0, none⟩) k c1, .slice (some ⟨b2, 0, none⟩) k c2])) ?_ (fun hR2 => ?_); (exact hRX.grown hg1 (fun e => by injection e with e; omega)); refine cutA (p := Hid (Blk w2 (S + 1) 96 #[.slice none 0 0, .slice none 0 0])) ?_ (fun hO2 => ?_); (exact hOX.grown hg1 (fun e => by injection e with e; omega)); (first | (refine cutA (p := Hid (Blk w2 (w1.heap.size + 1) 2 #[.int .i64 x2])) ?_ (fun HV2 => ?_); (refine Blk.grown (w := X) ?_ hg1 ?_); (rw [hX]; exact Blk.new2 _ _ _ _); (intro e; injection e with e; omega)) | (refine cutA (p := Hid (Blk w2 w1.heap.size 2 #[.int .i64 x2])) ?_ (fun HV2 => ?_); (refine Blk.grown (w := X) ?_ hg1 ?_); (rw [hX]; first | exact (Blk.new _ _ _).alloc _ | exact Blk.new _ _ _); (intro e; injection e with e; omega)) | skip); have HT1' := hid hT1'; refine cutA (p := Hid (b1' = b1 ∨ w1.heap.size ≤ b1')) ?_ (fun HD1 => ?_); (rcases hd1 with e | e; exact .inl e; exact .inr (by omega)); have q20 : w2.cell? ⟨S, 0, none⟩ = some (.slice (some ⟨b1, 0, none⟩) k c1) := hR2.out.cell 0; have q21 : w2.cell? ⟨S, 1, none⟩ = some (.slice (some ⟨b2, 0, none⟩) k c2) := hR2.out.cell 1; have q2b : w2.cell? ⟨b2, 0, none⟩ = some (.int .i64 (z2 0)) := hT2'.out.cell hk; refine cutA (p := Hid (∀ g, g < w1.heap.size → g ≠ b1 → w2.heap[g]? = w1.heap[g]?)) ?_ (fun HK2 => ?_); (exact fun g hg hne => (hg1.block g (by omega) (fun e => by injection e with e; omega)).trans (hbX.block g hg)); refine cutA (p := Hid (∀ B, B ≤ b1 → B ≤ w1.heap.size → Below B w1 w2)) ?_ (fun HB2 => ?_); (exact fun B h1 h2 => (hbX.mono h2).grown hg1 (by omega) (fun k e => by injection e with e; omega)); have hs2 : w1.heap.size ≤ w2.heap.size := Nat.le_trans hXs hg1.size; have hbl2 : b2 < w2.heap.size := hT2'.out.lt; have hSl2 : S < w2.heap.size := Nat.lt_of_lt_of_le hSl1 hs2; clear hTX hUX hRX hOX hbX hT1' hd1 hg1 hXs)
          refine hK.out _ _ ?_ (fun hHeld2 => ?_)
          · try dsimp only
            first | with_reducible exact heldT HR.out | with_reducible exact heldT HR.out.drew | with_reducible exact heldT (HR.out.alloc _) | with_reducible exact heldT (HR.out.alloc _).drew | with_reducible exact heldT ((HR.out.alloc _).alloc _) | with_reducible exact heldT ((HR.out.alloc _).alloc _).drew | with_reducible exact heldT hR2.out | with_reducible exact heldT (hR2.out.alloc _) | with_reducible exact heldT hR3.out | with_reducible exact heldT2 hR3.out _ _
          clear hK K hHeld
          have hHeld := hHeld2
          clear hHeld2
          try simp only [Act.put, List.setIfInBounds_toArray, List.set_cons_zero, List.set_cons_succ]
          refine wpAnyH_ready (rs := [19]) (by kernel_rfl) (by simp) ?_
          refine AllReadyH.cons rfl (fun K hK => ?_) AllReadyH.nil
          go_simp
          (go_at_call 99; refine namedT ?_; intro X hX; refine cutA (p := Tb X b2 k c2 z2) ?_ (fun hTX => ?_); (rw [hX]; first | exact hT2'.out | exact hT2'.out.alloc _); refine cutA (p := Tb X b1' (k + 1) c1' (consZ x1 z1)) ?_ (fun hUX => ?_); (rw [hX]; first | exact HT1'.out | exact HT1'.out.alloc _); refine cutA (p := Blk X S 96 #[.slice (some ⟨b1, 0, none⟩) k c1, .slice (some ⟨b2, 0, none⟩) k c2]) ?_ (fun hRX => ?_); (rw [hX]; first | exact hR2.out | exact hR2.out.alloc _); refine cutA (p := Blk X (S + 1) 96 #[.slice none 0 0, .slice none 0 0]) ?_ (fun hOX => ?_); (rw [hX]; first | exact hO2.out | exact hO2.out.alloc _); refine cutA (p := Below w2.heap.size w2 X) ?_ (fun hbX => ?_); (rw [hX]; first | exact Below.refl _ w2 | exact (Below.refl _ w2).drew | exact ((Below.refl _ w2).alloc (Nat.le_refl _) _) | exact ((Below.refl _ w2).alloc (Nat.le_refl _) _).drew); (first | ((with_reducible refine Calls.mono (ins_any b2 k c2 w2.heap.size x2 z2 X hTX ?_ ?_ hk hk') ?_); (rw [hX]; exact Blk.new _ _ _); omega) | ((with_reducible refine Calls.mono (ins_any b2 k c2 w1.heap.size x2 z2 X hTX ?_ ?_ hk hk') ?_); (rw [hX]; exact HV2.out); omega) | ((with_reducible refine Calls.mono (ins_any b2 k c2 (w1.heap.size + 1) x2 z2 X hTX ?_ ?_ hk hk') ?_); (rw [hX]; exact HV2.out); omega)); rintro e w3 ⟨b2', c2', rfl, hT2'', hd2, hg2⟩; have hXs := hbX.size; refine cutA (p := b1' ≠ b2) ?_ (fun h1ne => ?_); (rcases HD1.out with e | e; omega; omega); refine cutA (p := Hid (Tb w3 b1' (k + 1) c1' (consZ x1 z1))) ?_ (fun hT13 => ?_); (exact hUX.keep (hg2.block b1' hUX.lt (fun e => by injection e with e; omega))); refine cutA (p := Blk w3 (S + 1) 96 #[.slice none 0 0, .slice none 0 0]) ?_ (fun hO3 => ?_); (exact hOX.grown hg2 (fun e => by injection e with e; omega)); have hR3 : Hid (Blk w3 S 96 #[.slice (some ⟨b1, 0, none⟩) k c1, .slice (some ⟨b2, 0, none⟩) k c2]) := hRX.grown hg2 (fun e => by injection e with e; omega); have h1l : b1' < X.heap.size := hUX.lt; refine cutA (p := Hid (b2' = b2 ∨ (w1.heap.size ≤ b2' ∧ b1' ≠ b2'))) ?_ (fun HD2 => ?_); (rcases hd2 with e | e; exact .inl e; exact .inr ⟨by omega, by omega⟩); refine cutA (p := Hid (∀ g, g < w1.heap.size → g ≠ b1 → g ≠ b2 → w3.heap[g]? = w1.heap[g]?)) ?_ (fun HK3 => ?_); (exact fun g hg hne hne2 => ((hg2.block g (by omega) (fun e => by injection e with e; omega)).trans (hbX.block g (by omega))).trans (HK2.out g hg hne)); refine cutA (p := Hid (∀ B, B ≤ b1 → B ≤ b2 → B ≤ w1.heap.size → Below B w1 w3)) ?_ (fun HB3 => ?_); (exact fun B h1 h2 h3 => ((HB2.out B h1 h3).trans (hbX.mono (by omega))).grown hg2 (by omega) (fun k e => by injection e with e; omega)); have hs3 : w2.heap.size ≤ w3.heap.size := Nat.le_trans hXs hg2.size; have HT23 := hid hT2''; obtain ⟨o0, o1, of0, of1⟩ := tbV_cells hO3; clear hRX hTX hUX hOX hbX hT2'' hd2 hg2 hXs h1l)
          refine hK.out _ _ ?_ (fun hHeld2 => ?_)
          · try dsimp only
            first | with_reducible exact heldT HR.out | with_reducible exact heldT HR.out.drew | with_reducible exact heldT (HR.out.alloc _) | with_reducible exact heldT (HR.out.alloc _).drew | with_reducible exact heldT ((HR.out.alloc _).alloc _) | with_reducible exact heldT ((HR.out.alloc _).alloc _).drew | with_reducible exact heldT hR2.out | with_reducible exact heldT (hR2.out.alloc _) | with_reducible exact heldT hR3.out | with_reducible exact heldT2 hR3.out _ _
          clear hK K hHeld
          have hHeld := hHeld2
          clear hHeld2
          try simp only [Act.put, List.setIfInBounds_toArray, List.set_cons_zero, List.set_cons_succ]
          refine wpAnyH_take (i := 20) (v := ?_) rfl (by kernel_rfl) (by kernel_rfl) (by kernel_rfl) (fun _ _ _ h => h) (Or.inl ⟨by rfl, ?_⟩) (by assumption) ?_
          rotate_left
          · intro w hSw; (try dsimp only at hSw); go_simp; try with_reducible rfl
          try simp only [Act.put, List.setIfInBounds_toArray, List.set_cons_zero, List.set_cons_succ]
          refine wpAnyH_ready (rs := [21]) (by kernel_rfl) (by simp) ?_
          refine AllReadyH.cons rfl (fun K hK => ?_) AllReadyH.nil
          go_simp
          refine hK.out _ _ ?_ (fun hHeld2 => ?_)
          · try dsimp only
            first | with_reducible exact heldT HR.out | with_reducible exact heldT HR.out.drew | with_reducible exact heldT (HR.out.alloc _) | with_reducible exact heldT (HR.out.alloc _).drew | with_reducible exact heldT ((HR.out.alloc _).alloc _) | with_reducible exact heldT ((HR.out.alloc _).alloc _).drew | with_reducible exact heldT hR2.out | with_reducible exact heldT (hR2.out.alloc _) | with_reducible exact heldT hR3.out | with_reducible exact heldT2 hR3.out _ _
          clear hK K hHeld
          have hHeld := hHeld2
          clear hHeld2
          try simp only [Act.put, List.setIfInBounds_toArray, List.set_cons_zero, List.set_cons_succ]
          refine wpAnyH_done (by kernel_rfl) ?_ _
          go_wp2_with fail
          refine bodyPost_ret (results_cell_row rfl _ _ (S + 1) 96 #[.slice (some ⟨b1', 0, none⟩) (k + 1) c1', .slice (some ⟨b2', 0, none⟩) (k + 1) c2'] (0, 0) _ rfl ((hO3.set_ 0 (.slice (some ⟨b1', 0, none⟩) (k + 1) c1')).set_ 1 (.slice (some ⟨b2', 0, none⟩) (k + 1) c2')) Tryz.underlying96 rfl size_tables) rfl ?_
          rw [HX1.out, HX2.out]
          exact step_end HSE.out HBW.out hSw hbS hbS2 hT13.out HT23.out h1ne HD1.out HD2.out HK3.out HB3.out _ _
    · go_simp
      refine hK.out _ _ ?_ (fun hHeld2 => ?_)
      · try dsimp only
        first | with_reducible exact heldT HR.out | with_reducible exact heldT HR.out.drew | with_reducible exact heldT (HR.out.alloc _) | with_reducible exact heldT (HR.out.alloc _).drew | with_reducible exact heldT ((HR.out.alloc _).alloc _) | with_reducible exact heldT ((HR.out.alloc _).alloc _).drew | with_reducible exact heldT hR2.out | with_reducible exact heldT (hR2.out.alloc _) | with_reducible exact heldT hR3.out | with_reducible exact heldT2 hR3.out _ _
      clear hK K hHeld
      have hHeld := hHeld2
      clear hHeld2
      try simp only [Act.put, List.setIfInBounds_toArray, List.set_cons_zero, List.set_cons_succ]
      refine wpAnyH_take (i := 17) (v := ?_) rfl (by kernel_rfl) (by kernel_rfl) (by kernel_rfl) (fun _ _ _ h => h) (Or.inl ⟨by rfl, ?_⟩) (by assumption) ?_
      rotate_left
      · intro w hSw; (try dsimp only at hSw); go_simp; try with_reducible rfl
      try simp only [Act.put, List.setIfInBounds_toArray, List.set_cons_zero, List.set_cons_succ]
      refine wpAnyH_ready (rs := [8, 18]) (by kernel_rfl) (by simp) ?_
      refine AllReadyH.cons rfl (fun K hK => ?_) (AllReadyH.cons rfl (fun K hK => ?_) AllReadyH.nil)
      · go_simp
        refine hK.out _ _ ?_ (fun hHeld2 => ?_)
        · try dsimp only
          first | with_reducible exact heldT HR.out | with_reducible exact heldT HR.out.drew | with_reducible exact heldT (HR.out.alloc _) | with_reducible exact heldT (HR.out.alloc _).drew | with_reducible exact heldT ((HR.out.alloc _).alloc _) | with_reducible exact heldT ((HR.out.alloc _).alloc _).drew | with_reducible exact heldT hR2.out | with_reducible exact heldT (hR2.out.alloc _) | with_reducible exact heldT hR3.out | with_reducible exact heldT2 hR3.out _ _
        clear hK K hHeld
        have hHeld := hHeld2
        clear hHeld2
        try simp only [Act.put, List.setIfInBounds_toArray, List.set_cons_zero, List.set_cons_succ]
        refine wpAnyH_ready (rs := [9, 18]) (by kernel_rfl) (by simp) ?_
        refine AllReadyH.cons rfl (fun K hK => ?_) (AllReadyH.cons rfl (fun K hK => ?_) AllReadyH.nil)
        · go_simp
          (go_at_call 99; refine namedT ?_; intro X hX; refine cutA (p := Tb X b1 k c1 z1) ?_ (fun hTX => ?_); (rw [hX]; first | exact HT1.out | exact HT1.out.alloc _ | exact (HT1.out.alloc _).alloc _); refine cutA (p := Tb X b2 k c2 z2) ?_ (fun hUX => ?_); (rw [hX]; first | exact HT2.out | exact HT2.out.alloc _ | exact (HT2.out.alloc _).alloc _); refine cutA (p := Blk X S 96 #[.slice (some ⟨b1, 0, none⟩) k c1, .slice (some ⟨b2, 0, none⟩) k c2]) ?_ (fun hRX => ?_); (rw [hX]; first | exact HR.out | exact HR.out.alloc _ | exact (HR.out.alloc _).alloc _); refine cutA (p := Blk X (S + 1) 96 #[.slice none 0 0, .slice none 0 0]) ?_ (fun hOX => ?_); (rw [hX]; first | exact HO.out | exact HO.out.alloc _ | exact (HO.out.alloc _).alloc _); refine cutA (p := Below w1.heap.size w1 X) ?_ (fun hbX => ?_); (rw [hX]; first | exact ((Below.refl _ w1).alloc (Nat.le_refl _) _).drew | exact (((Below.refl _ w1).alloc (Nat.le_refl _) _).alloc (by simp) _).drew); (first | ((with_reducible refine Calls.mono (ins_any b1 k c1 w1.heap.size x1 z1 X hTX ?_ ?_ hk hk') ?_); (rw [hX]; first | exact Blk.new _ _ _ | exact (Blk.new _ _ _).alloc _); omega) | ((with_reducible refine Calls.mono (ins_any b1 k c1 (w1.heap.size + 1) x1 z1 X hTX ?_ ?_ hk hk') ?_); (rw [hX]; exact Blk.new2 _ _ _ _); omega)); rintro e w2 ⟨b1', c1', rfl, hT1', hd1, hg1⟩; have hXs := hbX.size; refine cutA (p := Hid (Tb w2 b2 k c2 z2)) ?_ (fun hT2' => ?_); (exact hUX.keep (hg1.block b2 hUX.lt (fun e => by injection e with e; omega))); refine cutA (p := Hid (Blk w2 S 96 #[.slice (some ⟨b1, 0, none⟩) k c1, .slice (some ⟨b2, 0, none⟩) k c2])) ?_ (fun hR2 => ?_); (exact hRX.grown hg1 (fun e => by injection e with e; omega)); refine cutA (p := Hid (Blk w2 (S + 1) 96 #[.slice none 0 0, .slice none 0 0])) ?_ (fun hO2 => ?_); (exact hOX.grown hg1 (fun e => by injection e with e; omega)); (first | (refine cutA (p := Hid (Blk w2 (w1.heap.size + 1) 2 #[.int .i64 x2])) ?_ (fun HV2 => ?_); (refine Blk.grown (w := X) ?_ hg1 ?_); (rw [hX]; exact Blk.new2 _ _ _ _); (intro e; injection e with e; omega)) | (refine cutA (p := Hid (Blk w2 w1.heap.size 2 #[.int .i64 x2])) ?_ (fun HV2 => ?_); (refine Blk.grown (w := X) ?_ hg1 ?_); (rw [hX]; first | exact (Blk.new _ _ _).alloc _ | exact Blk.new _ _ _); (intro e; injection e with e; omega)) | skip); have HT1' := hid hT1'; refine cutA (p := Hid (b1' = b1 ∨ w1.heap.size ≤ b1')) ?_ (fun HD1 => ?_); (rcases hd1 with e | e; exact .inl e; exact .inr (by omega)); have q20 : w2.cell? ⟨S, 0, none⟩ = some (.slice (some ⟨b1, 0, none⟩) k c1) := hR2.out.cell 0; have q21 : w2.cell? ⟨S, 1, none⟩ = some (.slice (some ⟨b2, 0, none⟩) k c2) := hR2.out.cell 1; have q2b : w2.cell? ⟨b2, 0, none⟩ = some (.int .i64 (z2 0)) := hT2'.out.cell hk; refine cutA (p := Hid (∀ g, g < w1.heap.size → g ≠ b1 → w2.heap[g]? = w1.heap[g]?)) ?_ (fun HK2 => ?_); (exact fun g hg hne => (hg1.block g (by omega) (fun e => by injection e with e; omega)).trans (hbX.block g hg)); refine cutA (p := Hid (∀ B, B ≤ b1 → B ≤ w1.heap.size → Below B w1 w2)) ?_ (fun HB2 => ?_); (exact fun B h1 h2 => (hbX.mono h2).grown hg1 (by omega) (fun k e => by injection e with e; omega)); have hs2 : w1.heap.size ≤ w2.heap.size := Nat.le_trans hXs hg1.size; have hbl2 : b2 < w2.heap.size := hT2'.out.lt; have hSl2 : S < w2.heap.size := Nat.lt_of_lt_of_le hSl1 hs2; clear hTX hUX hRX hOX hbX hT1' hd1 hg1 hXs)
          refine hK.out _ _ ?_ (fun hHeld2 => ?_)
          · try dsimp only
            first | with_reducible exact heldT HR.out | with_reducible exact heldT HR.out.drew | with_reducible exact heldT (HR.out.alloc _) | with_reducible exact heldT (HR.out.alloc _).drew | with_reducible exact heldT ((HR.out.alloc _).alloc _) | with_reducible exact heldT ((HR.out.alloc _).alloc _).drew | with_reducible exact heldT hR2.out | with_reducible exact heldT (hR2.out.alloc _) | with_reducible exact heldT hR3.out | with_reducible exact heldT2 hR3.out _ _
          clear hK K hHeld
          have hHeld := hHeld2
          clear hHeld2
          try simp only [Act.put, List.setIfInBounds_toArray, List.set_cons_zero, List.set_cons_succ]
          refine wpAnyH_ready (rs := [18]) (by kernel_rfl) (by simp) ?_
          refine AllReadyH.cons rfl (fun K hK => ?_) AllReadyH.nil
          go_simp
          refine hK.out _ _ ?_ (fun hHeld2 => ?_)
          · try dsimp only
            first | with_reducible exact heldT HR.out | with_reducible exact heldT HR.out.drew | with_reducible exact heldT (HR.out.alloc _) | with_reducible exact heldT (HR.out.alloc _).drew | with_reducible exact heldT ((HR.out.alloc _).alloc _) | with_reducible exact heldT ((HR.out.alloc _).alloc _).drew | with_reducible exact heldT hR2.out | with_reducible exact heldT (hR2.out.alloc _) | with_reducible exact heldT hR3.out | with_reducible exact heldT2 hR3.out _ _
          clear hK K hHeld
          have hHeld := hHeld2
          clear hHeld2
          try simp only [Act.put, List.setIfInBounds_toArray, List.set_cons_zero, List.set_cons_succ]
          refine wpAnyH_ready (rs := [19]) (by kernel_rfl) (by simp) ?_
          refine AllReadyH.cons rfl (fun K hK => ?_) AllReadyH.nil
          go_simp
          (go_at_call 99; refine namedT ?_; intro X hX; refine cutA (p := Tb X b2 k c2 z2) ?_ (fun hTX => ?_); (rw [hX]; first | exact hT2'.out | exact hT2'.out.alloc _); refine cutA (p := Tb X b1' (k + 1) c1' (consZ x1 z1)) ?_ (fun hUX => ?_); (rw [hX]; first | exact HT1'.out | exact HT1'.out.alloc _); refine cutA (p := Blk X S 96 #[.slice (some ⟨b1, 0, none⟩) k c1, .slice (some ⟨b2, 0, none⟩) k c2]) ?_ (fun hRX => ?_); (rw [hX]; first | exact hR2.out | exact hR2.out.alloc _); refine cutA (p := Blk X (S + 1) 96 #[.slice none 0 0, .slice none 0 0]) ?_ (fun hOX => ?_); (rw [hX]; first | exact hO2.out | exact hO2.out.alloc _); refine cutA (p := Below w2.heap.size w2 X) ?_ (fun hbX => ?_); (rw [hX]; first | exact Below.refl _ w2 | exact (Below.refl _ w2).drew | exact ((Below.refl _ w2).alloc (Nat.le_refl _) _) | exact ((Below.refl _ w2).alloc (Nat.le_refl _) _).drew); (first | ((with_reducible refine Calls.mono (ins_any b2 k c2 w2.heap.size x2 z2 X hTX ?_ ?_ hk hk') ?_); (rw [hX]; exact Blk.new _ _ _); omega) | ((with_reducible refine Calls.mono (ins_any b2 k c2 w1.heap.size x2 z2 X hTX ?_ ?_ hk hk') ?_); (rw [hX]; exact HV2.out); omega) | ((with_reducible refine Calls.mono (ins_any b2 k c2 (w1.heap.size + 1) x2 z2 X hTX ?_ ?_ hk hk') ?_); (rw [hX]; exact HV2.out); omega)); rintro e w3 ⟨b2', c2', rfl, hT2'', hd2, hg2⟩; have hXs := hbX.size; refine cutA (p := b1' ≠ b2) ?_ (fun h1ne => ?_); (rcases HD1.out with e | e; omega; omega); refine cutA (p := Hid (Tb w3 b1' (k + 1) c1' (consZ x1 z1))) ?_ (fun hT13 => ?_); (exact hUX.keep (hg2.block b1' hUX.lt (fun e => by injection e with e; omega))); refine cutA (p := Blk w3 (S + 1) 96 #[.slice none 0 0, .slice none 0 0]) ?_ (fun hO3 => ?_); (exact hOX.grown hg2 (fun e => by injection e with e; omega)); have hR3 : Hid (Blk w3 S 96 #[.slice (some ⟨b1, 0, none⟩) k c1, .slice (some ⟨b2, 0, none⟩) k c2]) := hRX.grown hg2 (fun e => by injection e with e; omega); have h1l : b1' < X.heap.size := hUX.lt; refine cutA (p := Hid (b2' = b2 ∨ (w1.heap.size ≤ b2' ∧ b1' ≠ b2'))) ?_ (fun HD2 => ?_); (rcases hd2 with e | e; exact .inl e; exact .inr ⟨by omega, by omega⟩); refine cutA (p := Hid (∀ g, g < w1.heap.size → g ≠ b1 → g ≠ b2 → w3.heap[g]? = w1.heap[g]?)) ?_ (fun HK3 => ?_); (exact fun g hg hne hne2 => ((hg2.block g (by omega) (fun e => by injection e with e; omega)).trans (hbX.block g (by omega))).trans (HK2.out g hg hne)); refine cutA (p := Hid (∀ B, B ≤ b1 → B ≤ b2 → B ≤ w1.heap.size → Below B w1 w3)) ?_ (fun HB3 => ?_); (exact fun B h1 h2 h3 => ((HB2.out B h1 h3).trans (hbX.mono (by omega))).grown hg2 (by omega) (fun k e => by injection e with e; omega)); have hs3 : w2.heap.size ≤ w3.heap.size := Nat.le_trans hXs hg2.size; have HT23 := hid hT2''; obtain ⟨o0, o1, of0, of1⟩ := tbV_cells hO3; clear hRX hTX hUX hOX hbX hT2'' hd2 hg2 hXs h1l)
          refine hK.out _ _ ?_ (fun hHeld2 => ?_)
          · try dsimp only
            first | with_reducible exact heldT HR.out | with_reducible exact heldT HR.out.drew | with_reducible exact heldT (HR.out.alloc _) | with_reducible exact heldT (HR.out.alloc _).drew | with_reducible exact heldT ((HR.out.alloc _).alloc _) | with_reducible exact heldT ((HR.out.alloc _).alloc _).drew | with_reducible exact heldT hR2.out | with_reducible exact heldT (hR2.out.alloc _) | with_reducible exact heldT hR3.out | with_reducible exact heldT2 hR3.out _ _
          clear hK K hHeld
          have hHeld := hHeld2
          clear hHeld2
          try simp only [Act.put, List.setIfInBounds_toArray, List.set_cons_zero, List.set_cons_succ]
          refine wpAnyH_take (i := 20) (v := ?_) rfl (by kernel_rfl) (by kernel_rfl) (by kernel_rfl) (fun _ _ _ h => h) (Or.inl ⟨by rfl, ?_⟩) (by assumption) ?_
          rotate_left
          · intro w hSw; (try dsimp only at hSw); go_simp; try with_reducible rfl
          try simp only [Act.put, List.setIfInBounds_toArray, List.set_cons_zero, List.set_cons_succ]
          refine wpAnyH_ready (rs := [21]) (by kernel_rfl) (by simp) ?_
          refine AllReadyH.cons rfl (fun K hK => ?_) AllReadyH.nil
          go_simp
          refine hK.out _ _ ?_ (fun hHeld2 => ?_)
          · try dsimp only
            first | with_reducible exact heldT HR.out | with_reducible exact heldT HR.out.drew | with_reducible exact heldT (HR.out.alloc _) | with_reducible exact heldT (HR.out.alloc _).drew | with_reducible exact heldT ((HR.out.alloc _).alloc _) | with_reducible exact heldT ((HR.out.alloc _).alloc _).drew | with_reducible exact heldT hR2.out | with_reducible exact heldT (hR2.out.alloc _) | with_reducible exact heldT hR3.out | with_reducible exact heldT2 hR3.out _ _
          clear hK K hHeld
          have hHeld := hHeld2
          clear hHeld2
          try simp only [Act.put, List.setIfInBounds_toArray, List.set_cons_zero, List.set_cons_succ]
          refine wpAnyH_done (by kernel_rfl) ?_ _
          go_wp2_with fail
          refine bodyPost_ret (results_cell_row rfl _ _ (S + 1) 96 #[.slice (some ⟨b1', 0, none⟩) (k + 1) c1', .slice (some ⟨b2', 0, none⟩) (k + 1) c2'] (0, 0) _ rfl ((hO3.set_ 0 (.slice (some ⟨b1', 0, none⟩) (k + 1) c1')).set_ 1 (.slice (some ⟨b2', 0, none⟩) (k + 1) c2')) Tryz.underlying96 rfl size_tables) rfl ?_
          rw [HX1.out, HX2.out]
          exact step_end HSE.out HBW.out hSw hbS hbS2 hT13.out HT23.out h1ne HD1.out HD2.out HK3.out HB3.out _ _
        · go_simp
          refine hK.out _ _ ?_ (fun hHeld2 => ?_)
          · try dsimp only
            first | with_reducible exact heldT HR.out | with_reducible exact heldT HR.out.drew | with_reducible exact heldT (HR.out.alloc _) | with_reducible exact heldT (HR.out.alloc _).drew | with_reducible exact heldT ((HR.out.alloc _).alloc _) | with_reducible exact heldT ((HR.out.alloc _).alloc _).drew | with_reducible exact heldT hR2.out | with_reducible exact heldT (hR2.out.alloc _) | with_reducible exact heldT hR3.out | with_reducible exact heldT2 hR3.out _ _
          clear hK K hHeld
          have hHeld := hHeld2
          clear hHeld2
          try simp only [Act.put, List.setIfInBounds_toArray, List.set_cons_zero, List.set_cons_succ]
          refine wpAnyH_ready (rs := [9]) (by kernel_rfl) (by simp) ?_
          refine AllReadyH.cons rfl (fun K hK => ?_) AllReadyH.nil
          go_simp
          (go_at_call 99; refine namedT ?_; intro X hX; refine cutA (p := Tb X b1 k c1 z1) ?_ (fun hTX => ?_); (rw [hX]; first | exact HT1.out | exact HT1.out.alloc _ | exact (HT1.out.alloc _).alloc _); refine cutA (p := Tb X b2 k c2 z2) ?_ (fun hUX => ?_); (rw [hX]; first | exact HT2.out | exact HT2.out.alloc _ | exact (HT2.out.alloc _).alloc _); refine cutA (p := Blk X S 96 #[.slice (some ⟨b1, 0, none⟩) k c1, .slice (some ⟨b2, 0, none⟩) k c2]) ?_ (fun hRX => ?_); (rw [hX]; first | exact HR.out | exact HR.out.alloc _ | exact (HR.out.alloc _).alloc _); refine cutA (p := Blk X (S + 1) 96 #[.slice none 0 0, .slice none 0 0]) ?_ (fun hOX => ?_); (rw [hX]; first | exact HO.out | exact HO.out.alloc _ | exact (HO.out.alloc _).alloc _); refine cutA (p := Below w1.heap.size w1 X) ?_ (fun hbX => ?_); (rw [hX]; first | exact ((Below.refl _ w1).alloc (Nat.le_refl _) _).drew | exact (((Below.refl _ w1).alloc (Nat.le_refl _) _).alloc (by simp) _).drew); (first | ((with_reducible refine Calls.mono (ins_any b1 k c1 w1.heap.size x1 z1 X hTX ?_ ?_ hk hk') ?_); (rw [hX]; first | exact Blk.new _ _ _ | exact (Blk.new _ _ _).alloc _); omega) | ((with_reducible refine Calls.mono (ins_any b1 k c1 (w1.heap.size + 1) x1 z1 X hTX ?_ ?_ hk hk') ?_); (rw [hX]; exact Blk.new2 _ _ _ _); omega)); rintro e w2 ⟨b1', c1', rfl, hT1', hd1, hg1⟩; have hXs := hbX.size; refine cutA (p := Hid (Tb w2 b2 k c2 z2)) ?_ (fun hT2' => ?_); (exact hUX.keep (hg1.block b2 hUX.lt (fun e => by injection e with e; omega))); refine cutA (p := Hid (Blk w2 S 96 #[.slice (some ⟨b1, 0, none⟩) k c1, .slice (some ⟨b2, 0, none⟩) k c2])) ?_ (fun hR2 => ?_); (exact hRX.grown hg1 (fun e => by injection e with e; omega)); refine cutA (p := Hid (Blk w2 (S + 1) 96 #[.slice none 0 0, .slice none 0 0])) ?_ (fun hO2 => ?_); (exact hOX.grown hg1 (fun e => by injection e with e; omega)); (first | (refine cutA (p := Hid (Blk w2 (w1.heap.size + 1) 2 #[.int .i64 x2])) ?_ (fun HV2 => ?_); (refine Blk.grown (w := X) ?_ hg1 ?_); (rw [hX]; exact Blk.new2 _ _ _ _); (intro e; injection e with e; omega)) | (refine cutA (p := Hid (Blk w2 w1.heap.size 2 #[.int .i64 x2])) ?_ (fun HV2 => ?_); (refine Blk.grown (w := X) ?_ hg1 ?_); (rw [hX]; first | exact (Blk.new _ _ _).alloc _ | exact Blk.new _ _ _); (intro e; injection e with e; omega)) | skip); have HT1' := hid hT1'; refine cutA (p := Hid (b1' = b1 ∨ w1.heap.size ≤ b1')) ?_ (fun HD1 => ?_); (rcases hd1 with e | e; exact .inl e; exact .inr (by omega)); have q20 : w2.cell? ⟨S, 0, none⟩ = some (.slice (some ⟨b1, 0, none⟩) k c1) := hR2.out.cell 0; have q21 : w2.cell? ⟨S, 1, none⟩ = some (.slice (some ⟨b2, 0, none⟩) k c2) := hR2.out.cell 1; have q2b : w2.cell? ⟨b2, 0, none⟩ = some (.int .i64 (z2 0)) := hT2'.out.cell hk; refine cutA (p := Hid (∀ g, g < w1.heap.size → g ≠ b1 → w2.heap[g]? = w1.heap[g]?)) ?_ (fun HK2 => ?_); (exact fun g hg hne => (hg1.block g (by omega) (fun e => by injection e with e; omega)).trans (hbX.block g hg)); refine cutA (p := Hid (∀ B, B ≤ b1 → B ≤ w1.heap.size → Below B w1 w2)) ?_ (fun HB2 => ?_); (exact fun B h1 h2 => (hbX.mono h2).grown hg1 (by omega) (fun k e => by injection e with e; omega)); have hs2 : w1.heap.size ≤ w2.heap.size := Nat.le_trans hXs hg1.size; have hbl2 : b2 < w2.heap.size := hT2'.out.lt; have hSl2 : S < w2.heap.size := Nat.lt_of_lt_of_le hSl1 hs2; clear hTX hUX hRX hOX hbX hT1' hd1 hg1 hXs)
          refine hK.out _ _ ?_ (fun hHeld2 => ?_)
          · try dsimp only
            first | with_reducible exact heldT HR.out | with_reducible exact heldT HR.out.drew | with_reducible exact heldT (HR.out.alloc _) | with_reducible exact heldT (HR.out.alloc _).drew | with_reducible exact heldT ((HR.out.alloc _).alloc _) | with_reducible exact heldT ((HR.out.alloc _).alloc _).drew | with_reducible exact heldT hR2.out | with_reducible exact heldT (hR2.out.alloc _) | with_reducible exact heldT hR3.out | with_reducible exact heldT2 hR3.out _ _
          clear hK K hHeld
          have hHeld := hHeld2
          clear hHeld2
          try simp only [Act.put, List.setIfInBounds_toArray, List.set_cons_zero, List.set_cons_succ]
          refine wpAnyH_ready (rs := [19]) (by kernel_rfl) (by simp) ?_
          refine AllReadyH.cons rfl (fun K hK => ?_) AllReadyH.nil
          go_simp
          (go_at_call 99; refine namedT ?_; intro X hX; refine cutA (p := Tb X b2 k c2 z2) ?_ (fun hTX => ?_); (rw [hX]; first | exact hT2'.out | exact hT2'.out.alloc _); refine cutA (p := Tb X b1' (k + 1) c1' (consZ x1 z1)) ?_ (fun hUX => ?_); (rw [hX]; first | exact HT1'.out | exact HT1'.out.alloc _); refine cutA (p := Blk X S 96 #[.slice (some ⟨b1, 0, none⟩) k c1, .slice (some ⟨b2, 0, none⟩) k c2]) ?_ (fun hRX => ?_); (rw [hX]; first | exact hR2.out | exact hR2.out.alloc _); refine cutA (p := Blk X (S + 1) 96 #[.slice none 0 0, .slice none 0 0]) ?_ (fun hOX => ?_); (rw [hX]; first | exact hO2.out | exact hO2.out.alloc _); refine cutA (p := Below w2.heap.size w2 X) ?_ (fun hbX => ?_); (rw [hX]; first | exact Below.refl _ w2 | exact (Below.refl _ w2).drew | exact ((Below.refl _ w2).alloc (Nat.le_refl _) _) | exact ((Below.refl _ w2).alloc (Nat.le_refl _) _).drew); (first | ((with_reducible refine Calls.mono (ins_any b2 k c2 w2.heap.size x2 z2 X hTX ?_ ?_ hk hk') ?_); (rw [hX]; exact Blk.new _ _ _); omega) | ((with_reducible refine Calls.mono (ins_any b2 k c2 w1.heap.size x2 z2 X hTX ?_ ?_ hk hk') ?_); (rw [hX]; exact HV2.out); omega) | ((with_reducible refine Calls.mono (ins_any b2 k c2 (w1.heap.size + 1) x2 z2 X hTX ?_ ?_ hk hk') ?_); (rw [hX]; exact HV2.out); omega)); rintro e w3 ⟨b2', c2', rfl, hT2'', hd2, hg2⟩; have hXs := hbX.size; refine cutA (p := b1' ≠ b2) ?_ (fun h1ne => ?_); (rcases HD1.out with e | e; omega; omega); refine cutA (p := Hid (Tb w3 b1' (k + 1) c1' (consZ x1 z1))) ?_ (fun hT13 => ?_); (exact hUX.keep (hg2.block b1' hUX.lt (fun e => by injection e with e; omega))); refine cutA (p := Blk w3 (S + 1) 96 #[.slice none 0 0, .slice none 0 0]) ?_ (fun hO3 => ?_); (exact hOX.grown hg2 (fun e => by injection e with e; omega)); have hR3 : Hid (Blk w3 S 96 #[.slice (some ⟨b1, 0, none⟩) k c1, .slice (some ⟨b2, 0, none⟩) k c2]) := hRX.grown hg2 (fun e => by injection e with e; omega); have h1l : b1' < X.heap.size := hUX.lt; refine cutA (p := Hid (b2' = b2 ∨ (w1.heap.size ≤ b2' ∧ b1' ≠ b2'))) ?_ (fun HD2 => ?_); (rcases hd2 with e | e; exact .inl e; exact .inr ⟨by omega, by omega⟩); refine cutA (p := Hid (∀ g, g < w1.heap.size → g ≠ b1 → g ≠ b2 → w3.heap[g]? = w1.heap[g]?)) ?_ (fun HK3 => ?_); (exact fun g hg hne hne2 => ((hg2.block g (by omega) (fun e => by injection e with e; omega)).trans (hbX.block g (by omega))).trans (HK2.out g hg hne)); refine cutA (p := Hid (∀ B, B ≤ b1 → B ≤ b2 → B ≤ w1.heap.size → Below B w1 w3)) ?_ (fun HB3 => ?_); (exact fun B h1 h2 h3 => ((HB2.out B h1 h3).trans (hbX.mono (by omega))).grown hg2 (by omega) (fun k e => by injection e with e; omega)); have hs3 : w2.heap.size ≤ w3.heap.size := Nat.le_trans hXs hg2.size; have HT23 := hid hT2''; obtain ⟨o0, o1, of0, of1⟩ := tbV_cells hO3; clear hRX hTX hUX hOX hbX hT2'' hd2 hg2 hXs h1l)
          refine hK.out _ _ ?_ (fun hHeld2 => ?_)
          · try dsimp only
            first | with_reducible exact heldT HR.out | with_reducible exact heldT HR.out.drew | with_reducible exact heldT (HR.out.alloc _) | with_reducible exact heldT (HR.out.alloc _).drew | with_reducible exact heldT ((HR.out.alloc _).alloc _) | with_reducible exact heldT ((HR.out.alloc _).alloc _).drew | with_reducible exact heldT hR2.out | with_reducible exact heldT (hR2.out.alloc _) | with_reducible exact heldT hR3.out | with_reducible exact heldT2 hR3.out _ _
          clear hK K hHeld
          have hHeld := hHeld2
          clear hHeld2
          try simp only [Act.put, List.setIfInBounds_toArray, List.set_cons_zero, List.set_cons_succ]
          refine wpAnyH_take (i := 20) (v := ?_) rfl (by kernel_rfl) (by kernel_rfl) (by kernel_rfl) (fun _ _ _ h => h) (Or.inl ⟨by rfl, ?_⟩) (by assumption) ?_
          rotate_left
          · intro w hSw; (try dsimp only at hSw); go_simp; try with_reducible rfl
          try simp only [Act.put, List.setIfInBounds_toArray, List.set_cons_zero, List.set_cons_succ]
          refine wpAnyH_ready (rs := [21]) (by kernel_rfl) (by simp) ?_
          refine AllReadyH.cons rfl (fun K hK => ?_) AllReadyH.nil
          go_simp
          refine hK.out _ _ ?_ (fun hHeld2 => ?_)
          · try dsimp only
            first | with_reducible exact heldT HR.out | with_reducible exact heldT HR.out.drew | with_reducible exact heldT (HR.out.alloc _) | with_reducible exact heldT (HR.out.alloc _).drew | with_reducible exact heldT ((HR.out.alloc _).alloc _) | with_reducible exact heldT ((HR.out.alloc _).alloc _).drew | with_reducible exact heldT hR2.out | with_reducible exact heldT (hR2.out.alloc _) | with_reducible exact heldT hR3.out | with_reducible exact heldT2 hR3.out _ _
          clear hK K hHeld
          have hHeld := hHeld2
          clear hHeld2
          try simp only [Act.put, List.setIfInBounds_toArray, List.set_cons_zero, List.set_cons_succ]
          refine wpAnyH_done (by kernel_rfl) ?_ _
          go_wp2_with fail
          refine bodyPost_ret (results_cell_row rfl _ _ (S + 1) 96 #[.slice (some ⟨b1', 0, none⟩) (k + 1) c1', .slice (some ⟨b2', 0, none⟩) (k + 1) c2'] (0, 0) _ rfl ((hO3.set_ 0 (.slice (some ⟨b1', 0, none⟩) (k + 1) c1')).set_ 1 (.slice (some ⟨b2', 0, none⟩) (k + 1) c2')) Tryz.underlying96 rfl size_tables) rfl ?_
          rw [HX1.out, HX2.out]
          exact step_end HSE.out HBW.out hSw hbS hbS2 hT13.out HT23.out h1ne HD1.out HD2.out HK3.out HB3.out _ _
      · go_simp
        refine hK.out _ _ ?_ (fun hHeld2 => ?_)
        · try dsimp only
          first | with_reducible exact heldT HR.out | with_reducible exact heldT HR.out.drew | with_reducible exact heldT (HR.out.alloc _) | with_reducible exact heldT (HR.out.alloc _).drew | with_reducible exact heldT ((HR.out.alloc _).alloc _) | with_reducible exact heldT ((HR.out.alloc _).alloc _).drew | with_reducible exact heldT hR2.out | with_reducible exact heldT (hR2.out.alloc _) | with_reducible exact heldT hR3.out | with_reducible exact heldT2 hR3.out _ _
        clear hK K hHeld
        have hHeld := hHeld2
        clear hHeld2
        try simp only [Act.put, List.setIfInBounds_toArray, List.set_cons_zero, List.set_cons_succ]
        refine wpAnyH_ready (rs := [8]) (by kernel_rfl) (by simp) ?_
        refine AllReadyH.cons rfl (fun K hK => ?_) AllReadyH.nil
        go_simp
        refine hK.out _ _ ?_ (fun hHeld2 => ?_)
        · try dsimp only
          first | with_reducible exact heldT HR.out | with_reducible exact heldT HR.out.drew | with_reducible exact heldT (HR.out.alloc _) | with_reducible exact heldT (HR.out.alloc _).drew | with_reducible exact heldT ((HR.out.alloc _).alloc _) | with_reducible exact heldT ((HR.out.alloc _).alloc _).drew | with_reducible exact heldT hR2.out | with_reducible exact heldT (hR2.out.alloc _) | with_reducible exact heldT hR3.out | with_reducible exact heldT2 hR3.out _ _
        clear hK K hHeld
        have hHeld := hHeld2
        clear hHeld2
        try simp only [Act.put, List.setIfInBounds_toArray, List.set_cons_zero, List.set_cons_succ]
        refine wpAnyH_ready (rs := [9]) (by kernel_rfl) (by simp) ?_
        refine AllReadyH.cons rfl (fun K hK => ?_) AllReadyH.nil
        go_simp
        (go_at_call 99; refine namedT ?_; intro X hX; refine cutA (p := Tb X b1 k c1 z1) ?_ (fun hTX => ?_); (rw [hX]; first | exact HT1.out | exact HT1.out.alloc _ | exact (HT1.out.alloc _).alloc _); refine cutA (p := Tb X b2 k c2 z2) ?_ (fun hUX => ?_); (rw [hX]; first | exact HT2.out | exact HT2.out.alloc _ | exact (HT2.out.alloc _).alloc _); refine cutA (p := Blk X S 96 #[.slice (some ⟨b1, 0, none⟩) k c1, .slice (some ⟨b2, 0, none⟩) k c2]) ?_ (fun hRX => ?_); (rw [hX]; first | exact HR.out | exact HR.out.alloc _ | exact (HR.out.alloc _).alloc _); refine cutA (p := Blk X (S + 1) 96 #[.slice none 0 0, .slice none 0 0]) ?_ (fun hOX => ?_); (rw [hX]; first | exact HO.out | exact HO.out.alloc _ | exact (HO.out.alloc _).alloc _); refine cutA (p := Below w1.heap.size w1 X) ?_ (fun hbX => ?_); (rw [hX]; first | exact ((Below.refl _ w1).alloc (Nat.le_refl _) _).drew | exact (((Below.refl _ w1).alloc (Nat.le_refl _) _).alloc (by simp) _).drew); (first | ((with_reducible refine Calls.mono (ins_any b1 k c1 w1.heap.size x1 z1 X hTX ?_ ?_ hk hk') ?_); (rw [hX]; first | exact Blk.new _ _ _ | exact (Blk.new _ _ _).alloc _); omega) | ((with_reducible refine Calls.mono (ins_any b1 k c1 (w1.heap.size + 1) x1 z1 X hTX ?_ ?_ hk hk') ?_); (rw [hX]; exact Blk.new2 _ _ _ _); omega)); rintro e w2 ⟨b1', c1', rfl, hT1', hd1, hg1⟩; have hXs := hbX.size; refine cutA (p := Hid (Tb w2 b2 k c2 z2)) ?_ (fun hT2' => ?_); (exact hUX.keep (hg1.block b2 hUX.lt (fun e => by injection e with e; omega))); refine cutA (p := Hid (Blk w2 S 96 #[.slice (some ⟨b1, 0, none⟩) k c1, .slice (some ⟨b2, 0, none⟩) k c2])) ?_ (fun hR2 => ?_); (exact hRX.grown hg1 (fun e => by injection e with e; omega)); refine cutA (p := Hid (Blk w2 (S + 1) 96 #[.slice none 0 0, .slice none 0 0])) ?_ (fun hO2 => ?_); (exact hOX.grown hg1 (fun e => by injection e with e; omega)); (first | (refine cutA (p := Hid (Blk w2 (w1.heap.size + 1) 2 #[.int .i64 x2])) ?_ (fun HV2 => ?_); (refine Blk.grown (w := X) ?_ hg1 ?_); (rw [hX]; exact Blk.new2 _ _ _ _); (intro e; injection e with e; omega)) | (refine cutA (p := Hid (Blk w2 w1.heap.size 2 #[.int .i64 x2])) ?_ (fun HV2 => ?_); (refine Blk.grown (w := X) ?_ hg1 ?_); (rw [hX]; first | exact (Blk.new _ _ _).alloc _ | exact Blk.new _ _ _); (intro e; injection e with e; omega)) | skip); have HT1' := hid hT1'; refine cutA (p := Hid (b1' = b1 ∨ w1.heap.size ≤ b1')) ?_ (fun HD1 => ?_); (rcases hd1 with e | e; exact .inl e; exact .inr (by omega)); have q20 : w2.cell? ⟨S, 0, none⟩ = some (.slice (some ⟨b1, 0, none⟩) k c1) := hR2.out.cell 0; have q21 : w2.cell? ⟨S, 1, none⟩ = some (.slice (some ⟨b2, 0, none⟩) k c2) := hR2.out.cell 1; have q2b : w2.cell? ⟨b2, 0, none⟩ = some (.int .i64 (z2 0)) := hT2'.out.cell hk; refine cutA (p := Hid (∀ g, g < w1.heap.size → g ≠ b1 → w2.heap[g]? = w1.heap[g]?)) ?_ (fun HK2 => ?_); (exact fun g hg hne => (hg1.block g (by omega) (fun e => by injection e with e; omega)).trans (hbX.block g hg)); refine cutA (p := Hid (∀ B, B ≤ b1 → B ≤ w1.heap.size → Below B w1 w2)) ?_ (fun HB2 => ?_); (exact fun B h1 h2 => (hbX.mono h2).grown hg1 (by omega) (fun k e => by injection e with e; omega)); have hs2 : w1.heap.size ≤ w2.heap.size := Nat.le_trans hXs hg1.size; have hbl2 : b2 < w2.heap.size := hT2'.out.lt; have hSl2 : S < w2.heap.size := Nat.lt_of_lt_of_le hSl1 hs2; clear hTX hUX hRX hOX hbX hT1' hd1 hg1 hXs)
        refine hK.out _ _ ?_ (fun hHeld2 => ?_)
        · try dsimp only
          first | with_reducible exact heldT HR.out | with_reducible exact heldT HR.out.drew | with_reducible exact heldT (HR.out.alloc _) | with_reducible exact heldT (HR.out.alloc _).drew | with_reducible exact heldT ((HR.out.alloc _).alloc _) | with_reducible exact heldT ((HR.out.alloc _).alloc _).drew | with_reducible exact heldT hR2.out | with_reducible exact heldT (hR2.out.alloc _) | with_reducible exact heldT hR3.out | with_reducible exact heldT2 hR3.out _ _
        clear hK K hHeld
        have hHeld := hHeld2
        clear hHeld2
        try simp only [Act.put, List.setIfInBounds_toArray, List.set_cons_zero, List.set_cons_succ]
        refine wpAnyH_ready (rs := [19]) (by kernel_rfl) (by simp) ?_
        refine AllReadyH.cons rfl (fun K hK => ?_) AllReadyH.nil
        go_simp
        (go_at_call 99; refine namedT ?_; intro X hX; refine cutA (p := Tb X b2 k c2 z2) ?_ (fun hTX => ?_); (rw [hX]; first | exact hT2'.out | exact hT2'.out.alloc _); refine cutA (p := Tb X b1' (k + 1) c1' (consZ x1 z1)) ?_ (fun hUX => ?_); (rw [hX]; first | exact HT1'.out | exact HT1'.out.alloc _); refine cutA (p := Blk X S 96 #[.slice (some ⟨b1, 0, none⟩) k c1, .slice (some ⟨b2, 0, none⟩) k c2]) ?_ (fun hRX => ?_); (rw [hX]; first | exact hR2.out | exact hR2.out.alloc _); refine cutA (p := Blk X (S + 1) 96 #[.slice none 0 0, .slice none 0 0]) ?_ (fun hOX => ?_); (rw [hX]; first | exact hO2.out | exact hO2.out.alloc _); refine cutA (p := Below w2.heap.size w2 X) ?_ (fun hbX => ?_); (rw [hX]; first | exact Below.refl _ w2 | exact (Below.refl _ w2).drew | exact ((Below.refl _ w2).alloc (Nat.le_refl _) _) | exact ((Below.refl _ w2).alloc (Nat.le_refl _) _).drew); (first | ((with_reducible refine Calls.mono (ins_any b2 k c2 w2.heap.size x2 z2 X hTX ?_ ?_ hk hk') ?_); (rw [hX]; exact Blk.new _ _ _); omega) | ((with_reducible refine Calls.mono (ins_any b2 k c2 w1.heap.size x2 z2 X hTX ?_ ?_ hk hk') ?_); (rw [hX]; exact HV2.out); omega) | ((with_reducible refine Calls.mono (ins_any b2 k c2 (w1.heap.size + 1) x2 z2 X hTX ?_ ?_ hk hk') ?_); (rw [hX]; exact HV2.out); omega)); rintro e w3 ⟨b2', c2', rfl, hT2'', hd2, hg2⟩; have hXs := hbX.size; refine cutA (p := b1' ≠ b2) ?_ (fun h1ne => ?_); (rcases HD1.out with e | e; omega; omega); refine cutA (p := Hid (Tb w3 b1' (k + 1) c1' (consZ x1 z1))) ?_ (fun hT13 => ?_); (exact hUX.keep (hg2.block b1' hUX.lt (fun e => by injection e with e; omega))); refine cutA (p := Blk w3 (S + 1) 96 #[.slice none 0 0, .slice none 0 0]) ?_ (fun hO3 => ?_); (exact hOX.grown hg2 (fun e => by injection e with e; omega)); have hR3 : Hid (Blk w3 S 96 #[.slice (some ⟨b1, 0, none⟩) k c1, .slice (some ⟨b2, 0, none⟩) k c2]) := hRX.grown hg2 (fun e => by injection e with e; omega); have h1l : b1' < X.heap.size := hUX.lt; refine cutA (p := Hid (b2' = b2 ∨ (w1.heap.size ≤ b2' ∧ b1' ≠ b2'))) ?_ (fun HD2 => ?_); (rcases hd2 with e | e; exact .inl e; exact .inr ⟨by omega, by omega⟩); refine cutA (p := Hid (∀ g, g < w1.heap.size → g ≠ b1 → g ≠ b2 → w3.heap[g]? = w1.heap[g]?)) ?_ (fun HK3 => ?_); (exact fun g hg hne hne2 => ((hg2.block g (by omega) (fun e => by injection e with e; omega)).trans (hbX.block g (by omega))).trans (HK2.out g hg hne)); refine cutA (p := Hid (∀ B, B ≤ b1 → B ≤ b2 → B ≤ w1.heap.size → Below B w1 w3)) ?_ (fun HB3 => ?_); (exact fun B h1 h2 h3 => ((HB2.out B h1 h3).trans (hbX.mono (by omega))).grown hg2 (by omega) (fun k e => by injection e with e; omega)); have hs3 : w2.heap.size ≤ w3.heap.size := Nat.le_trans hXs hg2.size; have HT23 := hid hT2''; obtain ⟨o0, o1, of0, of1⟩ := tbV_cells hO3; clear hRX hTX hUX hOX hbX hT2'' hd2 hg2 hXs h1l)
        refine hK.out _ _ ?_ (fun hHeld2 => ?_)
        · try dsimp only
          first | with_reducible exact heldT HR.out | with_reducible exact heldT HR.out.drew | with_reducible exact heldT (HR.out.alloc _) | with_reducible exact heldT (HR.out.alloc _).drew | with_reducible exact heldT ((HR.out.alloc _).alloc _) | with_reducible exact heldT ((HR.out.alloc _).alloc _).drew | with_reducible exact heldT hR2.out | with_reducible exact heldT (hR2.out.alloc _) | with_reducible exact heldT hR3.out | with_reducible exact heldT2 hR3.out _ _
        clear hK K hHeld
        have hHeld := hHeld2
        clear hHeld2
        try simp only [Act.put, List.setIfInBounds_toArray, List.set_cons_zero, List.set_cons_succ]
        refine wpAnyH_take (i := 20) (v := ?_) rfl (by kernel_rfl) (by kernel_rfl) (by kernel_rfl) (fun _ _ _ h => h) (Or.inl ⟨by rfl, ?_⟩) (by assumption) ?_
        rotate_left
        · intro w hSw; (try dsimp only at hSw); go_simp; try with_reducible rfl
        try simp only [Act.put, List.setIfInBounds_toArray, List.set_cons_zero, List.set_cons_succ]
        refine wpAnyH_ready (rs := [21]) (by kernel_rfl) (by simp) ?_
        refine AllReadyH.cons rfl (fun K hK => ?_) AllReadyH.nil
        go_simp
        refine hK.out _ _ ?_ (fun hHeld2 => ?_)
        · try dsimp only
          first | with_reducible exact heldT HR.out | with_reducible exact heldT HR.out.drew | with_reducible exact heldT (HR.out.alloc _) | with_reducible exact heldT (HR.out.alloc _).drew | with_reducible exact heldT ((HR.out.alloc _).alloc _) | with_reducible exact heldT ((HR.out.alloc _).alloc _).drew | with_reducible exact heldT hR2.out | with_reducible exact heldT (hR2.out.alloc _) | with_reducible exact heldT hR3.out | with_reducible exact heldT2 hR3.out _ _
        clear hK K hHeld
        have hHeld := hHeld2
        clear hHeld2
        try simp only [Act.put, List.setIfInBounds_toArray, List.set_cons_zero, List.set_cons_succ]
        refine wpAnyH_done (by kernel_rfl) ?_ _
        go_wp2_with fail
        refine bodyPost_ret (results_cell_row rfl _ _ (S + 1) 96 #[.slice (some ⟨b1', 0, none⟩) (k + 1) c1', .slice (some ⟨b2', 0, none⟩) (k + 1) c2'] (0, 0) _ rfl ((hO3.set_ 0 (.slice (some ⟨b1', 0, none⟩) (k + 1) c1')).set_ 1 (.slice (some ⟨b2', 0, none⟩) (k + 1) c2')) Tryz.underlying96 rfl size_tables) rfl ?_
        rw [HX1.out, HX2.out]
        exact step_end HSE.out HBW.out hSw hbS hbS2 hT13.out HT23.out h1ne HD1.out HD2.out HK3.out HB3.out _ _
  · go_simp
    refine hK.out _ _ ?_ (fun hHeld2 => ?_)
    · try dsimp only
      first | with_reducible exact heldT HR.out | with_reducible exact heldT HR.out.drew | with_reducible exact heldT (HR.out.alloc _) | with_reducible exact heldT (HR.out.alloc _).drew | with_reducible exact heldT ((HR.out.alloc _).alloc _) | with_reducible exact heldT ((HR.out.alloc _).alloc _).drew | with_reducible exact heldT hR2.out | with_reducible exact heldT (hR2.out.alloc _) | with_reducible exact heldT hR3.out | with_reducible exact heldT2 hR3.out _ _
    clear hK K hHeld
    have hHeld := hHeld2
    clear hHeld2
    try simp only [Act.put, List.setIfInBounds_toArray, List.set_cons_zero, List.set_cons_succ]
    refine wpAnyH_take (i := 17) (v := ?_) rfl (by kernel_rfl) (by kernel_rfl) (by kernel_rfl) (fun _ _ _ h => h) (Or.inl ⟨by rfl, ?_⟩) (by assumption) ?_
    rotate_left
    · intro w hSw; (try dsimp only at hSw); go_simp; try with_reducible rfl
    try simp only [Act.put, List.setIfInBounds_toArray, List.set_cons_zero, List.set_cons_succ]
    refine wpAnyH_ready (rs := [5, 18]) (by kernel_rfl) (by simp) ?_
    refine AllReadyH.cons rfl (fun K hK => ?_) (AllReadyH.cons rfl (fun K hK => ?_) AllReadyH.nil)
    · go_simp
      refine hK.out _ _ ?_ (fun hHeld2 => ?_)
      · try dsimp only
        first | with_reducible exact heldT HR.out | with_reducible exact heldT HR.out.drew | with_reducible exact heldT (HR.out.alloc _) | with_reducible exact heldT (HR.out.alloc _).drew | with_reducible exact heldT ((HR.out.alloc _).alloc _) | with_reducible exact heldT ((HR.out.alloc _).alloc _).drew | with_reducible exact heldT hR2.out | with_reducible exact heldT (hR2.out.alloc _) | with_reducible exact heldT hR3.out | with_reducible exact heldT2 hR3.out _ _
      clear hK K hHeld
      have hHeld := hHeld2
      clear hHeld2
      try simp only [Act.put, List.setIfInBounds_toArray, List.set_cons_zero, List.set_cons_succ]
      refine wpAnyH_take (i := 7) (v := ?_) rfl (by kernel_rfl) (by kernel_rfl) (by kernel_rfl) (fun _ _ _ h => h) (Or.inl ⟨by rfl, ?_⟩) (by assumption) ?_
      rotate_left
      · intro w hSw; (try dsimp only at hSw); go_simp; try with_reducible rfl
      try simp only [Act.put, List.setIfInBounds_toArray, List.set_cons_zero, List.set_cons_succ]
      refine wpAnyH_ready (rs := [8, 18]) (by kernel_rfl) (by simp) ?_
      refine AllReadyH.cons rfl (fun K hK => ?_) (AllReadyH.cons rfl (fun K hK => ?_) AllReadyH.nil)
      · go_simp
        refine hK.out _ _ ?_ (fun hHeld2 => ?_)
        · try dsimp only
          first | with_reducible exact heldT HR.out | with_reducible exact heldT HR.out.drew | with_reducible exact heldT (HR.out.alloc _) | with_reducible exact heldT (HR.out.alloc _).drew | with_reducible exact heldT ((HR.out.alloc _).alloc _) | with_reducible exact heldT ((HR.out.alloc _).alloc _).drew | with_reducible exact heldT hR2.out | with_reducible exact heldT (hR2.out.alloc _) | with_reducible exact heldT hR3.out | with_reducible exact heldT2 hR3.out _ _
        clear hK K hHeld
        have hHeld := hHeld2
        clear hHeld2
        try simp only [Act.put, List.setIfInBounds_toArray, List.set_cons_zero, List.set_cons_succ]
        refine wpAnyH_ready (rs := [9, 18]) (by kernel_rfl) (by simp) ?_
        refine AllReadyH.cons rfl (fun K hK => ?_) (AllReadyH.cons rfl (fun K hK => ?_) AllReadyH.nil)
        · go_simp
          (go_at_call 99; refine namedT ?_; intro X hX; refine cutA (p := Tb X b1 k c1 z1) ?_ (fun hTX => ?_); (rw [hX]; first | exact HT1.out | exact HT1.out.alloc _ | exact (HT1.out.alloc _).alloc _); refine cutA (p := Tb X b2 k c2 z2) ?_ (fun hUX => ?_); (rw [hX]; first | exact HT2.out | exact HT2.out.alloc _ | exact (HT2.out.alloc _).alloc _); refine cutA (p := Blk X S 96 #[.slice (some ⟨b1, 0, none⟩) k c1, .slice (some ⟨b2, 0, none⟩) k c2]) ?_ (fun hRX => ?_); (rw [hX]; first | exact HR.out | exact HR.out.alloc _ | exact (HR.out.alloc _).alloc _); refine cutA (p := Blk X (S + 1) 96 #[.slice none 0 0, .slice none 0 0]) ?_ (fun hOX => ?_); (rw [hX]; first | exact HO.out | exact HO.out.alloc _ | exact (HO.out.alloc _).alloc _); refine cutA (p := Below w1.heap.size w1 X) ?_ (fun hbX => ?_); (rw [hX]; first | exact ((Below.refl _ w1).alloc (Nat.le_refl _) _).drew | exact (((Below.refl _ w1).alloc (Nat.le_refl _) _).alloc (by simp) _).drew); (first | ((with_reducible refine Calls.mono (ins_any b1 k c1 w1.heap.size x1 z1 X hTX ?_ ?_ hk hk') ?_); (rw [hX]; first | exact Blk.new _ _ _ | exact (Blk.new _ _ _).alloc _); omega) | ((with_reducible refine Calls.mono (ins_any b1 k c1 (w1.heap.size + 1) x1 z1 X hTX ?_ ?_ hk hk') ?_); (rw [hX]; exact Blk.new2 _ _ _ _); omega)); rintro e w2 ⟨b1', c1', rfl, hT1', hd1, hg1⟩; have hXs := hbX.size; refine cutA (p := Hid (Tb w2 b2 k c2 z2)) ?_ (fun hT2' => ?_); (exact hUX.keep (hg1.block b2 hUX.lt (fun e => by injection e with e; omega))); refine cutA (p := Hid (Blk w2 S 96 #[.slice (some ⟨b1, 0, none⟩) k c1, .slice (some ⟨b2, 0, none⟩) k c2])) ?_ (fun hR2 => ?_); (exact hRX.grown hg1 (fun e => by injection e with e; omega)); refine cutA (p := Hid (Blk w2 (S + 1) 96 #[.slice none 0 0, .slice none 0 0])) ?_ (fun hO2 => ?_); (exact hOX.grown hg1 (fun e => by injection e with e; omega)); (first | (refine cutA (p := Hid (Blk w2 (w1.heap.size + 1) 2 #[.int .i64 x2])) ?_ (fun HV2 => ?_); (refine Blk.grown (w := X) ?_ hg1 ?_); (rw [hX]; exact Blk.new2 _ _ _ _); (intro e; injection e with e; omega)) | (refine cutA (p := Hid (Blk w2 w1.heap.size 2 #[.int .i64 x2])) ?_ (fun HV2 => ?_); (refine Blk.grown (w := X) ?_ hg1 ?_); (rw [hX]; first | exact (Blk.new _ _ _).alloc _ | exact Blk.new _ _ _); (intro e; injection e with e; omega)) | skip); have HT1' := hid hT1'; refine cutA (p := Hid (b1' = b1 ∨ w1.heap.size ≤ b1')) ?_ (fun HD1 => ?_); (rcases hd1 with e | e; exact .inl e; exact .inr (by omega)); have q20 : w2.cell? ⟨S, 0, none⟩ = some (.slice (some ⟨b1, 0, none⟩) k c1) := hR2.out.cell 0; have q21 : w2.cell? ⟨S, 1, none⟩ = some (.slice (some ⟨b2, 0, none⟩) k c2) := hR2.out.cell 1; have q2b : w2.cell? ⟨b2, 0, none⟩ = some (.int .i64 (z2 0)) := hT2'.out.cell hk; refine cutA (p := Hid (∀ g, g < w1.heap.size → g ≠ b1 → w2.heap[g]? = w1.heap[g]?)) ?_ (fun HK2 => ?_); (exact fun g hg hne => (hg1.block g (by omega) (fun e => by injection e with e; omega)).trans (hbX.block g hg)); refine cutA (p := Hid (∀ B, B ≤ b1 → B ≤ w1.heap.size → Below B w1 w2)) ?_ (fun HB2 => ?_); (exact fun B h1 h2 => (hbX.mono h2).grown hg1 (by omega) (fun k e => by injection e with e; omega)); have hs2 : w1.heap.size ≤ w2.heap.size := Nat.le_trans hXs hg1.size; have hbl2 : b2 < w2.heap.size := hT2'.out.lt; have hSl2 : S < w2.heap.size := Nat.lt_of_lt_of_le hSl1 hs2; clear hTX hUX hRX hOX hbX hT1' hd1 hg1 hXs)
          refine hK.out _ _ ?_ (fun hHeld2 => ?_)
          · try dsimp only
            first | with_reducible exact heldT HR.out | with_reducible exact heldT HR.out.drew | with_reducible exact heldT (HR.out.alloc _) | with_reducible exact heldT (HR.out.alloc _).drew | with_reducible exact heldT ((HR.out.alloc _).alloc _) | with_reducible exact heldT ((HR.out.alloc _).alloc _).drew | with_reducible exact heldT hR2.out | with_reducible exact heldT (hR2.out.alloc _) | with_reducible exact heldT hR3.out | with_reducible exact heldT2 hR3.out _ _
          clear hK K hHeld
          have hHeld := hHeld2
          clear hHeld2
          try simp only [Act.put, List.setIfInBounds_toArray, List.set_cons_zero, List.set_cons_succ]
          refine wpAnyH_ready (rs := [18]) (by kernel_rfl) (by simp) ?_
          refine AllReadyH.cons rfl (fun K hK => ?_) AllReadyH.nil
          go_simp
          refine hK.out _ _ ?_ (fun hHeld2 => ?_)
          · try dsimp only
            first | with_reducible exact heldT HR.out | with_reducible exact heldT HR.out.drew | with_reducible exact heldT (HR.out.alloc _) | with_reducible exact heldT (HR.out.alloc _).drew | with_reducible exact heldT ((HR.out.alloc _).alloc _) | with_reducible exact heldT ((HR.out.alloc _).alloc _).drew | with_reducible exact heldT hR2.out | with_reducible exact heldT (hR2.out.alloc _) | with_reducible exact heldT hR3.out | with_reducible exact heldT2 hR3.out _ _
          clear hK K hHeld
          have hHeld := hHeld2
          clear hHeld2
          try simp only [Act.put, List.setIfInBounds_toArray, List.set_cons_zero, List.set_cons_succ]
          refine wpAnyH_ready (rs := [19]) (by kernel_rfl) (by simp) ?_
          refine AllReadyH.cons rfl (fun K hK => ?_) AllReadyH.nil
          go_simp
          (go_at_call 99; refine namedT ?_; intro X hX; refine cutA (p := Tb X b2 k c2 z2) ?_ (fun hTX => ?_); (rw [hX]; first | exact hT2'.out | exact hT2'.out.alloc _); refine cutA (p := Tb X b1' (k + 1) c1' (consZ x1 z1)) ?_ (fun hUX => ?_); (rw [hX]; first | exact HT1'.out | exact HT1'.out.alloc _); refine cutA (p := Blk X S 96 #[.slice (some ⟨b1, 0, none⟩) k c1, .slice (some ⟨b2, 0, none⟩) k c2]) ?_ (fun hRX => ?_); (rw [hX]; first | exact hR2.out | exact hR2.out.alloc _); refine cutA (p := Blk X (S + 1) 96 #[.slice none 0 0, .slice none 0 0]) ?_ (fun hOX => ?_); (rw [hX]; first | exact hO2.out | exact hO2.out.alloc _); refine cutA (p := Below w2.heap.size w2 X) ?_ (fun hbX => ?_); (rw [hX]; first | exact Below.refl _ w2 | exact (Below.refl _ w2).drew | exact ((Below.refl _ w2).alloc (Nat.le_refl _) _) | exact ((Below.refl _ w2).alloc (Nat.le_refl _) _).drew); (first | ((with_reducible refine Calls.mono (ins_any b2 k c2 w2.heap.size x2 z2 X hTX ?_ ?_ hk hk') ?_); (rw [hX]; exact Blk.new _ _ _); omega) | ((with_reducible refine Calls.mono (ins_any b2 k c2 w1.heap.size x2 z2 X hTX ?_ ?_ hk hk') ?_); (rw [hX]; exact HV2.out); omega) | ((with_reducible refine Calls.mono (ins_any b2 k c2 (w1.heap.size + 1) x2 z2 X hTX ?_ ?_ hk hk') ?_); (rw [hX]; exact HV2.out); omega)); rintro e w3 ⟨b2', c2', rfl, hT2'', hd2, hg2⟩; have hXs := hbX.size; refine cutA (p := b1' ≠ b2) ?_ (fun h1ne => ?_); (rcases HD1.out with e | e; omega; omega); refine cutA (p := Hid (Tb w3 b1' (k + 1) c1' (consZ x1 z1))) ?_ (fun hT13 => ?_); (exact hUX.keep (hg2.block b1' hUX.lt (fun e => by injection e with e; omega))); refine cutA (p := Blk w3 (S + 1) 96 #[.slice none 0 0, .slice none 0 0]) ?_ (fun hO3 => ?_); (exact hOX.grown hg2 (fun e => by injection e with e; omega)); have hR3 : Hid (Blk w3 S 96 #[.slice (some ⟨b1, 0, none⟩) k c1, .slice (some ⟨b2, 0, none⟩) k c2]) := hRX.grown hg2 (fun e => by injection e with e; omega); have h1l : b1' < X.heap.size := hUX.lt; refine cutA (p := Hid (b2' = b2 ∨ (w1.heap.size ≤ b2' ∧ b1' ≠ b2'))) ?_ (fun HD2 => ?_); (rcases hd2 with e | e; exact .inl e; exact .inr ⟨by omega, by omega⟩); refine cutA (p := Hid (∀ g, g < w1.heap.size → g ≠ b1 → g ≠ b2 → w3.heap[g]? = w1.heap[g]?)) ?_ (fun HK3 => ?_); (exact fun g hg hne hne2 => ((hg2.block g (by omega) (fun e => by injection e with e; omega)).trans (hbX.block g (by omega))).trans (HK2.out g hg hne)); refine cutA (p := Hid (∀ B, B ≤ b1 → B ≤ b2 → B ≤ w1.heap.size → Below B w1 w3)) ?_ (fun HB3 => ?_); (exact fun B h1 h2 h3 => ((HB2.out B h1 h3).trans (hbX.mono (by omega))).grown hg2 (by omega) (fun k e => by injection e with e; omega)); have hs3 : w2.heap.size ≤ w3.heap.size := Nat.le_trans hXs hg2.size; have HT23 := hid hT2''; obtain ⟨o0, o1, of0, of1⟩ := tbV_cells hO3; clear hRX hTX hUX hOX hbX hT2'' hd2 hg2 hXs h1l)
          refine hK.out _ _ ?_ (fun hHeld2 => ?_)
          · try dsimp only
            first | with_reducible exact heldT HR.out | with_reducible exact heldT HR.out.drew | with_reducible exact heldT (HR.out.alloc _) | with_reducible exact heldT (HR.out.alloc _).drew | with_reducible exact heldT ((HR.out.alloc _).alloc _) | with_reducible exact heldT ((HR.out.alloc _).alloc _).drew | with_reducible exact heldT hR2.out | with_reducible exact heldT (hR2.out.alloc _) | with_reducible exact heldT hR3.out | with_reducible exact heldT2 hR3.out _ _
          clear hK K hHeld
          have hHeld := hHeld2
          clear hHeld2
          try simp only [Act.put, List.setIfInBounds_toArray, List.set_cons_zero, List.set_cons_succ]
          refine wpAnyH_take (i := 20) (v := ?_) rfl (by kernel_rfl) (by kernel_rfl) (by kernel_rfl) (fun _ _ _ h => h) (Or.inl ⟨by rfl, ?_⟩) (by assumption) ?_
          rotate_left
          · intro w hSw; (try dsimp only at hSw); go_simp; try with_reducible rfl
          try simp only [Act.put, List.setIfInBounds_toArray, List.set_cons_zero, List.set_cons_succ]
          refine wpAnyH_ready (rs := [21]) (by kernel_rfl) (by simp) ?_
          refine AllReadyH.cons rfl (fun K hK => ?_) AllReadyH.nil
          go_simp
          refine hK.out _ _ ?_ (fun hHeld2 => ?_)
          · try dsimp only
            first | with_reducible exact heldT HR.out | with_reducible exact heldT HR.out.drew | with_reducible exact heldT (HR.out.alloc _) | with_reducible exact heldT (HR.out.alloc _).drew | with_reducible exact heldT ((HR.out.alloc _).alloc _) | with_reducible exact heldT ((HR.out.alloc _).alloc _).drew | with_reducible exact heldT hR2.out | with_reducible exact heldT (hR2.out.alloc _) | with_reducible exact heldT hR3.out | with_reducible exact heldT2 hR3.out _ _
          clear hK K hHeld
          have hHeld := hHeld2
          clear hHeld2
          try simp only [Act.put, List.setIfInBounds_toArray, List.set_cons_zero, List.set_cons_succ]
          refine wpAnyH_done (by kernel_rfl) ?_ _
          go_wp2_with fail
          refine bodyPost_ret (results_cell_row rfl _ _ (S + 1) 96 #[.slice (some ⟨b1', 0, none⟩) (k + 1) c1', .slice (some ⟨b2', 0, none⟩) (k + 1) c2'] (0, 0) _ rfl ((hO3.set_ 0 (.slice (some ⟨b1', 0, none⟩) (k + 1) c1')).set_ 1 (.slice (some ⟨b2', 0, none⟩) (k + 1) c2')) Tryz.underlying96 rfl size_tables) rfl ?_
          rw [HX1.out, HX2.out]
          exact step_end HSE.out HBW.out hSw hbS hbS2 hT13.out HT23.out h1ne HD1.out HD2.out HK3.out HB3.out _ _
        · go_simp
          refine hK.out _ _ ?_ (fun hHeld2 => ?_)
          · try dsimp only
            first | with_reducible exact heldT HR.out | with_reducible exact heldT HR.out.drew | with_reducible exact heldT (HR.out.alloc _) | with_reducible exact heldT (HR.out.alloc _).drew | with_reducible exact heldT ((HR.out.alloc _).alloc _) | with_reducible exact heldT ((HR.out.alloc _).alloc _).drew | with_reducible exact heldT hR2.out | with_reducible exact heldT (hR2.out.alloc _) | with_reducible exact heldT hR3.out | with_reducible exact heldT2 hR3.out _ _
          clear hK K hHeld
          have hHeld := hHeld2
          clear hHeld2
          try simp only [Act.put, List.setIfInBounds_toArray, List.set_cons_zero, List.set_cons_succ]
          refine wpAnyH_ready (rs := [9]) (by kernel_rfl) (by simp) ?_
          refine AllReadyH.cons rfl (fun K hK => ?_) AllReadyH.nil
          go_simp
          (go_at_call 99; refine namedT ?_; intro X hX; refine cutA (p := Tb X b1 k c1 z1) ?_ (fun hTX => ?_); (rw [hX]; first | exact HT1.out | exact HT1.out.alloc _ | exact (HT1.out.alloc _).alloc _); refine cutA (p := Tb X b2 k c2 z2) ?_ (fun hUX => ?_); (rw [hX]; first | exact HT2.out | exact HT2.out.alloc _ | exact (HT2.out.alloc _).alloc _); refine cutA (p := Blk X S 96 #[.slice (some ⟨b1, 0, none⟩) k c1, .slice (some ⟨b2, 0, none⟩) k c2]) ?_ (fun hRX => ?_); (rw [hX]; first | exact HR.out | exact HR.out.alloc _ | exact (HR.out.alloc _).alloc _); refine cutA (p := Blk X (S + 1) 96 #[.slice none 0 0, .slice none 0 0]) ?_ (fun hOX => ?_); (rw [hX]; first | exact HO.out | exact HO.out.alloc _ | exact (HO.out.alloc _).alloc _); refine cutA (p := Below w1.heap.size w1 X) ?_ (fun hbX => ?_); (rw [hX]; first | exact ((Below.refl _ w1).alloc (Nat.le_refl _) _).drew | exact (((Below.refl _ w1).alloc (Nat.le_refl _) _).alloc (by simp) _).drew); (first | ((with_reducible refine Calls.mono (ins_any b1 k c1 w1.heap.size x1 z1 X hTX ?_ ?_ hk hk') ?_); (rw [hX]; first | exact Blk.new _ _ _ | exact (Blk.new _ _ _).alloc _); omega) | ((with_reducible refine Calls.mono (ins_any b1 k c1 (w1.heap.size + 1) x1 z1 X hTX ?_ ?_ hk hk') ?_); (rw [hX]; exact Blk.new2 _ _ _ _); omega)); rintro e w2 ⟨b1', c1', rfl, hT1', hd1, hg1⟩; have hXs := hbX.size; refine cutA (p := Hid (Tb w2 b2 k c2 z2)) ?_ (fun hT2' => ?_); (exact hUX.keep (hg1.block b2 hUX.lt (fun e => by injection e with e; omega))); refine cutA (p := Hid (Blk w2 S 96 #[.slice (some ⟨b1, 0, none⟩) k c1, .slice (some ⟨b2, 0, none⟩) k c2])) ?_ (fun hR2 => ?_); (exact hRX.grown hg1 (fun e => by injection e with e; omega)); refine cutA (p := Hid (Blk w2 (S + 1) 96 #[.slice none 0 0, .slice none 0 0])) ?_ (fun hO2 => ?_); (exact hOX.grown hg1 (fun e => by injection e with e; omega)); (first | (refine cutA (p := Hid (Blk w2 (w1.heap.size + 1) 2 #[.int .i64 x2])) ?_ (fun HV2 => ?_); (refine Blk.grown (w := X) ?_ hg1 ?_); (rw [hX]; exact Blk.new2 _ _ _ _); (intro e; injection e with e; omega)) | (refine cutA (p := Hid (Blk w2 w1.heap.size 2 #[.int .i64 x2])) ?_ (fun HV2 => ?_); (refine Blk.grown (w := X) ?_ hg1 ?_); (rw [hX]; first | exact (Blk.new _ _ _).alloc _ | exact Blk.new _ _ _); (intro e; injection e with e; omega)) | skip); have HT1' := hid hT1'; refine cutA (p := Hid (b1' = b1 ∨ w1.heap.size ≤ b1')) ?_ (fun HD1 => ?_); (rcases hd1 with e | e; exact .inl e; exact .inr (by omega)); have q20 : w2.cell? ⟨S, 0, none⟩ = some (.slice (some ⟨b1, 0, none⟩) k c1) := hR2.out.cell 0; have q21 : w2.cell? ⟨S, 1, none⟩ = some (.slice (some ⟨b2, 0, none⟩) k c2) := hR2.out.cell 1; have q2b : w2.cell? ⟨b2, 0, none⟩ = some (.int .i64 (z2 0)) := hT2'.out.cell hk; refine cutA (p := Hid (∀ g, g < w1.heap.size → g ≠ b1 → w2.heap[g]? = w1.heap[g]?)) ?_ (fun HK2 => ?_); (exact fun g hg hne => (hg1.block g (by omega) (fun e => by injection e with e; omega)).trans (hbX.block g hg)); refine cutA (p := Hid (∀ B, B ≤ b1 → B ≤ w1.heap.size → Below B w1 w2)) ?_ (fun HB2 => ?_); (exact fun B h1 h2 => (hbX.mono h2).grown hg1 (by omega) (fun k e => by injection e with e; omega)); have hs2 : w1.heap.size ≤ w2.heap.size := Nat.le_trans hXs hg1.size; have hbl2 : b2 < w2.heap.size := hT2'.out.lt; have hSl2 : S < w2.heap.size := Nat.lt_of_lt_of_le hSl1 hs2; clear hTX hUX hRX hOX hbX hT1' hd1 hg1 hXs)
          refine hK.out _ _ ?_ (fun hHeld2 => ?_)
          · try dsimp only
            first | with_reducible exact heldT HR.out | with_reducible exact heldT HR.out.drew | with_reducible exact heldT (HR.out.alloc _) | with_reducible exact heldT (HR.out.alloc _).drew | with_reducible exact heldT ((HR.out.alloc _).alloc _) | with_reducible exact heldT ((HR.out.alloc _).alloc _).drew | with_reducible exact heldT hR2.out | with_reducible exact heldT (hR2.out.alloc _) | with_reducible exact heldT hR3.out | with_reducible exact heldT2 hR3.out _ _
          clear hK K hHeld
          have hHeld := hHeld2
          clear hHeld2
          try simp only [Act.put, List.setIfInBounds_toArray, List.set_cons_zero, List.set_cons_succ]
          refine wpAnyH_ready (rs := [19]) (by kernel_rfl) (by simp) ?_
          refine AllReadyH.cons rfl (fun K hK => ?_) AllReadyH.nil
          go_simp
          (go_at_call 99; refine namedT ?_; intro X hX; refine cutA (p := Tb X b2 k c2 z2) ?_ (fun hTX => ?_); (rw [hX]; first | exact hT2'.out | exact hT2'.out.alloc _); refine cutA (p := Tb X b1' (k + 1) c1' (consZ x1 z1)) ?_ (fun hUX => ?_); (rw [hX]; first | exact HT1'.out | exact HT1'.out.alloc _); refine cutA (p := Blk X S 96 #[.slice (some ⟨b1, 0, none⟩) k c1, .slice (some ⟨b2, 0, none⟩) k c2]) ?_ (fun hRX => ?_); (rw [hX]; first | exact hR2.out | exact hR2.out.alloc _); refine cutA (p := Blk X (S + 1) 96 #[.slice none 0 0, .slice none 0 0]) ?_ (fun hOX => ?_); (rw [hX]; first | exact hO2.out | exact hO2.out.alloc _); refine cutA (p := Below w2.heap.size w2 X) ?_ (fun hbX => ?_); (rw [hX]; first | exact Below.refl _ w2 | exact (Below.refl _ w2).drew | exact ((Below.refl _ w2).alloc (Nat.le_refl _) _) | exact ((Below.refl _ w2).alloc (Nat.le_refl _) _).drew); (first | ((with_reducible refine Calls.mono (ins_any b2 k c2 w2.heap.size x2 z2 X hTX ?_ ?_ hk hk') ?_); (rw [hX]; exact Blk.new _ _ _); omega) | ((with_reducible refine Calls.mono (ins_any b2 k c2 w1.heap.size x2 z2 X hTX ?_ ?_ hk hk') ?_); (rw [hX]; exact HV2.out); omega) | ((with_reducible refine Calls.mono (ins_any b2 k c2 (w1.heap.size + 1) x2 z2 X hTX ?_ ?_ hk hk') ?_); (rw [hX]; exact HV2.out); omega)); rintro e w3 ⟨b2', c2', rfl, hT2'', hd2, hg2⟩; have hXs := hbX.size; refine cutA (p := b1' ≠ b2) ?_ (fun h1ne => ?_); (rcases HD1.out with e | e; omega; omega); refine cutA (p := Hid (Tb w3 b1' (k + 1) c1' (consZ x1 z1))) ?_ (fun hT13 => ?_); (exact hUX.keep (hg2.block b1' hUX.lt (fun e => by injection e with e; omega))); refine cutA (p := Blk w3 (S + 1) 96 #[.slice none 0 0, .slice none 0 0]) ?_ (fun hO3 => ?_); (exact hOX.grown hg2 (fun e => by injection e with e; omega)); have hR3 : Hid (Blk w3 S 96 #[.slice (some ⟨b1, 0, none⟩) k c1, .slice (some ⟨b2, 0, none⟩) k c2]) := hRX.grown hg2 (fun e => by injection e with e; omega); have h1l : b1' < X.heap.size := hUX.lt; refine cutA (p := Hid (b2' = b2 ∨ (w1.heap.size ≤ b2' ∧ b1' ≠ b2'))) ?_ (fun HD2 => ?_); (rcases hd2 with e | e; exact .inl e; exact .inr ⟨by omega, by omega⟩); refine cutA (p := Hid (∀ g, g < w1.heap.size → g ≠ b1 → g ≠ b2 → w3.heap[g]? = w1.heap[g]?)) ?_ (fun HK3 => ?_); (exact fun g hg hne hne2 => ((hg2.block g (by omega) (fun e => by injection e with e; omega)).trans (hbX.block g (by omega))).trans (HK2.out g hg hne)); refine cutA (p := Hid (∀ B, B ≤ b1 → B ≤ b2 → B ≤ w1.heap.size → Below B w1 w3)) ?_ (fun HB3 => ?_); (exact fun B h1 h2 h3 => ((HB2.out B h1 h3).trans (hbX.mono (by omega))).grown hg2 (by omega) (fun k e => by injection e with e; omega)); have hs3 : w2.heap.size ≤ w3.heap.size := Nat.le_trans hXs hg2.size; have HT23 := hid hT2''; obtain ⟨o0, o1, of0, of1⟩ := tbV_cells hO3; clear hRX hTX hUX hOX hbX hT2'' hd2 hg2 hXs h1l)
          refine hK.out _ _ ?_ (fun hHeld2 => ?_)
          · try dsimp only
            first | with_reducible exact heldT HR.out | with_reducible exact heldT HR.out.drew | with_reducible exact heldT (HR.out.alloc _) | with_reducible exact heldT (HR.out.alloc _).drew | with_reducible exact heldT ((HR.out.alloc _).alloc _) | with_reducible exact heldT ((HR.out.alloc _).alloc _).drew | with_reducible exact heldT hR2.out | with_reducible exact heldT (hR2.out.alloc _) | with_reducible exact heldT hR3.out | with_reducible exact heldT2 hR3.out _ _
          clear hK K hHeld
          have hHeld := hHeld2
          clear hHeld2
          try simp only [Act.put, List.setIfInBounds_toArray, List.set_cons_zero, List.set_cons_succ]
          refine wpAnyH_take (i := 20) (v := ?_) rfl (by kernel_rfl) (by kernel_rfl) (by kernel_rfl) (fun _ _ _ h => h) (Or.inl ⟨by rfl, ?_⟩) (by assumption) ?_
          rotate_left
          · intro w hSw; (try dsimp only at hSw); go_simp; try with_reducible rfl
          try simp only [Act.put, List.setIfInBounds_toArray, List.set_cons_zero, List.set_cons_succ]
          refine wpAnyH_ready (rs := [21]) (by kernel_rfl) (by simp) ?_
          refine AllReadyH.cons rfl (fun K hK => ?_) AllReadyH.nil
          go_simp
          refine hK.out _ _ ?_ (fun hHeld2 => ?_)
          · try dsimp only
            first | with_reducible exact heldT HR.out | with_reducible exact heldT HR.out.drew | with_reducible exact heldT (HR.out.alloc _) | with_reducible exact heldT (HR.out.alloc _).drew | with_reducible exact heldT ((HR.out.alloc _).alloc _) | with_reducible exact heldT ((HR.out.alloc _).alloc _).drew | with_reducible exact heldT hR2.out | with_reducible exact heldT (hR2.out.alloc _) | with_reducible exact heldT hR3.out | with_reducible exact heldT2 hR3.out _ _
          clear hK K hHeld
          have hHeld := hHeld2
          clear hHeld2
          try simp only [Act.put, List.setIfInBounds_toArray, List.set_cons_zero, List.set_cons_succ]
          refine wpAnyH_done (by kernel_rfl) ?_ _
          go_wp2_with fail
          refine bodyPost_ret (results_cell_row rfl _ _ (S + 1) 96 #[.slice (some ⟨b1', 0, none⟩) (k + 1) c1', .slice (some ⟨b2', 0, none⟩) (k + 1) c2'] (0, 0) _ rfl ((hO3.set_ 0 (.slice (some ⟨b1', 0, none⟩) (k + 1) c1')).set_ 1 (.slice (some ⟨b2', 0, none⟩) (k + 1) c2')) Tryz.underlying96 rfl size_tables) rfl ?_
          rw [HX1.out, HX2.out]
          exact step_end HSE.out HBW.out hSw hbS hbS2 hT13.out HT23.out h1ne HD1.out HD2.out HK3.out HB3.out _ _
      · go_simp
        refine hK.out _ _ ?_ (fun hHeld2 => ?_)
        · try dsimp only
          first | with_reducible exact heldT HR.out | with_reducible exact heldT HR.out.drew | with_reducible exact heldT (HR.out.alloc _) | with_reducible exact heldT (HR.out.alloc _).drew | with_reducible exact heldT ((HR.out.alloc _).alloc _) | with_reducible exact heldT ((HR.out.alloc _).alloc _).drew | with_reducible exact heldT hR2.out | with_reducible exact heldT (hR2.out.alloc _) | with_reducible exact heldT hR3.out | with_reducible exact heldT2 hR3.out _ _
        clear hK K hHeld
        have hHeld := hHeld2
        clear hHeld2
        try simp only [Act.put, List.setIfInBounds_toArray, List.set_cons_zero, List.set_cons_succ]
        refine wpAnyH_ready (rs := [8]) (by kernel_rfl) (by simp) ?_
        refine AllReadyH.cons rfl (fun K hK => ?_) AllReadyH.nil
        go_simp
        refine hK.out _ _ ?_ (fun hHeld2 => ?_)
        · try dsimp only
          first | with_reducible exact heldT HR.out | with_reducible exact heldT HR.out.drew | with_reducible exact heldT (HR.out.alloc _) | with_reducible exact heldT (HR.out.alloc _).drew | with_reducible exact heldT ((HR.out.alloc _).alloc _) | with_reducible exact heldT ((HR.out.alloc _).alloc _).drew | with_reducible exact heldT hR2.out | with_reducible exact heldT (hR2.out.alloc _) | with_reducible exact heldT hR3.out | with_reducible exact heldT2 hR3.out _ _
        clear hK K hHeld
        have hHeld := hHeld2
        clear hHeld2
        try simp only [Act.put, List.setIfInBounds_toArray, List.set_cons_zero, List.set_cons_succ]
        refine wpAnyH_ready (rs := [9]) (by kernel_rfl) (by simp) ?_
        refine AllReadyH.cons rfl (fun K hK => ?_) AllReadyH.nil
        go_simp
        (go_at_call 99; refine namedT ?_; intro X hX; refine cutA (p := Tb X b1 k c1 z1) ?_ (fun hTX => ?_); (rw [hX]; first | exact HT1.out | exact HT1.out.alloc _ | exact (HT1.out.alloc _).alloc _); refine cutA (p := Tb X b2 k c2 z2) ?_ (fun hUX => ?_); (rw [hX]; first | exact HT2.out | exact HT2.out.alloc _ | exact (HT2.out.alloc _).alloc _); refine cutA (p := Blk X S 96 #[.slice (some ⟨b1, 0, none⟩) k c1, .slice (some ⟨b2, 0, none⟩) k c2]) ?_ (fun hRX => ?_); (rw [hX]; first | exact HR.out | exact HR.out.alloc _ | exact (HR.out.alloc _).alloc _); refine cutA (p := Blk X (S + 1) 96 #[.slice none 0 0, .slice none 0 0]) ?_ (fun hOX => ?_); (rw [hX]; first | exact HO.out | exact HO.out.alloc _ | exact (HO.out.alloc _).alloc _); refine cutA (p := Below w1.heap.size w1 X) ?_ (fun hbX => ?_); (rw [hX]; first | exact ((Below.refl _ w1).alloc (Nat.le_refl _) _).drew | exact (((Below.refl _ w1).alloc (Nat.le_refl _) _).alloc (by simp) _).drew); (first | ((with_reducible refine Calls.mono (ins_any b1 k c1 w1.heap.size x1 z1 X hTX ?_ ?_ hk hk') ?_); (rw [hX]; first | exact Blk.new _ _ _ | exact (Blk.new _ _ _).alloc _); omega) | ((with_reducible refine Calls.mono (ins_any b1 k c1 (w1.heap.size + 1) x1 z1 X hTX ?_ ?_ hk hk') ?_); (rw [hX]; exact Blk.new2 _ _ _ _); omega)); rintro e w2 ⟨b1', c1', rfl, hT1', hd1, hg1⟩; have hXs := hbX.size; refine cutA (p := Hid (Tb w2 b2 k c2 z2)) ?_ (fun hT2' => ?_); (exact hUX.keep (hg1.block b2 hUX.lt (fun e => by injection e with e; omega))); refine cutA (p := Hid (Blk w2 S 96 #[.slice (some ⟨b1, 0, none⟩) k c1, .slice (some ⟨b2, 0, none⟩) k c2])) ?_ (fun hR2 => ?_); (exact hRX.grown hg1 (fun e => by injection e with e; omega)); refine cutA (p := Hid (Blk w2 (S + 1) 96 #[.slice none 0 0, .slice none 0 0])) ?_ (fun hO2 => ?_); (exact hOX.grown hg1 (fun e => by injection e with e; omega)); (first | (refine cutA (p := Hid (Blk w2 (w1.heap.size + 1) 2 #[.int .i64 x2])) ?_ (fun HV2 => ?_); (refine Blk.grown (w := X) ?_ hg1 ?_); (rw [hX]; exact Blk.new2 _ _ _ _); (intro e; injection e with e; omega)) | (refine cutA (p := Hid (Blk w2 w1.heap.size 2 #[.int .i64 x2])) ?_ (fun HV2 => ?_); (refine Blk.grown (w := X) ?_ hg1 ?_); (rw [hX]; first | exact (Blk.new _ _ _).alloc _ | exact Blk.new _ _ _); (intro e; injection e with e; omega)) | skip); have HT1' := hid hT1'; refine cutA (p := Hid (b1' = b1 ∨ w1.heap.size ≤ b1')) ?_ (fun HD1 => ?_); (rcases hd1 with e | e; exact .inl e; exact .inr (by omega)); have q20 : w2.cell? ⟨S, 0, none⟩ = some (.slice (some ⟨b1, 0, none⟩) k c1) := hR2.out.cell 0; have q21 : w2.cell? ⟨S, 1, none⟩ = some (.slice (some ⟨b2, 0, none⟩) k c2) := hR2.out.cell 1; have q2b : w2.cell? ⟨b2, 0, none⟩ = some (.int .i64 (z2 0)) := hT2'.out.cell hk; refine cutA (p := Hid (∀ g, g < w1.heap.size → g ≠ b1 → w2.heap[g]? = w1.heap[g]?)) ?_ (fun HK2 => ?_); (exact fun g hg hne => (hg1.block g (by omega) (fun e => by injection e with e; omega)).trans (hbX.block g hg)); refine cutA (p := Hid (∀ B, B ≤ b1 → B ≤ w1.heap.size → Below B w1 w2)) ?_ (fun HB2 => ?_); (exact fun B h1 h2 => (hbX.mono h2).grown hg1 (by omega) (fun k e => by injection e with e; omega)); have hs2 : w1.heap.size ≤ w2.heap.size := Nat.le_trans hXs hg1.size; have hbl2 : b2 < w2.heap.size := hT2'.out.lt; have hSl2 : S < w2.heap.size := Nat.lt_of_lt_of_le hSl1 hs2; clear hTX hUX hRX hOX hbX hT1' hd1 hg1 hXs)
        refine hK.out _ _ ?_ (fun hHeld2 => ?_)
        · try dsimp only
          first | with_reducible exact heldT HR.out | with_reducible exact heldT HR.out.drew | with_reducible exact heldT (HR.out.alloc _) | with_reducible exact heldT (HR.out.alloc _).drew | with_reducible exact heldT ((HR.out.alloc _).alloc _) | with_reducible exact heldT ((HR.out.alloc _).alloc _).drew | with_reducible exact heldT hR2.out | with_reducible exact heldT (hR2.out.alloc _) | with_reducible exact heldT hR3.out | with_reducible exact heldT2 hR3.out _ _
        clear hK K hHeld
        have hHeld := hHeld2
        clear hHeld2
        try simp only [Act.put, List.setIfInBounds_toArray, List.set_cons_zero, List.set_cons_succ]
        refine wpAnyH_ready (rs := [19]) (by kernel_rfl) (by simp) ?_
        refine AllReadyH.cons rfl (fun K hK => ?_) AllReadyH.nil
        go_simp
        (go_at_call 99; refine namedT ?_; intro X hX; refine cutA (p := Tb X b2 k c2 z2) ?_ (fun hTX => ?_); (rw [hX]; first | exact hT2'.out | exact hT2'.out.alloc _); refine cutA (p := Tb X b1' (k + 1) c1' (consZ x1 z1)) ?_ (fun hUX => ?_); (rw [hX]; first | exact HT1'.out | exact HT1'.out.alloc _); refine cutA (p := Blk X S 96 #[.slice (some ⟨b1, 0, none⟩) k c1, .slice (some ⟨b2, 0, none⟩) k c2]) ?_ (fun hRX => ?_); (rw [hX]; first | exact hR2.out | exact hR2.out.alloc _); refine cutA (p := Blk X (S + 1) 96 #[.slice none 0 0, .slice none 0 0]) ?_ (fun hOX => ?_); (rw [hX]; first | exact hO2.out | exact hO2.out.alloc _); refine cutA (p := Below w2.heap.size w2 X) ?_ (fun hbX => ?_); (rw [hX]; first | exact Below.refl _ w2 | exact (Below.refl _ w2).drew | exact ((Below.refl _ w2).alloc (Nat.le_refl _) _) | exact ((Below.refl _ w2).alloc (Nat.le_refl _) _).drew); (first | ((with_reducible refine Calls.mono (ins_any b2 k c2 w2.heap.size x2 z2 X hTX ?_ ?_ hk hk') ?_); (rw [hX]; exact Blk.new _ _ _); omega) | ((with_reducible refine Calls.mono (ins_any b2 k c2 w1.heap.size x2 z2 X hTX ?_ ?_ hk hk') ?_); (rw [hX]; exact HV2.out); omega) | ((with_reducible refine Calls.mono (ins_any b2 k c2 (w1.heap.size + 1) x2 z2 X hTX ?_ ?_ hk hk') ?_); (rw [hX]; exact HV2.out); omega)); rintro e w3 ⟨b2', c2', rfl, hT2'', hd2, hg2⟩; have hXs := hbX.size; refine cutA (p := b1' ≠ b2) ?_ (fun h1ne => ?_); (rcases HD1.out with e | e; omega; omega); refine cutA (p := Hid (Tb w3 b1' (k + 1) c1' (consZ x1 z1))) ?_ (fun hT13 => ?_); (exact hUX.keep (hg2.block b1' hUX.lt (fun e => by injection e with e; omega))); refine cutA (p := Blk w3 (S + 1) 96 #[.slice none 0 0, .slice none 0 0]) ?_ (fun hO3 => ?_); (exact hOX.grown hg2 (fun e => by injection e with e; omega)); have hR3 : Hid (Blk w3 S 96 #[.slice (some ⟨b1, 0, none⟩) k c1, .slice (some ⟨b2, 0, none⟩) k c2]) := hRX.grown hg2 (fun e => by injection e with e; omega); have h1l : b1' < X.heap.size := hUX.lt; refine cutA (p := Hid (b2' = b2 ∨ (w1.heap.size ≤ b2' ∧ b1' ≠ b2'))) ?_ (fun HD2 => ?_); (rcases hd2 with e | e; exact .inl e; exact .inr ⟨by omega, by omega⟩); refine cutA (p := Hid (∀ g, g < w1.heap.size → g ≠ b1 → g ≠ b2 → w3.heap[g]? = w1.heap[g]?)) ?_ (fun HK3 => ?_); (exact fun g hg hne hne2 => ((hg2.block g (by omega) (fun e => by injection e with e; omega)).trans (hbX.block g (by omega))).trans (HK2.out g hg hne)); refine cutA (p := Hid (∀ B, B ≤ b1 → B ≤ b2 → B ≤ w1.heap.size → Below B w1 w3)) ?_ (fun HB3 => ?_); (exact fun B h1 h2 h3 => ((HB2.out B h1 h3).trans (hbX.mono (by omega))).grown hg2 (by omega) (fun k e => by injection e with e; omega)); have hs3 : w2.heap.size ≤ w3.heap.size := Nat.le_trans hXs hg2.size; have HT23 := hid hT2''; obtain ⟨o0, o1, of0, of1⟩ := tbV_cells hO3; clear hRX hTX hUX hOX hbX hT2'' hd2 hg2 hXs h1l)
        refine hK.out _ _ ?_ (fun hHeld2 => ?_)
        · try dsimp only
          first | with_reducible exact heldT HR.out | with_reducible exact heldT HR.out.drew | with_reducible exact heldT (HR.out.alloc _) | with_reducible exact heldT (HR.out.alloc _).drew | with_reducible exact heldT ((HR.out.alloc _).alloc _) | with_reducible exact heldT ((HR.out.alloc _).alloc _).drew | with_reducible exact heldT hR2.out | with_reducible exact heldT (hR2.out.alloc _) | with_reducible exact heldT hR3.out | with_reducible exact heldT2 hR3.out _ _
        clear hK K hHeld
        have hHeld := hHeld2
        clear hHeld2
        try simp only [Act.put, List.setIfInBounds_toArray, List.set_cons_zero, List.set_cons_succ]
        refine wpAnyH_take (i := 20) (v := ?_) rfl (by kernel_rfl) (by kernel_rfl) (by kernel_rfl) (fun _ _ _ h => h) (Or.inl ⟨by rfl, ?_⟩) (by assumption) ?_
        rotate_left
        · intro w hSw; (try dsimp only at hSw); go_simp; try with_reducible rfl
        try simp only [Act.put, List.setIfInBounds_toArray, List.set_cons_zero, List.set_cons_succ]
        refine wpAnyH_ready (rs := [21]) (by kernel_rfl) (by simp) ?_
        refine AllReadyH.cons rfl (fun K hK => ?_) AllReadyH.nil
        go_simp
        refine hK.out _ _ ?_ (fun hHeld2 => ?_)
        · try dsimp only
          first | with_reducible exact heldT HR.out | with_reducible exact heldT HR.out.drew | with_reducible exact heldT (HR.out.alloc _) | with_reducible exact heldT (HR.out.alloc _).drew | with_reducible exact heldT ((HR.out.alloc _).alloc _) | with_reducible exact heldT ((HR.out.alloc _).alloc _).drew | with_reducible exact heldT hR2.out | with_reducible exact heldT (hR2.out.alloc _) | with_reducible exact heldT hR3.out | with_reducible exact heldT2 hR3.out _ _
        clear hK K hHeld
        have hHeld := hHeld2
        clear hHeld2
        try simp only [Act.put, List.setIfInBounds_toArray, List.set_cons_zero, List.set_cons_succ]
        refine wpAnyH_done (by kernel_rfl) ?_ _
        go_wp2_with fail
        refine bodyPost_ret (results_cell_row rfl _ _ (S + 1) 96 #[.slice (some ⟨b1', 0, none⟩) (k + 1) c1', .slice (some ⟨b2', 0, none⟩) (k + 1) c2'] (0, 0) _ rfl ((hO3.set_ 0 (.slice (some ⟨b1', 0, none⟩) (k + 1) c1')).set_ 1 (.slice (some ⟨b2', 0, none⟩) (k + 1) c2')) Tryz.underlying96 rfl size_tables) rfl ?_
        rw [HX1.out, HX2.out]
        exact step_end HSE.out HBW.out hSw hbS hbS2 hT13.out HT23.out h1ne HD1.out HD2.out HK3.out HB3.out _ _
    · go_simp
      refine hK.out _ _ ?_ (fun hHeld2 => ?_)
      · try dsimp only
        first | with_reducible exact heldT HR.out | with_reducible exact heldT HR.out.drew | with_reducible exact heldT (HR.out.alloc _) | with_reducible exact heldT (HR.out.alloc _).drew | with_reducible exact heldT ((HR.out.alloc _).alloc _) | with_reducible exact heldT ((HR.out.alloc _).alloc _).drew | with_reducible exact heldT hR2.out | with_reducible exact heldT (hR2.out.alloc _) | with_reducible exact heldT hR3.out | with_reducible exact heldT2 hR3.out _ _
      clear hK K hHeld
      have hHeld := hHeld2
      clear hHeld2
      try simp only [Act.put, List.setIfInBounds_toArray, List.set_cons_zero, List.set_cons_succ]
      refine wpAnyH_ready (rs := [5]) (by kernel_rfl) (by simp) ?_
      refine AllReadyH.cons rfl (fun K hK => ?_) AllReadyH.nil
      go_simp
      refine hK.out _ _ ?_ (fun hHeld2 => ?_)
      · try dsimp only
        first | with_reducible exact heldT HR.out | with_reducible exact heldT HR.out.drew | with_reducible exact heldT (HR.out.alloc _) | with_reducible exact heldT (HR.out.alloc _).drew | with_reducible exact heldT ((HR.out.alloc _).alloc _) | with_reducible exact heldT ((HR.out.alloc _).alloc _).drew | with_reducible exact heldT hR2.out | with_reducible exact heldT (hR2.out.alloc _) | with_reducible exact heldT hR3.out | with_reducible exact heldT2 hR3.out _ _
      clear hK K hHeld
      have hHeld := hHeld2
      clear hHeld2
      try simp only [Act.put, List.setIfInBounds_toArray, List.set_cons_zero, List.set_cons_succ]
      refine wpAnyH_take (i := 7) (v := ?_) rfl (by kernel_rfl) (by kernel_rfl) (by kernel_rfl) (fun _ _ _ h => h) (Or.inl ⟨by rfl, ?_⟩) (by assumption) ?_
      rotate_left
      · intro w hSw; (try dsimp only at hSw); go_simp; try with_reducible rfl
      try simp only [Act.put, List.setIfInBounds_toArray, List.set_cons_zero, List.set_cons_succ]
      refine wpAnyH_ready (rs := [8]) (by kernel_rfl) (by simp) ?_
      refine AllReadyH.cons rfl (fun K hK => ?_) AllReadyH.nil
      go_simp
      refine hK.out _ _ ?_ (fun hHeld2 => ?_)
      · try dsimp only
        first | with_reducible exact heldT HR.out | with_reducible exact heldT HR.out.drew | with_reducible exact heldT (HR.out.alloc _) | with_reducible exact heldT (HR.out.alloc _).drew | with_reducible exact heldT ((HR.out.alloc _).alloc _) | with_reducible exact heldT ((HR.out.alloc _).alloc _).drew | with_reducible exact heldT hR2.out | with_reducible exact heldT (hR2.out.alloc _) | with_reducible exact heldT hR3.out | with_reducible exact heldT2 hR3.out _ _
      clear hK K hHeld
      have hHeld := hHeld2
      clear hHeld2
      try simp only [Act.put, List.setIfInBounds_toArray, List.set_cons_zero, List.set_cons_succ]
      refine wpAnyH_ready (rs := [9]) (by kernel_rfl) (by simp) ?_
      refine AllReadyH.cons rfl (fun K hK => ?_) AllReadyH.nil
      go_simp
      (go_at_call 99; refine namedT ?_; intro X hX; refine cutA (p := Tb X b1 k c1 z1) ?_ (fun hTX => ?_); (rw [hX]; first | exact HT1.out | exact HT1.out.alloc _ | exact (HT1.out.alloc _).alloc _); refine cutA (p := Tb X b2 k c2 z2) ?_ (fun hUX => ?_); (rw [hX]; first | exact HT2.out | exact HT2.out.alloc _ | exact (HT2.out.alloc _).alloc _); refine cutA (p := Blk X S 96 #[.slice (some ⟨b1, 0, none⟩) k c1, .slice (some ⟨b2, 0, none⟩) k c2]) ?_ (fun hRX => ?_); (rw [hX]; first | exact HR.out | exact HR.out.alloc _ | exact (HR.out.alloc _).alloc _); refine cutA (p := Blk X (S + 1) 96 #[.slice none 0 0, .slice none 0 0]) ?_ (fun hOX => ?_); (rw [hX]; first | exact HO.out | exact HO.out.alloc _ | exact (HO.out.alloc _).alloc _); refine cutA (p := Below w1.heap.size w1 X) ?_ (fun hbX => ?_); (rw [hX]; first | exact ((Below.refl _ w1).alloc (Nat.le_refl _) _).drew | exact (((Below.refl _ w1).alloc (Nat.le_refl _) _).alloc (by simp) _).drew); (first | ((with_reducible refine Calls.mono (ins_any b1 k c1 w1.heap.size x1 z1 X hTX ?_ ?_ hk hk') ?_); (rw [hX]; first | exact Blk.new _ _ _ | exact (Blk.new _ _ _).alloc _); omega) | ((with_reducible refine Calls.mono (ins_any b1 k c1 (w1.heap.size + 1) x1 z1 X hTX ?_ ?_ hk hk') ?_); (rw [hX]; exact Blk.new2 _ _ _ _); omega)); rintro e w2 ⟨b1', c1', rfl, hT1', hd1, hg1⟩; have hXs := hbX.size; refine cutA (p := Hid (Tb w2 b2 k c2 z2)) ?_ (fun hT2' => ?_); (exact hUX.keep (hg1.block b2 hUX.lt (fun e => by injection e with e; omega))); refine cutA (p := Hid (Blk w2 S 96 #[.slice (some ⟨b1, 0, none⟩) k c1, .slice (some ⟨b2, 0, none⟩) k c2])) ?_ (fun hR2 => ?_); (exact hRX.grown hg1 (fun e => by injection e with e; omega)); refine cutA (p := Hid (Blk w2 (S + 1) 96 #[.slice none 0 0, .slice none 0 0])) ?_ (fun hO2 => ?_); (exact hOX.grown hg1 (fun e => by injection e with e; omega)); (first | (refine cutA (p := Hid (Blk w2 (w1.heap.size + 1) 2 #[.int .i64 x2])) ?_ (fun HV2 => ?_); (refine Blk.grown (w := X) ?_ hg1 ?_); (rw [hX]; exact Blk.new2 _ _ _ _); (intro e; injection e with e; omega)) | (refine cutA (p := Hid (Blk w2 w1.heap.size 2 #[.int .i64 x2])) ?_ (fun HV2 => ?_); (refine Blk.grown (w := X) ?_ hg1 ?_); (rw [hX]; first | exact (Blk.new _ _ _).alloc _ | exact Blk.new _ _ _); (intro e; injection e with e; omega)) | skip); have HT1' := hid hT1'; refine cutA (p := Hid (b1' = b1 ∨ w1.heap.size ≤ b1')) ?_ (fun HD1 => ?_); (rcases hd1 with e | e; exact .inl e; exact .inr (by omega)); have q20 : w2.cell? ⟨S, 0, none⟩ = some (.slice (some ⟨b1, 0, none⟩) k c1) := hR2.out.cell 0; have q21 : w2.cell? ⟨S, 1, none⟩ = some (.slice (some ⟨b2, 0, none⟩) k c2) := hR2.out.cell 1; have q2b : w2.cell? ⟨b2, 0, none⟩ = some (.int .i64 (z2 0)) := hT2'.out.cell hk; refine cutA (p := Hid (∀ g, g < w1.heap.size → g ≠ b1 → w2.heap[g]? = w1.heap[g]?)) ?_ (fun HK2 => ?_); (exact fun g hg hne => (hg1.block g (by omega) (fun e => by injection e with e; omega)).trans (hbX.block g hg)); refine cutA (p := Hid (∀ B, B ≤ b1 → B ≤ w1.heap.size → Below B w1 w2)) ?_ (fun HB2 => ?_); (exact fun B h1 h2 => (hbX.mono h2).grown hg1 (by omega) (fun k e => by injection e with e; omega)); have hs2 : w1.heap.size ≤ w2.heap.size := Nat.le_trans hXs hg1.size; have hbl2 : b2 < w2.heap.size := hT2'.out.lt; have hSl2 : S < w2.heap.size := Nat.lt_of_lt_of_le hSl1 hs2; clear hTX hUX hRX hOX hbX hT1' hd1 hg1 hXs)
      refine hK.out _ _ ?_ (fun hHeld2 => ?_)
      · try dsimp only
        first | with_reducible exact heldT HR.out | with_reducible exact heldT HR.out.drew | with_reducible exact heldT (HR.out.alloc _) | with_reducible exact heldT (HR.out.alloc _).drew | with_reducible exact heldT ((HR.out.alloc _).alloc _) | with_reducible exact heldT ((HR.out.alloc _).alloc _).drew | with_reducible exact heldT hR2.out | with_reducible exact heldT (hR2.out.alloc _) | with_reducible exact heldT hR3.out | with_reducible exact heldT2 hR3.out _ _
      clear hK K hHeld
      have hHeld := hHeld2
      clear hHeld2
      try simp only [Act.put, List.setIfInBounds_toArray, List.set_cons_zero, List.set_cons_succ]
      refine wpAnyH_ready (rs := [19]) (by kernel_rfl) (by simp) ?_
      refine AllReadyH.cons rfl (fun K hK => ?_) AllReadyH.nil
      go_simp
      (go_at_call 99; refine namedT ?_; intro X hX; refine cutA (p := Tb X b2 k c2 z2) ?_ (fun hTX => ?_); (rw [hX]; first | exact hT2'.out | exact hT2'.out.alloc _); refine cutA (p := Tb X b1' (k + 1) c1' (consZ x1 z1)) ?_ (fun hUX => ?_); (rw [hX]; first | exact HT1'.out | exact HT1'.out.alloc _); refine cutA (p := Blk X S 96 #[.slice (some ⟨b1, 0, none⟩) k c1, .slice (some ⟨b2, 0, none⟩) k c2]) ?_ (fun hRX => ?_); (rw [hX]; first | exact hR2.out | exact hR2.out.alloc _); refine cutA (p := Blk X (S + 1) 96 #[.slice none 0 0, .slice none 0 0]) ?_ (fun hOX => ?_); (rw [hX]; first | exact hO2.out | exact hO2.out.alloc _); refine cutA (p := Below w2.heap.size w2 X) ?_ (fun hbX => ?_); (rw [hX]; first | exact Below.refl _ w2 | exact (Below.refl _ w2).drew | exact ((Below.refl _ w2).alloc (Nat.le_refl _) _) | exact ((Below.refl _ w2).alloc (Nat.le_refl _) _).drew); (first | ((with_reducible refine Calls.mono (ins_any b2 k c2 w2.heap.size x2 z2 X hTX ?_ ?_ hk hk') ?_); (rw [hX]; exact Blk.new _ _ _); omega) | ((with_reducible refine Calls.mono (ins_any b2 k c2 w1.heap.size x2 z2 X hTX ?_ ?_ hk hk') ?_); (rw [hX]; exact HV2.out); omega) | ((with_reducible refine Calls.mono (ins_any b2 k c2 (w1.heap.size + 1) x2 z2 X hTX ?_ ?_ hk hk') ?_); (rw [hX]; exact HV2.out); omega)); rintro e w3 ⟨b2', c2', rfl, hT2'', hd2, hg2⟩; have hXs := hbX.size; refine cutA (p := b1' ≠ b2) ?_ (fun h1ne => ?_); (rcases HD1.out with e | e; omega; omega); refine cutA (p := Hid (Tb w3 b1' (k + 1) c1' (consZ x1 z1))) ?_ (fun hT13 => ?_); (exact hUX.keep (hg2.block b1' hUX.lt (fun e => by injection e with e; omega))); refine cutA (p := Blk w3 (S + 1) 96 #[.slice none 0 0, .slice none 0 0]) ?_ (fun hO3 => ?_); (exact hOX.grown hg2 (fun e => by injection e with e; omega)); have hR3 : Hid (Blk w3 S 96 #[.slice (some ⟨b1, 0, none⟩) k c1, .slice (some ⟨b2, 0, none⟩) k c2]) := hRX.grown hg2 (fun e => by injection e with e; omega); have h1l : b1' < X.heap.size := hUX.lt; refine cutA (p := Hid (b2' = b2 ∨ (w1.heap.size ≤ b2' ∧ b1' ≠ b2'))) ?_ (fun HD2 => ?_); (rcases hd2 with e | e; exact .inl e; exact .inr ⟨by omega, by omega⟩); refine cutA (p := Hid (∀ g, g < w1.heap.size → g ≠ b1 → g ≠ b2 → w3.heap[g]? = w1.heap[g]?)) ?_ (fun HK3 => ?_); (exact fun g hg hne hne2 => ((hg2.block g (by omega) (fun e => by injection e with e; omega)).trans (hbX.block g (by omega))).trans (HK2.out g hg hne)); refine cutA (p := Hid (∀ B, B ≤ b1 → B ≤ b2 → B ≤ w1.heap.size → Below B w1 w3)) ?_ (fun HB3 => ?_); (exact fun B h1 h2 h3 => ((HB2.out B h1 h3).trans (hbX.mono (by omega))).grown hg2 (by omega) (fun k e => by injection e with e; omega)); have hs3 : w2.heap.size ≤ w3.heap.size := Nat.le_trans hXs hg2.size; have HT23 := hid hT2''; obtain ⟨o0, o1, of0, of1⟩ := tbV_cells hO3; clear hRX hTX hUX hOX hbX hT2'' hd2 hg2 hXs h1l)
      refine hK.out _ _ ?_ (fun hHeld2 => ?_)
      · try dsimp only
        first | with_reducible exact heldT HR.out | with_reducible exact heldT HR.out.drew | with_reducible exact heldT (HR.out.alloc _) | with_reducible exact heldT (HR.out.alloc _).drew | with_reducible exact heldT ((HR.out.alloc _).alloc _) | with_reducible exact heldT ((HR.out.alloc _).alloc _).drew | with_reducible exact heldT hR2.out | with_reducible exact heldT (hR2.out.alloc _) | with_reducible exact heldT hR3.out | with_reducible exact heldT2 hR3.out _ _
      clear hK K hHeld
      have hHeld := hHeld2
      clear hHeld2
      try simp only [Act.put, List.setIfInBounds_toArray, List.set_cons_zero, List.set_cons_succ]
      refine wpAnyH_take (i := 20) (v := ?_) rfl (by kernel_rfl) (by kernel_rfl) (by kernel_rfl) (fun _ _ _ h => h) (Or.inl ⟨by rfl, ?_⟩) (by assumption) ?_
      rotate_left
      · intro w hSw; (try dsimp only at hSw); go_simp; try with_reducible rfl
      try simp only [Act.put, List.setIfInBounds_toArray, List.set_cons_zero, List.set_cons_succ]
      refine wpAnyH_ready (rs := [21]) (by kernel_rfl) (by simp) ?_
      refine AllReadyH.cons rfl (fun K hK => ?_) AllReadyH.nil
      go_simp
      refine hK.out _ _ ?_ (fun hHeld2 => ?_)
      · try dsimp only
        first | with_reducible exact heldT HR.out | with_reducible exact heldT HR.out.drew | with_reducible exact heldT (HR.out.alloc _) | with_reducible exact heldT (HR.out.alloc _).drew | with_reducible exact heldT ((HR.out.alloc _).alloc _) | with_reducible exact heldT ((HR.out.alloc _).alloc _).drew | with_reducible exact heldT hR2.out | with_reducible exact heldT (hR2.out.alloc _) | with_reducible exact heldT hR3.out | with_reducible exact heldT2 hR3.out _ _
      clear hK K hHeld
      have hHeld := hHeld2
      clear hHeld2
      try simp only [Act.put, List.setIfInBounds_toArray, List.set_cons_zero, List.set_cons_succ]
      refine wpAnyH_done (by kernel_rfl) ?_ _
      go_wp2_with fail
      refine bodyPost_ret (results_cell_row rfl _ _ (S + 1) 96 #[.slice (some ⟨b1', 0, none⟩) (k + 1) c1', .slice (some ⟨b2', 0, none⟩) (k + 1) c2'] (0, 0) _ rfl ((hO3.set_ 0 (.slice (some ⟨b1', 0, none⟩) (k + 1) c1')).set_ 1 (.slice (some ⟨b2', 0, none⟩) (k + 1) c2')) Tryz.underlying96 rfl size_tables) rfl ?_
      rw [HX1.out, HX2.out]
      exact step_end HSE.out HBW.out hSw hbS hbS2 hT13.out HT23.out h1ne HD1.out HD2.out HK3.out HB3.out _ _
end

/-! ### Back -/
section
set_option linter.unusedVariables false
set_option linter.unusedSimpArgs false
open Go.RowKit Go.Shelf

attribute [local go_sem] Oper.semAt_some

abbrev Ix (N : Nat) := { j : Nat // j < N }
/-- The first k of N - 1, N - 2, .., 0. -/
def downs (N : Nat) : Nat → List (Ix N)
  | 0 => []
  | k + 1 => if h : N - 1 - k < N then downs N k ++ [⟨N - 1 - k, h⟩] else downs N k
theorem downs_succ {N k : Nat} (h : k < N) : downs N (k + 1) = downs N k ++ [⟨N - 1 - k, by omega⟩] := by
  show (if h : N - 1 - k < N then downs N k ++ [⟨N - 1 - k, h⟩] else downs N k) = _
  rw [dif_pos (by omega)]
theorem downs_len {N : Nat} : ∀ {k : Nat}, k ≤ N → (downs N k).length = k := by
  intro k
  induction k with
  | zero => intro _; rfl
  | succ k ih => intro h; rw [downs_succ (by omega), List.length_append, ih (by omega)]; rfl
/-- The blocks of P lie as they lay. -/
def KeepsB (P : Nat → Prop) (W W' : World) : Prop := ∀ x, P x → W'.heap[x]? = W.heap[x]?
theorem KeepsB.refl (P : Nat → Prop) (W : World) : KeepsB P W W := fun _ _ => rfl
theorem KeepsB.trans {P : Nat → Prop} {A B C : World} (h : KeepsB P A B) (k : KeepsB P B C) : KeepsB P A C := fun x hx => (k x hx).trans (h x hx)
theorem keepsB_b {P : Nat → Prop} {w : World} (hP : ∀ x, P x → x < w.heap.size) (W : World) (l : Nat) (o o' : Obj) (hl : w.heap.size ≤ l) (_ : W.heap[l]? = some o) (_ : o.isCells = false) (_ : o.isWalk = false) : KeepsB P W (W.putObj l o') := fun x hx =>
  World.putObj_heap_other (fun e => by have := hP x hx; omega)
theorem KeepsB.cell {P : Nat → Prop} {W W' : World} (h : KeepsB P W W') {p : Addr} (hp : P p.block) : W'.cell? p = W.cell? p := World.cell?_of_block (h _ hp)

set_option maxRecDepth 100000 in
set_option maxHeartbeats 2000000 in
theorem back1_in (F : Fence) (n : Nat) (hf : F.fn 115) (hro : F.round = none) (hn : 1 ≤ n) (l Bs N cap : Nat) (A : Option Addr) (z : Nat → Int) (hN : N ≤ 4194304) (P : Nat → Prop) (hPs : P Bs) (B : Nat) (hPb : ∀ b, b < B → P b) (J Jx : List (Ix N) → World → Prop)
    (hY : ∀ pre x W, J pre W → pre.length < N → YieldAt F (n - 1) Tryz.prog l #[.int .i64 (x.1 : Int), .int .i64 (z x.1)] W fun e W' =>
      (e = .returned (.bool true) ∧ J (pre ++ [x]) W' ∧ KeepsB P W W') ∨ (e = .returned (.bool false) ∧ Jx (pre ++ [x]) W'))
    (W : World) (hBs : W.cell? ⟨Bs, 0, none⟩ = some (.slice A N cap)) (hc : Rd W B A N z) (h0 : J [] W) :
    CallsIn F n Tryz.prog 115 #[.func (.yield l) #[] #[], .pointer (some ⟨Bs, 0, none⟩)] W fun e W' => (∃ v, e = .returned v) ∧
      ((∃ ys, ys = downs N N ∧ J ys W') ∨ (∃ pre, (∃ k, k ≤ N ∧ pre = downs N k) ∧ Jx pre W')) := by
  refine callsIn_of_wp Tryz.func115 rfl hf ?_ hro
  simp only [Tryz.ntmps115, List.size_toArray, List.length_cons, List.length_nil, Nat.reduceAdd, Nat.reduceSub, Array.replicate_succ, Array.replicate_zero, List.push_toArray, List.append_toArray, List.nil_append, List.cons_append]
  gi_wp2
  gi_loopw [3] (fun i wr => ∃ j : Nat, j ≤ N ∧ i = .int .i64 ((j : Int) - 1) ∧ J (downs N (N - j)) wr ∧ KeepsB P W wr)
    (fun i _ => (intOf i + 1).toNat)
  case atStart => exact ⟨N, Nat.le_refl _, by first | rfl | (congr 1; omega), by rw [Nat.sub_self]; exact h0, KeepsB.refl _ _⟩
  case round =>
    obtain ⟨j, hj, rfl, hJs, hK⟩ := hrel
    cases j with
    | succ s =>
      have e1 : ((s + 1 : Nat) : Int) - 1 = (s : Int) := by omega
      rw [e1]
      have hs : s < N := by omega
      have hk : N - (s + 1) < N := by omega
      obtain ⟨b, off, rfl, hbB, hcx⟩ := hc.at_ hs
      have hcx' : wr.cell? ⟨b, off + s, none⟩ = some (.int .i64 (z s)) := (hK.cell (p := ⟨b, off + s, none⟩) (hPb b hbB)).trans hcx
      have hBs' : wr.cell? ⟨Bs, 0, none⟩ = some (.slice (some ⟨b, off, none⟩) N cap) := (hK.cell (p := ⟨Bs, 0, none⟩) hPs).trans hBs
      obtain ⟨fn, tmps, assign, body, hy, hR⟩ := hY _ ⟨s, hs⟩ wr hJs (by rw [downs_len (by omega)]; exact hk)
      dsimp only at hy
      have q1 : (0 : Int) ≤ (s : Int) := by omega
      have q2 : (s : Int) < (N : Int) := by omega
      have ed : downs N (N - (s + 1)) ++ [⟨s, hs⟩] = downs N (N - s) := by
        have e : N - s = (N - (s + 1)) + 1 := by omega
        rw [e, downs_succ hk]
        congr 2
        exact Subtype.ext (by show s = N - 1 - (N - (s + 1)); omega)
      rw [ed] at hR
      have HJ := hid hJs
      clear hJs e1 ed
      gi_wp2
      refine hR.mono ?_
      rintro e W3 (⟨rfl, hJ3, hk3⟩ | ⟨rfl, hJx3⟩)
      · gi_wp2
        go_roundw
        case rel => exact ⟨s, by omega, by first | rfl | go_num, hJ3, hK.trans hk3⟩
        case measure => simp [intOf]
      · gi_wp2
        refine bodyPost_ret (results_none rfl _ _ _) rfl ?_
        exact ⟨⟨_, rfl⟩, .inr ⟨_, ⟨N - s, by omega, rfl⟩, hJx3⟩⟩
    | zero =>
      have e1 : ((0 : Nat) : Int) - 1 = -1 := rfl
      rw [e1]
      gi_wp2
      go_end0
      exact ⟨⟨_, rfl⟩, .inl ⟨_, rfl, hJs⟩⟩

set_option maxHeartbeats 1000000 in
theorem back_in (F : Fence) (n : Nat) (hf : F.fn 86) (hro : F.round = none) (a : Option Addr) (len cap : Nat) (w : World) :
    CallsIn F n Tryz.prog 86 #[.slice a len cap] w fun e w' => e = .returned (.func (.func 115) #[] #[.pointer (some ⟨w.heap.size, 0, none⟩)]) ∧ w' = w.alloc (.cells #[.slice a len cap] 27) := by
  refine callsIn_of_wp Tryz.func86 rfl hf ?_ hro
  simp only [Tryz.ntmps86, List.size_toArray, List.length_cons, List.length_nil, Nat.reduceAdd, Nat.reduceSub, Array.replicate_succ, Array.replicate_zero, List.push_toArray, List.append_toArray, List.nil_append, List.cons_append]
  gi_wp2
  go_ret
  exact ⟨rfl, rfl⟩

theorem back_stops (F : Fence) (n : Nat) (hf : F.fn 115) (hro : F.round = none) (hn : 1 ≤ n) (Bs N cap : Nat) (A : Option Addr) (z : Nat → Int) (hN : N ≤ 4194304) (P : Nat → Prop) (hPs : P Bs) (B : Nat) (hPb : ∀ b, b < B → P b) (w : World) (hBl : B ≤ w.heap.size) (hBw : Bs < w.heap.size)
    (hBs : w.cell? ⟨Bs, 0, none⟩ = some (.slice A N cap)) (hc : Rd w B A N z) :
    SeqStopsK F n Tryz.prog 115 #[.pointer (some ⟨Bs, 0, none⟩)] (fun x : Ix N => #[.int .i64 (x.1 : Int), .int .i64 (z x.1)]) (KeepsB P) (fun ys => ys = downs N N) (fun pre => ∃ k, k ≤ N ∧ pre = downs N k) N w := fun l J Jx W hW _ _ hY h0 =>
  back1_in F n hf hro hn l Bs N cap A z hN P hPs B hPb J Jx hY W ((hW.cell (p := ⟨Bs, 0, none⟩) hBw).trans hBs) (hc.below (hW.mono hBl)) h0
end

/-! ### Fold -/
section
set_option linter.unusedVariables false
set_option linter.unusedSimpArgs false
open Go.RowKit Go.Deep Go.Shelf

attribute [local go_sem] Oper.semAt_some

/-- The tables of what has come: the last one first. -/
def tabL (v : Nat → Int) {N : Nat} (o : Nat → Nat) : List (Ix N) → Nat → Int
  | [], _ => 0
  | x :: r, p => consZ (tabL v o r 0 + v (o x.1)) (tabL v o r) p
abbrev stepV (eb : Nat) : Value := .func (.func 97) #[] #[.pointer (some ⟨eb, 0, none⟩)]
/-- What holds between two rounds of the fold. -/
def Folding (w : World) (S B0 eb b1 b2 m : Nat) (za zb : Nat → Int) (W : World) : Prop :=
  (∃ b1' c1' b2' c2', Blk W S 96 #[.slice (some ⟨b1', 0, none⟩) (m + 1) c1', .slice (some ⟨b2', 0, none⟩) (m + 1) c2'] ∧ Tb W b1' (m + 1) c1' za ∧ Tb W b2' (m + 1) c2' zb ∧ b1' ≠ b2' ∧ (b1' = b1 ∨ S + 4 ≤ b1') ∧ (b2' = b2 ∨ S + 4 ≤ b2')) ∧
  Blk W (S + 1) 135 #[stepV eb] ∧ Blk W (S + 2) 96 #[.slice none 0 0, .slice none 0 0] ∧ Below B0 w W ∧ S + 4 ≤ W.heap.size

theorem tabL_bound {v : Nat → Int} {N n : Nat} {o : Nat → Nat} (hv : ∀ i, i < n → -1000000000 ≤ v i ∧ v i ≤ 1000000000) (ho : ∀ p, p < N → o p < n) : ∀ l : List (Ix N), -1000000000 * (l.length : Int) ≤ tabL v o l 0 ∧ tabL v o l 0 ≤ 1000000000 * (l.length : Int) := by
  intro l
  induction l with
  | nil => exact ⟨by simp [tabL], by simp [tabL]⟩
  | cons x r ih =>
    have e : tabL v o (x :: r) 0 = tabL v o r 0 + v (o x.1) := rfl
    have h := hv _ (ho _ x.2)
    rw [e, List.length_cons]
    omega
theorem folding_own {w : World} {S B0 eb b1 b2 B N : Nat} {za zb : List (Ix N) → Nat → Int} (hw : B0 ≤ w.heap.size) (hB : B0 ≤ B) :
    OwnFrom B (fun (pre : List (Ix N)) W => Folding w S B0 eb b1 b2 pre.length (za pre) (zb pre) W) := fun s W W' row hs hg hr => by
  have hk : ∀ (x : Nat) (t : TypeId) (cs : Array Value), Blk W x t cs → W'.heap[x]? = W.heap[x]? := fun x t cs h => hg.block x h.lt (fun e => by
    obtain ⟨_, o, ho, hc⟩ := hr x e.symm
    rw [show W.heap[x]? = _ from h] at ho
    cases ho
    cases hc)
  obtain ⟨⟨b1', c1', b2', c2', hR, hT1, hT2, hne, hd1, hd2⟩, hS1, hS2, hb, hsz⟩ := hs
  refine ⟨⟨b1', c1', b2', c2', (hk _ _ _ hR).trans hR, hT1.keep ?_, hT2.keep ?_, hne, hd1, hd2⟩, (hk _ _ _ hS1).trans hS1, (hk _ _ _ hS2).trans hS2, hb.grown hg (Nat.le_trans hw hb.size) (fun k e => Nat.le_trans hB (hr k e).1), Nat.le_trans hsz hg.size⟩
  · obtain ⟨cs, h, _⟩ := hT1; exact hk _ _ _ h
  · obtain ⟨cs, h, _⟩ := hT2; exact hk _ _ _ h
/-- What a round of the fold makes of it. -/
theorem folding_next {w W W3 : World} {S B0 eb b1 b2 b1' c1' b2' c2' b1'' c1'' b2'' c2'' m : Nat} {za zb : Nat → Int} (hw : w.heap.size = S) (hBS : B0 ≤ S) (hB1 : B0 ≤ b1) (hB2 : B0 ≤ b2) (hb1S : b1 < S) (hb2S : b2 < S) (hWs : S + 4 ≤ W.heap.size)
    (hR : Blk W S 96 #[.slice (some ⟨b1', 0, none⟩) (m + 1) c1', .slice (some ⟨b2', 0, none⟩) (m + 1) c2']) (hT1 : ∃ t cs, Blk W b1' t cs) (hT2 : ∃ t cs, Blk W b2' t cs) (hd1 : b1' = b1 ∨ S + 4 ≤ b1') (hd2 : b2' = b2 ∨ S + 4 ≤ b2')
    (hS1 : Blk W (S + 1) 135 #[stepV eb]) (hS2 : Blk W (S + 2) 96 #[.slice none 0 0, .slice none 0 0]) (hb : Below B0 w W)
    (u1 : Tb W3 b1'' (m + 1 + 1) c1'' za) (u2 : Tb W3 b2'' (m + 1 + 1) c2'' zb) (une : b1'' ≠ b2'') (ud1 : b1'' = b1' ∨ W.heap.size ≤ b1'') (ud2 : b2'' = b2' ∨ W.heap.size ≤ b2'')
    (uk : ∀ g, g < W.heap.size → g ≠ b1' → g ≠ b2' → W3.heap[g]? = W.heap[g]?) (ub : ∀ B, B ≤ b1' → B ≤ b2' → Below B W W3) :
    KeepsFrom (S + 4) W ((W3.setCell ⟨S, 0, none⟩ (.slice (some ⟨b1'', 0, none⟩) (m + 1 + 1) c1'')).setCell ⟨S, 1, none⟩ (.slice (some ⟨b2'', 0, none⟩) (m + 1 + 1) c2'')) ∧
    KeepsB (fun x => x = S + 3 ∨ x < B0) W ((W3.setCell ⟨S, 0, none⟩ (.slice (some ⟨b1'', 0, none⟩) (m + 1 + 1) c1'')).setCell ⟨S, 1, none⟩ (.slice (some ⟨b2'', 0, none⟩) (m + 1 + 1) c2'')) ∧
    Folding w S B0 eb b1 b2 (m + 1) za zb ((W3.setCell ⟨S, 0, none⟩ (.slice (some ⟨b1'', 0, none⟩) (m + 1 + 1) c1'')).setCell ⟨S, 1, none⟩ (.slice (some ⟨b2'', 0, none⟩) (m + 1 + 1) c2'')) := by
  obtain ⟨W', hW'⟩ : ∃ W', (W3.setCell ⟨S, 0, none⟩ (.slice (some ⟨b1'', 0, none⟩) (m + 1 + 1) c1'')).setCell ⟨S, 1, none⟩ (.slice (some ⟨b2'', 0, none⟩) (m + 1 + 1) c2'') = W' := ⟨_, rfl⟩
  have hk : ∀ g, g ≠ S → W'.heap[g]? = W3.heap[g]? := fun g hg => by rw [← hW']; exact (Below.heap_setCell _ ⟨S, 1, none⟩ _ g hg).trans (Below.heap_setCell _ ⟨S, 0, none⟩ _ g hg)
  have hbW3 : Below B0 W W3 := ub B0 (by omega) (by omega)
  have hbW' : Below B0 W W' := by rw [← hW']; exact (hbW3.setCell (p := ⟨S, 0, none⟩) hBS _).setCell (p := ⟨S, 1, none⟩) hBS _
  have hRx : Blk W3 S 96 #[.slice (some ⟨b1', 0, none⟩) (m + 1) c1', .slice (some ⟨b2', 0, none⟩) (m + 1) c2'] := (uk S (by omega) (by omega) (by omega)).trans hR
  have hR' : Blk W' S 96 #[.slice (some ⟨b1'', 0, none⟩) (m + 1 + 1) c1'', .slice (some ⟨b2'', 0, none⟩) (m + 1 + 1) c2''] := by rw [← hW']; exact (hRx.set_ 0 _).set_ 1 _
  rw [hW']
  refine ⟨⟨hbW'.size, fun k o hkB ho hc => ?_⟩, fun x hx => ?_, ⟨b1'', c1'', b2'', c2'', hR', u1.keep (hk _ (by omega)), u2.keep (hk _ (by omega)), une, by omega, by omega⟩, ?_, ?_, hb.trans hbW', Nat.le_trans hWs hbW'.size⟩
  · have hlt : k < W.heap.size := (Array.getElem?_eq_some_iff.1 ho).1
    rw [hk k (by omega), uk k hlt (fun e => ?_) (fun e => ?_)]
    · exact ho
    · obtain ⟨t, cs, h⟩ := hT1
      rw [e, show W.heap[b1']? = _ from h] at ho
      cases ho
      cases hc
    · obtain ⟨t, cs, h⟩ := hT2
      rw [e, show W.heap[b2']? = _ from h] at ho
      cases ho
      cases hc
  · rcases hx with rfl | hx
    · rw [hk _ (by omega)]
      exact uk _ (by omega) (by omega) (by omega)
    · exact hbW'.block x hx
  · exact (hk _ (by omega)).trans ((uk _ (by omega) (by omega) (by omega)).trans hS1)
  · exact (hk _ (by omega)).trans ((uk _ (by omega) (by omega) (by omega)).trans hS2)

set_option maxRecDepth 100000 in
set_option maxHeartbeats 4000000 in
theorem fold_any (eb B0 : Nat) (f b : Int) (A : Option Addr) (n c : Nat) (len : Nat → Nat) (g : Nat → Nat → Nd) (Ao : Option Addr) (N co : Nat) (o : Nat → Nat) (b1 b2 : Nat) (w : World) (he : Blk w eb 26 #[.int .i64 f, .int .i64 b, .slice A n c]) (hr : RdT w B0 A n len g)
    (hn : n ≤ 4194304) (hN : N ≤ 12) (hlen : Hid (∀ i, i < n → len i ≤ 4194304)) (ht : Hid (∀ i, i < n → treeB (g i) (len i) 6 = true)) (ho : Rd w B0 Ao N fun p => (o p : Nat)) (hol : Hid (∀ p, p < N → o p < n))
    (h1 : Tb w b1 1 1 fun _ => 0) (h2 : Tb w b2 1 1 fun _ => 0) (hbb : b1 ≠ b2) (heB : eb < B0) (hB1 : B0 ≤ b1) (hB2 : B0 ≤ b2) :
    Calls Tryz.prog 96 #[.slice Ao N co, tbV b1 1 1 b2 1 1, stepV eb] w fun e w' =>
      ∃ b1' c1' b2' c2', e = .returned (tbV b1' (N + 1) c1' b2' (N + 1) c2') ∧ Tb w' b1' (N + 1) c1' (tabL (fun i => loTo (g i) (len i)) o (downs N N).reverse) ∧ Tb w' b2' (N + 1) c2' (tabL (fun i => hiTo (g i) (len i)) o (downs N N).reverse) ∧ b1' ≠ b2' ∧ B0 ≤ b1' ∧ B0 ≤ b2' ∧ Below B0 w w' := by
  refine (callsIn_wide (n := 8)).1 ?_
  refine callsIn_of_wp_marks Tryz.func96 rfl trivial ?_ rfl
  simp only [Tryz.ntmps96, List.size_toArray, List.length_cons, List.length_nil, Nat.reduceAdd, Nat.reduceSub, Array.replicate_succ, Array.replicate_zero, List.push_toArray, List.append_toArray, List.nil_append, List.cons_append]
  gi_wp2_with (refine ⟨trivial, ?_⟩; gi_at_call 86; refine (back_in Fence.wide _ trivial rfl _ _ _ _).mono ?_; rintro e w' ⟨rfl, rfl⟩)
  have hbl1 := h1.lt
  have hbl2 := h2.lt
  obtain ⟨S, hS⟩ : ∃ S, w.heap.size = S := ⟨_, rfl⟩
  have hbS1 : b1 < S := by omega
  have hbS2 : b2 < S := by omega
  obtain ⟨W0, hW0⟩ : ∃ W, (((w.alloc (.cells #[.slice (some ⟨b1, 0, none⟩) 1 1, .slice (some ⟨b2, 0, none⟩) 1 1] 96)).alloc (.cells #[stepV eb] 135)).alloc (.cells #[.slice none 0 0, .slice none 0 0] 96)).alloc (.cells #[.slice Ao N co] 27) = W := ⟨_, rfl⟩
  have hs0 : W0.heap.size = S + 4 := by rw [← hW0]; simp; omega
  have hB00 : Below w.heap.size w W0 := by rw [← hW0]; exact ((((Below.refl _ w).alloc (Nat.le_refl _) _).alloc (by simp) _).alloc (by simp; omega) _).alloc (by simp; omega) _
  have hB0 : Below B0 w W0 := hB00.mono (by omega)
  have hR0 : Blk W0 S 96 #[.slice (some ⟨b1, 0, none⟩) (0 + 1) 1, .slice (some ⟨b2, 0, none⟩) (0 + 1) 1] := by rw [← hW0, ← hS]; exact (((Blk.new w 96 _).alloc _).alloc _).alloc _
  have hS10 : Blk W0 (S + 1) 135 #[stepV eb] := by rw [← hW0, ← hS]; exact ((Blk.new2 w _ 135 _).alloc _).alloc _
  have hS20 : Blk W0 (S + 2) 96 #[.slice none 0 0, .slice none 0 0] := by rw [← hW0, ← hS]; exact (Blk.new3 w _ _ 96 _).alloc _
  have hS30 : W0.cell? ⟨S + 3, 0, none⟩ = some (.slice Ao N co) := by
    have := (Blk.new (((w.alloc (.cells #[.slice (some ⟨b1, 0, none⟩) 1 1, .slice (some ⟨b2, 0, none⟩) 1 1] 96)).alloc (.cells #[stepV eb] 135)).alloc (.cells #[.slice none 0 0, .slice none 0 0] 96)) 27 #[.slice Ao N co]).cell 0
    rw [hW0] at this
    simp only [World.size_alloc, hS] at this
    exact this
  have h10 := h1.below hB00
  have h20 := h2.below hB00
  rw [hW0]
  simp only [hS]
  have hI0 : Folding w S B0 eb b1 b2 ([] : List (Ix N)).length (tabL (fun i => loTo (g i) (len i)) o ([] : List (Ix N)).reverse) (tabL (fun i => hiTo (g i) (len i)) o ([] : List (Ix N)).reverse) W0 :=
    ⟨⟨b1, 1, b2, 1, hR0, h10.congr fun p hp => by obtain rfl : p = 0 := by omega
                                                  rfl, h20.congr fun p hp => by obtain rfl : p = 0 := by omega
                                                                                rfl, hbb, .inl rfl, .inl rfl⟩, hS10, hS20, hB0, by omega⟩
  clear hW0 hR0 hS10 hS20 h10 h20 h1 h2
  refine wpIn_rangeFunc_ownG (F := Fence.wide) rfl (by omega) (gf := 115) (lb := #[.pointer (some ⟨S + 1 + 1 + 1, 0, none⟩)]) rfl trivial (enters_of Tryz.func115 (by kernel_rfl) rfl)
    (back_stops Fence.wide (8 - 1) trivial rfl (by omega) (S + 3) N co Ao (fun p => (o p : Nat)) (by omega) (fun x => x = S + 3 ∨ x < B0) (.inl rfl) B0 (fun _ h => .inr h) W0 (by omega) (by omega) hS30 (ho.below hB0)) KeepsB.trans (keepsB_b (fun x hx => by rcases hx with e | e <;> omega)) (Below.refl _ _) (fun _ => rfl)
    (fun pre W => Folding w S B0 eb b1 b2 pre.length (tabL (fun i => loTo (g i) (len i)) o pre.reverse) (tabL (fun i => hiTo (g i) (len i)) o pre.reverse) W)
    (fun _ _ _ => False)
    (folding_own (by omega) (by omega))
    (fun _ _ _ _ _ hs _ _ => hs)
    hI0
    (fun x => { tmps := #[.slice Ao N co, tbV b1 1 1 b2 1 1, stepV eb, undef, .pointer (some ⟨S, 0, none⟩), .pointer (some ⟨S + 1, 0, none⟩), .pointer (some ⟨S + 1 + 1, 0, none⟩), undef, .int .i64 (o x.1 : Nat), .slice Ao N co, .func (.func 115) #[] #[.pointer (some ⟨S + 1 + 1 + 1, 0, none⟩)], .int .i64 (x.1 : Int), .int .i64 (o x.1 : Nat), undef, undef, undef, undef, undef], defers := [] }) ?assign ?body ?done ?stop
  case assign =>
    intro l x W K hK
    gi_wp2
    exact hK
  case body =>
    rintro l pre x W ⟨⟨b1', c1', b2', c2', hR, hT1, hT2, hne, hd1, hd2⟩, hS1, hS2, hB, hWs⟩ hlt
    have hbw := hB
    have heW := he.below hB heB
    have hrW : RdT W W.heap.size A n len g := (hr.below hB).more (by have := hB.size; omega)
    have hi := hol.out _ x.2
    have q0 : W.cell? ⟨S, 0, none⟩ = some (.slice (some ⟨b1', 0, none⟩) (pre.length + 1) c1') := hR.cell 0
    have q1 : W.cell? ⟨S, 1, none⟩ = some (.slice (some ⟨b2', 0, none⟩) (pre.length + 1) c2') := hR.cell 1
    have q5 : W.cell? ⟨S + 1, 0, none⟩ = some (stepV eb) := hS1.cell 0
    have bd1 := tabL_bound (v := fun i => loTo (g i) (len i)) (n := n) (fun i hi => lo_boundO (ht.out i hi)) hol.out pre.reverse
    have bd2 := tabL_bound (v := fun i => hiTo (g i) (len i)) (n := n) (fun i hi => hi_boundO (ht.out i hi)) hol.out pre.reverse
    rw [List.length_reverse] at bd1 bd2
    have hst := step_any eb f b A n c len g (o x.1) (pre.length + 1) b1' c1' b2' c2' _ _ W heW hrW hi hn (hlen.out _ hi) (ht.out _ hi) hT1 hT2 hne (by omega) (by omega) (by omega) (by omega)
    have HT1 := hid hT1
    have HT2 := hid hT2
    have HR := hid hR
    have HS2 := hid hS2
    have HS1 := hid hS1
    have HB := hid hB
    clear hT1 hT2 hR hS1 hS2 hB hrW heW bd1 bd2 hbw
    gi_wp2_with fail
    refine ⟨trivial, ?_⟩
    refine (CallsIn.inRound l (callsIn_wide.2 hst)).mono ?_
    rintro e W3 ⟨b1'', c1'', b2'', c2'', rfl, u1, u2, une, ud1, ud2, uk, ub⟩
    have HR3 : Hid (Blk W3 S 96 #[.slice (some ⟨b1', 0, none⟩) (pre.length + 1) c1', .slice (some ⟨b2', 0, none⟩) (pre.length + 1) c2']) := (uk S (by omega) (by omega) (by omega)).trans HR.out
    have r0 : W3.cell? ⟨S, 0, none⟩ = some (.slice (some ⟨b1', 0, none⟩) (pre.length + 1) c1') := HR3.out.cell 0
    have r1 : W3.cell? ⟨S, 1, none⟩ = some (.slice (some ⟨b2', 0, none⟩) (pre.length + 1) c2') := HR3.out.cell 1
    have f0 : W3.frozen? ⟨S, 0, none⟩ = false := HR3.out.frozen 0
    have f1 : W3.frozen? ⟨S, 1, none⟩ = false := HR3.out.frozen 1
    have UK := hid uk
    have UB := hid ub
    clear uk ub hst
    gi_wp2_with fail
    have hfin := folding_next hS (by omega) hB1 hB2 hbS1 hbS2 hWs HR.out (by obtain ⟨cs, h, _⟩ := HT1.out; exact ⟨_, _, h⟩) (by obtain ⟨cs, h, _⟩ := HT2.out; exact ⟨_, _, h⟩) hd1 hd2 HS1.out HS2.out HB.out u1 u2 une ud1 ud2 UK.out UB.out
    rw [hs0]
    have el : (pre ++ [x]).length = pre.length + 1 := by simp
    have er : (pre ++ [x]).reverse = x :: pre.reverse := by simp
    unfold ownPostG
    simp only []
    rw [el, er]
    exact hfin
  case done =>
    rintro D ys W hD rfl hI hK
    obtain ⟨⟨b1', c1', b2', c2', hR, hT1, hT2, hne, hd1, hd2⟩, hS1, hS2, hB, hWs⟩ := hI
    rw [downs_len (Nat.le_refl _)] at hR hT1 hT2
    have q0 : W.cell? ⟨S, 0, none⟩ = some (.slice (some ⟨b1', 0, none⟩) (N + 1) c1') := hR.cell 0
    have q1 : W.cell? ⟨S, 1, none⟩ = some (.slice (some ⟨b2', 0, none⟩) (N + 1) c2') := hR.cell 1
    have r0 : W.cell? ⟨S + 1 + 1, 0, none⟩ = some (.slice none 0 0) := hS2.cell 0
    have r1 : W.cell? ⟨S + 1 + 1, 1, none⟩ = some (.slice none 0 0) := hS2.cell 1
    have f0 : W.frozen? ⟨S + 1 + 1, 0, none⟩ = false := hS2.frozen 0
    have f1 : W.frozen? ⟨S + 1 + 1, 1, none⟩ = false := hS2.frozen 1
    have HT1 := hid hT1
    have HT2 := hid hT2
    have HS2 := hid hS2
    have HB := hid hB
    have HK := hid hK
    clear hT1 hT2 hR hS1 hS2 hB hK
    gi_wp2
    have hK1 := (KeepsOthers.setCell W ⟨S + 1 + 1, 0, none⟩ (.slice (some ⟨b1', 0, none⟩) (N + 1) c1')).same D _ HK.out rfl
    have hK2 := (KeepsOthers.setCell (W.setCell ⟨S + 1 + 1, 0, none⟩ (.slice (some ⟨b1', 0, none⟩) (N + 1) c1')) ⟨S + 1 + 1, 1, none⟩ (.slice (some ⟨b2', 0, none⟩) (N + 1) c2')).same D _ hK1 rfl
    refine ⟨by simp, .inl ⟨_, _, rfl, run_takeDeferred hK2, ?_⟩⟩
    have hne' : ∀ (x : Nat) (t : TypeId) (cs : Array Value), Blk W x t cs → x ≠ D := fun x t cs h e => by
      have h' : W.heap[x]? = _ := h
      rw [e, HK.out] at h'
      cases h'
    have hkeep : ∀ x, x ≠ S + 1 + 1 → x ≠ D → (((W.setCell ⟨S + 1 + 1, 0, none⟩ (.slice (some ⟨b1', 0, none⟩) (N + 1) c1')).setCell ⟨S + 1 + 1, 1, none⟩ (.slice (some ⟨b2', 0, none⟩) (N + 1) c2')).putObj D (.deferred none)).heap[x]? = W.heap[x]? := fun x h1 h2 =>
      (World.putObj_heap_other h2).trans ((Below.heap_setCell _ ⟨S + 1 + 1, 1, none⟩ _ x h1).trans (Below.heap_setCell _ ⟨S + 1 + 1, 0, none⟩ _ x h1))
    have hres : Blk (((W.setCell ⟨S + 1 + 1, 0, none⟩ (.slice (some ⟨b1', 0, none⟩) (N + 1) c1')).setCell ⟨S + 1 + 1, 1, none⟩ (.slice (some ⟨b2', 0, none⟩) (N + 1) c2')).putObj D (.deferred none)) (S + 1 + 1) 96 #[.slice (some ⟨b1', 0, none⟩) (N + 1) c1', .slice (some ⟨b2', 0, none⟩) (N + 1) c2'] :=
      (World.putObj_heap_other (by omega)).trans ((HS2.out.set_ 0 (.slice (some ⟨b1', 0, none⟩) (N + 1) c1')).set_ 1 (.slice (some ⟨b2', 0, none⟩) (N + 1) c2'))
    refine ⟨_, results_cell_row rfl _ _ (S + 1 + 1) 96 #[.slice (some ⟨b1', 0, none⟩) (N + 1) c1', .slice (some ⟨b2', 0, none⟩) (N + 1) c2'] (0, 0) _ rfl hres Tryz.underlying96 rfl size_tables, b1', c1', b2', c2', rfl, HT1.out.keep (hkeep _ (by omega) ?_), HT2.out.keep (hkeep _ (by omega) ?_), hne, by omega, by omega, ?_⟩
    · obtain ⟨cs, h, _⟩ := HT1.out; exact hne' _ _ _ h
    · obtain ⟨cs, h, _⟩ := HT2.out; exact hne' _ _ _ h
    · exact ((HB.out.setCell (p := ⟨S + 1 + 1, 0, none⟩) (by show B0 ≤ S + 1 + 1; omega) _).setCell (p := ⟨S + 1 + 1, 1, none⟩) (by show B0 ≤ S + 1 + 1; omega) _).trans (belowK_b (w := w) (by omega) _ D _ _ (by omega) hK2 rfl rfl)
  case stop =>
    rintro D c pre W _ _ h _
    exact h.elim
end

/-! ### Tabs -/
section
set_option linter.unusedVariables false
set_option linter.unusedSimpArgs false
open Go.RowKit Go.Deep

theorem tabL_downs {v : Nat → Int} {N : Nat} {o : Nat → Nat} : ∀ k, k ≤ N → ∀ p, p ≤ k → tabL v o (downs N k).reverse p = tabF (fun i => v (o i)) N (N - k + p) := by
  intro k
  induction k with
  | zero =>
    intro _ p hp
    obtain rfl : p = 0 := by omega
    rw [show N - 0 + 0 = N by omega, tabF_end]
    rfl
  | succ k ih =>
    intro hk p hp
    rw [downs_succ (by omega), List.reverse_append]
    show tabL v o (⟨N - 1 - k, _⟩ :: (downs N k).reverse) p = _
    cases p with
    | zero =>
      show tabL v o (downs N k).reverse 0 + v (o (N - 1 - k)) = _
      rw [ih (by omega) 0 (by omega), show N - (k + 1) + 0 = N - 1 - k by omega, tabF_step _ (by omega : N - 1 - k < N), show N - k + 0 = N - 1 - k + 1 by omega]
    | succ p =>
      show consZ _ (tabL v o (downs N k).reverse) (p + 1) = _
      unfold consZ
      rw [if_neg (by omega), Nat.add_sub_cancel, ih (by omega) p (by omega), show N - k + p = N - (k + 1) + (p + 1) by omega]
theorem tabL_all {v : Nat → Int} {N : Nat} {o : Nat → Nat} : ∀ p, p < N + 1 → tabL v o (downs N N).reverse p = tabF (fun i => v (o i)) N p := fun p hp => by
  rw [tabL_downs N (Nat.le_refl _) p (by omega), show N - N + p = p by omega]
/-- What the tables are made of. -/
def tabLo (len : Nat → Nat) (g : Nat → Nat → Nd) (o : Nat → Nat) (N : Nat) : Nat → Int := tabF (fun i => loTo (g (o i)) (len (o i))) N
def tabHi (len : Nat → Nat) (g : Nat → Nat → Nd) (o : Nat → Nat) (N : Nat) : Nat → Int := tabF (fun i => hiTo (g (o i)) (len (o i))) N

set_option maxRecDepth 100000 in
set_option maxHeartbeats 2000000 in
theorem iTables_any (f b : Int) (A : Option Addr) (n c : Nat) (len : Nat → Nat) (g : Nat → Nat → Nd) (Ao : Option Addr) (N co : Nat) (o : Nat → Nat) (w : World) (hr : RdT w w.heap.size A n len g)
    (hn : n ≤ 4194304) (hN : N ≤ 12) (hlen : Hid (∀ i, i < n → len i ≤ 4194304)) (ht : Hid (∀ i, i < n → treeB (g i) (len i) 6 = true)) (ho : Rd w w.heap.size Ao N fun p => (o p : Nat)) (hol : Hid (∀ p, p < N → o p < n)) :
    Calls Tryz.prog 54 #[enV f b A n c, .slice Ao N co] w fun e w' =>
      ∃ b1 c1 b2 c2, e = .returned (tbV b1 (N + 1) c1 b2 (N + 1) c2) ∧ Tb w' b1 (N + 1) c1 (tabLo len g o N) ∧ Tb w' b2 (N + 1) c2 (tabHi len g o N) ∧ b1 ≠ b2 ∧ w.heap.size ≤ b1 ∧ w.heap.size ≤ b2 ∧ Below w.heap.size w w' := by
  go_enter Tryz.func54, Tryz.ntmps54
  go_wp2_with fail
  obtain ⟨W1, hW1⟩ : ∃ W, ((((w.alloc (.cells #[.int .i64 f, .int .i64 b, .slice A n c] 26)).alloc (.cells #[.slice none 0 0, .slice none 0 0] 96)).alloc (.cells #[.int .i64 0] 2)).alloc (.cells #[.int .i64 0] 2)).alloc (.cells #[.slice (some ⟨w.heap.size + 1 + 1, 0, none⟩) 1 1, .slice (some ⟨w.heap.size + 1 + 1 + 1, 0, none⟩) 1 1] 96) = W := ⟨_, rfl⟩
  obtain ⟨S, hS⟩ : ∃ S, w.heap.size = S := ⟨_, rfl⟩
  have hs1 : W1.heap.size = S + 5 := by rw [← hW1]; simp; omega
  have hE1 : Blk W1 S 26 #[.int .i64 f, .int .i64 b, .slice A n c] := by rw [← hW1, ← hS]; exact ((((Blk.new w 26 _).alloc _).alloc _).alloc _).alloc _
  have hR1 : Blk W1 (S + 1) 96 #[.slice none 0 0, .slice none 0 0] := by rw [← hW1, ← hS]; exact (((Blk.new2 w _ 96 _).alloc _).alloc _).alloc _
  have hX1 : Blk W1 (S + 2) 2 #[.int .i64 0] := by rw [← hW1, ← hS]; exact ((Blk.new3 w _ _ 2 _).alloc _).alloc _
  have hY1 : Blk W1 (S + 3) 2 #[.int .i64 0] := by
    have := (Blk.new (((w.alloc (.cells #[.int .i64 f, .int .i64 b, .slice A n c] 26)).alloc (.cells #[.slice none 0 0, .slice none 0 0] 96)).alloc (.cells #[.int .i64 0] 2)) 2 #[.int .i64 0]).alloc (.cells #[.slice (some ⟨w.heap.size + 1 + 1, 0, none⟩) 1 1, .slice (some ⟨w.heap.size + 1 + 1 + 1, 0, none⟩) 1 1] 96)
    rw [hW1] at this
    simp only [World.size_alloc, hS] at this
    exact this
  have hb1 : Below w.heap.size w W1 := by rw [← hW1]; exact (((((Below.refl _ w).alloc (Nat.le_refl _) _).alloc (by simp) _).alloc (by simp; omega) _).alloc (by simp; omega) _).alloc (by simp; omega) _
  have hone : ∀ x, Blk W1 x 2 #[.int .i64 0] → Tb W1 x 1 1 fun _ => 0 := fun x h => ⟨_, h, rfl, Nat.le_refl _, by unfold maxLen; omega, fun p hp => by obtain rfl : p = 0 := by omega
                                                                                                                                                       rfl⟩
  rw [hW1]
  simp only [hS]
  clear hW1
  refine (fold_any S (S + 2) f b A n c len g Ao N co o (S + 2) (S + 3) W1 hE1 ((hr.below hb1).more (by omega)) hn hN hlen ht ((ho.below hb1).more (by omega)) hol (hone _ hX1) (hone _ hY1) (by omega) (by omega) (by omega) (by omega)).mono ?_
  rintro e w2 ⟨b1, c1, b2, c2, rfl, u1, u2, une, ul1, ul2, hb2⟩
  have hR2 := hR1.below hb2 (by omega)
  obtain ⟨o0, o1, of0, of1⟩ := tbV_cells hR2
  have HR2 := hid hR2
  have HS := hid hS
  clear hE1 hR1 hX1 hY1 hone hs1 hR2 hS
  go_wp2_with fail
  refine bodyPost_ret (results_cell_row rfl _ _ (S + 1) 96 #[.slice (some ⟨b1, 0, none⟩) (N + 1) c1, .slice (some ⟨b2, 0, none⟩) (N + 1) c2] (0, 0) _ rfl ((HR2.out.set_ 0 (.slice (some ⟨b1, 0, none⟩) (N + 1) c1)).set_ 1 (.slice (some ⟨b2, 0, none⟩) (N + 1) c2)) Tryz.underlying96 rfl size_tables) rfl ?_
  have hk : ∀ x, x ≠ S + 1 → ((w2.setCell ⟨S + 1, 0, none⟩ (.slice (some ⟨b1, 0, none⟩) (N + 1) c1)).setCell ⟨S + 1, 1, none⟩ (.slice (some ⟨b2, 0, none⟩) (N + 1) c2)).heap[x]? = w2.heap[x]? := fun x hx => (Below.heap_setCell _ ⟨S + 1, 1, none⟩ _ x hx).trans (Below.heap_setCell _ ⟨S + 1, 0, none⟩ _ x hx)
  have HSo := HS.out
  exact ⟨b1, c1, b2, c2, rfl, (u1.keep (hk _ (by omega))).congr (fun p hp => tabL_all p hp), (u2.keep (hk _ (by omega))).congr (fun p hp => tabL_all p hp), une, by omega, by omega, ((hb1.trans (hb2.mono (by omega))).setCell (p := ⟨S + 1, 0, none⟩) (by show w.heap.size ≤ S + 1; omega) _).setCell (p := ⟨S + 1, 1, none⟩) (by show w.heap.size ≤ S + 1; omega) _⟩

/-- Numbers in a row from place k on. -/
def TbF (w : World) (b m k : Nat) (z : Nat → Int) : Prop := ∃ cs : Array Value, Blk w b 2 cs ∧ cs.size = m ∧ ∀ p, k ≤ p → p < m → cs[p]? = some (.int .i64 (z p))
theorem TbF.cell {w : World} {b m k p : Nat} {z : Nat → Int} (h : TbF w b m k z) (h1 : k ≤ p) (h2 : p < m) : w.cell? ⟨b, p, none⟩ = some (.int .i64 (z p)) := by
  obtain ⟨cs, h, _, hc⟩ := h
  rw [h.cell, hc p h1 h2]
theorem TbF.any {w : World} {b m k p : Nat} {z : Nat → Int} (h : TbF w b m k z) (h2 : p < m) : ∃ v, w.cell? ⟨b, p, none⟩ = some v := by
  obtain ⟨cs, h, hs, hc⟩ := h
  exact ⟨_, by rw [h.cell, Array.getElem?_eq_getElem (by omega)]⟩
theorem TbF.frozen {w : World} {b m k : Nat} {z : Nat → Int} (h : TbF w b m k z) (p : Nat) : w.frozen? ⟨b, p, none⟩ = false := by obtain ⟨cs, h, _⟩ := h; exact h.frozen p
theorem TbF.keep {w w' : World} {b m k : Nat} {z : Nat → Int} (h : TbF w b m k z) (hk : w'.heap[b]? = w.heap[b]?) : TbF w' b m k z := by
  obtain ⟨cs, h1, h2, h3⟩ := h
  exact ⟨cs, hk.trans h1, h2, h3⟩
theorem TbF.drewN {w : World} {b m k : Nat} {z : Nat → Int} (h : TbF w b m k z) (q : Nat) : TbF (w.drewN q) b m k z := h
theorem TbF.set {w : World} {b m s : Nat} {z : Nat → Int} (h : TbF w b m (s + 1) z) (hs : s < m) {x : Int} (hx : z s = x) : TbF (w.setCell ⟨b, s, none⟩ (.int .i64 x)) b m s z := by
  obtain ⟨cs, h1, h2, h3⟩ := h
  refine ⟨_, h1.set_ s _, by simpa using h2, fun p hp hpm => ?_⟩
  by_cases e : p = s
  · subst e
    rw [Array.getElem?_setIfInBounds_self_of_lt (by omega), hx]
  · rw [Array.getElem?_setIfInBounds_ne (fun q => e q.symm), h3 p (by omega) hpm]
theorem TbF.done {w : World} {b m : Nat} {z : Nat → Int} (h : TbF w b m 0 z) (hm : m ≤ maxLen) : Tb w b m m z := by
  obtain ⟨cs, h1, h2, h3⟩ := h
  exact ⟨cs, h1, h2, Nat.le_refl _, hm, fun p hp => h3 p (Nat.zero_le _) hp⟩
theorem madeI_at {n : Nat} (x : Nat) (hx : x < n) : (madeCells #[Value.int .i64 0] n)[x]? = some (.int .i64 0) := by
  simp [madeCells, hx, Nat.mod_one]

set_option maxRecDepth 100000 in
set_option maxHeartbeats 4000000 in
theorem sTables_any (f b : Int) (A : Option Addr) (n c : Nat) (len : Nat → Nat) (g : Nat → Nat → Nd) (Ao : Option Addr) (N co : Nat) (o : Nat → Nat) (w : World) (hr : RdT w w.heap.size A n len g)
    (hn : n ≤ 4194304) (hN : N ≤ 12) (hlen : Hid (∀ i, i < n → len i ≤ 4194304)) (ht : Hid (∀ i, i < n → treeB (g i) (len i) 6 = true)) (ho : Rd w w.heap.size Ao N fun p => (o p : Nat)) (hol : Hid (∀ p, p < N → o p < n)) :
    Calls Tryz.prog 57 #[enV f b A n c, .slice Ao N co] w fun e w' =>
      ∃ b1 b2, e = .returned (.tuple #[.slice (some ⟨b1, 0, none⟩) (N + 1) (N + 1), .slice (some ⟨b2, 0, none⟩) (N + 1) (N + 1)]) ∧ Tb w' b1 (N + 1) (N + 1) (tabLo len g o N) ∧ Tb w' b2 (N + 1) (N + 1) (tabHi len g o N) ∧ b1 ≠ b2 ∧ w.heap.size ≤ b1 ∧ w.heap.size ≤ b2 ∧ Below w.heap.size w w' := by
  obtain ⟨M, hM⟩ : ∃ M, N + 1 = M := ⟨_, rfl⟩
  have hMI : (N : Int) + 1 = (M : Int) := by omega
  have hM1 : M ≤ 13 := by omega
  rw [hM]
  have HM := hid hM
  clear hM
  have hmk := run_make_row' (P := Tryz.prog) 27 2 (.int .i64 0) 8 Tryz.underlying27 insInfo rfl .i64 .i64 M (by omega) (by omega)
  go_enter Tryz.func57, Tryz.ntmps57
  go_wp2_with fail
  obtain ⟨S, hS⟩ : ∃ S, w.heap.size = S := ⟨_, rfl⟩
  obtain ⟨W0, hW0⟩ : ∃ W, ((w.alloc (.cells #[.int .i64 f, .int .i64 b, .slice A n c] 26)).alloc (.cells (madeCells #[.int .i64 0] M) 2)).alloc (.cells (madeCells #[.int .i64 0] M) 2) = W := ⟨_, rfl⟩
  have hs0 : W0.heap.size = S + 3 := by rw [← hW0]; simp; omega
  have hE0 : Hid (Blk W0 S 26 #[.int .i64 f, .int .i64 b, .slice A n c]) := by rw [← hW0, ← hS]; exact ((Blk.new w 26 _).alloc _).alloc _
  have hX0 : Blk W0 (S + 1) 2 (madeCells #[.int .i64 0] M) := by rw [← hW0, ← hS]; exact (Blk.new2 w _ 2 _).alloc _
  have hY0 : Blk W0 (S + 2) 2 (madeCells #[.int .i64 0] M) := by rw [← hW0, ← hS]; exact Blk.new3 w _ _ 2 _
  have hB0 : Below w.heap.size w W0 := by rw [← hW0]; exact (((Below.refl _ w).alloc (Nat.le_refl _) _).alloc (by simp) _).alloc (by simp; omega) _
  have hN1 : N + 1 = M := HM.out
  have hms : (madeCells #[Value.int .i64 0] M).size = M := by simp [madeCells]
  have hX1 : Hid (TbF W0 (S + 1) M N (tabLo len g o N)) := ⟨_, hX0, hms, fun p h1 h2 => by
    obtain rfl : p = N := by omega
    rw [madeI_at _ h2]
    unfold tabLo
    rw [tabF_end]⟩
  have hY1 : Hid (TbF W0 (S + 2) M N (tabHi len g o N)) := ⟨_, hY0, hms, fun p h1 h2 => by
    obtain rfl : p = N := by omega
    rw [madeI_at _ h2]
    unfold tabHi
    rw [tabF_end]⟩
  rw [hW0]
  simp only [hS]
  have HS := hid hS
  have hS' : w.heap.size ≤ S := by omega
  clear hW0 hX0 hY0 hms hS hN1 hmk
  go_loopw [9] (fun i wr => ∃ j : Nat, j ≤ N ∧ i = .int .i64 ((j : Int) - 1) ∧ Hid (TbF wr (S + 1) M j (tabLo len g o N)) ∧ Hid (TbF wr (S + 2) M j (tabHi len g o N)) ∧ Hid (Blk wr S 26 #[.int .i64 f, .int .i64 b, .slice A n c]) ∧ Below w.heap.size w wr) (fun i _ => (intOf i + 1).toNat)
  case atStart => exact ⟨N, Nat.le_refl _, rfl, hX1, hY1, hE0, hB0⟩
  case round =>
    clear hE0 hB0 hX1 hY1 hs0
    obtain ⟨j, hj, rfl, HX, HY, HE, hbw⟩ := hrel
    cases j with
    | succ s =>
      have e1 : ((s + 1 : Nat) : Int) - 1 = (s : Int) := by omega
      rw [e1]
      clear e1
      have hs : s < N := by omega
      obtain ⟨ob, oo, rfl, hob, hco⟩ := ho.at_ hs
      have hi := hol.out s hs
      obtain ⟨tb, off, Ai, ci, rfl, htb, htc, hrx⟩ := hr.at_ hi
      have hco' : wr.cell? ⟨ob, oo + s, none⟩ = some (.int .i64 (o s : Nat)) := (hbw.cell (p := ⟨ob, oo + s, none⟩) hob).trans hco
      have htc' : wr.cell? ⟨tb, off + o s, none⟩ = some (.slice Ai (len (o s)) ci) := (hbw.cell (p := ⟨tb, off + o s, none⟩) htb).trans htc
      have hrx' : RdN wr wr.heap.size Ai (len (o s)) (g (o s)) := (hrx.below hbw).more hbw.size
      have hE2 : wr.cell? ⟨S, 2, none⟩ = some (.slice (some ⟨tb, off, none⟩) n c) := HE.out.cell 2
      have hTx := ht.out _ hi
      have bdl := lo_boundO hTx
      have bdh := hi_boundO hTx
      have hx0 : wr.cell? ⟨S + 1, s + 1, none⟩ = some (.int .i64 (tabLo len g o N (s + 1))) := HX.out.cell (Nat.le_refl _) (by omega)
      have hy0 : wr.cell? ⟨S + 1 + 1, s + 1, none⟩ = some (.int .i64 (tabHi len g o N (s + 1))) := HY.out.cell (Nat.le_refl _) (by omega)
      obtain ⟨vx, hvx⟩ := HX.out.any (p := s) (by omega)
      obtain ⟨vy, hvy⟩ := HY.out.any (p := s) (by omega)
      have hfx := HX.out.frozen s
      have hfy : wr.frozen? ⟨S + 1 + 1, s, none⟩ = false := HY.out.frozen s
      have hvy' : wr.cell? ⟨S + 1 + 1, s, none⟩ = some vy := hvy
      have hbx := tabF_bound (v := fun i => loTo (g (o i)) (len (o i))) (n := N) (fun i h => lo_boundO (ht.out _ (hol.out i h))) (N - (s + 1)) (s + 1) (by omega)
      have hby := tabF_bound (v := fun i => hiTo (g (o i)) (len (o i))) (n := N) (fun i h => hi_boundO (ht.out _ (hol.out i h))) (N - (s + 1)) (s + 1) (by omega)
      have hex : tabLo len g o N s = tabLo len g o N (s + 1) + loTo (g (o s)) (len (o s)) := tabF_step _ hs
      have hey : tabHi len g o N s = tabHi len g o N (s + 1) + hiTo (g (o s)) (len (o s)) := tabF_step _ hs
      have hbx' : -12000000000 ≤ tabLo len g o N (s + 1) ∧ tabLo len g o N (s + 1) ≤ 12000000000 := ⟨Int.le_trans (by omega) hbx.1, Int.le_trans hbx.2 (by omega)⟩
      have hby' : -12000000000 ≤ tabHi len g o N (s + 1) ∧ tabHi len g o N (s + 1) ≤ 12000000000 := ⟨Int.le_trans (by omega) hby.1, Int.le_trans hby.2 (by omega)⟩
      clear hbx hby hvy hco htc hrx hTx
      obtain ⟨x1, hx1⟩ : ∃ v, tabLo len g o N (s + 1) = v := ⟨_, rfl⟩
      obtain ⟨y1, hy1⟩ : ∃ v, tabHi len g o N (s + 1) = v := ⟨_, rfl⟩
      obtain ⟨lo, hlo⟩ : ∃ v, loTo (g (o s)) (len (o s)) = v := ⟨_, rfl⟩
      obtain ⟨hi_, hhi⟩ : ∃ v, hiTo (g (o s)) (len (o s)) = v := ⟨_, rfl⟩
      rw [hx1] at hx0 hex hbx'
      rw [hy1] at hy0 hey hby'
      rw [hlo] at hex bdl
      rw [hhi] at hey bdh
      have hcR := fun q => l2Range_any Ai (len (o s)) ci (g (o s)) (wr.drewN q) hrx' (hlen.out _ hi)
      rw [hlo, hhi] at hcR
      have hcR : ∀ q, Calls Tryz.prog 101 #[.slice Ai (len (o s)) ci] (wr.drewN q) fun e w' => e = .returned (.tuple #[.int .i64 lo, .int .i64 hi_]) ∧ w' = wr.drewN q := fun q => (hcR q).mono fun _ _ h => ⟨h.1, h.2.symm⟩
      have HEX := hid hex
      have HEY := hid hey
      have HCR := hid hcR
      have q1 : (o s : Int) < (n : Int) := by omega
      have q2 : (0 : Int) ≤ (o s : Int) := by omega
      have q3 : (s : Int) < (N : Int) := by omega
      have q4 : (0 : Int) ≤ (s : Int) := by omega
      have q5 : (s : Int) + 1 < (M : Int) := by omega
      have q6 : (s : Int) < (M : Int) := by omega
      have q7 : decide ((s : Int) ≥ 0) = true := by simp
      clear hex hey hcR hx1 hy1 hlo hhi hrx'
      go_wp2_with fail
      go_quiet ((go_at_call 101; exact Calls.quiet_of_same (HCR.out _)))
      have hx0 : (wr.drewN nq).cell? ⟨S + 1, s + 1, none⟩ = some (.int .i64 x1) := hx0
      have hy0 : (wr.drewN nq).cell? ⟨S + 1 + 1, s + 1, none⟩ = some (.int .i64 y1) := hy0
      have hvx : (wr.drewN nq).cell? ⟨S + 1, s, none⟩ = some vx := hvx
      have hvy' : (wr.drewN nq).cell? ⟨S + 1 + 1, s, none⟩ = some vy := hvy'
      have hfx : (wr.drewN nq).frozen? ⟨S + 1, s, none⟩ = false := hfx
      have hfy : (wr.drewN nq).frozen? ⟨S + 1 + 1, s, none⟩ = false := hfy
      go_wp2_with fail
      go_roundw
      case rel =>
        refine ⟨s, by omega, by first | rfl | go_num, ?_, ?_, ?_, ?_⟩
        · exact TbF.keep (TbF.set (HX.out.drewN nq) (by omega) HEX.out) (Below.heap_setCell _ ⟨S + 1 + 1, s, none⟩ _ (S + 1) (by show S + 1 ≠ S + 1 + 1; omega))
        · exact TbF.set (TbF.keep (HY.out.drewN nq) (Below.heap_setCell _ ⟨S + 1, s, none⟩ _ (S + 2) (by show S + 2 ≠ S + 1; omega))) (by omega) HEY.out
        · exact ((HE.out.drewN nq).far (p := ⟨S + 1, s, none⟩) (by show S ≠ S + 1; omega) _).far (p := ⟨S + 1 + 1, s, none⟩) (by show S ≠ S + 1 + 1; omega) _
        · exact ((below_drewN hbw nq).setCell (p := ⟨S + 1, s, none⟩) (by show w.heap.size ≤ S + 1; omega) _).setCell (p := ⟨S + 1 + 1, s, none⟩) (by show w.heap.size ≤ S + 1 + 1; omega) _
      case measure => simp [intOf]
    | zero =>
      go_wp2_with fail
      go_ret2
      exact ⟨S + 1, S + 2, rfl, HX.out.done (by unfold maxLen; omega), HY.out.done (by unfold maxLen; omega), by omega, by omega, by omega, hbw⟩
end
end Go.Proofs.YtlgomifpohdniaaGreat
