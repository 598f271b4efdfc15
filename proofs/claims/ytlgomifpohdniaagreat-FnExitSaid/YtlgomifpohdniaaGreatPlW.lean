/- hurtEns once more: what lies over the memory of the ensemble stands. -/
import Derived.Test.YtlgomifpohdniaaGreatEnsX
namespace Go.Proofs.YtlgomifpohdniaaGreat
open Go.RowKit Go.Deep
set_option linter.unusedVariables false
set_option linter.unusedSimpArgs false

/-- The blocks from L on that were there are as they were. -/
def Over (L : Nat) (w0 w : World) : Prop := ∀ x, L ≤ x → x < w0.heap.size → w.heap[x]? = w0.heap[x]?
def HurtK (L : Nat) (w0 : World) (R n cap : Nat) (A : Option Addr) (f b : Int) (k : Nat) (A' : Option Addr) (c : Nat) (w : World) : Prop := Hurting w0 R n cap A f b k A' c w ∧ Over L w0 w
theorem Over.setCell {L : Nat} {w0 w : World} (h : Over L w0 w) (p : Addr) (hp : p.block < L ∨ w0.heap.size ≤ p.block) (v : Value) : Over L w0 (w.setCell p v) := fun x h1 h2 => (Below.heap_setCell w p v x (by omega)).trans (h x h1 h2)
theorem hurtK_end {L : Nat} {w0 w : World} {R n cap k c : Nat} {A A' : Option Addr} {f b : Int} (hM : HurtK L w0 R n cap A f b k A' c w) (hRw : R < w0.heap.size) (hk : k ≤ 12) :
    Blk (((w.setCell ⟨w0.heap.size + 1, 0, none⟩ (.int .i64 f)).setCell ⟨w0.heap.size + 1, 1, none⟩ (.int .i64 b)).setCell ⟨w0.heap.size + 1, 2, none⟩ (.slice A' k c)) (w0.heap.size + 1) 26 #[.int .i64 f, .int .i64 b, .slice A' k c] ∧
    (EnsHurt R n cap A w0 (.returned (enV f b A' k c)) (((w.setCell ⟨w0.heap.size + 1, 0, none⟩ (.int .i64 f)).setCell ⟨w0.heap.size + 1, 1, none⟩ (.int .i64 b)).setCell ⟨w0.heap.size + 1, 2, none⟩ (.slice A' k c)) ∧
      Over L w0 (((w.setCell ⟨w0.heap.size + 1, 0, none⟩ (.int .i64 f)).setCell ⟨w0.heap.size + 1, 1, none⟩ (.int .i64 b)).setCell ⟨w0.heap.size + 1, 2, none⟩ (.slice A' k c))) :=
  ⟨(hurting_end hM.1 hRw hk).1, (hurting_end hM.1 hRw hk).2, ((hM.2.setCell _ (.inr (Nat.le_succ _)) _).setCell _ (.inr (Nat.le_succ _)) _).setCell _ (.inr (Nat.le_succ _)) _⟩
theorem hurtK_grown {L : Nat} {w0 w w' : World} {R n cap k c : Nat} {A A' : Option Addr} {f b : Int} (hL : R < L) (hM : HurtK L w0 R n cap A f b k A' c w) (hRw : R < w0.heap.size) (hR : Rs w' R A n cap) (hg : w.grownBy w' (some R)) : HurtK L w0 R n cap A f b k A' c w' := by
  refine ⟨hurting_grown hM.1 hRw hR hg, fun x h1 h2 => ?_⟩
  obtain ⟨_, _, _, hE, _⟩ := hM.1
  exact (hg.block x (by have := hE.lt; omega) (by intro e; injection e with e; omega)).trans (hM.2 x h1 h2)
theorem hurtK_feats {L : Nat} {w0 w : World} {R n cap k c : Nat} {A A' : Option Addr} {f b : Int} (hM : HurtK L w0 R n cap A f b k A' c w) (hRw : R < w0.heap.size) (f' : Int) : HurtK L w0 R n cap A f' b k A' c (w.setCell ⟨w0.heap.size, 0, none⟩ (.int .i64 f')) :=
  ⟨hurting_feats hM.1 hRw f', hM.2.setCell _ (.inr (Nat.le_refl _)) _⟩
theorem hurtK_bias {L : Nat} {w0 w : World} {R n cap k c : Nat} {A A' : Option Addr} {f b : Int} (hM : HurtK L w0 R n cap A f b k A' c w) (hRw : R < w0.heap.size) (b' : Int) : HurtK L w0 R n cap A f b' k A' c (w.setCell ⟨w0.heap.size, 1, none⟩ (.int .i64 b')) :=
  ⟨hurting_bias hM.1 hRw b', hM.2.setCell _ (.inr (Nat.le_refl _)) _⟩
theorem hurtK_made {L : Nat} {w0 w : World} {R n cap k c : Nat} {A A' : Option Addr} {f b : Int} (hM : HurtK L w0 R n cap A f b k A' c w) (hRw : R < w0.heap.size) : HurtK L w0 R n cap A f b 1 (some ⟨w.heap.size, 0, none⟩) 1 ((w.alloc (.cells #[.slice none 0 0] 78)).setCell ⟨w0.heap.size, 2, none⟩ (.slice (some ⟨w.heap.size, 0, none⟩) 1 1)) := by
  refine ⟨hurting_made hM.1 hRw, Over.setCell (fun x h1 h2 => ?_) _ (.inr (Nat.le_refl _)) _⟩
  obtain ⟨_, _, _, hE, _⟩ := hM.1
  exact (Below.heap_alloc w _ x (by have := hE.lt; omega)).trans (hM.2 x h1 h2)
theorem hurtK_tree {L : Nat} {w0 w3 w4 : World} {R n cap B k c rb b' m' c' : Nat} {A A' : Option Addr} {f b : Int} {bl ln cp : Nat → Nat} {ds : Nat → List Nd} {g' : Nat → Nd} {cs : Array Value}
    (hL0 : R < L) (hLb : bl 0 < L) (hLr : rb < L)
    (hM : HurtK L w0 R n cap A f b k A' c w3) (hRw : R < w0.heap.size) (hRB : R < B) (hT : Trees w3 B k bl ln cp ds) (hB0 : ∀ i, i < k → bl i < w0.heap.size) (hrb0 : rb < w0.heap.size) (hBrb : B ≤ rb) (hA : A' = some ⟨rb, 0, none⟩) (hblk : Blk w3 rb 78 cs)
    (hcell : ∀ i, i < k → w3.cell? ⟨rb, i, none⟩ = some (.slice (some ⟨bl i, 0, none⟩) (ln i) (cp i))) (hk0 : 0 < k)
    (hm : 1 ≤ m' ∧ m' ≤ 16) (hRb : R < b') (hbL : b' < w4.heap.size) (hrow : NdRow w4 b' m' g') (hR4 : Rs w4 R A n cap) (hb4 : Below R w3.drew w4) (hkp : Kept2 R (bl 0) w3.drew w4) :
    HurtK L w0 R n cap A f b k A' c (w4.setCell ⟨rb, 0, none⟩ (.slice (some ⟨b', 0, none⟩) m' c')) := by
  refine ⟨(hurting_tree hM.1 hRw hRB hT hB0 hrb0 hBrb hA hblk hcell hk0 hm hRb hbL hrow hR4 hb4 hkp).1, Over.setCell (fun x h1 h2 => ?_) _ (.inl hLr) _⟩
  obtain ⟨_, _, _, hE, _⟩ := hM.1
  exact (hkp x (by have := hE.lt; show x < w3.heap.size; omega) (by omega) (by omega)).trans (hM.2 x h1 h2)

set_option maxRecDepth 100000 in
set_option maxHeartbeats 4000000 in
theorem hurtEns_over (R n cap B L : Nat) (A A' : Option Addr) (f b : Int) (k c : Nat) (bl ln cp : Nat → Nat) (ds : Nat → List Nd) (w : World) (h : Rs w R A n cap) (hB : R < B) (hk : k ≤ 12) (hown : w.ownsRow B 78 1 (.slice A' k c) k (hdrC k bl ln cp)) (hT : Trees w B k bl ln cp ds) (hL0 : R < L) (hLb : Hid (∀ i, i < k → bl i < L)) (hLr : Hid (∀ x, A' = some ⟨x, 0, none⟩ → 0 < k → x < L)) :
    Calls Tryz.prog 59 #[.pointer (some ⟨R, 0, none⟩), enV f b A' k c] w (fun e w' => EnsHurt R n cap A w e w' ∧ Over L w w') := by
  have hRw := h.lt
  have hs2 : ((w.alloc (.cells #[.int .i64 f, .int .i64 b, .slice A' k c] 26)).alloc (.cells #[.int .i64 0, .int .i64 0, .slice none 0 0] 26)).heap.size = w.heap.size + 2 := by simp
  have hk2 : ∀ x, x < w.heap.size → ((w.alloc (.cells #[.int .i64 f, .int .i64 b, .slice A' k c] 26)).alloc (.cells #[.int .i64 0, .int .i64 0, .slice none 0 0] 26)).heap[x]? = w.heap[x]? := fun x hx => (Below.heap_alloc _ _ x (by simp; omega)).trans (Below.heap_alloc w _ x hx)
  have hM2 : HurtK L w R n cap A f b k A' c ((w.alloc (.cells #[.int .i64 f, .int .i64 b, .slice A' k c] 26)).alloc (.cells #[.int .i64 0, .int .i64 0, .slice none 0 0] 26)) :=
    ⟨⟨ln, nds ds, fun i hi => by have := (hT i hi).1.2; omega, (Blk.new w 26 #[.int .i64 f, .int .i64 b, .slice A' k c]).alloc _, Blk.new2 w _ _ _, (hit_own hown hT).keep (fun x hx => hk2 x hx.2) (fun x hx => ⟨by omega, by omega, by omega, by omega⟩), (h.alloc _).alloc _, ((Below.refl R w).alloc (by omega) _).alloc (by simp; omega) _⟩, fun x _ hx => hk2 x hx⟩
  have hown2 : World.ownsRow ((w.alloc (.cells #[.int .i64 f, .int .i64 b, .slice A' k c] 26)).alloc (.cells #[.int .i64 0, .int .i64 0, .slice none 0 0] 26)) B 78 1 (.slice A' k c) k (hdrC k bl ln cp) := (hown.alloc _).alloc _
  have hT2 : Trees ((w.alloc (.cells #[.int .i64 f, .int .i64 b, .slice A' k c] 26)).alloc (.cells #[.int .i64 0, .int .i64 0, .slice none 0 0] 26)) B k bl ln cp ds := hT.keep (by omega) fun i hi => hk2 _ (hT i hi).2.2.1.2
  have hB0 : Hid (∀ i, i < k → bl i < w.heap.size) := fun i hi => (hT i hi).2.2.1.2
  have hRB0 : Hid (∀ x, A' = some ⟨x, 0, none⟩ → 0 < k → x < w.heap.size) := fun x e hk => by
    obtain ⟨rb, cs, e', _, hblk, _⟩ := row_block hown hk
    rw [e] at e'
    obtain rfl := eq_b e'
    exact hblk.lt
  have HOWN := hid hown2
  have HT := hid hT2
  have HM2 := hid hM2
  clear hown hT hown2 hT2 hM2 hk2 hs2
  go_enter Tryz.func59, Tryz.ntmps59
  go_wp2_with fail
  refine (below_draw R n cap A 24 _ ((h.alloc _).alloc _) (by omega) (by omega)).mono ?_
  rintro e w3 ⟨q, rfl, hq0, hq1, hR3, hg3⟩
  have hM3 := hurtK_grown hL0 HM2.out hRw hR3 hg3
  have hownX := own_grown HOWN.out hg3 hB
  have hTX := Trees.grown HT.out hg3 hB
  clear HM2 HOWN HT hg3
  have hn1 : w.heap.size ≠ w.heap.size + 1 := by omega
  by_cases q0 : q = 0
  · subst q0
    clear hownX hTX
    go_wp2_with fail
    refine (off_draw R n cap A (1) (6) _ hR3 (by omega) (by omega) (by omega) (by omega)).mono ?_
    rintro e w4 ⟨x, rfl, hR4, hg4⟩
    have hM4 := hurtK_grown hL0 hM3 hRw hR4 hg4
    clear hM3 hR3 hg4
    obtain ⟨_, _, _, hEX, hZX, _⟩ := id hM4.1
    have a0 : w4.cell? ⟨w.heap.size, 0, none⟩ = some (.int .i64 f) := hEX.cell 0
    have a1 : w4.cell? ⟨w.heap.size, 1, none⟩ = some (.int .i64 b) := hEX.cell 1
    have a2 : w4.cell? ⟨w.heap.size, 2, none⟩ = some (.slice A' k c) := hEX.cell 2
    have a3 : w4.frozen? ⟨w.heap.size, 0, none⟩ = false := hEX.frozen 0
    have a4 : w4.frozen? ⟨w.heap.size, 1, none⟩ = false := hEX.frozen 1
    have a5 : w4.frozen? ⟨w.heap.size, 2, none⟩ = false := hEX.frozen 2
    have z0 : w4.cell? ⟨w.heap.size + 1, 0, none⟩ = some (.int .i64 0) := hZX.cell 0
    have z1 : w4.cell? ⟨w.heap.size + 1, 1, none⟩ = some (.int .i64 0) := hZX.cell 1
    have z2 : w4.cell? ⟨w.heap.size + 1, 2, none⟩ = some (.slice none 0 0) := hZX.cell 2
    have z3 : w4.frozen? ⟨w.heap.size + 1, 0, none⟩ = false := hZX.frozen 0
    have z4 : w4.frozen? ⟨w.heap.size + 1, 1, none⟩ = false := hZX.frozen 1
    have z5 : w4.frozen? ⟨w.heap.size + 1, 2, none⟩ = false := hZX.frozen 2
    clear hEX hZX
    have HEND := hid (hurtK_end (hurtK_feats hM4 hRw x) hRw hk)
    clear hM4 hR4
    go_wp2_with fail
    have hend := HEND.out
    (try simp only [Exit.inBlock, Exit.then])
    refine bodyPost_ret (results_cell_row rfl _ _ (w.heap.size + 1) 26 #[.int .i64 x, .int .i64 b, .slice A' k c] (0, 0) _ rfl hend.1 Tryz.underlying26 rfl size_ens) rfl hend.2
  by_cases q1 : q = 1
  · subst q1
    clear hownX hTX
    go_wp2_with fail
    refine (off_draw R n cap A (-1000000000) (1000000000) _ hR3 (by omega) (by omega) (by omega) (by omega)).mono ?_
    rintro e w4 ⟨x, rfl, hR4, hg4⟩
    have hM4 := hurtK_grown hL0 hM3 hRw hR4 hg4
    clear hM3 hR3 hg4
    obtain ⟨_, _, _, hEX, hZX, _⟩ := id hM4.1
    have a0 : w4.cell? ⟨w.heap.size, 0, none⟩ = some (.int .i64 f) := hEX.cell 0
    have a1 : w4.cell? ⟨w.heap.size, 1, none⟩ = some (.int .i64 b) := hEX.cell 1
    have a2 : w4.cell? ⟨w.heap.size, 2, none⟩ = some (.slice A' k c) := hEX.cell 2
    have a3 : w4.frozen? ⟨w.heap.size, 0, none⟩ = false := hEX.frozen 0
    have a4 : w4.frozen? ⟨w.heap.size, 1, none⟩ = false := hEX.frozen 1
    have a5 : w4.frozen? ⟨w.heap.size, 2, none⟩ = false := hEX.frozen 2
    have z0 : w4.cell? ⟨w.heap.size + 1, 0, none⟩ = some (.int .i64 0) := hZX.cell 0
    have z1 : w4.cell? ⟨w.heap.size + 1, 1, none⟩ = some (.int .i64 0) := hZX.cell 1
    have z2 : w4.cell? ⟨w.heap.size + 1, 2, none⟩ = some (.slice none 0 0) := hZX.cell 2
    have z3 : w4.frozen? ⟨w.heap.size + 1, 0, none⟩ = false := hZX.frozen 0
    have z4 : w4.frozen? ⟨w.heap.size + 1, 1, none⟩ = false := hZX.frozen 1
    have z5 : w4.frozen? ⟨w.heap.size + 1, 2, none⟩ = false := hZX.frozen 2
    clear hEX hZX
    have HEND := hid (hurtK_end (hurtK_bias hM4 hRw x) hRw hk)
    clear hM4 hR4
    go_wp2_with fail
    have hend := HEND.out
    (try simp only [Exit.inBlock, Exit.then])
    refine bodyPost_ret (results_cell_row rfl _ _ (w.heap.size + 1) 26 #[.int .i64 f, .int .i64 x, .slice A' k c] (0, 0) _ rfl hend.1 Tryz.underlying26 rfl size_ens) rfl hend.2
  by_cases q2 : q = 2
  · subst q2
    by_cases hk0 : 0 < k
    · obtain ⟨_, _, _, hEX, hZX, _⟩ := id hM3.1
      obtain ⟨rb, cs, hA, hBrb, hblk, hcell⟩ := row_block hownX hk0
      have hrbw := hRB0.out rb hA hk0
      have hLrb := hLr.out rb hA hk0
      have hLb0 := hLb.out 0 hk0
      subst hA
      have hT0 := hTX 0 hk0
      have hBl0 := hB0.out 0 hk0
      have hR3d : Rs w3.drew R A n cap := hR3
      have hown0 : Owned w3.drew B (some ⟨bl 0, 0, none⟩) (ln 0) (cp 0) (ds 0) := hT0.2.1
      have hsz3 : B ≤ w3.drew.heap.size := by have := hT0.2.2.1; show B ≤ w3.heap.size; omega
      have hB00 : B ≤ bl 0 := hT0.2.2.1.1
      have hln0 := hT0.1
      have hnr : bl 0 ≠ rb := fun e => by
        obtain ⟨_, _, cs', hcs'⟩ := own_block_lt hT0.2.1.2 _ rfl
        rw [e] at hcs'
        exact hblk.ne_ hcs' (by decide) rfl
      have c2 : w3.cell? ⟨w.heap.size, 2, none⟩ = some (.slice (some ⟨rb, 0, none⟩) k c) := hEX.cell 2
      have c2d : w3.drew.cell? ⟨w.heap.size, 2, none⟩ = some (.slice (some ⟨rb, 0, none⟩) k c) := hEX.cell 2
      have r0 : w3.cell? ⟨rb, 0, none⟩ = some (.slice (some ⟨bl 0, 0, none⟩) (ln 0) (cp 0)) := hcell 0 hk0
      have r0d : w3.drew.cell? ⟨rb, 0, none⟩ = some (.slice (some ⟨bl 0, 0, none⟩) (ln 0) (cp 0)) := hcell 0 hk0
      have HCELL := hid hcell
      have HTX := hid hTX
      have HM3 := hid hM3
      have hn2 : rb ≠ w.heap.size := by omega
      have hn3 : rb ≠ w.heap.size + 1 := by omega
      have i1 : (0 : Int) < (k : Int) := by omega
      clear hcell hTX hM3 hT0 hownX
      go_wp2_with fail
      go_region_law
        (first
          | (go_simp; go_at_call 102; refine (hurtTree_kept R n cap B A (some ⟨bl 0, 0, none⟩) (ln 0) (cp 0) (ds 0) w3.drew hR3d hB hsz3 hln0.1 hln0.2 hown0).mono ?_; rintro e w4 ⟨⟨m', g', b', c', hm1, hm2, rfl, hRb, hbL, hrow, hmc, hR4, hb4⟩, hkp⟩; have hkp' := hkp _ rfl; have hE4 : Blk w4 w.heap.size 26 #[.int .i64 f, .int .i64 b, .slice (some ⟨rb, 0, none⟩) k c] := (hkp' _ hEX.lt (by omega) (by omega)).trans hEX; have hZ4 : Blk w4 (w.heap.size + 1) 26 #[.int .i64 0, .int .i64 0, .slice none 0 0] := (hkp' _ hZX.lt (by omega) (by omega)).trans hZX; have hrb4 : Blk w4 rb 78 cs := (hkp' rb hblk.lt (by omega) (fun e => hnr e.symm)).trans hblk; have c24 : w4.cell? ⟨w.heap.size, 2, none⟩ = some (.slice (some ⟨rb, 0, none⟩) k c) := hE4.cell 2; have r04 : w4.cell? ⟨rb, 0, none⟩ = some (.slice (some ⟨bl 0, 0, none⟩) (ln 0) (cp 0)) := (hrb4.cell 0).trans ((hblk.cell 0).symm.trans r0); have fr04 : w4.frozen? ⟨rb, 0, none⟩ = false := hrb4.frozen 0))
      all_goals
        have hM5 := (hurtK_tree hL0 hLb0 hLrb (c' := c') HM3.out hRw hB HTX.out hB0.out hrbw hBrb rfl hblk HCELL.out hk0 ⟨hm1, hm2⟩ hRb hbL hrow hR4 hb4 hkp')
        have HEND := hid (hurtK_end hM5 hRw hk)
        clear hM5
        have a0 : w4.cell? ⟨w.heap.size, 0, none⟩ = some (.int .i64 f) := hE4.cell 0
        have a1 : w4.cell? ⟨w.heap.size, 1, none⟩ = some (.int .i64 b) := hE4.cell 1
        have a2 : w4.cell? ⟨w.heap.size, 2, none⟩ = some (.slice (some ⟨rb, 0, none⟩) k c) := hE4.cell 2
        have z0 : w4.cell? ⟨w.heap.size + 1, 0, none⟩ = some (.int .i64 0) := hZ4.cell 0
        have z1 : w4.cell? ⟨w.heap.size + 1, 1, none⟩ = some (.int .i64 0) := hZ4.cell 1
        have z2 : w4.cell? ⟨w.heap.size + 1, 2, none⟩ = some (.slice none 0 0) := hZ4.cell 2
        have z3 : w4.frozen? ⟨w.heap.size + 1, 0, none⟩ = false := hZ4.frozen 0
        have z4 : w4.frozen? ⟨w.heap.size + 1, 1, none⟩ = false := hZ4.frozen 1
        have z5 : w4.frozen? ⟨w.heap.size + 1, 2, none⟩ = false := hZ4.frozen 2
        go_wp2_with fail
        have hend := HEND.out
        (try simp only [Exit.inBlock, Exit.then])
        refine bodyPost_ret (results_cell_row rfl _ _ (w.heap.size + 1) 26 #[.int .i64 f, .int .i64 b, .slice (some ⟨rb, 0, none⟩) k c] (0, 0) _ rfl hend.1 Tryz.underlying26 rfl size_ens) rfl hend.2
    · have hk00 : k = 0 := by omega
      subst hk00
      obtain ⟨_, _, _, hEX, hZX, _⟩ := id hM3.1
      have a0 : w3.cell? ⟨w.heap.size, 0, none⟩ = some (.int .i64 f) := hEX.cell 0
      have a1 : w3.cell? ⟨w.heap.size, 1, none⟩ = some (.int .i64 b) := hEX.cell 1
      have a2 : w3.cell? ⟨w.heap.size, 2, none⟩ = some (.slice A' 0 c) := hEX.cell 2
      have a3 : w3.frozen? ⟨w.heap.size, 0, none⟩ = false := hEX.frozen 0
      have a4 : w3.frozen? ⟨w.heap.size, 1, none⟩ = false := hEX.frozen 1
      have a5 : w3.frozen? ⟨w.heap.size, 2, none⟩ = false := hEX.frozen 2
      have z0 : w3.cell? ⟨w.heap.size + 1, 0, none⟩ = some (.int .i64 0) := hZX.cell 0
      have z1 : w3.cell? ⟨w.heap.size + 1, 1, none⟩ = some (.int .i64 0) := hZX.cell 1
      have z2 : w3.cell? ⟨w.heap.size + 1, 2, none⟩ = some (.slice none 0 0) := hZX.cell 2
      have z3 : w3.frozen? ⟨w.heap.size + 1, 0, none⟩ = false := hZX.frozen 0
      have z4 : w3.frozen? ⟨w.heap.size + 1, 1, none⟩ = false := hZX.frozen 1
      have z5 : w3.frozen? ⟨w.heap.size + 1, 2, none⟩ = false := hZX.frozen 2
      clear hEX hZX hownX hTX
      have HEND := hid (hurtK_end hM3 hRw (Nat.zero_le 12))
      clear hM3 hR3
      go_wp2_with fail
      have hend := HEND.out
      (try simp only [Exit.inBlock, Exit.then])
      refine bodyPost_ret (results_cell_row rfl _ _ (w.heap.size + 1) 26 #[.int .i64 f, .int .i64 b, .slice A' 0 c] (0, 0) _ rfl hend.1 Tryz.underlying26 rfl size_ens) rfl hend.2
  by_cases q3 : q = 3
  · subst q3
    obtain ⟨i0, hi0, hz0, hz1, hz2⟩ := info_parts info_nodes
    have hmk0 : (Instr.makeSlice 24 (.int .i64 1) (.int .i64 1)).run Tryz.prog w3 = .ok (.slice (some ⟨w3.heap.size, 0, none⟩) 1 1) (w3.alloc (.cells (madeCells (Value.slice none 0 0).cells (1 * i0.size)) 78)) :=
      run_make_rowN (P := Tryz.prog) 24 78 i0 _ Tryz.underlying24 hi0 hz0 .i64 .i64 1 1 (Nat.le_refl _) (by rw [hz2]; omega) (by omega) w3
    have hcl : madeCells (Value.slice none 0 0).cells (1 * i0.size) = #[.slice none 0 0] := by rw [hz1]; exact made_one
    have hmk : (Instr.makeSlice 24 (.int .i64 1) (.int .i64 1)).run Tryz.prog w3 = .ok (.slice (some ⟨w3.heap.size, 0, none⟩) 1 1) (w3.alloc (.cells #[.slice none 0 0] 78)) := by rw [hmk0, hcl]
    clear hmk0 hcl hi0 hz0 hz1 hz2
    obtain ⟨_, _, _, hEX', hZX', _⟩ := id hM3.1
    have hEX := hEX'.alloc (.cells #[.slice none 0 0] 78)
    have hZX := hZX'.alloc (.cells #[.slice none 0 0] 78)
    have a0 : (w3.alloc (.cells #[.slice none 0 0] 78)).cell? ⟨w.heap.size, 0, none⟩ = some (.int .i64 f) := hEX.cell 0
    have a1 : (w3.alloc (.cells #[.slice none 0 0] 78)).cell? ⟨w.heap.size, 1, none⟩ = some (.int .i64 b) := hEX.cell 1
    have a2 : (w3.alloc (.cells #[.slice none 0 0] 78)).cell? ⟨w.heap.size, 2, none⟩ = some (.slice A' k c) := hEX.cell 2
    have a3 : (w3.alloc (.cells #[.slice none 0 0] 78)).frozen? ⟨w.heap.size, 0, none⟩ = false := hEX.frozen 0
    have a4 : (w3.alloc (.cells #[.slice none 0 0] 78)).frozen? ⟨w.heap.size, 1, none⟩ = false := hEX.frozen 1
    have a5 : (w3.alloc (.cells #[.slice none 0 0] 78)).frozen? ⟨w.heap.size, 2, none⟩ = false := hEX.frozen 2
    have z0 : (w3.alloc (.cells #[.slice none 0 0] 78)).cell? ⟨w.heap.size + 1, 0, none⟩ = some (.int .i64 0) := hZX.cell 0
    have z1 : (w3.alloc (.cells #[.slice none 0 0] 78)).cell? ⟨w.heap.size + 1, 1, none⟩ = some (.int .i64 0) := hZX.cell 1
    have z2 : (w3.alloc (.cells #[.slice none 0 0] 78)).cell? ⟨w.heap.size + 1, 2, none⟩ = some (.slice none 0 0) := hZX.cell 2
    have z3 : (w3.alloc (.cells #[.slice none 0 0] 78)).frozen? ⟨w.heap.size + 1, 0, none⟩ = false := hZX.frozen 0
    have z4 : (w3.alloc (.cells #[.slice none 0 0] 78)).frozen? ⟨w.heap.size + 1, 1, none⟩ = false := hZX.frozen 1
    have z5 : (w3.alloc (.cells #[.slice none 0 0] 78)).frozen? ⟨w.heap.size + 1, 2, none⟩ = false := hZX.frozen 2
    clear hEX hZX hEX' hZX' hownX hTX
    have HEND := hid (hurtK_end (hurtK_made hM3 hRw) hRw (show 1 ≤ 12 by omega))
    clear hM3 hR3
    go_wp2_with fail
    have hend := HEND.out
    (try simp only [Exit.inBlock, Exit.then])
    refine bodyPost_ret (results_cell_row rfl _ _ (w.heap.size + 1) 26 #[.int .i64 f, .int .i64 b, .slice (some ⟨w3.heap.size, 0, none⟩) 1 1] (0, 0) _ rfl hend.1 Tryz.underlying26 rfl size_ens) rfl hend.2
  · have p0 : (q == 0) = false := by simpa using q0
    have p1 : (q == 1) = false := by simpa using q1
    have p2 : (q == 2) = false := by simpa using q2
    have p3 : (q == 3) = false := by simpa using q3
    obtain ⟨_, _, _, hEX, hZX, _⟩ := id hM3.1
    have a0 : w3.cell? ⟨w.heap.size, 0, none⟩ = some (.int .i64 f) := hEX.cell 0
    have a1 : w3.cell? ⟨w.heap.size, 1, none⟩ = some (.int .i64 b) := hEX.cell 1
    have a2 : w3.cell? ⟨w.heap.size, 2, none⟩ = some (.slice A' k c) := hEX.cell 2
    have a3 : w3.frozen? ⟨w.heap.size, 0, none⟩ = false := hEX.frozen 0
    have a4 : w3.frozen? ⟨w.heap.size, 1, none⟩ = false := hEX.frozen 1
    have a5 : w3.frozen? ⟨w.heap.size, 2, none⟩ = false := hEX.frozen 2
    have z0 : w3.cell? ⟨w.heap.size + 1, 0, none⟩ = some (.int .i64 0) := hZX.cell 0
    have z1 : w3.cell? ⟨w.heap.size + 1, 1, none⟩ = some (.int .i64 0) := hZX.cell 1
    have z2 : w3.cell? ⟨w.heap.size + 1, 2, none⟩ = some (.slice none 0 0) := hZX.cell 2
    have z3 : w3.frozen? ⟨w.heap.size + 1, 0, none⟩ = false := hZX.frozen 0
    have z4 : w3.frozen? ⟨w.heap.size + 1, 1, none⟩ = false := hZX.frozen 1
    have z5 : w3.frozen? ⟨w.heap.size + 1, 2, none⟩ = false := hZX.frozen 2
    clear hEX hZX hownX hTX
    have HEND := hid (hurtK_end hM3 hRw hk)
    clear hM3 hR3
    go_wp2_with fail
    have hend := HEND.out
    (try simp only [Exit.inBlock, Exit.then])
    refine bodyPost_ret (results_cell_row rfl _ _ (w.heap.size + 1) 26 #[.int .i64 f, .int .i64 b, .slice A' k c] (0, 0) _ rfl hend.1 Tryz.underlying26 rfl size_ens) rfl hend.2

end Go.Proofs.YtlgomifpohdniaaGreat
