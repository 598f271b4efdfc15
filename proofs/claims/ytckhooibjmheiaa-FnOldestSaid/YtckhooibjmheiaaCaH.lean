/- CacheGet, on both sides: the walks. -/
import Derived.Test.YtckhooibjmheiaaCaG
namespace Go.Proofs.Ytckhooibjmheiaa
open Go.RowKit Go.Deep
set_option linter.unusedVariables false
set_option linter.unusedSimpArgs false

/-- What stands in the midst of CacheGet: the boxes of the cache and the answer, and the copy at nb. -/
def GetPk (w0 : World) (cap clock : Int) (A : Option Addr) (k c rb nb : Nat) (X : Array Value) (A3 : Option Addr) (c3 : Nat) (s : Nat → Slt) (w : World) : Prop :=
  Blk w w0.heap.size 26 #[.int .i64 cap, .int .i64 clock, .slice A k c] ∧ Blk w rb 26 #[.int .i64 0, .int .i64 0, .slice none 0 0] ∧ Blk w nb 26 X ∧ OwC w w0.heap.size A3 k c3 s ∧ Below w0.heap.size w0 w ∧ w0.heap.size < rb ∧ rb < nb
section
variable {w0 w w' : World} {cap clock : Int} {A A3 : Option Addr} {k c rb nb c3 : Nat} {X : Array Value} {s : Nat → Slt}
theorem GetPk.below (h : GetPk w0 cap clock A k c rb nb X A3 c3 s w) (hb : Below w.heap.size w w') : GetPk w0 cap clock A k c rb nb X A3 c3 s w' :=
  ⟨h.1.below hb h.1.lt, h.2.1.below hb h.2.1.lt, h.2.2.1.below hb h.2.2.1.lt, h.2.2.2.1.below hb, h.2.2.2.2.1.trans (hb.mono h.2.2.2.2.1.size), h.2.2.2.2.2⟩
theorem OwC.keep1 {L e : Nat} {cs : Array Value} (h : OwC w L A k c s) (hE : Blk w e 26 cs) (o : Nat) (x : Value) : OwC (w.setCell ⟨e, o, none⟩ x) L A k c s := by
  obtain ⟨hv, h1, h2⟩ := h
  have hk : ∀ b, b ≠ e → (w.setCell ⟨e, o, none⟩ x).heap[b]? = w.heap[b]? := fun b hb => Below.heap_setCell _ _ _ b hb
  refine ⟨hv, own_keepJ h1 fun g _ _ hg => hk g fun e => ?_, h2.keep fun b cs' _ hb => hk b fun e => ?_⟩
  · subst e
    obtain ⟨_, _, cs', hcs'⟩ := own_ltJ h1 g hg
    exact hE.ne_ hcs' (by decide) rfl
  · subst e
    exact hE.ne_ hb (by decide) rfl
/-- A cell of the copy's box is set. -/
theorem GetPk.setN (h : GetPk w0 cap clock A k c rb nb X A3 c3 s w) (o : Nat) (x : Value) : GetPk w0 cap clock A k c rb nb (X.setIfInBounds o x) A3 c3 s (w.setCell ⟨nb, o, none⟩ x) := by
  obtain ⟨h1, h2, h3, h4, h5, h6, h7⟩ := h
  exact ⟨h1.far (p := ⟨nb, o, none⟩) (by show w0.heap.size ≠ nb; omega) _, h2.far (p := ⟨nb, o, none⟩) (by show rb ≠ nb; omega) _, h3.set_ o x, h4.keep1 h3 o x, h5.setCell (p := ⟨nb, o, none⟩) (by show w0.heap.size ≤ nb; omega) _, h6, h7⟩
/-- The used cell of a slot is set. -/
theorem GetPk.setU {b i : Nat} (h : GetPk w0 cap clock A k c rb nb X (some ⟨b, 0, none⟩) c3 s w) (hi : i < k) (u : Int) : GetPk w0 cap clock A k c rb nb X (some ⟨b, 0, none⟩) c3 (upS s i u) (w.setCell ⟨b, i * 3 + 2, none⟩ (.int .i64 u)) := by
  obtain ⟨h1, h2, h3, h4, h5, h6, h7⟩ := h
  obtain ⟨hv, hrow, hbx⟩ := id h4
  obtain ⟨b', cs, e, hL, hB, _, _⟩ := own_slots hrow (by omega)
  injection e with e
  injection e with e
  subst e
  exact ⟨h1.far (p := ⟨b, i * 3 + 2, none⟩) (h1.ne_ hB (by decide)) _, h2.far (p := ⟨b, i * 3 + 2, none⟩) (h2.ne_ hB (by decide)) _, h3.far (p := ⟨b, i * 3 + 2, none⟩) (h3.ne_ hB (by decide)) _, h4.setU hi u, h5.setCell (p := ⟨b, i * 3 + 2, none⟩) hL _, h6, h7⟩
/-- The answer's box is set: the end. -/
theorem GetPk.fin (h : GetPk w0 cap clock A k c rb nb X A3 c3 s w) (x y z : Value) :
    Blk (((w.setCell ⟨rb, 0, none⟩ x).setCell ⟨rb, 1, none⟩ y).setCell ⟨rb, 2, none⟩ z) rb 26 #[x, y, z] ∧ OwC (((w.setCell ⟨rb, 0, none⟩ x).setCell ⟨rb, 1, none⟩ y).setCell ⟨rb, 2, none⟩ z) w0.heap.size A3 k c3 s ∧ Below w0.heap.size w0 (((w.setCell ⟨rb, 0, none⟩ x).setCell ⟨rb, 1, none⟩ y).setCell ⟨rb, 2, none⟩ z) := by
  obtain ⟨h1, h2, h3, h4, h5, h6, h7⟩ := h
  exact ⟨((h2.set_ 0 x).set_ 1 y).set_ 2 z, h4.keepE h2 x y z, ((h5.setCell (p := ⟨rb, 0, none⟩) (by show w0.heap.size ≤ rb; omega) x).setCell (p := ⟨rb, 1, none⟩) (by show w0.heap.size ≤ rb; omega) y).setCell (p := ⟨rb, 2, none⟩) (by show w0.heap.size ≤ rb; omega) z⟩
end

set_option maxRecDepth 100000 in
set_option maxHeartbeats 4000000 in
theorem iGet_any (cap clock : Int) (A : Option Addr) (k c : Nat) (s : Nat → Slt) (D : Option Addr) (f dc : Nat) (z : Nat → Int) (w : World) (h : RdC w w.heap.size A k s) (hd : Rd w w.heap.size D f z) (hn : k ≤ 4194304) (hlen : Hid (∀ i, i < k → (s i).n ≤ 4194304)) (hf : f ≤ 4194304) :
    Calls Try.prog 22 #[caV cap clock A k c, .slice D f dc] w (GetAns cap clock k s f z w) := by
  have hb3 := (((Below.refl w.heap.size w).alloc (Nat.le_refl _) (.cells #[.int .i64 cap, .int .i64 clock, .slice A k c] 26)).alloc (by simp) (.cells #[.slice D f dc] 27)).alloc (by simp; omega) (.cells #[.int .i64 0, .int .i64 0, .slice none 0 0] 26)
  have h3 := h.to hb3 hb3.size
  have hE3 := ((Blk.new w 26 #[.int .i64 cap, .int .i64 clock, .slice A k c]).alloc (.cells #[.slice D f dc] 27)).alloc (.cells #[.int .i64 0, .int .i64 0, .slice none 0 0] 26)
  have hQ3 := (Blk.new2 w (.cells #[.int .i64 cap, .int .i64 clock, .slice A k c] 26) 27 #[.slice D f dc]).alloc (.cells #[.int .i64 0, .int .i64 0, .slice none 0 0] 26)
  have hZ3 := Blk.new3 w (.cells #[.int .i64 cap, .int .i64 clock, .slice A k c] 26) (.cells #[.slice D f dc] 27) 26 #[.int .i64 0, .int .i64 0, .slice none 0 0]
  go_enter Try.func22, Try.ntmps22
  go_wp2_with fail
  refine (copied_any cap clock A k c s _ h3 hn hlen).mono ?_
  rintro e w4 ⟨A3, c3, rfl, hO4, hb4⟩
  have hw4 := hb3.trans (hb4.mono hb3.size)
  have hsz4 : w.heap.size + 3 ≤ w4.heap.size := by have := hb4.size; simpa using this
  have hP : GetPk w cap clock A k c (w.heap.size + 2) w4.heap.size #[.int .i64 cap, .int .i64 clock, .slice A3 k c3] A3 c3 s (w4.alloc (.cells #[.int .i64 cap, .int .i64 clock, .slice A3 k c3] 26)) :=
    ⟨(hE3.below hb4 hE3.lt).alloc _, (hZ3.below hb4 hZ3.lt).alloc _, Blk.new w4 _ _, (hO4.less (by simp; omega)).below ((Below.refl _ _).alloc (Nat.le_refl _) _), hw4.alloc hw4.size _, by omega, by omega⟩
  have hQ : Blk (w4.alloc (.cells #[.int .i64 cap, .int .i64 clock, .slice A3 k c3] 26)) (w.heap.size + 1) 27 #[.slice D f dc] := (hQ3.below hb4 hQ3.lt).alloc _
  obtain ⟨e0, e1, e2, _, _, _⟩ := blk_cells3 hP.1
  have hA := h.to hP.2.2.2.2.1 hP.2.2.2.2.1.size
  have HP := hid hP
  clear hE3 hQ3 hZ3 hb4 hw4 hO4 h3 hP hb3
  go_wp2_with fail
  refine (canTick_any cap clock A k c s _ hA hn hlen).mono ?_
  rintro e w5 ⟨rfl, hb5⟩
  have hP5 := HP.out.below hb5
  have hQ5 := hQ.below hb5 hQ.lt
  obtain ⟨nb, hnb⟩ : ∃ nb, w4.heap.size = nb := ⟨_, rfl⟩
  rw [hnb] at hP5 hsz4 ⊢
  clear hA HP hQ hb5 e0 e1 e2 hnb
  obtain ⟨n0, n1, n2, n3, n4, n5⟩ := blk_cells3 hP5.2.2.1
  obtain ⟨r0, r1, r2, r3, r4, r5⟩ := blk_cells3 hP5.2.1
  have x2 : w5.cell? ⟨w.heap.size, 2, none⟩ = some (.slice A k c) := hP5.1.cell 2
  have HP5 := hid hP5
  cases hc : canB cap clock k s
  · have hI : ¬ getI cap clock k s f z < k := by unfold getI; rw [hc]; simp
    have HI := hid hI
    clear hI hc hP5
    go_wp2_with fail
    have hfin := HP5.out.fin (.int .i64 cap) (.int .i64 clock) (.slice A3 k c3)
    refine bodyPost_ret (results_cell_row_tmp2C rfl _ _ (w.heap.size + 2) 26 _ (0, 0) _ rfl hfin.1 Try.underlying26 rfl size_cache) rfl ?_
    exact getAns_no HI.out hfin.2.1 hfin.2.2
  · have hge : Hid (getI cap clock k s f z = idxP (fun i => hitP f z (s i)) k) := by show _ = _; unfold getI; rw [if_pos hc]
    have hck : clock < 1000000000 ∧ 0 ≤ clock := by
      unfold canB at hc
      rw [Bool.and_eq_true, decide_eq_true_eq] at hc
      exact ⟨hc.2, (cacheB_iff.1 hc.1).2.1.1⟩
    have hA5 := h.to hP5.2.2.2.2.1 hP5.2.2.2.2.1.size
    have hd5 := hd.to hP5.2.2.2.2.1 hP5.2.2.2.2.1.size
    have q5 : w5.cell? ⟨w.heap.size + 1, 0, none⟩ = some (.slice D f dc) := hQ5.cell 0
    have hql := hQ5.lt
    clear hc hP5 hQ5
    go_wp2_with fail
    refine (indexF_any A k c s D f dc (w.heap.size + 1) z _ hA5 hd5 q5 hql hn hlen hf).mono ?_
    rintro e w6 ⟨rfl, hb6⟩
    have hP6 := HP5.out.below hb6
    clear HP5 hA5 hd5 q5 hql hb6 n0 n1 n2 n3 n4 n5 r0 r1 r2 r3 r4 r5 x2
    obtain ⟨n0, n1, n2, n3, n4, n5⟩ := blk_cells3 hP6.2.2.1
    obtain ⟨r0, r1, r2, r3, r4, r5⟩ := blk_cells3 hP6.2.1
    have HP6 := hid hP6
    by_cases hi : idxP (fun i => hitP f z (s i)) k < k
    · have hI : idxI (fun i => hitP f z (s i)) k = ((idxP (fun i => hitP f z (s i)) k : Nat) : Int) := by unfold idxI; rw [if_pos hi]
      rw [hI]
      rw [← hge.out] at hi ⊢
      obtain ⟨i, hie⟩ : ∃ i, getI cap clock k s f z = i := ⟨_, rfl⟩
      rw [hie] at hi ⊢
      have HIE := hid hie
      clear hI hge hie
      obtain ⟨hv, hrow, hbx⟩ := hP6.2.2.2.1
      obtain ⟨gb, cs, rfl, hL, hB, _, hcl⟩ := own_slots hrow (by omega)
      obtain ⟨c0, c1, c2⟩ := hcl i hi
      have f2 := hB.frozen (i * 3 + 2)
      have i1 : (i : Int) < (k : Int) := by omega
      have i0 : (0 : Int) ≤ (i : Int) := by omega
      have hng : nb ≠ gb := hP6.2.2.1.ne_ hB (by decide)
      have hgn : gb ≠ nb := fun e => hng e.symm
      clear hrow hbx hcl hP6 c0
      go_wp2_with fail
      have hP7 := (HP6.out.setN 1 (.int .i64 (clock + 1))).setU hi (clock + 1)
      obtain ⟨W7, hW7⟩ : ∃ W, (w6.setCell ⟨nb, 1, none⟩ (.int .i64 (clock + 1))).setCell ⟨gb, i * 3 + 2, none⟩ (.int .i64 (clock + 1)) = W := ⟨_, rfl⟩
      rw [hW7] at hP7 ⊢
      clear hW7 n0 n1 n2 n3 n4 n5 r0 r1 r2 r3 r4 r5 c1 c2 f2 HP6 hB
      have hX : (#[.int .i64 cap, .int .i64 clock, .slice (some ⟨gb, 0, none⟩) k c3] : Array Value).setIfInBounds 1 (.int .i64 (clock + 1)) = #[.int .i64 cap, .int .i64 (clock + 1), .slice (some ⟨gb, 0, none⟩) k c3] := rfl
      rw [hX] at hP7
      clear hX
      obtain ⟨n0, n1, n2, n3, n4, n5⟩ := blk_cells3 hP7.2.2.1.drew
      obtain ⟨r0, r1, r2, r3, r4, r5⟩ := blk_cells3 (show Blk W7.drew (w.heap.size + 1 + 1) 26 #[.int .i64 0, .int .i64 0, .slice none 0 0] from hP7.2.1)
      obtain ⟨q0, q1, q2, q3, q4, q5⟩ := blk_cells3 (show Blk W7 (w.heap.size + 1 + 1) 26 #[.int .i64 0, .int .i64 0, .slice none 0 0] from hP7.2.1)
      obtain ⟨p0, p1, p2, p3, p4, p5⟩ := blk_cells3 hP7.2.2.1
      have HP7 := hid hP7
      obtain ⟨hv, hrow, hbx⟩ := hP7.2.2.2.1
      obtain ⟨gb', cs, e, hL, hB, _, hcl⟩ := own_slots hrow (by omega)
      injection e with e
      injection e with e
      subst e
      obtain ⟨_, d1, _⟩ := hcl i hi
      rw [upS_score] at d1
      have c1 : W7.drew.cell? ⟨gb, i * 3 + 1, none⟩ = some (.int .i64 (s i).score) := d1
      have hgr : gb ≠ w.heap.size + 1 + 1 := fun e => by have := hP7.2.1.ne_ hB (by decide); omega
      have hrg : w.heap.size + 1 + 1 ≠ gb := fun e => hgr e.symm
      have hnr : nb ≠ w.heap.size + 1 + 1 := by have := hP7.2.2.2.2.2.2; omega
      have hrn : w.heap.size + 1 + 1 ≠ nb := fun e => hnr e.symm
      clear hrow hbx hcl hP7 hB
      go_region
      all_goals
        go_wp2_with fail
        have hfin := HP7.out.fin (.int .i64 cap) (.int .i64 (clock + 1)) (.slice (some ⟨gb, 0, none⟩) k c3)
        refine bodyPost_ret (results_cell_row_tmp2C rfl _ _ (w.heap.size + 2) 26 _ (0, 0) _ rfl hfin.1.drew Try.underlying26 rfl size_cache) rfl ?_
        exact getAns_yes HIE.out hi (hfin.2.1.below (Below.refl _ _).drew) hfin.2.2.drew
    · have hI : idxI (fun i => hitP f z (s i)) k = -1 := by unfold idxI; rw [if_neg hi]
      rw [hI]
      rw [← hge.out] at hi
      have HI := hid hi
      clear hI hge hi hP6
      go_wp2_with fail
      have hfin := HP6.out.fin (.int .i64 cap) (.int .i64 clock) (.slice A3 k c3)
      refine bodyPost_ret (results_cell_row_tmp2C rfl _ _ (w.heap.size + 2) 26 _ (0, 0) _ rfl hfin.1 Try.underlying26 rfl size_cache) rfl ?_
      exact getAns_no HI.out hfin.2.1 hfin.2.2
end Go.Proofs.Ytckhooibjmheiaa
