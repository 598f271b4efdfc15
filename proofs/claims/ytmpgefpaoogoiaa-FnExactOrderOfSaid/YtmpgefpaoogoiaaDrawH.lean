/- What is drawn of documents, once more: what lies below a document's own memory stays, but for the reader. -/
import Derived.Test.YtmpgefpaoogoiaaDrawF
namespace Go.Proofs.Ytmpgefpaoogoiaa
open Go.RowKit Go.Deep

def Kept (B R : Nat) (w w' : World) : Prop := ∀ k, k < B → k ≠ R → w'.heap[k]? = w.heap[k]?
theorem Kept.trans {B R : Nat} {a b c : World} (h : Kept B R a b) (h' : Kept B R b c) : Kept B R a c := fun k hk hne => (h' k hk hne).trans (h k hk hne)
theorem kept_grown {B R : Nat} {w w' : World} (h : w.grownBy w' (some R)) (hB : B ≤ w.heap.size) : Kept B R w w' := fun k hk hne => h.block k (by omega) (by intro e; injection e with e; exact hne e)
theorem kept_row {B R : Nat} {w w' : World} {row : Option Nat} (h : w.grownBy w' row) (hB : B ≤ w.heap.size) (hr : ∀ x, row = some x → B ≤ x) : Kept B R w w' := fun k hk _ => h.block k (by omega) (fun e => by have := hr k e.symm; omega)
theorem kept_alloc {B R : Nat} (w : World) (o : Obj) (hB : B ≤ w.heap.size) : Kept B R w (w.alloc o) := fun k hk _ => Below.heap_alloc w o k (by omega)
theorem kept_set {B R : Nat} (w : World) {p : Addr} (hp : B ≤ p.block) (u : Value) : Kept B R w (w.setCell p u) := fun k hk _ => Below.heap_setCell _ _ _ k (by omega)

set_option maxRecDepth 100000 in
set_option maxHeartbeats 4000000 in
theorem hurtDoc_kept (R n cap B : Nat) (A A' : Option Addr) (m c : Nat) (z : Nat → Int) (w : World) (h : Rs w R A n cap) (hB : R < B) (hBw : B ≤ w.heap.size) (hm : m ≤ 16) (hown : w.ownsRow B 2 1 (.slice A' m c) m (numsOf m z)) :
    Calls Try.prog 110 #[.pointer (some ⟨R, 0, none⟩), .slice A' m c] w (fun e w' => DocDrawn R n cap A w e w' ∧ Kept B R w w') := by
  obtain ⟨i0, hi0, hz0, hz1, hz2⟩ := info_parts info_int
  have hRw := h.lt
  go_enter Try.func110, Try.ntmps110
  go_wp2_with fail
  refine (below_draw R n cap A 30 _ h (by omega) (by omega)).mono ?_
  rintro e w1 ⟨k, rfl, hk0, hk1, hR1, hg1⟩
  have hown1 := own_grown hown hg1 hB
  have hb1 := below_grown hg1 hRw
  have hRw1 := hR1.lt
  have hs1 := hg1.size
  have hq1 := kept_grown hg1 hBw
  clear hg1 hown
  by_cases e0 : k = 0
  · subst e0
    go_wp2_with (at_builtin; refine wpList_append_own _ rfl (.tmp 9) (.tmp 10) 25 rfl B 2 i0 (.int .i64 0) 1 8 Try.underlying25 hi0 hz0 hz1 hz2 rfl (by decide) _ m _ rfl (hown1.alloc _) ⟨w1.heap.size, 0, none⟩ 1 1 [.int .i64 0] rfl rfl (cell_one_new _ _ _) (by intro u hu; simp at hu; subst hu; rfl) (by unfold maxLen; omega) (by omega) (by simp; omega) ?_)
    intro v' w3 hown3 hg3 _
    have hR3 := rs_own (B := B) hR1 _ hg3 (fun x hx => (hown1.lt x hx).1) hB
    have hb3 : Below R w1 w3 := ((Below.refl R w1).alloc (by omega) _).grown hg3 (by simp; omega) (fun x hx => by have := (hown1.lt x hx).1; omega)
    obtain ⟨A3, c3, rfl⟩ := own_form hown3
    have hk3 : Kept B R w1 w3 := (kept_alloc w1 _ (by omega)).trans (kept_row hg3 (by rw [World.size_alloc]; omega) (fun x hx => (hown1.lt x hx).1))
    clear hg3
    go_wp2_with fail
    go_ret
    exact ⟨⟨m + 1, ext z m 0, A3, c3, by omega, rfl, rd_own hB (by rw [numsOf_ext]; exact hown3), hR3, hb1.trans hb3⟩, hq1.trans hk3⟩
  by_cases e1 : k = 1
  · subst e1
    go_wp2_with fail
    go_ret
    exact ⟨⟨0, nul, none, 0, by omega, rfl, (fun h => absurd h (by omega)), hR1, hb1⟩, hq1⟩
  by_cases e2 : k = 2
  · subst e2
    by_cases hm0 : 0 < m
    · have i1 : (0 : Int) < (m : Int) := by omega
      go_wp2_with fail
      refine (off_draw R n cap A (-1000000) 1000000 _ hR1 (by omega) (by omega) (by omega) (by omega)).mono ?_
      rintro e w2 ⟨x, rfl, hR2, hg2⟩
      have hown2 := own_grown hown1 hg2 hB
      have hb2 := below_grown hg2 hRw1
      obtain ⟨g, c', hv, hgB, hr⟩ := own_row hown2 hm0
      injection hv with ev1 ev2 ev3
      subst ev1
      have hc := hr.cell hm0
      have hf := hr.frozen 0
      have hbb := hb1.trans hb2
      have hkk := hq1.trans (kept_grown hg2 (by omega))
      have hne : R < g := by omega
      clear hg2 hown2 hown1 hb1 hb2
      go_wp2_with fail
      go_ret
      refine ⟨⟨m, _, _, _, by omega, rfl, (fun _ => ⟨g, rfl, by omega, hr.set_ (i := 0) x⟩), ?_, hbb.setCell (by simp; omega) _⟩, hkk.trans (kept_set _ (by simp; omega) _)⟩
      exact hR2.keep fun b hb => Below.heap_setCell _ _ _ b (by simp; omega)
    · have i1 : ¬ (0 : Int) < (m : Int) := by omega
      have hm00 : m = 0 := by omega
      subst hm00
      go_wp2_with fail
      go_ret
      exact ⟨⟨0, nul, _, c, by omega, rfl, (fun h => absurd h (by omega)), hR1, hb1⟩, hq1⟩
  by_cases e3 : k = 3
  · subst e3
    have hmk6 := run_make_row' (P := Try.prog) 25 2 (.int .i64 0) 8 Try.underlying25 info_int rfl .i64 .i64 6 (by omega) (by omega)
    have hmk7 := run_make_row' (P := Try.prog) 25 2 (.int .i64 0) 8 Try.underlying25 info_int rfl .i64 .i64 7 (by omega) (by omega)
    simp only [Int.cast_ofNat_Int] at hmk6 hmk7
    go_wp2_with fail
    refine (below_draw R n cap A 2 _ hR1 (by omega) (by omega)).mono ?_
    rintro e w2 ⟨x, rfl, hx0, hx1, hR2, hg2⟩
    have hbb := hb1.trans (below_grown hg2 hRw1)
    have hkk := hq1.trans (kept_grown hg2 (by omega))
    have hs2 := hg2.size
    have hRw2 := hR2.lt
    clear hg2 hb1
    obtain rfl | rfl : x = 0 ∨ x = 1 := by omega
    · clear hmk7
      go_wp2_with fail
      go_ret
      exact ⟨⟨6, nul, _, 6, by omega, rfl, (fun _ => ⟨_, rfl, hRw2, _, Blk.new w2 _ _, by simp [madeCells], fun j hj => by simp [madeCells, hj, nul, Nat.mod_one]⟩), hR2.alloc _, hbb.alloc (by omega) _⟩, hkk.trans (kept_alloc _ _ (by omega))⟩
    · clear hmk6
      go_wp2_with fail
      go_ret
      exact ⟨⟨7, nul, _, 7, by omega, rfl, (fun _ => ⟨_, rfl, hRw2, _, Blk.new w2 _ _, by simp [madeCells], fun j hj => by simp [madeCells, hj, nul, Nat.mod_one]⟩), hR2.alloc _, hbb.alloc (by omega) _⟩, hkk.trans (kept_alloc _ _ (by omega))⟩
  · go_wp2_with fail
    go_ret
    exact ⟨⟨m, z, A', c, by omega, rfl, rd_own hB hown1, hR1, hb1⟩, hq1⟩
end Go.Proofs.Ytmpgefpaoogoiaa
