/- Ensembles: copies, comparisons and sizes of the exact laws; what is an ensemble, on both sides. -/
import Derived.Test.YtmpgefpaoogoiaaEnsA
import Derived.Test.YtmpgefpaoogoiaaBoxDrawA
import Derived.Deep.RegionHeld
namespace Go.Proofs.Ytmpgefpaoogoiaa
open Go.RowKit Go.Deep

abbrev enV (f b : Int) (A : Option Addr) (n c : Nat) : Value := .agg #[.int .i64 f, .int .i64 b, .slice A n c]
theorem size_ens : (Try.prog.info? 33).map (·.size) = some 3 := by kernel_rfl

set_option maxRecDepth 100000 in
set_option maxHeartbeats 2000000 in
theorem toE_any (f b : Int) (A : Option Addr) (n c : Nat) (len : Nat → Nat) (g : Nat → Nat → Nd) (w : World) (h : RdT w w.heap.size A n len g) (hn : n ≤ 4194304) (hlen : Hid (∀ i, i < n → len i ≤ 4194304)) :
    Calls Try.prog 19 #[enV f b A n c] w fun e w' =>
      ∃ bt, e = .returned (enV f b (some ⟨bt, 0, none⟩) n n) ∧ w.heap.size ≤ bt ∧ RdT w' w'.heap.size (some ⟨bt, 0, none⟩) n len g ∧ Below w.heap.size w w' := by
  have hb3 := (((Below.refl w.heap.size w).alloc (Nat.le_refl _) (.cells #[.int .i64 f, .int .i64 b, .slice A n c] 24)).alloc (by simp) (.cells #[.int .i64 0, .int .i64 0, .slice none 0 0] 33)).alloc (by simp; omega) (.cells #[.int .i64 f, .int .i64 b, .slice none 0 0] 33)
  have h3 := h.to hb3 hb3.size
  go_enter Try.func19, Try.ntmps19
  go_wp2_with fail
  refine (toT_any A n c len g _ h3 hn hlen).mono ?_
  rintro e w4 ⟨bt, rfl, hbt, hrd, hb4⟩
  have hR := ((Blk.new2 w (.cells #[.int .i64 f, .int .i64 b, .slice A n c] 24) 33 #[.int .i64 0, .int .i64 0, .slice none 0 0]).alloc (.cells #[.int .i64 f, .int .i64 b, .slice none 0 0] 33)).below hb4 (by simp)
  have hO := (Blk.new3 w (.cells #[.int .i64 f, .int .i64 b, .slice A n c] 24) (.cells #[.int .i64 0, .int .i64 0, .slice none 0 0] 33) 33 #[.int .i64 f, .int .i64 b, .slice none 0 0]).below hb4 (by simp)
  obtain ⟨o0, o1, o2, f0, f1, f2⟩ := blk_cells3 hO
  obtain ⟨r0, r1, r2, g0, g1, g2⟩ := blk_cells3 hR
  have hw4 := hb3.trans (hb4.mono hb3.size)
  clear h3 hb3
  go_wp2_with fail
  refine bodyPost_ret (results_cell_row rfl _ _ (w.heap.size + 1) 33 #[.int .i64 f, .int .i64 b, .slice (some ⟨bt, 0, none⟩) n n] (0, 0) _ rfl ((((hR.far (p := ⟨w.heap.size + 1 + 1, 2, none⟩) (by simp) (.slice (some ⟨bt, 0, none⟩) n n)).set_ 0 (.int .i64 f)).set_ 1 (.int .i64 b)).set_ 2 (.slice (some ⟨bt, 0, none⟩) n n)) Try.underlying33 rfl size_ens) rfl ?_
  have hbt' : w.heap.size ≤ bt := by simp at hbt; omega
  refine ⟨bt, rfl, hbt', ((hrd.keep fun p hp _ => ?_).rdT).more (by simp only [World.size_setCell]; exact Nat.le_refl _), (((hw4.setCell (p := ⟨w.heap.size + 1 + 1, 2, none⟩) (by simp; omega) _).setCell (p := ⟨w.heap.size + 1, 0, none⟩) (by simp) _).setCell (p := ⟨w.heap.size + 1, 1, none⟩) (by simp) _).setCell (p := ⟨w.heap.size + 1, 2, none⟩) (by simp) _⟩
  have hp' : w.heap.size + 3 ≤ p.block := by simpa using hp
  rw [World.cell?_setCell_far _ _ _ _ (by simp; omega), World.cell?_setCell_far _ _ _ _ (by simp; omega), World.cell?_setCell_far _ _ _ _ (by simp; omega), World.cell?_setCell_far _ _ _ _ (by simp; omega)]
end Go.Proofs.Ytmpgefpaoogoiaa
