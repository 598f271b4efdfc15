/- Contracts of the closure that cuts a span, and of its other side. -/
import Derived.Test.YthdilioflhknpaaBoxC
import Derived.Test.YthdilioflhknpaaDrawD
namespace Go.Proofs.Ythdilioflhknpaa
open Go.RowKit Go.Deep

theorem size_span : (Try.prog.info? 46).map (·.size) = some 3 := by kernel_rfl

set_option maxRecDepth 100000 in
set_option maxHeartbeats 4000000 in
theorem cut_any (d : Sp) (l h : Int) (q : Bool) (pl ph pg : Nat) (w : World) (hl : w.cell? ⟨pl, 0, none⟩ = some (.int .i64 l)) (hh : w.cell? ⟨ph, 0, none⟩ = some (.int .i64 h)) (hg : w.cell? ⟨pg, 0, none⟩ = some (.bool q))
    (hpl : pl < w.heap.size) (hph : ph < w.heap.size) (hpg : pg < w.heap.size) :
    Calls Try.prog 130 #[spV d, .pointer (some ⟨pl, 0, none⟩), .pointer (some ⟨ph, 0, none⟩), .pointer (some ⟨pg, 0, none⟩)] w fun e w' => e = .returned (spV (meetS d ⟨l, h, q⟩)) ∧ Below w.heap.size w w' := by
  have hb2 := ((Below.refl w.heap.size w).alloc (Nat.le_refl _) (.cells #[.int .i64 d.lo, .int .i64 d.hi, .bool d.gone] 46)).alloc (by simp) (.cells #[.int .i64 0, .int .i64 0, .bool false] 46)
  have cl := (World.cell?_of_block (a := ⟨pl, 0, none⟩) (hb2.block pl hpl)).trans hl
  have ch := (World.cell?_of_block (a := ⟨ph, 0, none⟩) (hb2.block ph hph)).trans hh
  have cg := (World.cell?_of_block (a := ⟨pg, 0, none⟩) (hb2.block pg hpg)).trans hg
  have hS := (Blk.new w 46 #[.int .i64 d.lo, .int .i64 d.hi, .bool d.gone]).alloc (.cells #[.int .i64 0, .int .i64 0, .bool false] 46)
  have hR := Blk.new (w.alloc (.cells #[.int .i64 d.lo, .int .i64 d.hi, .bool d.gone] 46)) 46 #[.int .i64 0, .int .i64 0, .bool false]
  go_enter Try.func130, Try.ntmps130
  go_wp2_with fail
  go_region
  have hX : (if d.lo < l then l else d.lo) = max d.lo l := by split <;> omega
  have hY : (if h < d.hi then h else d.hi) = min d.hi h := by split <;> omega
  rw [hX, hY]
  have hms : Hid (meetS d ⟨l, h, q⟩ = if max d.lo l ≤ min d.hi h then ⟨max d.lo l, min d.hi h, d.gone && q⟩ else ⟨1, 0, d.gone && q⟩) := rfl
  clear hX hY hb2 cl ch cg hS hR
  generalize max d.lo l = X at *
  generalize min d.hi h = Y at *
  have hb2 := (((Below.refl w.heap.size w).alloc (Nat.le_refl _) (.cells #[.int .i64 X, .int .i64 Y, .bool d.gone] 46)).alloc (by simp) (.cells #[.int .i64 0, .int .i64 0, .bool false] 46)).drew
  have cg2 := (World.cell?_of_block (a := ⟨pg, 0, none⟩) (hb2.block pg hpg)).trans hg
  have hS2 := ((Blk.new w 46 #[.int .i64 X, .int .i64 Y, .bool d.gone]).alloc (.cells #[.int .i64 0, .int .i64 0, .bool false] 46)).drew
  have hR2 := (Blk.new2 w (.cells #[.int .i64 X, .int .i64 Y, .bool d.gone] 46) 46 #[.int .i64 0, .int .i64 0, .bool false]).drew
  go_wp2_with fail
  refine (numbers_any ⟨X, Y, d.gone⟩ _).mono ?_
  rintro e w3 ⟨rfl, hb3⟩
  have hS3 := hS2.below hb3 hS2.lt
  have hR3 := hR2.below hb3 hR2.lt
  have hbl3 := hb2.trans (hb3.mono hb2.size)
  have hpg2 : pg < ((w.alloc (.cells #[.int .i64 X, .int .i64 Y, .bool d.gone] 46)).alloc (.cells #[.int .i64 0, .int .i64 0, .bool false] 46)).drew.heap.size := Nat.lt_of_lt_of_le hpg hb2.size
  have cg3 := (hb3.cell (p := ⟨pg, 0, none⟩) hpg2).trans cg2
  clear hS2 hR2 hb3 hb2 cg2 hpg2
  have s0 : w3.cell? ⟨w.heap.size, 0, none⟩ = some (.int .i64 X) := hS3.cell 0
  have s1 : w3.cell? ⟨w.heap.size, 1, none⟩ = some (.int .i64 Y) := hS3.cell 1
  have s2 : w3.cell? ⟨w.heap.size, 2, none⟩ = some (.bool d.gone) := hS3.cell 2
  have r0 : w3.cell? ⟨w.heap.size + 1, 0, none⟩ = some (.int .i64 0) := hR3.cell 0
  have r1 : w3.cell? ⟨w.heap.size + 1, 1, none⟩ = some (.int .i64 0) := hR3.cell 1
  have r2 : w3.cell? ⟨w.heap.size + 1, 2, none⟩ = some (.bool false) := hR3.cell 2
  have fs0 := hS3.frozen 0
  have fs1 := hS3.frozen 1
  have fs2 := hS3.frozen 2
  have fr0 := hR3.frozen 0
  have fr1 := hR3.frozen 1
  have fr2 := hR3.frozen 2
  by_cases hXY : X ≤ Y
  · have HQ := hid (decide_eq_true hXY)
    have HM : Hid (meetS d ⟨l, h, q⟩ = ⟨X, Y, d.gone && q⟩) := by show _ = _; rw [hms.out, if_pos hXY]
    rw [HQ.out]
    clear hXY hms
    cases hdg : d.gone
    · rw [hdg] at s2
      go_wp2_with fail
      (try simp only [Exit.inBlock, Exit.then])
      refine bodyPost_ret (results_cell_row rfl _ _ (w.heap.size + 1) 46 #[.int .i64 X, .int .i64 Y, .bool false] (0, 0) _ rfl ((((hR3.far (p := ⟨w.heap.size, 2, none⟩) (by simp) (.bool false)).set_ 0 (.int .i64 X)).set_ 1 (.int .i64 Y)).set_ 2 (.bool false)) Try.underlying46 rfl size_span) rfl ?_
      refine ⟨?_, ((((hbl3.setCell (p := ⟨w.heap.size, 2, none⟩) (Nat.le_refl _) (.bool false)).setCell (p := ⟨w.heap.size + 1, 0, none⟩) (by simp) (.int .i64 X)).setCell (p := ⟨w.heap.size + 1, 1, none⟩) (by simp) (.int .i64 Y)).setCell (p := ⟨w.heap.size + 1, 2, none⟩) (by simp) (.bool false))⟩
      rw [HM.out, hdg]
      rfl
    · rw [hdg] at s2
      go_wp2_with fail
      (try simp only [Exit.inBlock, Exit.then])
      refine bodyPost_ret (results_cell_row rfl _ _ (w.heap.size + 1) 46 #[.int .i64 X, .int .i64 Y, .bool q] (0, 0) _ rfl ((((hR3.far (p := ⟨w.heap.size, 2, none⟩) (by simp) (.bool q)).set_ 0 (.int .i64 X)).set_ 1 (.int .i64 Y)).set_ 2 (.bool q)) Try.underlying46 rfl size_span) rfl ?_
      refine ⟨?_, ((((hbl3.setCell (p := ⟨w.heap.size, 2, none⟩) (Nat.le_refl _) (.bool q)).setCell (p := ⟨w.heap.size + 1, 0, none⟩) (by simp) (.int .i64 X)).setCell (p := ⟨w.heap.size + 1, 1, none⟩) (by simp) (.int .i64 Y)).setCell (p := ⟨w.heap.size + 1, 2, none⟩) (by simp) (.bool q))⟩
      rw [HM.out, hdg]
      rfl
  · have HQ := hid (decide_eq_false hXY)
    have HM : Hid (meetS d ⟨l, h, q⟩ = ⟨1, 0, d.gone && q⟩) := by show _ = _; rw [hms.out, if_neg hXY]
    rw [HQ.out]
    clear hXY hms
    cases hdg : d.gone
    · rw [hdg] at s2
      go_wp2_with fail
      (try simp only [Exit.inBlock, Exit.then])
      refine bodyPost_ret (results_cell_row rfl _ _ (w.heap.size + 1) 46 #[.int .i64 1, .int .i64 0, .bool false] (0, 0) _ rfl ((((((hR3.far (p := ⟨w.heap.size, 0, none⟩) (by simp) (.int .i64 1)).far (p := ⟨w.heap.size, 1, none⟩) (by simp) (.int .i64 0)).far (p := ⟨w.heap.size, 2, none⟩) (by simp) (.bool false)).set_ 0 (.int .i64 1)).set_ 1 (.int .i64 0)).set_ 2 (.bool false)) Try.underlying46 rfl size_span) rfl ?_
      refine ⟨?_, ((((((hbl3.setCell (p := ⟨w.heap.size, 0, none⟩) (Nat.le_refl _) (.int .i64 1)).setCell (p := ⟨w.heap.size, 1, none⟩) (Nat.le_refl _) (.int .i64 0)).setCell (p := ⟨w.heap.size, 2, none⟩) (Nat.le_refl _) (.bool false)).setCell (p := ⟨w.heap.size + 1, 0, none⟩) (by simp) (.int .i64 1)).setCell (p := ⟨w.heap.size + 1, 1, none⟩) (by simp) (.int .i64 0)).setCell (p := ⟨w.heap.size + 1, 2, none⟩) (by simp) (.bool false))⟩
      rw [HM.out, hdg]
      rfl
    · rw [hdg] at s2
      go_wp2_with fail
      (try simp only [Exit.inBlock, Exit.then])
      refine bodyPost_ret (results_cell_row rfl _ _ (w.heap.size + 1) 46 #[.int .i64 1, .int .i64 0, .bool q] (0, 0) _ rfl ((((((hR3.far (p := ⟨w.heap.size, 0, none⟩) (by simp) (.int .i64 1)).far (p := ⟨w.heap.size, 1, none⟩) (by simp) (.int .i64 0)).far (p := ⟨w.heap.size, 2, none⟩) (by simp) (.bool q)).set_ 0 (.int .i64 1)).set_ 1 (.int .i64 0)).set_ 2 (.bool q)) Try.underlying46 rfl size_span) rfl ?_
      refine ⟨?_, ((((((hbl3.setCell (p := ⟨w.heap.size, 0, none⟩) (Nat.le_refl _) (.int .i64 1)).setCell (p := ⟨w.heap.size, 1, none⟩) (Nat.le_refl _) (.int .i64 0)).setCell (p := ⟨w.heap.size, 2, none⟩) (Nat.le_refl _) (.bool q)).setCell (p := ⟨w.heap.size + 1, 0, none⟩) (by simp) (.int .i64 1)).setCell (p := ⟨w.heap.size + 1, 1, none⟩) (by simp) (.int .i64 0)).setCell (p := ⟨w.heap.size + 1, 2, none⟩) (by simp) (.bool q))⟩
      rw [HM.out, hdg]
      rfl
end Go.Proofs.Ythdilioflhknpaa
