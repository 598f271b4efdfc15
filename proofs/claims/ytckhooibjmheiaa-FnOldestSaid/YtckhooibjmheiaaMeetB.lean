/- The other side's meet of two spans. -/
import Derived.Test.YtckhooibjmheiaaK6
namespace Go.Proofs.Ytckhooibjmheiaa
open Go.RowKit Go.Deep

set_option maxRecDepth 100000 in
set_option maxHeartbeats 4000000 in
theorem l3Meet_any (a b : Sp) (w : World) :
    Calls Try.prog 160 #[spV a, spV b] w fun e w' => e = .returned (spV (meetS a b)) ∧ Below w.heap.size w w' := by
  have hms : Hid (meetS a b = if max a.lo b.lo ≤ min a.hi b.hi then ⟨max a.lo b.lo, min a.hi b.hi, a.gone && b.gone⟩ else ⟨1, 0, a.gone && b.gone⟩) := rfl
  have hX : (if a.lo < b.lo then b.lo else a.lo) = max a.lo b.lo := by split <;> omega
  have hY : (if b.hi < a.hi then b.hi else a.hi) = min a.hi b.hi := by split <;> omega
  generalize max a.lo b.lo = X at *
  generalize min a.hi b.hi = Y at *
  by_cases hXY : X ≤ Y
  · have HM : Hid (meetS a b = ⟨X, Y, a.gone && b.gone⟩) := by show _ = _; rw [hms.out, if_pos hXY]
    clear hms
    cases hdg : a.gone
    · go_enter Try.func160, Try.ntmps160
      go_wp2_with fail
      refine bodyPost_ret (results_cell_row rfl _ _ (w.heap.size + 1 + 1) 74 #[.int .i64 X, .int .i64 Y, .bool false] (0, 0) _ rfl ((Blk.new3 w (.cells #[.int .i64 a.lo, .int .i64 a.hi, .bool false] 74) (.cells #[.int .i64 b.lo, .int .i64 b.hi, .bool b.gone] 74) 74 #[.int .i64 X, .int .i64 Y, .bool false]).alloc (.cells #[.int .i64 X, .int .i64 Y, .bool false] 74)) Try.underlying74 rfl size_span) rfl ?_
      refine ⟨?_, ((((Below.refl w.heap.size w).alloc (Nat.le_refl _) (.cells #[.int .i64 a.lo, .int .i64 a.hi, .bool false] 74)).alloc (by simp) (.cells #[.int .i64 b.lo, .int .i64 b.hi, .bool b.gone] 74)).alloc (by simp; omega) (.cells #[.int .i64 X, .int .i64 Y, .bool false] 74)).alloc (by simp; omega) (.cells #[.int .i64 X, .int .i64 Y, .bool false] 74)⟩
      rw [HM.out, hdg]
      rfl
    · go_enter Try.func160, Try.ntmps160
      go_wp2_with fail
      refine bodyPost_ret (results_cell_row rfl _ _ (w.heap.size + 1 + 1) 74 #[.int .i64 X, .int .i64 Y, .bool b.gone] (0, 0) _ rfl ((Blk.new3 w (.cells #[.int .i64 a.lo, .int .i64 a.hi, .bool true] 74) (.cells #[.int .i64 b.lo, .int .i64 b.hi, .bool b.gone] 74) 74 #[.int .i64 X, .int .i64 Y, .bool b.gone]).alloc (.cells #[.int .i64 X, .int .i64 Y, .bool b.gone] 74)) Try.underlying74 rfl size_span) rfl ?_
      refine ⟨?_, ((((Below.refl w.heap.size w).alloc (Nat.le_refl _) (.cells #[.int .i64 a.lo, .int .i64 a.hi, .bool true] 74)).alloc (by simp) (.cells #[.int .i64 b.lo, .int .i64 b.hi, .bool b.gone] 74)).alloc (by simp; omega) (.cells #[.int .i64 X, .int .i64 Y, .bool b.gone] 74)).alloc (by simp; omega) (.cells #[.int .i64 X, .int .i64 Y, .bool b.gone] 74)⟩
      rw [HM.out, hdg]
      rfl
  · have HM : Hid (meetS a b = ⟨1, 0, a.gone && b.gone⟩) := by show _ = _; rw [hms.out, if_neg hXY]
    clear hms
    cases hdg : a.gone
    · go_enter Try.func160, Try.ntmps160
      go_wp2_with fail
      refine bodyPost_ret (results_cell_row rfl _ _ (w.heap.size + 1 + 1) 74 #[.int .i64 1, .int .i64 0, .bool false] (0, 0) _ rfl ((Blk.new3 w (.cells #[.int .i64 a.lo, .int .i64 a.hi, .bool false] 74) (.cells #[.int .i64 b.lo, .int .i64 b.hi, .bool b.gone] 74) 74 #[.int .i64 1, .int .i64 0, .bool false]).alloc (.cells #[.int .i64 1, .int .i64 0, .bool false] 74)) Try.underlying74 rfl size_span) rfl ?_
      refine ⟨?_, ((((Below.refl w.heap.size w).alloc (Nat.le_refl _) (.cells #[.int .i64 a.lo, .int .i64 a.hi, .bool false] 74)).alloc (by simp) (.cells #[.int .i64 b.lo, .int .i64 b.hi, .bool b.gone] 74)).alloc (by simp; omega) (.cells #[.int .i64 1, .int .i64 0, .bool false] 74)).alloc (by simp; omega) (.cells #[.int .i64 1, .int .i64 0, .bool false] 74)⟩
      rw [HM.out, hdg]
      rfl
    · go_enter Try.func160, Try.ntmps160
      go_wp2_with fail
      refine bodyPost_ret (results_cell_row rfl _ _ (w.heap.size + 1 + 1) 74 #[.int .i64 1, .int .i64 0, .bool b.gone] (0, 0) _ rfl ((Blk.new3 w (.cells #[.int .i64 a.lo, .int .i64 a.hi, .bool true] 74) (.cells #[.int .i64 b.lo, .int .i64 b.hi, .bool b.gone] 74) 74 #[.int .i64 1, .int .i64 0, .bool b.gone]).alloc (.cells #[.int .i64 1, .int .i64 0, .bool b.gone] 74)) Try.underlying74 rfl size_span) rfl ?_
      refine ⟨?_, ((((Below.refl w.heap.size w).alloc (Nat.le_refl _) (.cells #[.int .i64 a.lo, .int .i64 a.hi, .bool true] 74)).alloc (by simp) (.cells #[.int .i64 b.lo, .int .i64 b.hi, .bool b.gone] 74)).alloc (by simp; omega) (.cells #[.int .i64 1, .int .i64 0, .bool b.gone] 74)).alloc (by simp; omega) (.cells #[.int .i64 1, .int .i64 0, .bool b.gone] 74)⟩
      rw [HM.out, hdg]
      rfl
end Go.Proofs.Ytckhooibjmheiaa
