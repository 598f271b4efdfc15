/- Hits: which of two is better, on both sides; the walk of the exact law of HitLess. -/
import Derived.Test.YtghjeaffnocihaaLaw
import Derived.Test.YtghjeaffnocihaaK1
import Derived.Test.YtghjeaffnocihaaK2
import Derived.Below
import Derived.Deep.RegionHeld3
namespace Go.Proofs.Ytghjeaffnocihaa
open Go.RowKit Go.Deep
set_option linter.unusedVariables false
set_option linter.unusedSimpArgs false

abbrev hitV (i s : Int) : Value := .agg #[.int .i64 i, .int .i64 s]
/-- Is the first Hit better than the second one? -/
def lessB (i s j t : Int) : Bool := decide (t < s) || (decide (s = t) && decide (i < j))
theorem size_hit : (Try.prog.info? 94).map (·.size) = some 2 := by kernel_rfl

set_option maxRecDepth 100000 in
set_option maxHeartbeats 1000000 in
theorem iLess_any (i s j t : Int) (w : World) :
    Calls Try.prog 65 #[hitV i s, hitV j t] w fun e w' => e = .returned (.bool (lessB i s j t)) ∧ Below w.heap.size w w' := by
  have hb := ((Below.refl w.heap.size w).alloc (Nat.le_refl _) (.cells #[.int .i64 i, .int .i64 s] 94)).alloc (by simp) (.cells #[.int .i64 j, .int .i64 t] 94)
  by_cases he : s = t
  · subst he
    have q1 : (s != s) = false := by simp
    have e1 : lessB i s j s = decide (i < j) := by unfold lessB; simp
    rw [e1]
    go_enter Try.func65, Try.ntmps65
    go_wp2_with fail
    go_ret
    exact ⟨rfl, hb⟩
  · have q1 : (s != t) = true := by simpa using he
    have e1 : lessB i s j t = decide (s > t) := by unfold lessB; rw [decide_eq_false he, Bool.false_and, Bool.or_false]
    rw [e1]
    go_enter Try.func65, Try.ntmps65
    go_wp2_with fail
    go_ret
    exact ⟨rfl, hb⟩

set_option maxRecDepth 100000 in
set_option maxHeartbeats 1000000 in
theorem sLess_any (i s j t : Int) (w : World) :
    Calls Try.prog 66 #[hitV i s, hitV j t] w fun e w' => e = .returned (.bool (lessB i s j t)) ∧ Below w.heap.size w w' := by
  have hb := ((Below.refl w.heap.size w).alloc (Nat.le_refl _) (.cells #[.int .i64 i, .int .i64 s] 94)).alloc (by simp) (.cells #[.int .i64 j, .int .i64 t] 94)
  by_cases hgt : s > t
  · have d1 : decide (s > t) = true := decide_eq_true hgt
    have e1 : lessB i s j t = true := by unfold lessB; rw [decide_eq_true hgt]; rfl
    rw [e1]
    clear hgt
    go_enter Try.func66, Try.ntmps66
    go_wp2_with fail
    go_ret
    exact ⟨rfl, hb⟩
  · have d1 : decide (s > t) = false := decide_eq_false hgt
    by_cases he : s = t
    · subst he
      have q1 : (s == s) = true := by simp
      have e1 : lessB i s j s = decide (i < j) := by unfold lessB; simp
      rw [e1]
      clear hgt
      go_enter Try.func66, Try.ntmps66
      go_wp2_with fail
      go_ret
      exact ⟨rfl, hb⟩
    · have q1 : (s == t) = false := by simpa using he
      have e1 : lessB i s j t = false := by unfold lessB; rw [decide_eq_false hgt, decide_eq_false he]; rfl
      rw [e1]
      clear hgt he
      go_enter Try.func66, Try.ntmps66
      go_wp2_with fail
      go_ret
      exact ⟨rfl, hb⟩

set_option maxRecDepth 100000 in
set_option maxHeartbeats 1000000 in
theorem toHit_any (i s : Int) (w : World) :
    Calls Try.prog 67 #[hitV i s] w fun e w' => e = .returned (hitV i s) ∧ Below w.heap.size w w' := by
  have hX : Blk (((w.alloc (.cells #[.int .i64 i, .int .i64 s] 99)).alloc (.cells #[.int .i64 i, .int .i64 s] 94)).alloc (.cells #[.int .i64 i, .int .i64 s] 94)) (w.heap.size + 1) 94 #[.int .i64 i, .int .i64 s] := (Blk.new2 w _ _ _).alloc _
  go_enter Try.func67, Try.ntmps67
  have HX := hid hX
  clear hX
  go_wp2_with fail
  (try simp only [Exit.inBlock, Exit.then])
  refine bodyPost_ret (results_cell_row rfl _ _ (w.heap.size + 1) 94 #[.int .i64 i, .int .i64 s] (0, 0) _ rfl HX.out Try.underlying94 rfl size_hit) rfl ?_
  exact ⟨rfl, (((Below.refl w.heap.size w).alloc (Nat.le_refl _) _).alloc (by simp) _).alloc (by simp; omega) _⟩

/-- The two Hits in their boxes. -/
def HS (w0 : World) (x0 x1 y0 y1 : Value) (w : World) : Prop := Blk w w0.heap.size 99 #[x0, x1] ∧ Blk w (w0.heap.size + 1) 99 #[y0, y1] ∧ Below w0.heap.size w0 w
theorem HS.below {w0 w w' : World} {x0 x1 y0 y1 : Value} (h : HS w0 x0 x1 y0 y1 w) (hb : Below w.heap.size w w') : HS w0 x0 x1 y0 y1 w' :=
  ⟨h.1.below hb h.1.lt, h.2.1.below hb h.2.1.lt, h.2.2.trans (hb.mono h.2.2.size)⟩
theorem HS.drew {w0 w : World} {x0 x1 y0 y1 : Value} (h : HS w0 x0 x1 y0 y1 w) : HS w0 x0 x1 y0 y1 w.drew := h.below (Below.refl _ w).drew
theorem HS.cells {w0 w : World} {x0 x1 y0 y1 : Value} (h : HS w0 x0 x1 y0 y1 w) : w.cell? ⟨w0.heap.size, 0, none⟩ = some x0 ∧ w.cell? ⟨w0.heap.size, 1, none⟩ = some x1 ∧ w.cell? ⟨w0.heap.size + 1, 0, none⟩ = some y0 ∧ w.cell? ⟨w0.heap.size + 1, 1, none⟩ = some y1 :=
  ⟨h.1.cell 0, h.1.cell 1, h.2.1.cell 0, h.2.1.cell 1⟩

set_option maxRecDepth 100000 in
set_option maxHeartbeats 4000000 in
theorem lawHitLess (i s j t : Int) (w : World) :
    Calls Try.prog 16 #[hitV i s, hitV j t] w fun e w' => e = .returned (.bool true) ∧ Below w.heap.size w w' := by
  have hA0 : HS w (.int .i64 i) (.int .i64 s) (.int .i64 j) (.int .i64 t) ((w.alloc (.cells #[.int .i64 i, .int .i64 s] 99)).alloc (.cells #[.int .i64 j, .int .i64 t] 99)) := ⟨(Blk.new w _ _).alloc _, Blk.new2 w _ _ _, ((Below.refl _ w).alloc (Nat.le_refl _) _).alloc (by simp) _⟩
  obtain ⟨L, hL⟩ : ∃ L, lessB i s j t = L := ⟨_, rfl⟩
  have HL := hid hL
  clear hL
  go_enter Try.func16, Try.ntmps16
  go_wp2_with fail
  obtain ⟨W0, hW0⟩ : ∃ W, (w.alloc (.cells #[.int .i64 i, .int .i64 s] 99)).alloc (.cells #[.int .i64 j, .int .i64 t] 99) = W := ⟨_, rfl⟩
  rw [hW0] at hA0 ⊢
  clear hW0
  have D0 := hid hA0.drew
  clear hA0
  go_region_held3 (fun w' => w'.cell? ⟨w.heap.size, 0, none⟩ = some (.int .i64 i) ∧ w'.cell? ⟨w.heap.size, 1, none⟩ = some (.int .i64 s) ∧ w'.cell? ⟨w.heap.size + 1, 0, none⟩ = some (.int .i64 j) ∧ w'.cell? ⟨w.heap.size + 1, 1, none⟩ = some (.int .i64 t))
    (first | with_reducible exact HS.cells D0.out | with_reducible exact HS.cells D1.out | with_reducible exact HS.cells D2.out | with_reducible exact HS.cells D3.out)
    (first
      | (go_at_call 67; (with_reducible refine Calls.mono (toHit_any i s W0.drew) ?_); rintro e w1 ⟨rfl, hb1⟩; have D1 := hid (D0.out.below hb1); clear hb1)
      | (go_at_call 67; (with_reducible refine Calls.mono (toHit_any j t w1) ?_); rintro e w2 ⟨rfl, hb2⟩; have D2 := hid (D1.out.below hb2); clear hb2)
      | (go_at_call 66; (with_reducible refine Calls.mono (sLess_any i s j t w2) ?_); rintro e w3 ⟨rfl, hb3⟩; rw [HL.out]; have D3 := hid (D2.out.below hb3); clear hb3))
  all_goals
    have E0 := hid D3.out.drew
    clear D0 D1 D2
    go_wp2_with fail
    go_region_held3 (fun w' => w'.cell? ⟨w.heap.size, 0, none⟩ = some (.int .i64 i) ∧ w'.cell? ⟨w.heap.size, 1, none⟩ = some (.int .i64 s) ∧ w'.cell? ⟨w.heap.size + 1, 0, none⟩ = some (.int .i64 j) ∧ w'.cell? ⟨w.heap.size + 1, 1, none⟩ = some (.int .i64 t))
      (first | with_reducible exact HS.cells E0.out | with_reducible exact HS.cells E1.out | with_reducible exact HS.cells E2.out | with_reducible exact HS.cells E3.out)
      (first
        | (go_at_call 67; (with_reducible refine Calls.mono (toHit_any i s w3.drew) ?_); rintro e w4 ⟨rfl, hb1⟩; have E1 := hid (E0.out.below hb1); clear hb1)
        | (go_at_call 67; (with_reducible refine Calls.mono (toHit_any j t w4) ?_); rintro e w5 ⟨rfl, hb2⟩; have E2 := hid (E1.out.below hb2); clear hb2)
        | (go_at_call 65; (with_reducible refine Calls.mono (iLess_any i s j t w5) ?_); rintro e w6 ⟨rfl, hb3⟩; rw [HL.out]; have E3 := hid (E2.out.below hb3); clear hb3))
  all_goals
    have q : (L != L) = false := by simp
    go_wp2_with fail
    go_ret
    exact ⟨rfl, E3.out.2.2⟩
end Go.Proofs.Ytghjeaffnocihaa
