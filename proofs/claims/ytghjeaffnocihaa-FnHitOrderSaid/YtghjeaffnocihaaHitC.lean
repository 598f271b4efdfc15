/- The walk of the law of the order of Hits. -/
import Derived.Test.YtghjeaffnocihaaHitB
namespace Go.Proofs.Ytghjeaffnocihaa
open Go.RowKit Go.Deep
set_option linter.unusedVariables false
set_option linter.unusedSimpArgs false

theorem less_trans {i s j t k u : Int} (h1 : lessB i s j t = true) (h2 : lessB j t k u = true) : lessB i s k u = true := by
  unfold lessB at *
  simp only [Bool.or_eq_true, Bool.and_eq_true, decide_eq_true_eq] at *
  omega
theorem less_self (i s : Int) : lessB i s i s = false := by unfold lessB; simp
theorem less_other {i s j t : Int} (h : ¬ (i = j ∧ s = t)) : lessB j t i s = !lessB i s j t := by
  unfold lessB
  cases h1 : (decide (t < s) || (decide (s = t) && decide (i < j)))
  · simp only [Bool.or_eq_false_iff, Bool.and_eq_false_iff, decide_eq_false_iff_not] at h1
    simp only [Bool.not_false, Bool.or_eq_true, Bool.and_eq_true, decide_eq_true_eq]
    omega
  · simp only [Bool.or_eq_true, Bool.and_eq_true, decide_eq_true_eq] at h1
    simp only [Bool.not_true, Bool.or_eq_false_iff, Bool.and_eq_false_iff, decide_eq_false_iff_not]
    omega
/-- The four boxes of the law. -/
def H4 (w0 : World) (p q : Nat) (i s j t k u : Int) (w : World) : Prop := Blk w p 94 #[.int .i64 i, .int .i64 s] ∧ Blk w (p + 1) 94 #[.int .i64 j, .int .i64 t] ∧ Blk w q 94 #[.int .i64 k, .int .i64 u] ∧ Below w0.heap.size w0 w
theorem H4.below {w0 w w' : World} {p q : Nat} {i s j t k u : Int} (h : H4 w0 p q i s j t k u w) (hb : Below w.heap.size w w') : H4 w0 p q i s j t k u w' :=
  ⟨h.1.below hb h.1.lt, h.2.1.below hb h.2.1.lt, h.2.2.1.below hb h.2.2.1.lt, h.2.2.2.trans (hb.mono h.2.2.2.size)⟩
theorem H4.cells {w0 w : World} {p q : Nat} {i s j t k u : Int} (h : H4 w0 p q i s j t k u w) :
    w.cell? ⟨p, 0, none⟩ = some (.int .i64 i) ∧ w.cell? ⟨p, 1, none⟩ = some (.int .i64 s) ∧ w.cell? ⟨p + 1, 0, none⟩ = some (.int .i64 j) ∧ w.cell? ⟨p + 1, 1, none⟩ = some (.int .i64 t) ∧ w.cell? ⟨q, 0, none⟩ = some (.int .i64 k) ∧ w.cell? ⟨q, 1, none⟩ = some (.int .i64 u) :=
  ⟨h.1.cell 0, h.1.cell 1, h.2.1.cell 0, h.2.1.cell 1, h.2.2.1.cell 0, h.2.2.1.cell 1⟩

set_option maxRecDepth 100000 in
set_option maxHeartbeats 4000000 in
theorem lawHitOrder (A : Option Addr) (n cap : Nat) (A' : Option Addr) (n' cap' : Nat) (w : World) (h : Bs w w.heap.size A n) (h' : Bs w w.heap.size A' n') :
    Calls Try.prog 15 #[.slice A n cap, .slice A' n' cap'] w fun e w' => e = .returned (.bool true) ∧ Below w.heap.size w w' := by
  by_cases hbig : (1048576 : Int) < (n : Int)
  · go_enter Try.func15, Try.ntmps15
    go_wp2_with fail
    refine (big_yes A n cap _ hbig).mono ?_
    rintro e w1 ⟨rfl, rfl⟩
    go_wp2_with fail
    go_ret
    exact ⟨rfl, Below.refl _ _⟩
  by_cases hbig' : (1048576 : Int) < (n' : Int)
  · go_enter Try.func15, Try.ntmps15
    go_wp2_with fail
    refine (big_no A n cap _ (by omega)).mono ?_
    rintro e w1 ⟨rfl, rfl⟩
    go_wp2_with fail
    refine (big_yes A' n' cap' _ hbig').mono ?_
    rintro e w1 ⟨rfl, rfl⟩
    go_wp2_with fail
    go_ret
    exact ⟨rfl, Below.refl _ _⟩
  go_enter Try.func15, Try.ntmps15
  go_wp2_with fail
  refine (big_no A n cap _ (by omega)).mono ?_
  rintro e w1 ⟨rfl, rfl⟩
  go_wp2_with fail
  refine (big_no A' n' cap' _ (by omega)).mono ?_
  rintro e w1 ⟨rfl, rfl⟩
  go_wp2_with fail
  refine (drawHits A n cap _ h (by omega)).mono ?_
  rintro e w1 ⟨i, s, j, t, rfl, hb1⟩
  obtain ⟨p, hp⟩ : ∃ p, w1.heap.size = p := ⟨_, rfl⟩
  have x1 : Blk ((w1.alloc (.cells #[.int .i64 i, .int .i64 s] 94)).alloc (.cells #[.int .i64 j, .int .i64 t] 94)) w1.heap.size 94 #[.int .i64 i, .int .i64 s] := (Blk.new w1 _ _).alloc _
  have x2 : Blk ((w1.alloc (.cells #[.int .i64 i, .int .i64 s] 94)).alloc (.cells #[.int .i64 j, .int .i64 t] 94)) (w1.heap.size + 1) 94 #[.int .i64 j, .int .i64 t] := Blk.new2 w1 _ _ _
  have xb := (hb1.alloc hb1.size (.cells #[.int .i64 i, .int .i64 s] 94)).alloc (by rw [World.size_alloc]; have := hb1.size; omega) (.cells #[.int .i64 j, .int .i64 t] 94)
  go_wp2_with fail
  obtain ⟨W1, hW1⟩ : ∃ W, (w1.alloc (.cells #[.int .i64 i, .int .i64 s] 94)).alloc (.cells #[.int .i64 j, .int .i64 t] 94) = W := ⟨_, rfl⟩
  rw [hW1] at x1 x2 xb ⊢
  rw [hp] at x1 x2
  try rw [hp]
  clear hW1 hp hb1
  refine (drawHits A' n' cap' W1 (Bs.more (Bs.keep h' fun _ hp => xb.cell hp) xb.size) (by omega)).mono ?_
  rintro e w2 ⟨k, u, k', u', rfl, hb2⟩
  have y1 := (x1.below hb2 x1.lt).alloc (.cells #[.int .i64 k, .int .i64 u] 94) |>.alloc (.cells #[.int .i64 k', .int .i64 u'] 94)
  have y2 := (x2.below hb2 x2.lt).alloc (.cells #[.int .i64 k, .int .i64 u] 94) |>.alloc (.cells #[.int .i64 k', .int .i64 u'] 94)
  have y3 : Blk ((w2.alloc (.cells #[.int .i64 k, .int .i64 u] 94)).alloc (.cells #[.int .i64 k', .int .i64 u'] 94)) w2.heap.size 94 #[.int .i64 k, .int .i64 u] := (Blk.new w2 _ _).alloc _
  have yb0 := xb.trans (hb2.mono xb.size)
  have yb := (yb0.alloc yb0.size (.cells #[.int .i64 k, .int .i64 u] 94)).alloc (by rw [World.size_alloc]; have := yb0.size; omega) (.cells #[.int .i64 k', .int .i64 u'] 94)
  have H2 : Hid (H4 w p w2.heap.size i s j t k u ((w2.alloc (.cells #[.int .i64 k, .int .i64 u] 94)).alloc (.cells #[.int .i64 k', .int .i64 u'] 94))) := ⟨y1, y2, y3, yb⟩
  clear x1 x2 xb hb2 y1 y2 y3 yb0 yb
  obtain ⟨a0, a1, b0, b1, c0, c1⟩ := H2.out.cells
  go_wp2_with fail
  obtain ⟨W2, hW2⟩ : ∃ W, (w2.alloc (.cells #[.int .i64 k, .int .i64 u] 94)).alloc (.cells #[.int .i64 k', .int .i64 u'] 94) = W := ⟨_, rfl⟩
  rw [hW2] at H2 a0 a1 b0 b1 c0 c1 ⊢
  obtain ⟨q, hq⟩ : ∃ q, w2.heap.size = q := ⟨_, rfl⟩
  rw [hq] at H2 c0 c1
  try rw [hq]
  clear hW2 hq
  refine (iLess_any i s j t W2).mono ?_
  rintro e w3 ⟨rfl, hb3⟩
  have H3 := hid (H2.out.below hb3)
  clear H2 hb3 a0 a1 b0 b1 c0 c1
  obtain ⟨a0, a1, b0, b1, c0, c1⟩ := H3.out.cells
  go_wp2_with fail
  refine (iLess_any j t i s w3).mono ?_
  rintro e w4 ⟨rfl, hb4⟩
  have H5 := hid (H3.out.below hb4)
  clear H3 hb4 a0 a1 b0 b1 c0 c1
  obtain ⟨a0, a1, b0, b1, c0, c1⟩ := H5.out.cells
  go_wp2_with fail
  refine (sLess_any i s j t w4).mono ?_
  rintro e w5 ⟨rfl, hb5⟩
  have H6 := hid (H5.out.below hb5)
  clear H5 hb5 a0 a1 b0 b1 c0 c1
  obtain ⟨a0, a1, b0, b1, c0, c1⟩ := H6.out.cells
  have he := fun wx => eqHit i s j t wx
  by_cases hx : i = j ∧ s = t
  · obtain ⟨rfl, rfl⟩ := hx
    rw [less_self]
    have e1 : (i == i && s == s) = true := by simp
    rw [e1] at he
    go_wp2_with fail
    go_ret
    exact ⟨rfl, H6.out.2.2.2⟩
  · have hl := less_other hx
    rw [hl]
    have e1 : (i == j && s == t) = false := by
      rw [Bool.eq_false_iff]
      intro q
      rw [Bool.and_eq_true, beq_iff_eq, beq_iff_eq] at q
      exact hx q
    rw [e1] at he
    cases hL : lessB i s j t with
    | false =>
      clear hl hx
      go_wp2_with fail
      go_ret
      exact ⟨rfl, H6.out.2.2.2⟩
    | true =>
      have HL := hid hL
      clear hl hx hL
      go_wp2_with fail
      refine (iLess_any j t k u w5).mono ?_
      rintro e w6 ⟨rfl, hb6⟩
      have H7 := hid (H6.out.below hb6)
      clear H6 hb6 a0 a1 b0 b1 c0 c1
      obtain ⟨a0, a1, b0, b1, c0, c1⟩ := H7.out.cells
      cases hM : lessB j t k u with
      | false =>
        go_wp2_with fail
        go_ret
        exact ⟨rfl, H7.out.2.2.2⟩
      | true =>
        have HM := hid (less_trans HL.out hM)
        go_wp2_with fail
        refine (iLess_any i s k u w6).mono ?_
        rintro e w7 ⟨rfl, hb7⟩
        rw [HM.out]
        have H8 := hid (H7.out.below hb7)
        go_wp2_with fail
        go_ret
        exact ⟨rfl, H8.out.2.2.2⟩
end Go.Proofs.Ytghjeaffnocihaa
