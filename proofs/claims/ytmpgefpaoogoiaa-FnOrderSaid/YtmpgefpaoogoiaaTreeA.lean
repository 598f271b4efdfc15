/- Contracts on single nodes, on both sides. -/
import Derived.Test.YtmpgefpaoogoiaaDocB
namespace Go.Proofs.Ytmpgefpaoogoiaa
open Go.RowKit Go.Deep

/-- A node as the program's value. -/
abbrev ndV (d : Nd) : Value := .agg #[.int .i64 d.feat, .int .i64 d.cut, .int .i64 d.left, .int .i64 d.right, .bool d.miss, .int .i64 d.value]

@[go_sem] theorem buildNode (x : Int) (w : World) : (Instr.build 135 #[(5, .int .i64 x)]).run Try.prog w = .ok (.agg #[.int .i64 0, .int .i64 0, .int .i64 0, .int .i64 0, .bool false, .int .i64 x]) w := run_build w 135 _ _ (by kernel_rfl)
theorem eqNd (a b : Nd) (w : World) : (Op.equalIn 10000 135 (.agg #[.int .i64 a.feat, .int .i64 a.cut, .int .i64 a.left, .int .i64 a.right, .bool a.miss, .int .i64 a.value]) (.agg #[.int .i64 b.feat, .int .i64 b.cut, .int .i64 b.left, .int .i64 b.right, .bool b.miss, .int .i64 b.value])).run Try.prog w =
    .ok (a.feat == b.feat && (a.cut == b.cut && (a.left == b.left && (a.right == b.right && (a.miss == b.miss && a.value == b.value))))) w := by
  obtain ⟨a0, a1, a2, a3, a4, a5⟩ := a
  obtain ⟨b0, b1, b2, b3, b4, b5⟩ := b
  have u2 := Try.underlying2
  have p2 := Try.isAgg2
  have z2 := Try.sizeOf2
  have u4 := Try.underlying4
  have p4 := Try.isAgg4
  have z4 := Try.sizeOf4
  have hS : Try.prog.underlying 135 = some (.struct (Try.prog.fieldsOf 135)) := by kernel_rfl
  have hp : Try.prog.stoodInHeld 135 = false := by kernel_rfl
  rw [show (10000 : Nat) = 9999 + 1 from rfl, run_equalIn_agg w 9999 135 _ _ hS hp]
  simp only [Program.fieldsOf, Try.underlying135]
  go_simp
  by_cases h1 : a0 = b0
  · by_cases h2 : a1 = b1
    · by_cases h3 : a2 = b2
      · by_cases h4 : a3 = b3
        · by_cases h5 : a4 = b4
          · by_cases h6 : a5 = b5 <;> simp [h1, h2, h3, h4, h5, h6]
          · simp [h1, h2, h3, h4, h5]
        · simp [h1, h2, h3, h4]
      · simp [h1, h2, h3]
    · simp [h1, h2]
  · simp [h1]

theorem isLeaf_any (d : Nd) (w : World) : Calls Try.prog 145 #[ndV d] w fun e w' => e = .returned (.bool (d.left == 0)) ∧ Below w.heap.size w w' := by
  go_enter Try.func145, Try.ntmps145
  go_wp2_with fail
  go_ret
  exact ⟨rfl, (Below.refl _ _).alloc (Nat.le_refl _) _⟩

theorem goesLeft_any (d : Nd) (x : Int) (w : World) : Calls Try.prog 146 #[ndV d, .int .i64 x] w fun e w' => e = .returned (.bool (goL d x)) ∧ Below w.heap.size w w' := by
  cases hx : (x == 9999999)
  all_goals
    go_enter Try.func146, Try.ntmps146
    go_wp2_with fail
    go_ret
    exact ⟨by simp at hx; simp [goL, hx], (Below.refl _ _).alloc (Nat.le_refl _) _⟩

theorem leafOk_any (d : Nd) (w : World) : Calls Try.prog 178 #[ndV d] w fun e w' => e = .returned (.bool (lfB d)) ∧ Below w.heap.size w w' := by
  have he := fun wx => eqNd d ⟨0, 0, 0, 0, false, d.value⟩ wx
  simp only at he
  cases hq : (d.feat == 0 && (d.cut == 0 && (d.left == 0 && (d.right == 0 && (d.miss == false && d.value == d.value)))))
  · rw [hq] at he
    go_enter Try.func178, Try.ntmps178
    go_wp2_with fail
    go_ret
    refine ⟨?_, (Below.refl _ _).alloc (Nat.le_refl _) _⟩
    have : lfB d = false := by
      unfold lfB
      simp at hq
      simp
      intro a1 a2 a3 a4 a5
      exact absurd a5 (by simpa using hq a1 a2 a3 a4)
    rw [this]
    rfl
  · rw [hq] at he
    by_cases h1 : -1000000000 ≤ d.value
    · by_cases h2 : d.value ≤ 1000000000
      all_goals
        go_enter Try.func178, Try.ntmps178
        go_wp2_with fail
        go_ret
        refine ⟨?_, (Below.refl _ _).alloc (Nat.le_refl _) _⟩
        simp at hq
        first | (simp [lfB, *]; done) | (simp [lfB, *]; intros; omega)
    · go_enter Try.func178, Try.ntmps178
      go_wp2_with fail
      go_ret
      refine ⟨?_, (Below.refl _ _).alloc (Nat.le_refl _) _⟩
      simp at hq
      first | (simp [lfB, *]; done) | (simp [lfB, *]; intros; omega)

theorem splitOk_any (d : Nd) (f : Int) (w : World) : Calls Try.prog 179 #[ndV d, .int .i64 f] w fun e w' => e = .returned (.bool (spB f d)) ∧ Below w.heap.size w w' := by
  obtain ⟨fe, cu, le, ri, mi, va⟩ := d
  by_cases h1 : 0 ≤ fe
  · by_cases h2 : fe < f
    · by_cases h3 : -1000000 ≤ cu
      · by_cases h4 : cu ≤ 1000000
        all_goals
          go_enter Try.func179, Try.ntmps179
          go_wp2_with fail
          go_ret
          exact ⟨by first | (simp [spB, *]; done) | (simp [spB, *]; intros; omega), (Below.refl _ _).alloc (Nat.le_refl _) _⟩
      · go_enter Try.func179, Try.ntmps179
        go_wp2_with fail
        go_ret
        exact ⟨by first | (simp [spB, *]; done) | (simp [spB, *]; intros; omega), (Below.refl _ _).alloc (Nat.le_refl _) _⟩
    · go_enter Try.func179, Try.ntmps179
      go_wp2_with fail
      go_ret
      exact ⟨by first | (simp [spB, *]; done) | (simp [spB, *]; intros; omega), (Below.refl _ _).alloc (Nat.le_refl _) _⟩
  · go_enter Try.func179, Try.ntmps179
    go_wp2_with fail
    go_ret
    exact ⟨by first | (simp [spB, *]; done) | (simp [spB, *]; intros; omega), (Below.refl _ _).alloc (Nat.le_refl _) _⟩

/-! ### the other side's look at a node -/
theorem Value_any (x : Int) (w : World) : Calls Try.prog 118 #[.int .i64 x] w fun e w' =>
    e = .returned (.bool (decide (-1000000000 ≤ x) && decide (x ≤ 1000000000))) ∧ w = w' := by
  go_enter Try.func118, Try.ntmps118
  go_wp2_with (go_at_call 67; refine (In_any _ _ _ _).mono ?_; rintro e w' ⟨rfl, rfl⟩)
  go_ret
  exact ⟨rfl, rfl⟩

/-- The node at place i of n, as a Bool. -/
def nodeB (f : Int) (n i : Nat) (d : Nd) : Bool :=
  if d.left = 0 then lfB d
  else d.value == 0 && ((decide (0 ≤ d.feat) && decide (d.feat ≤ f - 1)) && ((decide (-1000000 ≤ d.cut) && decide (d.cut ≤ 1000000)) && ((decide ((i : Int) + 1 ≤ d.left) && decide (d.left ≤ (n : Int) - 1)) && ((decide ((i : Int) + 1 ≤ d.right) && decide (d.right ≤ (n : Int) - 1)) && d.left != d.right))))
theorem nodeB_iff (f : Int) (n i : Nat) (d : Nd) : nodeB f n i d = true ↔ Node f n i d := by
  unfold nodeB Node spB
  split
  · exact Iff.rfl
  · simp only [Bool.and_eq_true, decide_eq_true_eq, beq_iff_eq, bne_iff_ne]
    constructor
    · rintro ⟨h1, ⟨h2, h3⟩, ⟨h4, h5⟩, ⟨h6, h7⟩, ⟨h8, h9⟩, h10⟩
      exact ⟨⟨⟨⟨h2, by omega⟩, h4, h5⟩, h1⟩, ⟨h6, h7⟩, ⟨h8, h9⟩, h10⟩
    · rintro ⟨⟨⟨⟨h2, h3⟩, h4, h5⟩, h1⟩, ⟨h6, h7⟩, ⟨h8, h9⟩, h10⟩
      exact ⟨h1, ⟨h2, by omega⟩, ⟨h4, h5⟩, ⟨h6, h7⟩, ⟨h8, h9⟩, h10⟩

set_option maxHeartbeats 1600000 in
theorem Node_leaf (d : Nd) (f : Int) (n i : Nat) (w : World) (h0 : (d.left == 0) = true) :
    Calls Try.prog 157 #[ndV d, .int .i64 i, .int .i64 n, .int .i64 f] w fun e w' => e = .returned (.bool (nodeB f n i d)) ∧ Below w.heap.size w w' := by
  have hN : nodeB f n i d = lfB d := by unfold nodeB; rw [if_pos (by simpa using h0)]
  have HN := hid hN
  clear hN
  have he := fun wx => eqNd d ⟨0, 0, 0, 0, false, d.value⟩ wx
  simp only at he
  cases hq : (d.feat == 0 && (d.cut == 0 && (d.left == 0 && (d.right == 0 && (d.miss == false && d.value == d.value)))))
  · rw [hq] at he
    have hl : lfB d = false := by
      unfold lfB
      simp at hq
      simp
      intro a1 a2 a3 a4 a5
      exact absurd a5 (by simpa using hq a1 a2 a3 a4)
    have HL := hid hl
    clear hl hq
    go_enter Try.func157, Try.ntmps157
    go_wp2_with fail
    go_ret
    exact ⟨by rw [HN.out, HL.out]; rfl, (Below.refl _ _).alloc (Nat.le_refl _) _⟩
  · rw [hq] at he
    have hl : lfB d = (decide (-1000000000 ≤ d.value) && decide (d.value ≤ 1000000000)) := by
      simp only [Bool.and_eq_true] at hq
      obtain ⟨q1, q2, q3, q4, q5, _⟩ := hq
      unfold lfB
      rw [q1, q2, q3, q4, q5]
      rfl
    have HL := hid hl
    clear hl hq
    go_enter Try.func157, Try.ntmps157
    go_wp2_with (go_at_call 118; refine (Value_any _ _).mono ?_; rintro e w' ⟨rfl, rfl⟩)
    go_ret
    exact ⟨by rw [HN.out, HL.out]; rfl, (Below.refl _ _).alloc (Nat.le_refl _) _⟩

set_option maxHeartbeats 1600000 in
theorem Node_split (d : Nd) (f : Int) (n i : Nat) (w : World) (h0 : (d.left == 0) = false) (hn : n ≤ 1000000) (hi : i ≤ 1000000) (hf : 1 ≤ f) (hf6 : f ≤ 6) :
    Calls Try.prog 157 #[ndV d, .int .i64 i, .int .i64 n, .int .i64 f] w fun e w' => e = .returned (.bool (nodeB f n i d)) ∧ Below w.heap.size w w' := by
  have hN : nodeB f n i d = (d.value == 0 && ((decide (0 ≤ d.feat) && decide (d.feat ≤ f - 1)) && ((decide (-1000000 ≤ d.cut) && decide (d.cut ≤ 1000000)) && ((decide ((i : Int) + 1 ≤ d.left) && decide (d.left ≤ (n : Int) - 1)) && ((decide ((i : Int) + 1 ≤ d.right) && decide (d.right ≤ (n : Int) - 1)) && d.left != d.right))))) := by
    unfold nodeB; rw [if_neg (by simpa using h0)]
  have HN := hid hN
  clear hN
  cases hv : (d.value == 0)
  · go_enter Try.func157, Try.ntmps157
    go_wp2_with fail
    go_ret
    exact ⟨by rw [HN.out, hv]; rfl, (Below.refl _ _).alloc (Nat.le_refl _) _⟩
  go_enter Try.func157, Try.ntmps157
  go_wp2_with fail
  refine (In_any _ _ _ _).mono ?_
  rintro e w1 ⟨rfl, rfl⟩
  generalize hq1 : (decide (0 ≤ d.feat) && decide (d.feat ≤ f - 1)) = q1 at HN
  clear hq1
  cases q1
  · go_wp2_with fail
    go_ret
    exact ⟨by rw [HN.out, hv]; rfl, (Below.refl _ _).alloc (Nat.le_refl _) _⟩
  go_wp2_with fail
  refine (Feat_any _ _).mono ?_
  rintro e w1 ⟨rfl, rfl⟩
  generalize hq2 : (decide (-1000000 ≤ d.cut) && decide (d.cut ≤ 1000000)) = q2 at HN
  clear hq2
  cases q2
  · go_wp2_with fail
    go_ret
    exact ⟨by rw [HN.out, hv]; rfl, (Below.refl _ _).alloc (Nat.le_refl _) _⟩
  go_wp2_with fail
  refine (In_any _ _ _ _).mono ?_
  rintro e w1 ⟨rfl, rfl⟩
  generalize hq3 : (decide ((i : Int) + 1 ≤ d.left) && decide (d.left ≤ (n : Int) - 1)) = q3 at HN
  clear hq3
  cases q3
  · go_wp2_with fail
    go_ret
    exact ⟨by rw [HN.out, hv]; rfl, (Below.refl _ _).alloc (Nat.le_refl _) _⟩
  go_wp2_with fail
  refine (In_any _ _ _ _).mono ?_
  rintro e w1 ⟨rfl, rfl⟩
  generalize hq4 : (decide ((i : Int) + 1 ≤ d.right) && decide (d.right ≤ (n : Int) - 1)) = q4 at HN
  clear hq4
  cases q4
  · go_wp2_with fail
    go_ret
    exact ⟨by rw [HN.out, hv]; rfl, (Below.refl _ _).alloc (Nat.le_refl _) _⟩
  go_wp2_with fail
  go_ret
  exact ⟨by rw [HN.out, hv]; rfl, (Below.refl _ _).alloc (Nat.le_refl _) _⟩

theorem Node_any (d : Nd) (f : Int) (n i : Nat) (w : World) (hn : n ≤ 1000000) (hi : i ≤ 1000000) (hf : 1 ≤ f) (hf6 : f ≤ 6) :
    Calls Try.prog 157 #[ndV d, .int .i64 i, .int .i64 n, .int .i64 f] w fun e w' => e = .returned (.bool (nodeB f n i d)) ∧ Below w.heap.size w w' := by
  cases h0 : (d.left == 0)
  · exact Node_split d f n i w h0 hn hi hf hf6
  · exact Node_leaf d f n i w h0
end Go.Proofs.Ytmpgefpaoogoiaa
