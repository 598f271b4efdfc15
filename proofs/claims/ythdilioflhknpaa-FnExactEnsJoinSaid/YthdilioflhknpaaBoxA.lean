/- Contracts on single spans and on boxes, on both sides. -/
import Derived.Test.YthdilioflhknpaaSpanB
import Derived.Test.YthdilioflhknpaaDocD
namespace Go.Proofs.Ythdilioflhknpaa
open Go.RowKit Go.Deep

@[go_sem] theorem buildSpan (x y : Int) (q : Bool) (w : World) : (Instr.build 46 #[(0, .int .i64 x), (1, .int .i64 y), (2, .bool q)]).run Try.prog w = .ok (.agg #[.int .i64 x, .int .i64 y, .bool q]) w := run_build w 46 _ _ (by kernel_rfl)
theorem eqSp (a b : Sp) (w : World) : (Op.equalIn 10000 46 (.agg #[.int .i64 a.lo, .int .i64 a.hi, .bool a.gone]) (.agg #[.int .i64 b.lo, .int .i64 b.hi, .bool b.gone])).run Try.prog w =
    .ok (a.lo == b.lo && (a.hi == b.hi && a.gone == b.gone)) w := by
  obtain ⟨a0, a1, a2⟩ := a
  obtain ⟨b0, b1, b2⟩ := b
  have u2 := Try.underlying2
  have p2 := Try.isAgg2
  have z2 := Try.sizeOf2
  have u4 := Try.underlying4
  have p4 := Try.isAgg4
  have z4 := Try.sizeOf4
  have hS : Try.prog.underlying 46 = some (.struct (Try.prog.fieldsOf 46)) := by kernel_rfl
  have hp : Try.prog.stoodInHeld 46 = false := by kernel_rfl
  rw [show (10000 : Nat) = 9999 + 1 from rfl, run_equalIn_agg w 9999 46 _ _ hS hp]
  simp only [Program.fieldsOf, Try.underlying46]
  go_simp
  by_cases h1 : a0 = b0
  · by_cases h2 : a1 = b1
    · by_cases h3 : a2 = b2 <;> simp [h1, h2, h3]
    · simp [h1, h2]
  · simp [h1]

theorem numbers_any (d : Sp) (w : World) : Calls Try.prog 99 #[spV d] w fun e w' => e = .returned (.bool (decide (d.lo ≤ d.hi))) ∧ Below w.heap.size w w' := by
  go_enter Try.func99, Try.ntmps99
  go_wp2_with fail
  go_ret
  exact ⟨rfl, (Below.refl _ _).alloc (Nat.le_refl _) _⟩
theorem some_any (d : Sp) (w : World) : Calls Try.prog 100 #[spV d] w fun e w' => e = .returned (.bool (decide (d.lo ≤ d.hi))) ∧ Below w.heap.size w w' := by
  go_enter Try.func100, Try.ntmps100
  go_wp2_with fail
  go_ret
  exact ⟨rfl, (Below.refl _ _).alloc (Nat.le_refl _) _⟩

theorem spanB_yes {d : Sp} (h : d.lo ≤ d.hi) : spanB d = (decide (-1000000 ≤ d.lo) && decide (d.hi ≤ 1000000)) := by unfold spanB; rw [if_pos h]
theorem spanB_no {d : Sp} (h : ¬ d.lo ≤ d.hi) : spanB d = ((d.lo == 1 && d.hi == 0) && d.gone) := by unfold spanB; rw [if_neg h]

set_option maxHeartbeats 1000000 in
theorem isOk_any (d : Sp) (w : World) : Calls Try.prog 92 #[spV d] w fun e w' => e = .returned (.bool (spanB d)) ∧ Below w.heap.size w w' := by
  by_cases h : d.lo ≤ d.hi
  · have hs := hid (spanB_yes h)
    have HQ := hid (decide_eq_true h)
    by_cases h1 : -1000000 ≤ d.lo
    all_goals
      go_enter Try.func92, Try.ntmps92
      go_wp2_with fail
      refine (numbers_any d _).mono ?_
      rintro e w1 ⟨rfl, hb1⟩
      rw [HQ.out]
      have hB1 : Blk w1 w.heap.size 46 #[.int .i64 d.lo, .int .i64 d.hi, .bool d.gone] := (Blk.new w _ _).below hb1 (by simp)
      have c0 : w1.cell? ⟨w.heap.size, 0, none⟩ = some (.int .i64 d.lo) := hB1.cell 0
      have c1 : w1.cell? ⟨w.heap.size, 1, none⟩ = some (.int .i64 d.hi) := hB1.cell 1
      have c2 : w1.cell? ⟨w.heap.size, 2, none⟩ = some (.bool d.gone) := hB1.cell 2
      go_wp2_with fail
      go_ret
      refine ⟨?_, ((Below.refl _ _).alloc (Nat.le_refl _) _).trans (hb1.mono (by simp))⟩
      rw [hs.out]
      first | (simp [h1]; done) | (simp; intros; omega)
  · have hs := hid (spanB_no h)
    have HQ := hid (decide_eq_false h)
    have he := fun wx => eqSp d ⟨1, 0, true⟩ wx
    simp only at he
    go_enter Try.func92, Try.ntmps92
    go_wp2_with fail
    refine (numbers_any d _).mono ?_
    rintro e w1 ⟨rfl, hb1⟩
    rw [HQ.out]
    have hB1 : Blk w1 w.heap.size 46 #[.int .i64 d.lo, .int .i64 d.hi, .bool d.gone] := (Blk.new w _ _).below hb1 (by simp)
    have c0 : w1.cell? ⟨w.heap.size, 0, none⟩ = some (.int .i64 d.lo) := hB1.cell 0
    have c1 : w1.cell? ⟨w.heap.size, 1, none⟩ = some (.int .i64 d.hi) := hB1.cell 1
    have c2 : w1.cell? ⟨w.heap.size, 2, none⟩ = some (.bool d.gone) := hB1.cell 2
    go_wp2_with fail
    go_ret
    refine ⟨?_, ((Below.refl _ _).alloc (Nat.le_refl _) _).trans (hb1.mono (by simp))⟩
    rw [hs.out]
    cases d.gone <;> simp
set_option maxHeartbeats 1000000 in
theorem l3Span_any (d : Sp) (w : World) : Calls Try.prog 93 #[spV d] w fun e w' => e = .returned (.bool (spanB d)) ∧ Below w.heap.size w w' := by
  by_cases h : d.lo ≤ d.hi
  · have hs := hid (spanB_yes h)
    have HQ := hid (decide_eq_true h)
    cases h1 : (decide (-1000000 ≤ d.lo) && decide (d.lo ≤ 1000000))
    · have H1 := hid h1
      clear h1
      go_enter Try.func93, Try.ntmps93
      go_wp2_with fail
      refine (some_any d _).mono ?_
      rintro e w1 ⟨rfl, hb1⟩
      rw [HQ.out]
      have hB1 : Blk w1 w.heap.size 46 #[.int .i64 d.lo, .int .i64 d.hi, .bool d.gone] := (Blk.new w _ _).below hb1 (by simp)
      have c0 : w1.cell? ⟨w.heap.size, 0, none⟩ = some (.int .i64 d.lo) := hB1.cell 0
      have c1 : w1.cell? ⟨w.heap.size, 1, none⟩ = some (.int .i64 d.hi) := hB1.cell 1
      have c2 : w1.cell? ⟨w.heap.size, 2, none⟩ = some (.bool d.gone) := hB1.cell 2
      go_wp2_with fail
      refine (Feat_any _ _).mono ?_
      rintro e w2 ⟨rfl, rfl⟩
      rw [H1.out]
      go_wp2_with fail
      go_ret
      refine ⟨?_, ((Below.refl _ _).alloc (Nat.le_refl _) _).trans (hb1.mono (by simp))⟩
      rw [hs.out]
      have h1 := H1.out
      simp only [← Bool.decide_and, decide_eq_false_iff_not] at h1
      have : ¬ (-1000000 ≤ d.lo ∧ d.hi ≤ 1000000) := by omega
      simp only [← Bool.decide_and, decide_eq_false this]
      rfl
    · have H1 := hid h1
      clear h1
      go_enter Try.func93, Try.ntmps93
      go_wp2_with fail
      refine (some_any d _).mono ?_
      rintro e w1 ⟨rfl, hb1⟩
      rw [HQ.out]
      have hB1 : Blk w1 w.heap.size 46 #[.int .i64 d.lo, .int .i64 d.hi, .bool d.gone] := (Blk.new w _ _).below hb1 (by simp)
      have c0 : w1.cell? ⟨w.heap.size, 0, none⟩ = some (.int .i64 d.lo) := hB1.cell 0
      have c1 : w1.cell? ⟨w.heap.size, 1, none⟩ = some (.int .i64 d.hi) := hB1.cell 1
      have c2 : w1.cell? ⟨w.heap.size, 2, none⟩ = some (.bool d.gone) := hB1.cell 2
      go_wp2_with fail
      refine (Feat_any _ _).mono ?_
      rintro e w2 ⟨rfl, rfl⟩
      rw [H1.out]
      go_wp2_with fail
      refine (Feat_any _ _).mono ?_
      rintro e w3 ⟨rfl, rfl⟩
      go_wp2_with fail
      go_ret
      refine ⟨?_, ((Below.refl _ _).alloc (Nat.le_refl _) _).trans (hb1.mono (by simp))⟩
      rw [hs.out]
      have h1 := H1.out
      simp only [← Bool.decide_and, decide_eq_true_iff] at h1
      have e1 : (decide (-1000000 ≤ d.lo) && decide (d.hi ≤ 1000000)) = (decide (-1000000 ≤ d.hi) && decide (d.hi ≤ 1000000)) := by
        simp only [← Bool.decide_and, decide_eq_decide]; omega
      rw [e1]
      rfl
  · have hs := hid (spanB_no h)
    have HQ := hid (decide_eq_false h)
    obtain ⟨lo, hi, gone⟩ := d
    by_cases h1 : lo = 1
    · subst h1
      by_cases h2 : hi = 0
      · subst h2
        go_enter Try.func93, Try.ntmps93
        go_wp2_with fail
        refine (some_any ⟨1, 0, gone⟩ _).mono ?_
        rintro e w1 ⟨rfl, hb1⟩
        rw [HQ.out]
        have hB1 : Blk w1 w.heap.size 46 #[.int .i64 1, .int .i64 0, .bool gone] := (Blk.new w _ _).below hb1 (by simp)
        have c0 : w1.cell? ⟨w.heap.size, 0, none⟩ = some (.int .i64 1) := hB1.cell 0
        have c1 : w1.cell? ⟨w.heap.size, 1, none⟩ = some (.int .i64 0) := hB1.cell 1
        have c2 : w1.cell? ⟨w.heap.size, 2, none⟩ = some (.bool gone) := hB1.cell 2
        go_wp2_with fail
        go_ret
        refine ⟨?_, ((Below.refl _ _).alloc (Nat.le_refl _) _).trans (hb1.mono (by simp))⟩
        rw [hs.out]
        rfl
      · go_enter Try.func93, Try.ntmps93
        go_wp2_with fail
        refine (some_any ⟨1, hi, gone⟩ _).mono ?_
        rintro e w1 ⟨rfl, hb1⟩
        rw [HQ.out]
        have hB1 : Blk w1 w.heap.size 46 #[.int .i64 1, .int .i64 hi, .bool gone] := (Blk.new w _ _).below hb1 (by simp)
        have c0 : w1.cell? ⟨w.heap.size, 0, none⟩ = some (.int .i64 1) := hB1.cell 0
        have c1 : w1.cell? ⟨w.heap.size, 1, none⟩ = some (.int .i64 hi) := hB1.cell 1
        have c2 : w1.cell? ⟨w.heap.size, 2, none⟩ = some (.bool gone) := hB1.cell 2
        go_wp2_with fail
        go_ret
        refine ⟨?_, ((Below.refl _ _).alloc (Nat.le_refl _) _).trans (hb1.mono (by simp))⟩
        rw [hs.out]
        simp [h2]
    · go_enter Try.func93, Try.ntmps93
      go_wp2_with fail
      refine (some_any ⟨lo, hi, gone⟩ _).mono ?_
      rintro e w1 ⟨rfl, hb1⟩
      rw [HQ.out]
      have hB1 : Blk w1 w.heap.size 46 #[.int .i64 lo, .int .i64 hi, .bool gone] := (Blk.new w _ _).below hb1 (by simp)
      have c0 : w1.cell? ⟨w.heap.size, 0, none⟩ = some (.int .i64 lo) := hB1.cell 0
      have c1 : w1.cell? ⟨w.heap.size, 1, none⟩ = some (.int .i64 hi) := hB1.cell 1
      have c2 : w1.cell? ⟨w.heap.size, 2, none⟩ = some (.bool gone) := hB1.cell 2
      go_wp2_with fail
      go_ret
      refine ⟨?_, ((Below.refl _ _).alloc (Nat.le_refl _) _).trans (hb1.mono (by simp))⟩
      rw [hs.out]
      simp [h1]
theorem has_any (d : Sp) (x : Int) (w : World) : Calls Try.prog 90 #[spV d, .int .i64 x] w fun e w' => e = .returned (.bool (hasS d x)) ∧ Below w.heap.size w w' := by
  by_cases h : x = 9999999
  · subst h
    go_enter Try.func90, Try.ntmps90
    go_wp2_with fail
    go_ret
    exact ⟨by simp [hasS], (Below.refl _ _).alloc (Nat.le_refl _) _⟩
  · by_cases h1 : d.lo ≤ x
    all_goals
      go_enter Try.func90, Try.ntmps90
      go_wp2_with fail
      go_ret
      exact ⟨by first | (simp [hasS, h, h1]; done) | (simp [hasS, h]; intros; omega), (Below.refl _ _).alloc (Nat.le_refl _) _⟩
theorem l3Has_any (d : Sp) (x : Int) (w : World) : Calls Try.prog 91 #[spV d, .int .i64 x] w fun e w' => e = .returned (.bool (hasS d x)) ∧ Below w.heap.size w w' := by
  by_cases h : x = 9999999
  · subst h
    go_enter Try.func91, Try.ntmps91
    go_wp2_with fail
    go_ret
    exact ⟨by simp [hasS], (Below.refl _ _).alloc (Nat.le_refl _) _⟩
  · go_enter Try.func91, Try.ntmps91
    go_wp2_with fail
    refine (In_any _ _ _ _).mono ?_
    rintro e w1 ⟨rfl, rfl⟩
    go_wp2_with fail
    go_ret
    exact ⟨by simp [hasS, h], (Below.refl _ _).alloc (Nat.le_refl _) _⟩

set_option maxHeartbeats 1000000 in
theorem iBoxOk_any (A : Option Addr) (n cap : Nat) (g : Nat → Sp) (w : World) (h : RdS w w.heap.size A n g) (hn : n ≤ 4194304) :
    Calls Try.prog 38 #[.slice A n cap] w fun e w' => e = .returned (.bool (boxB n g)) ∧ Below w.heap.size w w' := by
  by_cases h1 : (n : Int) < 1
  · have e0 : boxB n g = false := by unfold boxB; have : ¬ 1 ≤ n := by omega
                                     simp [this]
    rw [e0]
    go_enter Try.func38, Try.ntmps38
    go_wp2_with fail
    go_ret
    exact ⟨rfl, Below.refl _ _⟩
  by_cases h6 : (6 : Int) < (n : Int)
  · have e0 : boxB n g = false := by unfold boxB; have : ¬ n ≤ 6 := by omega
                                     simp [this]
    rw [e0]
    go_enter Try.func38, Try.ntmps38
    go_wp2_with fail
    go_ret
    exact ⟨rfl, Below.refl _ _⟩
  have e0 : Hid (boxB n g = allP (fun i => spanB (g i)) n) := by
    unfold boxB
    have e1 : decide (1 ≤ n) = true := by simp; omega
    have e2 : decide (n ≤ 6) = true := by simp; omega
    show _ = _
    rw [e1, e2]; rfl
  go_enter Try.func38, Try.ntmps38
  go_wp2_with fail
  go_loopw [15] (fun i wr => ∃ k : Nat, k ≤ n ∧ i = .int .i64 k ∧ Hid (allP (fun i => spanB (g i)) k = true) ∧ Below w.heap.size w wr) (fun i _ => n - (intOf i).toNat)
  case atStart => exact ⟨0, Nat.zero_le _, rfl, rfl, Below.refl _ _⟩
  case round =>
    obtain ⟨k, hk, rfl, hall, hbl⟩ := hrel
    by_cases hlt : k < n
    · obtain ⟨b, off, rfl, hb, c0, c1, c2⟩ := (h.below hbl).at_ hlt
      have hl : (k : Int) < (n : Int) := by omega
      go_wp2_with fail
      refine (isOk_any (g k) _).mono ?_
      rintro e w1 ⟨rfl, hb1⟩
      cases hq : spanB (g k)
      · go_wp2_with fail
        go_ret
        refine ⟨?_, (hbl.alloc hbl.size _).trans (hb1.mono (hbl.alloc hbl.size _).size)⟩
        rw [e0.out, allP_false (p := fun i => spanB (g i)) hlt hq]
        rfl
      · go_wp2_with fail
        go_roundw
        case rel => exact ⟨k + 1, by omega, by go_num, (by show allP _ (k + 1) = true; simp only [allP, hq, hall.out]; rfl), (hbl.alloc hbl.size _).trans (hb1.mono (hbl.alloc hbl.size _).size)⟩
        case measure => simp [intOf]; omega
    · have e : k = n := by omega
      go_wp2_with fail
      go_ret
      subst e
      refine ⟨?_, hbl⟩
      rw [e0.out, hall.out]
      rfl
set_option maxHeartbeats 1000000 in
theorem sBoxOk_any (A : Option Addr) (n cap : Nat) (g : Nat → Sp) (w : World) (h : RdS w w.heap.size A n g) (hn : n ≤ 4194304) :
    Calls Try.prog 39 #[.slice A n cap] w fun e w' => e = .returned (.bool (boxB n g)) ∧ Below w.heap.size w w' := by
  go_enter Try.func39, Try.ntmps39
  go_wp2_with fail
  go_loopw [3] (fun i wr => ∃ k : Nat, k ≤ n ∧ i = .int .i64 k ∧ Hid (allP (fun i => spanB (g i)) k = true) ∧ Below w.heap.size w wr) (fun i _ => n - (intOf i).toNat)
  case atStart => exact ⟨0, Nat.zero_le _, rfl, rfl, Below.refl _ _⟩
  case round =>
    obtain ⟨k, hk, rfl, hall, hbl⟩ := hrel
    by_cases hlt : k < n
    · obtain ⟨b, off, rfl, hb, c0, c1, c2⟩ := (h.below hbl).at_ hlt
      have hl : (k : Int) < (n : Int) := by omega
      go_wp2_with fail
      refine (l3Span_any (g k) _).mono ?_
      rintro e w1 ⟨rfl, hb1⟩
      cases hq : spanB (g k)
      · go_wp2_with fail
        go_ret
        refine ⟨?_, hbl.trans (hb1.mono hbl.size)⟩
        unfold boxB
        rw [allP_false (p := fun i => spanB (g i)) hlt hq, Bool.and_false]
        rfl
      · go_wp2_with fail
        go_roundw
        case rel => exact ⟨k + 1, by omega, by go_num, (by show allP _ (k + 1) = true; simp only [allP, hq, hall.out]; rfl), hbl.trans (hb1.mono hbl.size)⟩
        case measure => simp [intOf]; omega
    · have e : k = n := by omega
      subst e
      go_wp2_with fail
      refine (Feats_any _ _).mono ?_
      rintro e w1 ⟨rfl, rfl⟩
      go_wp2_with fail
      go_ret
      refine ⟨?_, hbl⟩
      unfold boxB
      rw [hall.out, Bool.and_true]
      have e1 : decide (1 ≤ k) = decide ((1 : Int) ≤ (k : Int)) := by simp only [decide_eq_decide]; omega
      have e2 : decide (k ≤ 6) = decide ((k : Int) ≤ 6) := by simp only [decide_eq_decide]; omega
      rw [e1, e2]
      rfl
end Go.Proofs.Ythdilioflhknpaa
