/- What is an ensemble, on both sides; the walk of the exact law of EnsOk. -/
import Derived.Test.YtmpgefpaoogoiaaEnsB
namespace Go.Proofs.Ytmpgefpaoogoiaa
open Go.RowKit Go.Deep

set_option maxHeartbeats 1000000 in
theorem eqE_any (f b : Int) (A A' : Option Addr) (n c c' : Nat) (len : Nat → Nat) (g : Nat → Nat → Nd) (w : World) (h : RdT w w.heap.size A n len g) (h' : RdT w w.heap.size A' n len g) (hn : n ≤ 4194304) (hlen : Hid (∀ i, i < n → len i ≤ 4194304)) :
    Calls Try.prog 22 #[enV f b A n c, enV f b A' n c'] w fun e w' => e = .returned (.bool true) ∧ Below w.heap.size w w' := by
  have hb2 := ((Below.refl w.heap.size w).alloc (Nat.le_refl _) (.cells #[.int .i64 f, .int .i64 b, .slice A n c] 33)).alloc (by simp) (.cells #[.int .i64 f, .int .i64 b, .slice A' n c'] 33)
  have h2 := h.to hb2 hb2.size
  have h2' := h'.to hb2 hb2.size
  go_enter Try.func22, Try.ntmps22
  go_wp2_with fail
  refine (eqT_any A A' n c c' len g _ h2 h2' hn hlen).mono ?_
  rintro e w3 ⟨rfl, hb3⟩
  have hw := hb2.trans (hb3.mono hb2.size)
  clear hb2 hb3 h2 h2'
  go_wp2_with fail
  go_ret
  exact ⟨rfl, hw⟩

set_option maxHeartbeats 1000000 in
theorem szE_any (f b : Int) (A : Option Addr) (n c : Nat) (len : Nat → Nat) (g : Nat → Nat → Nd) (l : Int) (w : World) (h : RdT w w.heap.size A n len g) (hn : n ≤ 9223372036854775807) (hlen : Hid (∀ i, i < n → len i ≤ 9223372036854775807)) (h0 : 0 ≤ l) (h1 : l ≤ 1048576) :
    Calls Try.prog 16 #[enV f b A n c, .int .i64 l] w fun e w' =>
      ∃ y : Int, e = .returned (.int .i64 y) ∧ (y < 0 ∨ (0 ≤ y ∧ y ≤ l ∧ n ≤ 1048576 ∧ ∀ i, i < n → len i ≤ 1048576)) ∧ Below w.heap.size w w' := by
  have hb2 := (Below.refl w.heap.size w).alloc (Nat.le_refl _) (.cells #[.int .i64 f, .int .i64 b, .slice A n c] 24)
  have h2 := h.to hb2 hb2.size
  go_enter Try.func16, Try.ntmps16
  go_wp2_with fail
  refine (szT_any A n c len g l _ h2 hn hlen h0 h1).mono ?_
  rintro e w3 ⟨y, rfl, hy, rfl⟩
  by_cases hlt : y < 0
  · clear hy
    go_wp2_with fail
    go_ret
    exact ⟨_, rfl, .inl (by omega), hb2⟩
  · have HY := hid hy
    clear hy
    go_wp2_with fail
    go_ret
    exact ⟨y, rfl, HY.out, hb2⟩

def ensB (f b : Int) (n : Nat) (len : Nat → Nat) (g : Nat → Nat → Nd) : Bool :=
  ((decide (1 ≤ f) && decide (f ≤ 6)) && (decide (-1000000000 ≤ b) && decide (b ≤ 1000000000))) && (decide (n ≤ 12) && allP (fun i => treeB (g i) (len i) f) n)
theorem ensB_iff {f b : Int} {n : Nat} {len : Nat → Nat} {g : Nat → Nat → Nd} : ensB f b n len g = true ↔ (1 ≤ f ∧ f ≤ 6) ∧ (-1000000000 ≤ b ∧ b ≤ 1000000000) ∧ n ≤ 12 ∧ ∀ i, i < n → treeB (g i) (len i) f = true := by
  unfold ensB
  simp only [Bool.and_eq_true, decide_eq_true_eq, allP_iff]
  constructor
  · rintro ⟨⟨a, b⟩, c, d⟩; exact ⟨a, b, c, d⟩
  · rintro ⟨a, b, c, d⟩; exact ⟨⟨a, b⟩, c, d⟩

set_option maxHeartbeats 2000000 in
theorem iEnsOk_any (f b : Int) (A : Option Addr) (n c : Nat) (len : Nat → Nat) (g : Nat → Nat → Nd) (w : World) (h : RdT w w.heap.size A n len g) (hn : n ≤ 4194304) (hlen : Hid (∀ i, i < n → len i ≤ 4194304)) :
    Calls Try.prog 60 #[enV f b A n c] w fun e w' => e = .returned (.bool (ensB f b n len g)) ∧ Below w.heap.size w w' := by
  have hb1 := (Below.refl w.heap.size w).alloc (Nat.le_refl _) (.cells #[.int .i64 f, .int .i64 b, .slice A n c] 33)
  by_cases q1 : f < 1
  · have e0 : ensB f b n len g = false := by unfold ensB; rw [decide_eq_false (show ¬ 1 ≤ f by omega)]; rfl
    rw [e0]
    go_enter Try.func60, Try.ntmps60
    go_wp2_with fail
    go_ret
    exact ⟨rfl, hb1⟩
  by_cases q2 : 6 < f
  · have e0 : ensB f b n len g = false := by unfold ensB; rw [decide_eq_false (show ¬ f ≤ 6 by omega), Bool.and_false]; rfl
    rw [e0]
    go_enter Try.func60, Try.ntmps60
    go_wp2_with fail
    go_ret
    exact ⟨rfl, hb1⟩
  by_cases q3 : b < -1000000000
  · have e0 : ensB f b n len g = false := by unfold ensB; rw [decide_eq_false (show ¬ -1000000000 ≤ b by omega), Bool.false_and, Bool.and_false]; rfl
    rw [e0]
    go_enter Try.func60, Try.ntmps60
    go_wp2_with fail
    go_ret
    exact ⟨rfl, hb1⟩
  by_cases q4 : 1000000000 < b
  · have e0 : ensB f b n len g = false := by unfold ensB; rw [decide_eq_false (show ¬ b ≤ 1000000000 by omega), Bool.and_false, Bool.and_false]; rfl
    rw [e0]
    go_enter Try.func60, Try.ntmps60
    go_wp2_with fail
    go_ret
    exact ⟨rfl, hb1⟩
  by_cases q5 : (12 : Int) < (n : Int)
  · have e0 : ensB f b n len g = false := by unfold ensB; rw [decide_eq_false (show ¬ n ≤ 12 by omega), Bool.false_and, Bool.and_false]
    rw [e0]
    go_enter Try.func60, Try.ntmps60
    go_wp2_with fail
    go_ret
    exact ⟨rfl, hb1⟩
  have e0 : Hid (ensB f b n len g = allP (fun i => treeB (g i) (len i) f) n) := by
    show _ = _
    unfold ensB
    rw [decide_eq_true (show 1 ≤ f by omega), decide_eq_true (show f ≤ 6 by omega), decide_eq_true (show -1000000000 ≤ b by omega), decide_eq_true (show b ≤ 1000000000 by omega), decide_eq_true (show n ≤ 12 by omega)]
    rfl
  have hE := Blk.new w 33 #[.int .i64 f, .int .i64 b, .slice A n c]
  have h1 := h.to hb1 hb1.size
  go_enter Try.func60, Try.ntmps60
  go_wp2_with fail
  generalize hW : w.alloc (.cells #[.int .i64 f, .int .i64 b, .slice A n c] 33) = W1 at hb1 hE h1 ⊢
  clear hW
  go_loopw [32] (fun i wr => ∃ k : Nat, k ≤ n ∧ i = .int .i64 k ∧ Hid (allP (fun i => treeB (g i) (len i) f) k = true) ∧ Below W1.heap.size W1 wr) (fun i _ => n - (intOf i).toNat)
  case atStart => exact ⟨0, Nat.zero_le _, rfl, rfl, Below.refl _ _⟩
  case round =>
    obtain ⟨k, hk, rfl, hall, hbl⟩ := hrel
    have hwr := hb1.trans (hbl.mono hb1.size)
    by_cases hlt : k < n
    · obtain ⟨bb, off, Ai, ci, rfl, hbb, hc, hrd⟩ := (h1.below hbl).at_ hlt
      have hl : (k : Int) < (n : Int) := by omega
      have hl0 : (0 : Int) ≤ (k : Int) := by omega
      have x0 : wr.cell? ⟨w.heap.size, 0, none⟩ = some (.int .i64 f) := (hE.below hbl hE.lt).cell 0
      go_wp2_with fail
      refine (iTreeOk_any Ai (len k) ci (g k) f _ (hrd.more hbl.size) (hlen.out k hlt)).mono ?_
      rintro e w3 ⟨rfl, hb3⟩
      have hbl3 := hbl.trans (hb3.mono hbl.size)
      have hw3 := hwr.trans (hb3.mono hwr.size)
      clear hb3 hbl hwr hrd hc x0
      cases hq : treeB (g k) (len k) f
      · go_wp2_with fail
        go_ret
        refine ⟨?_, hw3⟩
        rw [e0.out, allP_false (p := fun i => treeB (g i) (len i) f) hlt hq]
        rfl
      · go_wp2_with fail
        go_roundw
        case rel => exact ⟨k + 1, by omega, by go_num, (by show allP _ (k + 1) = true; simp only [allP, hq, hall.out]; rfl), hbl3⟩
        case measure => simp [intOf]; omega
    · have e : k = n := by omega
      go_wp2_with fail
      go_ret
      subst e
      refine ⟨?_, hwr⟩
      rw [e0.out, hall.out]
      rfl

set_option maxHeartbeats 2000000 in
theorem sEnsOk_any (f b : Int) (A : Option Addr) (n c : Nat) (len : Nat → Nat) (g : Nat → Nat → Nd) (w : World) (h : RdT w w.heap.size A n len g) (hn : n ≤ 4194304) (hlen : Hid (∀ i, i < n → len i ≤ 4194304)) :
    Calls Try.prog 66 #[enV f b A n c] w fun e w' => e = .returned (.bool (ensB f b n len g)) ∧ Below w.heap.size w w' := by
  have hb1 := (Below.refl w.heap.size w).alloc (Nat.le_refl _) (.cells #[.int .i64 f, .int .i64 b, .slice A n c] 33)
  have hE := Blk.new w 33 #[.int .i64 f, .int .i64 b, .slice A n c]
  have h1 := h.to hb1 hb1.size
  go_enter Try.func66, Try.ntmps66
  go_wp2_with fail
  generalize hW : w.alloc (.cells #[.int .i64 f, .int .i64 b, .slice A n c] 33) = W1 at hb1 hE h1 ⊢
  clear hW
  go_loopw [3] (fun i wr => ∃ k : Nat, k ≤ n ∧ i = .int .i64 k ∧ Hid (allP (fun i => treeB (g i) (len i) f) k = true) ∧ Below W1.heap.size W1 wr) (fun i _ => n - (intOf i).toNat)
  case atStart => exact ⟨0, Nat.zero_le _, rfl, rfl, Below.refl _ _⟩
  case round =>
    obtain ⟨k, hk, rfl, hall, hbl⟩ := hrel
    have hwr := hb1.trans (hbl.mono hb1.size)
    have hEr := hE.below hbl hE.lt
    have hElt : w.heap.size < wr.heap.size := hEr.lt
    have x0 : wr.cell? ⟨w.heap.size, 0, none⟩ = some (.int .i64 f) := hEr.cell 0
    have x1 : wr.cell? ⟨w.heap.size, 1, none⟩ = some (.int .i64 b) := hEr.cell 1
    have x2 : wr.cell? ⟨w.heap.size, 2, none⟩ = some (.slice A n c) := hEr.cell 2
    by_cases hlt : k < n
    · obtain ⟨bb, off, Ai, ci, rfl, hbb, hc, hrd⟩ := (h1.below hbl).at_ hlt
      have hl : (k : Int) < (n : Int) := by omega
      have hl0 : (0 : Int) ≤ (k : Int) := by omega
      have hlb : bb < wr.heap.size := Nat.lt_of_lt_of_le hbb hbl.size
      have hr1 : RdN wr.drew wr.drew.heap.size Ai (len k) (g k) := hrd.more hbl.size
      have hlk := hlen.out k hlt
      clear hrd x1
      go_wp2_with fail
      go_region_held3 (fun w' => w'.cell? ⟨w.heap.size, 0, none⟩ = some (.int .i64 f) ∧ w'.cell? ⟨w.heap.size, 2, none⟩ = some (.slice (some ⟨bb, off, none⟩) n c) ∧ w'.cell? ⟨bb, off + k, none⟩ = some (.slice Ai (len k) ci))
        (first | (simp [go_sem]; done) | exact ⟨e0, e2, ec⟩ | (simp [go_sem, *]; done))
        (first
          | (go_at_call 116; refine (sTreeOk_any Ai (len k) ci (g k) f wr.drew hr1 hlk).mono ?_; rintro e w3 ⟨rfl, hb3⟩; obtain ⟨hc3, hf3⟩ := bcell hb3; have e0 := (hc3 w.heap.size _ hElt).trans x0; have e2 := (hc3 w.heap.size _ hElt).trans x2; have ec := (hc3 bb _ hlb).trans hc))
      have hbl3 := hbl.drew.trans (hb3.mono hbl.size)
      have hw3 := hwr.drew.trans (hb3.mono hwr.size)
      clear hb3 hbl hwr hr1 hc x0 x2 hc3 hf3 e0 e2 ec
      cases hq : treeB (g k) (len k) f
      · go_wp2_with fail
        go_ret
        refine ⟨?_, hw3⟩
        unfold ensB
        rw [allP_false (p := fun i => treeB (g i) (len i) f) hlt hq, Bool.and_false, Bool.and_false]
        rfl
      · go_wp2_with fail
        go_roundw
        case rel => exact ⟨k + 1, by omega, by go_num, (by show allP _ (k + 1) = true; simp only [allP, hq, hall.out]; rfl), hbl3⟩
        case measure => simp [intOf]; omega
    · have e : k = n := by omega
      subst e
      have e0 : Hid (ensB f b k len g = (((decide (1 ≤ f) && decide (f ≤ 6)) && (decide (-1000000000 ≤ b) && decide (b ≤ 1000000000))) && decide (k ≤ 12))) := by
        show _ = _
        unfold ensB
        rw [hall.out, Bool.and_true]
      have e12 : Hid (decide ((k : Int) ≤ 12) = decide (k ≤ 12)) := by show _ = _; simp only [decide_eq_decide]; omega
      go_wp2_with fail
      refine (Feats_any _ _).mono ?_
      rintro e w3 ⟨rfl, rfl⟩
      cases hq1 : (decide (1 ≤ f) && decide (f ≤ 6))
      · go_wp2_with fail
        go_ret
        refine ⟨?_, hwr⟩
        rw [e0.out, hq1]
        rfl
      · go_wp2_with fail
        refine (Value_any _ _).mono ?_
        rintro e w3 ⟨rfl, rfl⟩
        cases hq2 : (decide (-1000000000 ≤ b) && decide (b ≤ 1000000000))
        · go_wp2_with fail
          go_ret
          refine ⟨?_, hwr⟩
          rw [e0.out, hq1, hq2]
          rfl
        · go_wp2_with fail
          go_ret
          refine ⟨?_, hwr⟩
          rw [e0.out, hq1, hq2, ← e12.out]
          rfl
end Go.Proofs.Ytmpgefpaoogoiaa
