/- The draw of an ensemble alone; the walk of the law of roots. -/
import Derived.Test.YtmpgefpaoogoiaaFlatI
namespace Go.Proofs.Ytmpgefpaoogoiaa
open Go.RowKit Go.Deep

def DrawnEns (w : World) (e : Ending) (w' : World) : Prop :=
  ∃ (f b : Int) (k : Nat) (A' : Option Addr) (c : Nat) (len : Nat → Nat) (g : Nat → Nat → Nd), k ≤ 12 ∧ (∀ i, i < k → len i ≤ 16) ∧ e = .returned (enV f b A' k c) ∧ (∀ w'' : World, (∀ x, w.heap.size ≤ x → x < w'.heap.size → w''.heap[x]? = w'.heap[x]?) → RdT w'' w'.heap.size A' k len g) ∧ Below w.heap.size w w'

set_option maxRecDepth 100000 in
set_option maxHeartbeats 4000000 in
theorem drawEnsOk (A : Option Addr) (n cap : Nat) (w : World) (h : Bs w w.heap.size A n) (hn : n ≤ 4194304) :
    Calls Try.prog 106 #[.slice A n cap] w (DrawnEns w) := by
  go_enter Try.func106, Try.ntmps106
  go_wp2_with fail
  have hbz := (Below.refl w.heap.size w).alloc (Nat.le_refl _) (.cells #[.int .i64 0, .int .i64 0, .slice none 0 0] 33)
  have h1 : Bs (w.alloc (.cells #[.int .i64 0, .int .i64 0, .slice none 0 0] 33)) (w.alloc (.cells #[.int .i64 0, .int .i64 0, .slice none 0 0] 33)).heap.size A n := (h.keep fun _ hp => hbz.cell hp).more hbz.size
  have hsz : (w.alloc (.cells #[.int .i64 0, .int .i64 0, .slice none 0 0] 33)).heap.size = w.heap.size + 1 := by simp
  refine (open_draw A n cap _ h1 hn).mono ?_
  rintro e w1 ⟨rfl, hR1, hb1⟩
  have hZ1 : Blk w1 w.heap.size 33 #[.int .i64 0, .int .i64 0, .slice none 0 0] := (Blk.new w 33 _).below hb1 (by omega)
  have hw1 : Below w.heap.size w w1 := hbz.trans (hb1.mono hbz.size)
  rw [hsz] at hR1
  generalize hRR : w.heap.size + 1 = R at *
  clear hb1 hbz h1 hsz
  have hRw := hR1.lt
  go_wp2_with fail
  refine (below_draw R n cap A 3 _ hR1 (by omega) (by omega)).mono ?_
  rintro e w2 ⟨x, rfl, hx0, hx1, hR2, hg2⟩
  have hZ2 := hZ1.grown hg2 (by intro e; injection e with e; omega)
  have hw2 := hw1.trans ((below_grown hg2 hRw).mono (show w.heap.size ≤ R by omega))
  clear hg2 hZ1 hw1 hR1
  go_wp2_with fail
  refine (ens_draw R n cap A (1 + x) (by omega) (by omega) _ hR2).mono ?_
  rintro e w3 ⟨f, b, k, A', c, bl, ln, cp, ds, hk, rfl, hown, hT, hR3, hg3⟩
  have hZ3 := hZ2.grown hg3 (by intro e; injection e with e; omega)
  have hw3 := hw2.trans ((below_grown hg3 hR2.lt).mono (show w.heap.size ≤ R by omega))
  have hRw2 := hR2.lt
  clear hg3 hZ2 hw2 hR2
  go_wp2_with fail
  refine (hurtEns_draw R n cap w2.heap.size A A' f b k c bl ln cp ds _ hR3 hRw2 hk hown hT).mono ?_
  rintro e w4 ⟨f', b', k', A2, c', len, g, hk', hl, rfl, hHi, hR4, hb4⟩
  have hZ4 := hZ3.below hb4 (show w.heap.size < R by omega)
  have hw4 := hw3.trans (hb4.mono (show w.heap.size ≤ R by omega))
  clear hZ3 hw3 hR3 hb4 hown hT
  have a0 := hZ4.cell 0
  have a1 := hZ4.cell 1
  have a2 := hZ4.cell 2
  have a3 := hZ4.frozen 0
  have a4 := hZ4.frozen 1
  have a5 := hZ4.frozen 2
  go_wp2_with fail
  have hblk := ((hZ4.set_ 0 (.int .i64 f')).set_ 1 (.int .i64 b')).set_ 2 (.slice A2 k' c')
  have hks : ∀ (i : Nat), i ≠ w.heap.size → (((w4.setCell ⟨w.heap.size, 0, none⟩ (.int .i64 f')).setCell ⟨w.heap.size, 1, none⟩ (.int .i64 b')).setCell ⟨w.heap.size, 2, none⟩ (.slice A2 k' c')).heap[i]? = w4.heap[i]? := fun i hi =>
    (Below.heap_setCell _ _ _ i hi).trans ((Below.heap_setCell _ _ _ i hi).trans (Below.heap_setCell _ _ _ i hi))
  have hss : (((w4.setCell ⟨w.heap.size, 0, none⟩ (.int .i64 f')).setCell ⟨w.heap.size, 1, none⟩ (.int .i64 b')).setCell ⟨w.heap.size, 2, none⟩ (.slice A2 k' c')).heap.size = w4.heap.size := by simp [World.setCell]
  (try simp only [Exit.inBlock, Exit.then])
  refine bodyPost_ret (results_cell_row rfl _ _ w.heap.size 33 #[.int .i64 f', .int .i64 b', .slice A2 k' c'] (0, 0) _ rfl hblk Try.underlying33 rfl size_ens) rfl ?_
  refine ⟨f', b', k', A2, c', len, g, hk', hl, rfl, ?_, ((hw4.setCell (Nat.le_refl _) _).setCell (Nat.le_refl _) _).setCell (Nat.le_refl _) _⟩
  rw [hss]
  exact fun w2 h2 => (hHi.keep (w' := w2) (Q := fun x => R < x ∧ x < w4.heap.size) (fun x hx => (h2 x (by omega) hx.2).trans (hks x (by omega))) (fun x hx => hx)).rdT (fun x hx => hx.2)

set_option maxRecDepth 100000 in
set_option maxHeartbeats 4000000 in
theorem drawFlat (A : Option Addr) (n cap : Nat) (w : World) (h : Bs w w.heap.size A n) (hn : n ≤ 4194304) :
    Calls Try.prog 56 #[.slice A n cap] w (DrawnEns w) := by
  go_enter Try.func56, Try.ntmps56
  go_wp2_with fail
  have hbz := (Below.refl w.heap.size w).alloc (Nat.le_refl _) (.cells #[.int .i64 0, .int .i64 0, .slice none 0 0] 33)
  have h1 : Bs (w.alloc (.cells #[.int .i64 0, .int .i64 0, .slice none 0 0] 33)) (w.alloc (.cells #[.int .i64 0, .int .i64 0, .slice none 0 0] 33)).heap.size A n := (h.keep fun _ hp => hbz.cell hp).more hbz.size
  refine (drawEnsOk A n cap _ h1 hn).mono ?_
  rintro e w1 ⟨f, b, k, A', c, len, g, hk, hl, rfl, hr1, hb1⟩
  have hZ1 : Blk w1 w.heap.size 33 #[.int .i64 0, .int .i64 0, .slice none 0 0] := (Blk.new w 33 _).below hb1 (by simp)
  have hw1 : Below w.heap.size w w1 := hbz.trans (hb1.mono hbz.size)
  clear hb1 hbz h1
  go_wp2_with (first
    | (refine wpList_store_row rfl 33 _ _ rfl w.heap.size #[.int .i64 f, .int .i64 b, .slice A' k c] rfl rfl 33 _ hZ1 size_ens rfl (by simp [Value.oneCell']) ?_))
  refine bodyPost_ret (results_cell_row rfl _ _ w.heap.size 33 #[.int .i64 f, .int .i64 b, .slice A' k c] (0, 0) _ rfl (setRow_heap _ _ _ _ _ _ hZ1) Try.underlying33 rfl size_ens) rfl ?_
  have hsz : (w.alloc (.cells #[.int .i64 0, .int .i64 0, .slice none 0 0] 33)).heap.size = w.heap.size + 1 := by simp
  refine ⟨f, b, k, A', c, len, g, hk, hl, rfl, fun w2 h2 => ?_, below_setRow hw1 (Nat.le_refl _) _⟩
  have hss : (World.setRow w1 w.heap.size #[.int .i64 f, .int .i64 b, .slice A' k c]).heap.size = w1.heap.size := by simp [World.setRow]
  rw [hss] at h2 ⊢
  exact hr1 w2 fun x hx1 hx2 => (h2 x (by omega) hx2).trans (setRow_other _ _ _ _ (by omega))

theorem cellsF {w : World} {p n m : Nat} {f b : Int} {As : Nat → Option Addr} {cs : Nat → Nat} (h : Blk w p 50 (flC f b As cs n m 0)) :
    w.cell? ⟨p, 0, none⟩ = some (.int .i64 f) ∧ w.cell? ⟨p, 1, none⟩ = some (.int .i64 b) ∧ w.cell? ⟨p, 2, none⟩ = some (.slice (As 0) n (cs 0)) ∧ w.cell? ⟨p, 3, none⟩ = some (.slice (As 1) m (cs 1)) ∧ w.cell? ⟨p, 4, none⟩ = some (.slice (As 2) m (cs 2)) ∧ w.cell? ⟨p, 5, none⟩ = some (.slice (As 3) m (cs 3)) ∧ w.cell? ⟨p, 6, none⟩ = some (.slice (As 4) m (cs 4)) ∧ w.cell? ⟨p, 7, none⟩ = some (.slice (As 5) m (cs 5)) ∧ w.cell? ⟨p, 8, none⟩ = some (.slice (As 6) m (cs 6)) :=
  ⟨h.cell 0, h.cell 1, h.cell 2, h.cell 3, h.cell 4, h.cell 5, h.cell 6, h.cell 7, h.cell 8⟩
set_option maxRecDepth 100000 in
set_option maxHeartbeats 4000000 in
theorem lawRoots (A : Option Addr) (n cap : Nat) (w : World) (h : Bs w w.heap.size A n) :
    Calls Try.prog 15 #[.slice A n cap] w fun e w' => e = .returned (.bool true) ∧ Below w.heap.size w w' := by
  by_cases hbig : (1048576 : Int) < (n : Int)
  · go_enter Try.func15, Try.ntmps15
    go_wp2_with fail
    refine (big_yes A n cap _ hbig).mono ?_
    rintro e w1 ⟨rfl, rfl⟩
    go_wp2_with fail
    go_ret
    exact ⟨rfl, Below.refl _ _⟩
  · have hn : n ≤ 4194304 := by omega
    go_enter Try.func15, Try.ntmps15
    go_wp2_with fail
    refine (big_no A n cap _ (by omega)).mono ?_
    rintro e w0 ⟨rfl, rfl⟩
    go_wp2_with fail
    refine (drawFlat A n cap _ h hn).mono ?_
    rintro e w1 ⟨f, b, k, A', c, len, g, hk, hl, rfl, hr1', hb1⟩
    have hr1 : RdT w1 w1.heap.size A' k len g := hr1' w1 fun _ _ _ => rfl
    have hl' : Hid (∀ i, i < k → len i ≤ 4194304) := fun i hi => by have := hl i hi; omega
    have hk' : k ≤ 4194304 := by omega
    have hbx := (Below.refl w1.heap.size w1).alloc (Nat.le_refl _) (.cells #[.int .i64 f, .int .i64 b, .slice A' k c] 33)
    have hE2 := Blk.new w1 33 #[.int .i64 f, .int .i64 b, .slice A' k c]
    have hr2 := hr1.to hbx hbx.size
    have hw2 := hb1.trans (hbx.mono hb1.size)
    clear hl hbx hr1 hb1 hr1'
    obtain ⟨Y, hYe⟩ : ∃ Y, ensB f b k len g = Y := ⟨_, rfl⟩
    have HY := hid hYe
    clear hYe
    obtain ⟨F, hF⟩ : ∃ x, yI Y f = x := ⟨_, rfl⟩
    obtain ⟨B, hB⟩ : ∃ x, yI Y b = x := ⟨_, rfl⟩
    obtain ⟨N, hN⟩ : ∃ x, yN Y k = x := ⟨_, rfl⟩
    obtain ⟨P, hP⟩ : ∃ x, yN Y (cumT len k) = x := ⟨_, rfl⟩
    have hNP : N ≤ 12 ∧ P ≤ 180 := by
      cases Y with
      | false => subst hN; subst hP; exact ⟨Nat.zero_le _, Nat.zero_le _⟩
      | true => subst hN; subst hP; exact ens_cum HY.out
    obtain ⟨hN12, hP180⟩ := hNP
    have HF := hid hF
    have HB := hid hB
    have HN := hid hN
    have HP := hid hP
    clear hF hB hN hP
    have c0 : (w1.alloc (.cells #[.int .i64 f, .int .i64 b, .slice A' k c] 33)).cell? ⟨w1.heap.size, 0, none⟩ = some (.int .i64 f) := hE2.cell 0
    have c1 : (w1.alloc (.cells #[.int .i64 f, .int .i64 b, .slice A' k c] 33)).cell? ⟨w1.heap.size, 1, none⟩ = some (.int .i64 b) := hE2.cell 1
    have c2 : (w1.alloc (.cells #[.int .i64 f, .int .i64 b, .slice A' k c] 33)).cell? ⟨w1.heap.size, 2, none⟩ = some (.slice A' k c) := hE2.cell 2
    go_wp2_with fail
    refine (iFlat_any f b A' k c len g _ hr2 hk' hl' _ HY.out).mono ?_
    rintro e w2 ⟨As, cs, rfl, hL2, hb2⟩
    rw [HF.out, HB.out, HN.out, HP.out]
    rw [HN.out, HP.out] at hL2
    have hbx3 := (Below.refl w2.heap.size w2).alloc (Nat.le_refl _) (.cells (flC F B As cs N P 0) 50)
    have hE3 := (hE2.below hb2 hE2.lt).alloc (.cells (flC F B As cs N P 0) 50)
    have hF3 := Blk.new w2 50 (flC F B As cs N P 0)
    have hr3 := (hr2.to hb2 hb2.size).to hbx3 hbx3.size
    have hA3 := hL2.rdL.to hbx3
    have hw3 := (hw2.trans (hb2.mono hw2.size)).trans (hbx3.mono (hw2.trans (hb2.mono hw2.size)).size)
    clear hE2 hr2 hw2 hb2 hL2 hbx3 c0 c1 c2
    have c0 : (w2.alloc (.cells (flC F B As cs N P 0) 50)).cell? ⟨w1.heap.size, 0, none⟩ = some (.int .i64 f) := hE3.cell 0
    have c1 : (w2.alloc (.cells (flC F B As cs N P 0) 50)).cell? ⟨w1.heap.size, 1, none⟩ = some (.int .i64 b) := hE3.cell 1
    have c2 : (w2.alloc (.cells (flC F B As cs N P 0) 50)).cell? ⟨w1.heap.size, 2, none⟩ = some (.slice A' k c) := hE3.cell 2
    go_wp2_with fail
    refine (sFlat_any f b A' k c len g _ hr3 hk' hl' _ HY.out).mono ?_
    rintro e w4 ⟨Bs, ds, rfl, hL4, hb4⟩
    rw [HF.out, HB.out, HN.out, HP.out]
    rw [HN.out, HP.out] at hL4
    have hbx5 := (Below.refl w4.heap.size w4).alloc (Nat.le_refl _) (.cells (flC F B Bs ds N P 0) 50)
    have hE5 := (hE3.below hb4 hE3.lt).alloc (.cells (flC F B Bs ds N P 0) 50)
    have hF5 := (hF3.below hb4 hF3.lt).alloc (.cells (flC F B Bs ds N P 0) 50)
    have hG5 := Blk.new w4 50 (flC F B Bs ds N P 0)
    have hr5 := (hr3.to hb4 hb4.size).to hbx5 hbx5.size
    have hA5 := (hA3.to hb4).to hbx5
    have hB5 := hL4.rdL.to hbx5
    have hw5 := (hw3.trans (hb4.mono hw3.size)).trans (hbx5.mono (hw3.trans (hb4.mono hw3.size)).size)
    clear hE3 hF3 hr3 hA3 hw3 hb4 hL4 hbx5 c0 c1 c2
    obtain ⟨a0, a1, a2, a3, a4, a5, a6, a7, a8⟩ := cellsF hF5
    obtain ⟨b0, b1, b2, b3, b4, b5, b6, b7, b8⟩ := cellsF hG5
    go_wp2_with fail
    refine (sameFlat_any F B As Bs cs ds N P (zE len g k) _ hA5 hB5 hN12 hP180).mono ?_
    rintro e w6 ⟨rfl, hb6⟩
    have hE6 := hE5.below hb6 hE5.lt
    have hF6 := hF5.below hb6 hF5.lt
    have hG6 := hG5.below hb6 hG5.lt
    have hr6 := hr5.to hb6 hb6.size
    have hA6 := hA5.to hb6
    have hB6 := hB5.to hb6
    have hw6 := hw5.trans (hb6.mono hw5.size)
    clear hE5 hF5 hG5 hr5 hA5 hB5 hw5 hb6 a0 a1 a2 a3 a4 a5 a6 a7 a8 b0 b1 b2 b3 b4 b5 b6 b7 b8
    cases Y with
    | false =>
      obtain ⟨a0, a1, a2, a3, a4, a5, a6, a7, a8⟩ := cellsF hF6
      obtain ⟨b0, b1, b2, b3, b4, b5, b6, b7, b8⟩ := cellsF hG6
      go_wp2_with fail
      refine (sameFlat_any F B As Bs cs ds N P (zE len g k) _ hA6 hB6 hN12 hP180).mono ?_
      rintro e w7 ⟨rfl, hb7⟩
      have hw7 := hw6.trans (hb7.mono hw6.size)
      clear a0 a1 a2 a3 a4 a5 a6 a7 a8 b0 b1 b2 b3 b4 b5 b6 b7 b8 hb7
      go_wp2_with fail
      go_ret
      exact ⟨rfl, hw7⟩
    | true =>
      obtain rfl : k = N := HN.out
      obtain rfl : b = B := HB.out
      obtain ⟨hk12, hcum⟩ := ens_cum HY.out
      have hHP : Hid (cumT len k = P) := HP.out
      have x0 : w6.cell? ⟨w1.heap.size, 2, none⟩ = some (.slice A' k c) := hE6.cell 2
      have x1 : w6.cell? ⟨w1.heap.size, 1, none⟩ = some (.int .i64 b) := hE6.cell 1
      have a1 : w6.cell? ⟨w2.heap.size, 1, none⟩ = some (.int .i64 b) := hF6.cell 1
      have a2 : w6.cell? ⟨w2.heap.size, 2, none⟩ = some (.slice (As 0) k (cs 0)) := hF6.cell 2
      have a8 : w6.cell? ⟨w2.heap.size, 8, none⟩ = some (.slice (As 6) P (cs 6)) := hF6.cell 8
      have R0 : Hid (Rd w6 w6.heap.size (As 0) k (rootZ len)) := hA6 0 (by decide)
      have LL := hid (ens_len HY.out)
      clear hE6 hF6 hG6 hA6 hB6 HF HB HN HP
      go_wp2_with fail
      go_loopw [8, 9] (fun at_ i wr => ∃ q : Nat, q ≤ k ∧ i = .int .i64 q ∧ at_ = .int .i64 (cumT len q) ∧ w6 = wr) (fun _ i _ => k - (intOf i).toNat)
      case atStart => exact ⟨0, Nat.zero_le _, rfl, rfl, rfl⟩
      case round =>
        obtain ⟨q, hq, rfl, rfl, rfl⟩ := hrel
        by_cases hlt : q < k
        · obtain ⟨tb, off, Ai, ci, rfl, hb, hcell, _⟩ := hr6.at_ hlt
          obtain ⟨rb, ro, hA0, hrb, hc0⟩ := R0.out.at_ hlt
          have hc1 : w6.cell? ⟨rb, ro + q, none⟩ = some (.int .i64 (cumT len q)) := hc0
          rw [hA0] at a2
          clear hc0 hA0
          have i1 : (q : Int) < (k : Int) := by omega
          have i2 : (0 : Int) ≤ (q : Int) := by omega
          have hcq : cumT len q ≤ 180 := Nat.le_trans (cumT_mono hq) hcum
          have hlq := LL.out q hlt
          have hl1 : len q ≤ 15 := hlq.2
          clear hlq
          go_wp2_with fail
          go_roundw
          case rel => exact ⟨q + 1, by omega, by go_num, by show Value.int .i64 _ = .int .i64 (((cumT len q + len q : Nat)) : Int); rw [Int.natCast_add], trivial⟩
          case measure => simp [intOf]; omega
        · obtain rfl : q = k := by omega
          have e1 : ((cumT len q : Int) == (P : Int)) = true := by rw [hHP.out]; simp
          go_wp2_with fail
          go_ret
          exact ⟨rfl, hw6⟩
end Go.Proofs.Ytmpgefpaoogoiaa
