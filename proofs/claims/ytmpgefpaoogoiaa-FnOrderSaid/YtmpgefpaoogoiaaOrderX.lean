/- The draw of an ensemble and a policy; the walk of the law of an order. -/
import Derived.Test.YtmpgefpaoogoiaaCodes
import Derived.Test.YtmpgefpaoogoiaaOrdJ
import Derived.Test.YtmpgefpaoogoiaaEnsX
import Derived.Deep.RegionHeld3
namespace Go.Proofs.Ytmpgefpaoogoiaa

/-! ### Same -/
section
set_option linter.unusedVariables false
set_option linter.unusedSimpArgs false
open Go.RowKit Go.Deep

theorem same_any (A A' : Option Addr) (n c c' : Nat) (z y : Nat → Int) (w : World) (h : Rd w w.heap.size A n z) (h' : Rd w w.heap.size A' n y) (hzy : Hid (∀ k, k < n → z k = y k)) (hn : n ≤ 4194304) :
    Calls Try.prog 50 #[.slice A n c, .slice A' n c'] w fun e w' => e = .returned (.bool true) ∧ ∃ m, w' = w.drewN m := by
  go_enter Try.func50, Try.ntmps50
  go_wp2_with fail
  go_loopw [5] (fun i wr => ∃ k m : Nat, k ≤ n ∧ i = .int .i64 k ∧ wr = w.drewN m) (fun i _ => n - (intOf i).toNat)
  case atStart => exact ⟨0, 0, Nat.zero_le _, rfl, rfl⟩
  case round =>
    obtain ⟨k, m, hk, rfl, rfl⟩ := hrel
    by_cases hlt : k < n
    · obtain ⟨b, off, rfl, hb, hc⟩ := h.at_ hlt
      obtain ⟨b', off', rfl, hb', hc'⟩ := h'.at_ hlt
      rw [← hzy.out k hlt] at hc'
      have hi : (k : Int) < (n : Int) := by omega
      have hi0 : (0 : Int) ≤ (k : Int) := by omega
      go_wp2_with fail
      go_quiet (fail)
      go_wp2_with fail
      go_roundw
      case rel => exact ⟨k + 1, _, by omega, by go_num, rfl⟩
      case measure => simp [intOf]; omega
    · go_wp2_with fail
      go_ret
      exact ⟨rfl, m, rfl⟩
end

/-! ### OrF -/
section
set_option linter.unusedVariables false
set_option linter.unusedSimpArgs false
open Go.RowKit Go.Deep

def DrawnOrd (w : World) (e : Ending) (w' : World) : Prop :=
  ∃ (f b : Int) (k : Nat) (A' : Option Addr) (c : Nat) (len : Nat → Nat) (g : Nat → Nat → Nd) (pol : Int), k ≤ 12 ∧ (∀ i, i < k → len i ≤ 16) ∧ e = .returned (.tuple #[enV f b A' k c, .int .i64 pol]) ∧ RdT w' w'.heap.size A' k len g ∧ Below w.heap.size w w'
set_option maxRecDepth 100000 in
set_option maxHeartbeats 8000000 in
theorem drawOrd (A : Option Addr) (n cap : Nat) (w : World) (h : Bs w w.heap.size A n) (hn : n ≤ 4194304) :
    Calls Try.prog 54 #[.slice A n cap] w (DrawnOrd w) := by
  go_enter Try.func54, Try.ntmps54
  go_wp2_with fail
  have hbz := (Below.refl w.heap.size w).alloc (Nat.le_refl _) (.cells #[.int .i64 0, .int .i64 0, .slice none 0 0] 33)
  have h1 : Bs (w.alloc (.cells #[.int .i64 0, .int .i64 0, .slice none 0 0] 33)) (w.alloc (.cells #[.int .i64 0, .int .i64 0, .slice none 0 0] 33)).heap.size A n := (h.keep fun _ hp => hbz.cell hp).more hbz.size
  have hsz : (w.alloc (.cells #[.int .i64 0, .int .i64 0, .slice none 0 0] 33)).heap.size = w.heap.size + 1 := by simp
  refine (open_draw A n cap _ h1 hn).mono ?_
  rintro e w1 ⟨rfl, hR1, hb1⟩
  have hZ1 : Blk w1 w.heap.size 33 #[.int .i64 0, .int .i64 0, .slice none 0 0] := (Blk.new w 33 _).below hb1 (by omega)
  have hw1 : Below w.heap.size w w1 := hbz.trans (hb1.mono hbz.size)
  rw [hsz] at hR1
  generalize hRR : w.heap.size + 1 = R at *
  clear hb1 hbz h1 hsz
  have hRw := hR1.lt
  go_wp2_with fail
  refine (below_draw R n cap A 3 _ hR1 (by omega) (by omega)).mono ?_
  rintro e w2 ⟨x, rfl, hx0, hx1, hR2, hg2⟩
  have hZ2 := hZ1.grown hg2 (by intro e; injection e with e; omega)
  have hw2 := hw1.trans ((below_grown hg2 hRw).mono (show w.heap.size ≤ R by omega))
  clear hg2 hZ1 hw1 hR1
  go_wp2_with fail
  refine (ens_draw R n cap A (1 + x) (by omega) (by omega) _ hR2).mono ?_
  rintro e w3 ⟨f, b, k, A', c, bl, ln, cp, ds, hk, rfl, hown, hT, hR3, hg3⟩
  have hZ3 := hZ2.grown hg3 (by intro e; injection e with e; omega)
  have hw3 := hw2.trans ((below_grown hg3 hR2.lt).mono (show w.heap.size ≤ R by omega))
  have hRw2 := hR2.lt
  clear hg3 hZ2 hw2 hR2
  go_wp2_with fail
  refine (hurtEns_draw R n cap w2.heap.size A A' f b k c bl ln cp ds _ hR3 hRw2 hk hown hT).mono ?_
  rintro e w4 ⟨f', b', k', A2, c', len, g, hk', hl, rfl, hHi, hR4, hb4⟩
  have hZ4 := hZ3.below hb4 (show w.heap.size < R by omega)
  have hw4 := hw3.trans (hb4.mono (show w.heap.size ≤ R by omega))
  clear hZ3 hw3 hR3 hb4 hown hT
  go_wp2_with fail
  refine (off_draw R n cap A 1 3 _ hR4 (by omega) (by omega) (by omega) (by omega)).mono ?_
  rintro e w5 ⟨y, rfl, hR5, hg5⟩
  have hZ5 := hZ4.grown hg5 (by intro e; injection e with e; omega)
  have hw5 := hw4.trans ((below_grown hg5 hR4.lt).mono (show w.heap.size ≤ R by omega))
  have hHi5 := hHi.keep (w' := w5) (Q := fun x => R < x ∧ x < w5.heap.size) (fun x hx => hg5.block x hx.2 (by intro e; injection e with e; omega)) (fun x hx => ⟨hx.1, by have := hg5.size; omega⟩)
  clear hHi hZ4 hw4 hg5 hR4
  have a0 := hZ5.cell 0
  have a1 := hZ5.cell 1
  have a2 := hZ5.cell 2
  have a3 := hZ5.frozen 0
  have a4 := hZ5.frozen 1
  have a5 := hZ5.frozen 2
  go_wp2_with fail
  have hblk := ((hZ5.set_ 0 (.int .i64 f')).set_ 1 (.int .i64 b')).set_ 2 (.slice A2 k' c')
  have hks : ∀ (i : Nat), i ≠ w.heap.size → (((w5.setCell ⟨w.heap.size, 0, none⟩ (.int .i64 f')).setCell ⟨w.heap.size, 1, none⟩ (.int .i64 b')).setCell ⟨w.heap.size, 2, none⟩ (.slice A2 k' c')).heap[i]? = w5.heap[i]? := fun i hi =>
    (Below.heap_setCell _ _ _ i hi).trans ((Below.heap_setCell _ _ _ i hi).trans (Below.heap_setCell _ _ _ i hi))
  have hss : (((w5.setCell ⟨w.heap.size, 0, none⟩ (.int .i64 f')).setCell ⟨w.heap.size, 1, none⟩ (.int .i64 b')).setCell ⟨w.heap.size, 2, none⟩ (.slice A2 k' c')).heap.size = w5.heap.size := by simp [World.setCell]
  (try simp only [Exit.inBlock, Exit.then])
  refine bodyPost_ret (results_cell_row_tmp rfl _ _ w.heap.size 33 #[.int .i64 f', .int .i64 b', .slice A2 k' c'] (0, 0) _ rfl hblk Try.underlying33 rfl size_ens) rfl ?_
  refine ⟨f', b', k', A2, c', len, g, _, hk', hl, rfl, ?_, ((hw5.setCell (Nat.le_refl _) _).setCell (Nat.le_refl _) _).setCell (Nat.le_refl _) _⟩
  rw [hss]
  exact (hHi5.keep (Q := fun x => R < x ∧ x < w5.heap.size) (fun x hx => hks x (by omega)) (fun x hx => hx)).rdT (fun x hx => hx.2)

theorem rd_own0 {w : World} {B n c : Nat} {A : Option Addr} {z : Nat → Int} (h : w.ownsRow B 2 1 (.slice A n c) n (numsOf n z)) : Rd w w.heap.size A n z := fun hn => by
  obtain ⟨g, c', e, _, hr⟩ := own_row h hn
  injection e with e1 e2 e3
  subst e1
  exact hr.rd hr.lt hn
def hitO (O : Nat → Nat) (x : Nat) : Nat → Bool
  | 0 => false
  | i + 1 => hitO O x i || (O i == x)
theorem hitO_no {O : Nat → Nat} {x : Nat} : ∀ {i : Nat}, (∀ j, j < i → O j ≠ x) → hitO O x i = false := by
  intro i
  induction i with
  | zero => intro _; rfl
  | succ i ih =>
    intro h
    simp only [hitO]
    rw [ih fun j hj => h j (by omega), Bool.false_or]
    simpa using h i (by omega)
def lastO (wt : Nat → Int) (O : Nat → Nat) : Nat → Int
  | 0 => 0
  | i + 1 => wt (O i)
/-- Which trees have been seen. -/
def Seen (w : World) (sb n : Nat) (O : Nat → Nat) (i : Nat) : Prop := ∃ cs : Array Value, Blk w sb 4 cs ∧ cs.size = n ∧ ∀ x, x < n → cs[x]? = some (.bool (hitO O x i))
theorem Seen.set {w : World} {sb n i : Nat} {O : Nat → Nat} (h : Seen w sb n O i) {x : Nat} (hx : O i = x) (hxn : x < n) : Seen (w.setCell ⟨sb, x, none⟩ (.bool true)) sb n O (i + 1) := by
  obtain ⟨cs, h1, h2, h3⟩ := h
  refine ⟨_, h1.set_ x _, by simpa using h2, fun z hz => ?_⟩
  by_cases e : z = x
  · subst e
    rw [Array.getElem?_setIfInBounds_self_of_lt (by omega)]
    simp [hitO, hx]
  · rw [Array.getElem?_setIfInBounds_ne (fun q => e q.symm), h3 z hz]
    have : (O i == z) = false := by rw [hx]; simpa using fun q => e q.symm
    simp only [hitO, this, Bool.or_false]
theorem Seen.drewN {w : World} {sb n i : Nat} {O : Nat → Nat} (h : Seen w sb n O i) (q : Nat) : Seen (w.drewN q) sb n O i := by
  obtain ⟨cs, h1, h2, h3⟩ := h
  exact ⟨cs, h1.drewN q, h2, h3⟩
theorem made_at {n : Nat} (x : Nat) (hx : x < n) : (madeCells #[Value.bool false] n)[x]? = some (.bool false) := by
  simp [madeCells, hx, Nat.mod_one]
theorem info_bool : (Try.prog.info? 4).map (fun i => (i.zero, i.size, i.bytes)) = some (some (.bool false), 1, 1) := by kernel_rfl

set_option maxRecDepth 100000 in
set_option maxHeartbeats 16000000 in
theorem lawOrder (A : Option Addr) (n cap : Nat) (w : World) (h : Bs w w.heap.size A n) :
    Calls Try.prog 11 #[.slice A n cap] w fun e w' => e = .returned (.bool true) ∧ Below w.heap.size w w' := by
  by_cases hbig : (1048576 : Int) < (n : Int)
  · go_enter Try.func11, Try.ntmps11
    go_wp2_with fail
    refine (big_yes A n cap _ hbig).mono ?_
    rintro e w1 ⟨rfl, rfl⟩
    go_wp2_with fail
    go_ret
    exact ⟨rfl, Below.refl _ _⟩
  · have hn : n ≤ 4194304 := by omega
    go_enter Try.func11, Try.ntmps11
    go_wp2_with fail
    refine (big_no A n cap _ (by omega)).mono ?_
    rintro e w0 ⟨rfl, rfl⟩
    go_wp2_with fail
    refine (drawOrd A n cap _ h hn).mono ?_
    rintro e w1 ⟨f, b, k, A', c, len, g, pol, hk, hl, rfl, hr1, hb1⟩
    have hl' : Hid (∀ i, i < k → len i ≤ 4194304) := fun i hi => by have := hl i hi; omega
    have hk' : k ≤ 4194304 := by omega
    have hbx := (Below.refl w1.heap.size w1).alloc (Nat.le_refl _) (.cells #[.int .i64 f, .int .i64 b, .slice A' k c] 33)
    have hE2 := Blk.new w1 33 #[.int .i64 f, .int .i64 b, .slice A' k c]
    have hr2 := hr1.to hbx hbx.size
    have hw2 := hb1.trans (hbx.mono hb1.size)
    clear hl hbx hr1 hb1
    obtain ⟨Y, hYe⟩ : ∃ Y, polB f b pol k len g = Y := ⟨_, rfl⟩
    have HY := hid hYe
    clear hYe
    obtain ⟨N, hN⟩ : ∃ x, oN Y k = x := ⟨_, rfl⟩
    have hNk : N ≤ k := by rw [← hN]; unfold oN; split <;> omega
    have HN := hid hN
    clear hN
    have c0 : (w1.alloc (.cells #[.int .i64 f, .int .i64 b, .slice A' k c] 33)).cell? ⟨w1.heap.size, 0, none⟩ = some (.int .i64 f) := hE2.cell 0
    have c1 : (w1.alloc (.cells #[.int .i64 f, .int .i64 b, .slice A' k c] 33)).cell? ⟨w1.heap.size, 1, none⟩ = some (.int .i64 b) := hE2.cell 1
    have c2 : (w1.alloc (.cells #[.int .i64 f, .int .i64 b, .slice A' k c] 33)).cell? ⟨w1.heap.size, 2, none⟩ = some (.slice A' k c) := hE2.cell 2
    go_wp2_with fail
    refine (iOrder_any f b pol A' k c len g _ hr2 hk' hl' _ HY.out).mono ?_
    rintro e w3 ⟨Ao, co, rfl, ho3, hb3⟩
    rw [HN.out]
    rw [HN.out] at ho3
    have hE3 := hE2.below hb3 hE2.lt
    have hr3 := hr2.to hb3 hb3.size
    have hO3 : Hid (Rd w3 w3.heap.size Ao N (ordZ pol len g k)) := rd_own0 ho3
    have hw3 := hw2.trans (hb3.mono hw2.size)
    clear hE2 hr2 hw2 hb3 ho3 c0 c1 c2
    have c0 : w3.cell? ⟨w1.heap.size, 0, none⟩ = some (.int .i64 f) := hE3.cell 0
    have c1 : w3.cell? ⟨w1.heap.size, 1, none⟩ = some (.int .i64 b) := hE3.cell 1
    have c2 : w3.cell? ⟨w1.heap.size, 2, none⟩ = some (.slice A' k c) := hE3.cell 2
    go_wp2_with fail
    refine (sOrder_any f b pol A' k c len g _ hr3 hk' hl' _ HY.out).mono ?_
    rintro e w4 ⟨As, cs, rfl, ho4, hb4⟩
    rw [HN.out]
    rw [HN.out] at ho4
    have hE4 := hE3.below hb4 hE3.lt
    have hr4 := hr3.to hb4 hb4.size
    have hO4 : Hid (Rd w4 w4.heap.size Ao N (ordZ pol len g k)) := (hO3.out.below hb4).more hb4.size
    have hw4 := hw3.trans (hb4.mono hw3.size)
    clear hE3 hr3 hO3 hw3 hb4 c0 c1 c2
    go_wp2_with fail
    refine (same_any Ao As N co cs _ _ _ hO4.out (rd_own0 ho4) (fun _ _ => rfl) (by omega)).mono ?_
    rintro e w5 ⟨rfl, mq, hq5⟩
    have hE5 : Blk w5 w1.heap.size 33 #[.int .i64 f, .int .i64 b, .slice A' k c] := by rw [hq5]; exact hE4
    have hr5 : RdT w5 w5.heap.size A' k len g := by rw [hq5]; exact hr4
    have hO5 : Hid (Rd w5 w5.heap.size Ao N (ordZ pol len g k)) := by rw [hq5]; exact hO4
    have hw5 : Below w.heap.size w w5 := by rw [hq5]; exact below_drewN hw4 _
    clear hq5 hE4 hr4 hO4 hw4 ho4
    have c0 : w5.cell? ⟨w1.heap.size, 0, none⟩ = some (.int .i64 f) := hE5.cell 0
    have c1 : w5.cell? ⟨w1.heap.size, 1, none⟩ = some (.int .i64 b) := hE5.cell 1
    have c2 : w5.cell? ⟨w1.heap.size, 2, none⟩ = some (.slice A' k c) := hE5.cell 2
    by_cases hN0 : N = 0
    · subst hN0
      go_wp2_with fail
      refine (sOrder_any f b pol A' k c len g _ hr5 hk' hl' _ HY.out).mono ?_
      rintro e w6 ⟨As6, cs6, rfl, ho6, hb6⟩
      rw [HN.out]
      rw [HN.out] at ho6
      have hO6 : Hid (Rd w6 w6.heap.size Ao 0 (ordZ pol len g k)) := (hO5.out.below hb6).more hb6.size
      have hw6 := hw5.trans (hb6.mono hw5.size)
      clear hE5 hr5 hO5 hw5 hb6 c0 c1 c2
      go_wp2_with fail
      refine (same_any Ao As6 0 co cs6 _ _ _ hO6.out (rd_own0 ho6) (fun _ _ => rfl) (by omega)).mono ?_
      rintro e w7 ⟨rfl, mr, hq7⟩
      have hw7 : Below w.heap.size w w7 := by rw [hq7]; exact below_drewN hw6 _
      clear hq7 hw6
      go_wp2_with fail
      go_ret
      exact ⟨rfl, hw7⟩
    · have hYt : Y = true := by
        cases Y with
        | true => rfl
        | false => exact absurd (HN.out.symm) hN0
      subst hYt
      obtain rfl : k = N := HN.out
      obtain ⟨hEn, hp1, hp3⟩ := polB_true HY.out
      obtain ⟨_, _, hk12, HT⟩ := ensB_iff.1 hEn
      have HT6 : Hid (∀ i, i < k → treeB (g i) (len i) 6 = true) := fun i hi => tree_moreO (HT i hi) (by have := (ensB_iff.1 hEn).1; omega) (by omega)
      have hk0 : 0 < k := by omega
      have q0 : ((k : Int) == 0) = false := by simp; omega
      clear HT hEn HN HY hN0
      have hmk := run_make_row' (P := Try.prog) 78 4 (.bool false) 1 Try.underlying78 info_bool rfl .i64 .i64 k (by omega) (by omega)
      go_wp2_with fail
      clear hmk q0 c0 c1 c2
      have hE6 : Hid (Blk (w5.alloc (.cells (madeCells #[.bool false] k) 4)) w1.heap.size 33 #[.int .i64 f, .int .i64 b, .slice A' k c]) := hE5.alloc _
      have hba := (Below.refl w5.heap.size w5).alloc (Nat.le_refl _) (.cells (madeCells #[.bool false] k) 4)
      have hS6 : Hid (Seen (w5.alloc (.cells (madeCells #[.bool false] k) 4)) w5.heap.size k (ordF (wtF pol len g) k) 0) := ⟨_, Blk.new w5 _ _, by simp [madeCells], fun x hx => by rw [made_at x hx]; rfl⟩
      have hb6 := hw5.trans (hba.mono hw5.size)
      obtain ⟨O, hO⟩ : ∃ O, ordF (wtF pol len g) k = O := ⟨_, rfl⟩
      have HOlt : Hid (∀ p, p < k → O p < k) := fun p hp => by rw [← hO]; exact ordF_lt _ k p hp
      have HOin : Hid (∀ p q, p < k → q < k → p ≠ q → O p ≠ O q) := fun p q h1 h2 h3 => by rw [← hO]; exact ordF_inj _ k p q h1 h2 h3
      have HOso : Hid (∀ p, p + 1 < k → wtF pol len g (O p) < wtF pol len g (O (p + 1)) ∨ (wtF pol len g (O p) = wtF pol len g (O (p + 1)) ∧ O p < O (p + 1))) := fun p hp => by rw [← hO]; exact ordF_sorted _ k p hp
      have HRO : Hid (∀ i, i < k → ∃ ob oo, Ao = some ⟨ob, oo, none⟩ ∧ ob < w5.heap.size ∧ w5.cell? ⟨ob, oo + i, none⟩ = some (.int .i64 (O i))) := fun i hi => by
        obtain ⟨ob, oo, e, hob, hc⟩ := hO5.out.at_ hi
        refine ⟨ob, oo, e, hob, ?_⟩
        rw [hc, ← hO]
        rfl
      rw [hO] at hS6
      have hws5 := hw5.size
      clear hO hE5 hO5 hba hw5
      obtain ⟨W5, hW5⟩ : ∃ x, w5.alloc (.cells (madeCells #[.bool false] k) 4) = x := ⟨_, rfl⟩
      have hs5 : w5.heap.size < W5.heap.size := by rw [← hW5, World.size_alloc]; omega
      have hb5 : Below w5.heap.size w5 W5 := by rw [← hW5]; exact (Below.refl _ _).alloc (Nat.le_refl _) _
      rw [hW5] at hE6 hS6 hb6 ⊢
      clear hW5
      obtain ⟨sb, hsb⟩ : ∃ x, w5.heap.size = x := ⟨_, rfl⟩
      have HSB := hid hsb
      rw [hsb] at hS6 hs5 ⊢
      clear hsb
      go_loopw [7, 8] (fun l i wr => ∃ i' : Nat, i' ≤ k ∧ i = .int .i64 i' ∧ l = .int .i64 (lastO (wtF pol len g) O i') ∧ Hid (Seen wr sb k O i') ∧ Hid (Blk wr w1.heap.size 33 #[.int .i64 f, .int .i64 b, .slice A' k c]) ∧ Hid (Below w5.heap.size w5 wr) ∧ Below w.heap.size w wr) (fun _ i _ => k - (intOf i).toNat)
      case atStart => exact ⟨0, Nat.zero_le _, rfl, rfl, hS6, hE6, hb5, hb6⟩
      case round =>
        clear hE6 hS6 hb5 hb6
        obtain ⟨i, hi, rfl, rfl, HS, HE, HB5, hbw⟩ := hrel
        by_cases hlt : i < k
        · obtain ⟨lv, hlv⟩ : ∃ v, lastO (wtF pol len g) O i = v := ⟨_, rfl⟩
          have HLV := hid hlv
          rw [hlv]
          clear hlv
          have hx := HOlt.out i hlt
          obtain ⟨x, hxe⟩ : ∃ x, O i = x := ⟨_, rfl⟩
          rw [hxe] at hx
          have HXE := hid hxe
          obtain ⟨ob, oo, rfl, hob, hco0⟩ := HRO.out i hlt
          rw [hxe] at hco0
          have hco : wr.cell? ⟨ob, oo + i, none⟩ = some (.int .i64 x) := (HB5.out.cell (p := ⟨ob, oo + i, none⟩) hob).trans hco0
          have hhit : hitO O x i = false := hitO_no fun j hj => by rw [← hxe]; exact HOin.out j i (by omega) hlt (by omega)
          have hcs : wr.cell? ⟨sb, x, none⟩ = some (.bool false) := by
            obtain ⟨cs, r1, r2, r3⟩ := HS.out
            rw [r1.cell, r3 x hx, hhit]
          have hfs : wr.frozen? ⟨sb, x, none⟩ = false := by obtain ⟨cs, r1, _⟩ := HS.out; exact r1.frozen x
          have hEne : w1.heap.size ≠ sb := by
            obtain ⟨cs, r1, _⟩ := HS.out
            exact fun e => (HE.out.ne_ r1 (by decide)) e
          have hHS := hid (HS.out.set (x := x) hxe hx)
          clear hxe hco0 hhit
          obtain ⟨tb, off, Ax, cx, rfl, htb, htc0, hrx⟩ := hr5.at_ hx
          have i1 : (i : Int) < (k : Int) := by omega
          have i2 : (0 : Int) ≤ (i : Int) := by omega
          have x1 : (x : Int) < (k : Int) := by omega
          have x2 : (0 : Int) ≤ (x : Int) := by omega
          have x3 : decide ((x : Int) < 0) = false := by simp
          have x4 : decide ((x : Int) ≥ (k : Int)) = false := by simp; omega
          have hlx : len x ≤ 4194304 := hl'.out x hx
          have hsbl : sb < wr.heap.size := by obtain ⟨cs, r1, _⟩ := HS.out; exact r1.lt
          have hbB := (HB5.out.setCell (p := ⟨sb, x, none⟩) (Nat.le_of_eq HSB.out) (.bool true))
          have hbW := hbw.setCell (p := ⟨sb, x, none⟩) (Nat.le_trans hws5 (Nat.le_of_eq HSB.out)) (.bool true)
          have hE7 : Hid (Blk (wr.setCell ⟨sb, x, none⟩ (.bool true)) w1.heap.size 33 #[.int .i64 f, .int .i64 b, .slice (some ⟨tb, off, none⟩) k c]) := HE.out.far (p := ⟨sb, x, none⟩) hEne _
          have hco7 : (wr.setCell ⟨sb, x, none⟩ (.bool true)).cell? ⟨ob, oo + i, none⟩ = some (.int .i64 x) := ((Below.refl sb wr).setCell (p := ⟨sb, x, none⟩) (Nat.le_refl _) (.bool true)).cell (p := ⟨ob, oo + i, none⟩) (by show ob < sb; rw [← HSB.out]; exact hob) |>.trans hco
          have htc7 : (wr.setCell ⟨sb, x, none⟩ (.bool true)).cell? ⟨tb, off + x, none⟩ = some (.slice Ax (len x) cx) := (hbB.cell (p := ⟨tb, off + x, none⟩) htb).trans htc0
          have hrx7 : RdN (wr.setCell ⟨sb, x, none⟩ (.bool true)).drew (wr.setCell ⟨sb, x, none⟩ (.bool true)).drew.heap.size Ax (len x) (g x) := (hrx.below hbB).more hbB.size
          clear HS HE HB5 hbw htc0
          go_wp2_with fail
          obtain ⟨WX, hWX⟩ : ∃ W, wr.setCell ⟨sb, x, none⟩ (.bool true) = W := ⟨_, rfl⟩
          rw [hWX] at hHS hbB hbW hE7 hco7 htc7 hrx7 ⊢
          clear hWX hco hcs hfs
          have HCO := hid hco7
          have HBB := hid hbB
          have hd2 : WX.drew.cell? ⟨w1.heap.size, 2, none⟩ = some (.slice (some ⟨tb, off, none⟩) k c) := hE7.out.cell 2
          have hdo : WX.drew.cell? ⟨ob, oo + i, none⟩ = some (.int .i64 x) := hco7
          have hdt : WX.drew.cell? ⟨tb, off + x, none⟩ = some (.slice Ax (len x) cx) := htc7
          have hsbX : sb < WX.heap.size := by obtain ⟨cs, r1, _⟩ := hHS.out; exact r1.lt
          have htbX : tb < WX.heap.size := Nat.lt_of_lt_of_le htb HBB.out.size
          have hobX : ob < WX.heap.size := Nat.lt_of_lt_of_le hob HBB.out.size
          clear hco7 htc7 hbB
          have hTx := HT6.out x hx
          have bdl := lo_boundO hTx
          have bdh := hi_boundO hTx
          have bdd := dep_bd (g x) 15 0
          obtain ⟨lo, hlo⟩ : ∃ v, loTo (g x) (len x) = v := ⟨_, rfl⟩
          obtain ⟨hi_, hhi⟩ : ∃ v, hiTo (g x) (len x) = v := ⟨_, rfl⟩
          obtain ⟨dp, hdp⟩ : ∃ v, dep (g x) 15 0 = v := ⟨_, rfl⟩
          have hcR := iRange_yes Ax (len x) cx (g x) WX.drew hrx7 hlx hTx
          rw [hlo, hhi] at hcR
          rw [hlo] at bdl
          rw [hhi] at bdh
          rw [hdp] at bdd
          have HLO := hid hlo
          have HHI := hid hhi
          have HDP := hid hdp
          have HTX := hid hTx
          clear hlo hhi hdp hTx
          go_region_held3 (fun w' => w'.cell? ⟨w1.heap.size, 2, none⟩ = some (.slice (some ⟨tb, off, none⟩) k c) ∧ w'.cell? ⟨ob, oo + i, none⟩ = some (.int .i64 x) ∧ w'.cell? ⟨tb, off + x, none⟩ = some (.slice Ax (len x) cx))
            (first | with_reducible exact ⟨hd2, hdo, hdt⟩ | with_reducible exact ⟨hz2, hzo, hzt⟩)
            (first
              | (go_at_call 52; refine hcR.mono ?_; rintro e w8 ⟨rfl, hb8⟩; have hE8 : Hid (Blk w8 w1.heap.size 33 #[.int .i64 f, .int .i64 b, .slice (some ⟨tb, off, none⟩) k c]) := Blk.below (w := WX.drew) hE7.out hb8 hE7.out.lt; have hS8 : Hid (Seen w8 sb k O (i + 1)) := (by obtain ⟨cs, r1, r2, r3⟩ := hHS.out; exact ⟨cs, Blk.below (w := WX.drew) r1 hb8 r1.lt, r2, r3⟩); have hz2 : w8.cell? ⟨w1.heap.size, 2, none⟩ = some (.slice (some ⟨tb, off, none⟩) k c) := hE8.out.cell 2; have hzo : w8.cell? ⟨ob, oo + i, none⟩ = some (.int .i64 x) := (hb8.cell (p := ⟨ob, oo + i, none⟩) hobX).trans hdo; have hzt : w8.cell? ⟨tb, off + x, none⟩ = some (.slice Ax (len x) cx) := (hb8.cell (p := ⟨tb, off + x, none⟩) htbX).trans hdt; have hb8s : WX.heap.size ≤ w8.heap.size := hb8.size; have HB8 : Hid (Below w5.heap.size w5 w8) := HBB.out.drew.trans (hb8.mono HBB.out.size); have HW8 : Hid (Below w.heap.size w w8) := hbW.drew.trans (hb8.mono hbW.size)))
          all_goals
            have hrx8 : RdN w8.drew w8.drew.heap.size Ax (len x) (g x) := (hrx7.below hb8).more hb8.size
            have HRX8 := hid hrx8
            clear hd2 hdo hdt hcR hE7 hHS HBB hbW HCO hrx7 hrx8 hb8
            obtain ⟨v, hv⟩ : ∃ v, wtF pol len g x = v := ⟨_, rfl⟩
            have HV := hid hv
            by_cases p2 : pol = 2
            · subst p2
              have hvw : IntKind.i64.wrap (lo - hi_) = v := by
                rw [IntWalk.i64_in _ (by omega), ← hv, ← HLO.out, ← HHI.out]
                rfl
              clear hv bdl bdh bdd
              by_cases hi0 : i = 0
              · subst hi0
                go_wp2_with fail
                go_quiet (fail)
                go_wp2_with fail
                go_roundw
                case rel => exact ⟨0 + 1, by omega, by go_num, (by rw [← HV.out, ← HXE.out]; rfl), Seen.drewN hS8.out nq, Blk.drewN hE8.out nq, below_drewN HB8.out nq, below_drewN HW8.out nq⟩
                case measure => simp [intOf]; omega
              · obtain ⟨s, hs⟩ : ∃ s, i = s + 1 := ⟨i - 1, by omega⟩
                have k1 : (i : Int) - 1 = s := by omega
                have k2 : (s : Int) < (k : Int) := by omega
                have k3 : (0 : Int) ≤ (s : Int) := by omega
                have k4 : (0 : Int) < (i : Int) := by omega
                have kd : decide (0 < i) = true := by simp; omega
                have kw : IntKind.i64.wrap (s : Int) = (s : Int) := IntWalk.i64_in _ (by omega)
                have hzs : w8.cell? ⟨ob, oo + s, none⟩ = some (.int .i64 (O s)) := by
                  obtain ⟨ob', oo', e', hob', hc'⟩ := HRO.out s (by omega)
                  injection e' with e'
                  injection e' with e1 e2
                  subst e1 e2
                  exact (HB8.out.cell (p := ⟨ob, oo + s, none⟩) hob').trans hc'
                obtain ⟨y, hy⟩ : ∃ y, O s = y := ⟨_, rfl⟩
                have hlvy : wtF 2 len g y = lv := by rw [← HLV.out, hs, ← hy]; rfl
                have hso := HOso.out s (by omega)
                rw [← hs, hy, HXE.out, HV.out, hlvy] at hso
                rw [hy] at hzs
                have HY := hid hy
                have HLY := hid hlvy
                have HS0 := hid hs
                have kf : decide (v < lv) = false := decide_eq_false (by omega)
                have ki : ¬ (v < lv) := by omega
                clear hy hlvy hs hi0
                rcases hso with hso | ⟨hso1, hso2⟩
                · have ke : (v == lv) = false := by simp; omega
                  have ke2 : ¬ (v = lv) := by omega
                  have ke3 : decide (v = lv) = false := decide_eq_false ke2
                  clear hso
                  go_wp2_with fail
                  go_quiet (fail)
                  go_wp2_with fail
                  go_roundw
                  case rel => exact ⟨i + 1, by omega, by go_num, (by rw [← HV.out, ← HXE.out]; rfl), Seen.drewN hS8.out nq, Blk.drewN hE8.out nq, below_drewN HB8.out nq, below_drewN HW8.out nq⟩
                  case measure => simp [intOf]; omega
                · subst hso1
                  have kg : decide ((y : Int) > (x : Int)) = false := decide_eq_false (by omega)
                  have kg2 : decide (x < y) = false := decide_eq_false (by omega)
                  have kg3 : ¬ (x < y) := by omega
                  clear hso2
                  go_wp2_with fail
                  go_quiet (fail)
                  go_wp2_with fail
                  go_roundw
                  case rel => exact ⟨i + 1, by omega, by go_num, (by rw [← HV.out, ← HXE.out]; rfl), Seen.drewN hS8.out nq, Blk.drewN hE8.out nq, below_drewN HB8.out nq, below_drewN HW8.out nq⟩
                  case measure => simp [intOf]; omega
            · by_cases p3 : pol = 3
              · subst p3
                obtain rfl : dp = v := by rw [← hv, ← HDP.out]; rfl
                clear hv bdl bdh bdd p2
                have hd2 : w8.drew.cell? ⟨w1.heap.size, 2, none⟩ = some (.slice (some ⟨tb, off, none⟩) k c) := hz2
                have hdo : w8.drew.cell? ⟨ob, oo + i, none⟩ = some (.int .i64 x) := hzo
                have hdt : w8.drew.cell? ⟨tb, off + x, none⟩ = some (.slice Ax (len x) cx) := hzt
                have htb8 : tb < w8.heap.size := Nat.lt_of_lt_of_le htbX hb8s
                have hob8 : ob < w8.heap.size := Nat.lt_of_lt_of_le hob HB8.out.size
                have hcD := iDepth_yes Ax (len x) cx (g x) w8.drew HRX8.out hlx HTX.out
                rw [HDP.out] at hcD
                clear hz2 hzo hzt
                go_wp2_with fail
                go_region_held3 (fun w' => w'.cell? ⟨w1.heap.size, 2, none⟩ = some (.slice (some ⟨tb, off, none⟩) k c) ∧ w'.cell? ⟨ob, oo + i, none⟩ = some (.int .i64 x) ∧ w'.cell? ⟨tb, off + x, none⟩ = some (.slice Ax (len x) cx))
                  (first | with_reducible exact ⟨hd2, hdo, hdt⟩ | with_reducible exact ⟨hz2, hzo, hzt⟩)
                  (first
                    | (go_at_call 55; refine hcD.mono ?_; rintro e w9 ⟨rfl, hb9⟩; have hE9 : Hid (Blk w9 w1.heap.size 33 #[.int .i64 f, .int .i64 b, .slice (some ⟨tb, off, none⟩) k c]) := Blk.below (w := w8.drew) hE8.out hb9 hE8.out.lt; have hS9 : Hid (Seen w9 sb k O (i + 1)) := (by obtain ⟨cs, r1, r2, r3⟩ := hS8.out; exact ⟨cs, Blk.below (w := w8.drew) r1 hb9 r1.lt, r2, r3⟩); have hzo : w9.cell? ⟨ob, oo + i, none⟩ = some (.int .i64 x) := (hb9.cell (p := ⟨ob, oo + i, none⟩) hob8).trans hdo; have hz2 : w9.cell? ⟨w1.heap.size, 2, none⟩ = some (.slice (some ⟨tb, off, none⟩) k c) := hE9.out.cell 2; have hzt : w9.cell? ⟨tb, off + x, none⟩ = some (.slice Ax (len x) cx) := (hb9.cell (p := ⟨tb, off + x, none⟩) htb8).trans hdt; have HB9 : Hid (Below w5.heap.size w5 w9) := HB8.out.drew.trans (hb9.mono HB8.out.size); have HW9 : Hid (Below w.heap.size w w9) := HW8.out.drew.trans (hb9.mono HW8.out.size)))
                all_goals
                  clear hd2 hdo hdt hcD hb9
                  by_cases hi0 : i = 0
                  · subst hi0
                    go_wp2_with fail
                    go_quiet (fail)
                    go_wp2_with fail
                    go_roundw
                    case rel => exact ⟨0 + 1, by omega, by go_num, (by rw [← HV.out, ← HXE.out]; rfl), Seen.drewN hS9.out nq, Blk.drewN hE9.out nq, below_drewN HB9.out nq, below_drewN HW9.out nq⟩
                    case measure => simp [intOf]; omega
                  · obtain ⟨s, hs⟩ : ∃ s, i = s + 1 := ⟨i - 1, by omega⟩
                    have k1 : (i : Int) - 1 = s := by omega
                    have k2 : (s : Int) < (k : Int) := by omega
                    have k3 : (0 : Int) ≤ (s : Int) := by omega
                    have k4 : (0 : Int) < (i : Int) := by omega
                    have kd : decide (0 < i) = true := by simp; omega
                    have kw : IntKind.i64.wrap (s : Int) = (s : Int) := IntWalk.i64_in _ (by omega)
                    have hzs : w9.cell? ⟨ob, oo + s, none⟩ = some (.int .i64 (O s)) := by
                      obtain ⟨ob', oo', e', hob', hc'⟩ := HRO.out s (by omega)
                      injection e' with e'
                      injection e' with e1 e2
                      subst e1 e2
                      exact (HB9.out.cell (p := ⟨ob, oo + s, none⟩) hob').trans hc'
                    obtain ⟨y, hy⟩ : ∃ y, O s = y := ⟨_, rfl⟩
                    have hlvy : wtF 3 len g y = lv := by rw [← HLV.out, hs, ← hy]; rfl
                    have hso := HOso.out s (by omega)
                    rw [← hs, hy, HXE.out, HV.out, hlvy] at hso
                    rw [hy] at hzs
                    have HY := hid hy
                    have HLY := hid hlvy
                    have HS0 := hid hs
                    have kf : decide (dp < lv) = false := decide_eq_false (by omega)
                    have ki : ¬ (dp < lv) := by omega
                    clear hy hlvy hs hi0
                    rcases hso with hso | ⟨hso1, hso2⟩
                    · have ke : (dp == lv) = false := by simp; omega
                      have ke2 : ¬ (dp = lv) := by omega
                      have ke3 : decide (dp = lv) = false := decide_eq_false ke2
                      clear hso
                      go_wp2_with fail
                      go_quiet (fail)
                      go_wp2_with fail
                      go_roundw
                      case rel => exact ⟨i + 1, by omega, by go_num, (by rw [← HV.out, ← HXE.out]; rfl), Seen.drewN hS9.out nq, Blk.drewN hE9.out nq, below_drewN HB9.out nq, below_drewN HW9.out nq⟩
                      case measure => simp [intOf]; omega
                    · subst hso1
                      have kg : decide ((y : Int) > (x : Int)) = false := decide_eq_false (by omega)
                      have kg2 : decide (x < y) = false := decide_eq_false (by omega)
                      have kg3 : ¬ (x < y) := by omega
                      clear hso2
                      go_wp2_with fail
                      go_quiet (fail)
                      go_wp2_with fail
                      go_roundw
                      case rel => exact ⟨i + 1, by omega, by go_num, (by rw [← HV.out, ← HXE.out]; rfl), Seen.drewN hS9.out nq, Blk.drewN hE9.out nq, below_drewN HB9.out nq, below_drewN HW9.out nq⟩
                      case measure => simp [intOf]; omega
              · obtain rfl : pol = 1 := by omega
                obtain rfl : 0 = v := by rw [← hv]; rfl
                clear hv bdl bdh bdd p2 p3
                by_cases hi0 : i = 0
                · subst hi0
                  go_wp2_with fail
                  go_quiet (fail)
                  go_wp2_with fail
                  go_roundw
                  case rel => exact ⟨0 + 1, by omega, by go_num, (by rw [← HV.out, ← HXE.out]; rfl), Seen.drewN hS8.out nq, Blk.drewN hE8.out nq, below_drewN HB8.out nq, below_drewN HW8.out nq⟩
                  case measure => simp [intOf]; omega
                · obtain ⟨s, hs⟩ : ∃ s, i = s + 1 := ⟨i - 1, by omega⟩
                  have k1 : (i : Int) - 1 = s := by omega
                  have k2 : (s : Int) < (k : Int) := by omega
                  have k3 : (0 : Int) ≤ (s : Int) := by omega
                  have k4 : (0 : Int) < (i : Int) := by omega
                  have kd : decide (0 < i) = true := by simp; omega
                  have kw : IntKind.i64.wrap (s : Int) = (s : Int) := IntWalk.i64_in _ (by omega)
                  have hzs : w8.cell? ⟨ob, oo + s, none⟩ = some (.int .i64 (O s)) := by
                    obtain ⟨ob', oo', e', hob', hc'⟩ := HRO.out s (by omega)
                    injection e' with e'
                    injection e' with e1 e2
                    subst e1 e2
                    exact (HB8.out.cell (p := ⟨ob, oo + s, none⟩) hob').trans hc'
                  obtain ⟨y, hy⟩ : ∃ y, O s = y := ⟨_, rfl⟩
                  have hlvy : wtF 1 len g y = lv := by rw [← HLV.out, hs, ← hy]; rfl
                  have hso := HOso.out s (by omega)
                  rw [← hs, hy, HXE.out, HV.out, hlvy] at hso
                  rw [hy] at hzs
                  have HY := hid hy
                  have HLY := hid hlvy
                  have HS0 := hid hs
                  have kf : decide ((0 : Int) < lv) = false := decide_eq_false (by omega)
                  have ki : ¬ ((0 : Int) < lv) := by omega
                  clear hy hlvy hs hi0
                  rcases hso with hso | ⟨hso1, hso2⟩
                  · have ke : ((0 : Int) == lv) = false := by simp; omega
                    have ke2 : ¬ ((0 : Int) = lv) := by omega
                    have ke3 : decide ((0 : Int) = lv) = false := decide_eq_false ke2
                    clear hso
                    go_wp2_with fail
                    go_quiet (fail)
                    go_wp2_with fail
                    go_roundw
                    case rel => exact ⟨i + 1, by omega, by go_num, (by rw [← HV.out, ← HXE.out]; rfl), Seen.drewN hS8.out nq, Blk.drewN hE8.out nq, below_drewN HB8.out nq, below_drewN HW8.out nq⟩
                    case measure => simp [intOf]; omega
                  · subst hso1
                    have kg : decide ((y : Int) > (x : Int)) = false := decide_eq_false (by omega)
                    have kg2 : decide (x < y) = false := decide_eq_false (by omega)
                    have kg3 : ¬ (x < y) := by omega
                    clear hso2
                    go_wp2_with fail
                    go_quiet (fail)
                    go_wp2_with fail
                    go_roundw
                    case rel => exact ⟨i + 1, by omega, by go_num, (by rw [← HV.out, ← HXE.out]; rfl), Seen.drewN hS8.out nq, Blk.drewN hE8.out nq, below_drewN HB8.out nq, below_drewN HW8.out nq⟩
                    case measure => simp [intOf]; omega
        · obtain rfl : i = k := by omega
          have a2 : wr.cell? ⟨w1.heap.size, 2, none⟩ = some (.slice A' i c) := HE.out.cell 2
          go_wp2_with fail
          go_ret
          exact ⟨rfl, hbw⟩
end
end Go.Proofs.Ytmpgefpaoogoiaa
