/- Drawn boxes; boxes compared. -/
import Derived.Test.YthjphnopcgdgdaaDoorK6
import Derived.Test.YthjphnopcgdgdaaDoorSpT
namespace Go.Proofs.YthjphnopcgdgdaaDoor
open Go.RowKit Go.Deep
set_option linter.unusedVariables false
set_option linter.unusedSimpArgs false

def spansC (n : Nat) (g : Nat → Sp) : List Value := (List.range n).flatMap fun i => spC (g i)
theorem spansC_succ (n : Nat) (g : Nat → Sp) : spansC (n + 1) g = spansC n g ++ spC (g n) := by
  unfold spansC
  rw [List.range_succ, List.flatMap_append]
  simp
theorem spansC_len (n : Nat) (g : Nat → Sp) : (spansC n g).length = n * 3 := by
  induction n with
  | zero => rfl
  | succ n ih => rw [spansC_succ, List.length_append, ih]; simp [spC]; omega
theorem spansC_at (g : Nat → Sp) : ∀ (n i j : Nat), i < n → j < 3 → (spansC n g)[i * 3 + j]? = (spC (g i))[j]? := by
  intro n
  induction n with
  | zero => intro i j hi; omega
  | succ n ih =>
    intro i j hi hj
    rw [spansC_succ]
    by_cases e : i = n
    · subst e
      rw [List.getElem?_append_right (by rw [spansC_len]; omega), spansC_len]
      congr 1; omega
    · rw [List.getElem?_append_left (by rw [spansC_len]; omega)]
      exact ih i j (by omega) hj
theorem own_rowS {w : World} {B m c : Nat} {t : TypeId} {A' : Option Addr} {g : Nat → Sp} (h : w.ownsRow B t 3 (.slice A' m c) m (spansC m g)) (hm : 0 < m) :
    ∃ b, A' = some ⟨b, 0, none⟩ ∧ B ≤ b ∧ m ≤ c ∧ RowS w t b m g := by
  rcases h.2 with ⟨_, h0⟩ | ⟨b, cap, cur, hv, hb, hg, h1, _, h3, ht⟩
  · omega
  · injection hv with e1 _ e3
    refine ⟨b, e1, hb, by omega, cur, hg, by rw [h3]; exact Nat.mul_le_mul_right 3 h1, fun i hi j hj => ?_⟩
    have hlt : i * 3 + j < m * 3 := by omega
    have := spansC_at g m i j hi hj
    rw [← ht, List.getElem?_take, if_pos hlt, Array.getElem?_toList] at this
    exact this
theorem spC_one (d : Sp) : ∀ u ∈ spC d, u.oneCell' = true := by
  intro u hu
  simp only [spC, List.mem_cons, List.not_mem_nil, or_false] at hu
  rcases hu with rfl | rfl | rfl <;> rfl
def extS (g : Nat → Sp) (k : Nat) (d : Sp) : Nat → Sp := fun i => if i = k then d else g i
theorem spansC_congr {g g' : Nat → Sp} : ∀ n, (∀ i, i < n → g i = g' i) → spansC n g = spansC n g' := by
  intro n
  induction n with
  | zero => intro _; rfl
  | succ n ih => intro h; rw [spansC_succ, spansC_succ, ih fun i hi => h i (by omega), h n (by omega)]
theorem spansC_ext (k : Nat) (g : Nat → Sp) (d : Sp) : spansC (k + 1) (extS g k d) = spansC k g ++ spC d := by
  rw [spansC_succ]
  congr 1
  · exact spansC_congr k fun i hi => by unfold extS; rw [if_neg (by omega)]
  · unfold extS; rw [if_pos rfl]

set_option maxRecDepth 100000 in
set_option maxHeartbeats 2000000 in
theorem box_draw (R n cap : Nat) (A : Option Addr) (m : Nat) (w : World) (h : Rs w R A n cap) (hm : m ≤ 16) :
    Calls Tryd.prog 58 #[.pointer (some ⟨R, 0, none⟩), .int .i64 m] w fun e w' =>
      ∃ (g : Nat → Sp) (A' : Option Addr) (c : Nat), e = .returned (.slice A' m c) ∧ w'.ownsRow w.heap.size 32 3 (.slice A' m c) m (spansC m g) ∧ Rs w' R A n cap ∧ w.grownBy w' (some R) := by
  obtain ⟨i0, hi0, hz0, hz1, hz2⟩ := info_parts info_span
  have hRw := h.lt
  go_enter Tryd.func58, Tryd.ntmps58
  go_wp2_with fail
  go_loopw [5, 6] (fun o i wr => ∃ (k : Nat) (g : Nat → Sp) (A' : Option Addr) (c : Nat), k ≤ m ∧ i = .int .i64 k ∧ o = .slice A' k c ∧ wr.ownsRow w.heap.size 32 3 (.slice A' k c) k (spansC k g) ∧ Rs wr R A n cap ∧ Hid (w.grownBy wr (some R)))
    (fun _ i _ => m - (intOf i).toNat)
  case atStart => exact ⟨0, (fun _ => ⟨0, 0, false⟩), _, _, Nat.zero_le _, rfl, rfl, World.ownsRow_made w #[] 0 (Nat.le_refl _) (by unfold maxLen; omega) rfl, h.alloc _, World.grownBy_alloc _ _ _⟩
  case round =>
    obtain ⟨k, g, A', c, hk, rfl, rfl, hown, hR, hg⟩ := hrel
    by_cases hlt : k < m
    · have i1 : (k : Int) < (m : Int) := by omega
      have hsz := hg.out.size
      go_wp2_with fail
      refine (span_draw R n cap A _ hR).mono ?_
      rintro e w1 ⟨d, rfl, hR1, hg1⟩
      have hown1 := own_grown hown hg1 hRw
      have hgg := grown_trans hg.out hg1
      have hs1 := hgg.size
      have HG := hid hgg
      have hN := Blk.new w1 32 #[.int .i64 d.lo, .int .i64 d.hi, .bool d.gone]
      have hcell : ∀ j u, (spC d)[j]? = some u → (w1.alloc (.cells #[.int .i64 d.lo, .int .i64 d.hi, .bool d.gone] 32)).cell? ⟨w1.heap.size, j, none⟩ = some u := fun j u hu => (hN.cell j).trans (by rw [← hu]; simp [spC])
      have HC := hid hcell
      clear hgg hg1 hown hR hg hN hcell
      go_wp2_with (at_builtin; refine wpList_append_own _ rfl (.tmp 13) (.tmp 16) 36 rfl w.heap.size 32 i0 (spV ⟨0, 0, false⟩) 3 24 Tryd.underlying36 hi0 hz0 hz1 hz2 rfl (by decide) _ k _ rfl (hown1.alloc _) ⟨w1.heap.size, 0, none⟩ 1 1 (spC d) rfl rfl (fun j u hu => by simpa [Addr.add_lit] using HC.out j u hu) (spC_one _) (by unfold maxLen; omega) (by omega) (by simp; omega) ?_)
      intro v' w3 hown3 hg3 _
      have hgW := grown_own HG.out _ hg3 (fun x hx => (hown1.lt x hx).1)
      have hR3 := rs_own (B := w.heap.size) hR1 _ hg3 (fun x hx => (hown1.lt x hx).1) hRw
      have HGW := hid hgW
      clear hg3 hgW hown1 hR1
      obtain ⟨A3, c3, rfl⟩ := own_form hown3
      go_wp2_with fail
      go_roundw
      case rel => exact ⟨k + 1, extS g k d, A3, c3, by omega, by go_num, rfl, by rw [spansC_ext]; exact hown3, hR3, HGW⟩
      case measure => simp [intOf]; omega
    · have e : k = m := by omega
      go_wp2_with fail
      go_ret
      subst e
      exact ⟨g, A', c, rfl, hown, hR, hg.out⟩

theorem box_drawI (R n cap : Nat) (A : Option Addr) (mI : Int) (w : World) (h : Rs w R A n cap) (h0 : 0 ≤ mI) (hm : mI ≤ 16) :
    Calls Tryd.prog 58 #[.pointer (some ⟨R, 0, none⟩), .int .i64 mI] w fun e w' =>
      ∃ (m : Nat) (g : Nat → Sp) (A' : Option Addr) (c : Nat), (m : Int) = mI ∧ m ≤ 16 ∧ e = .returned (.slice A' m c) ∧ w'.ownsRow w.heap.size 32 3 (.slice A' m c) m (spansC m g) ∧ Rs w' R A n cap ∧ w.grownBy w' (some R) := by
  obtain ⟨m, rfl⟩ := Int.eq_ofNat_of_zero_le h0
  exact (box_draw R n cap A m w h (by omega)).mono fun e w' ⟨g, A', c, h1, h2, h3, h4⟩ => ⟨m, g, A', c, rfl, by omega, h1, h2, h3, h4⟩

/-- A drawn list of spans that can be read. -/
theorem rds_own {w : World} {B m c : Nat} {A' : Option Addr} {g : Nat → Sp} (h : w.ownsRow B 32 3 (.slice A' m c) m (spansC m g)) : RdS w w.heap.size A' m g := by
  rcases Nat.eq_zero_or_pos m with h0 | h0
  · subst h0; exact rds_none
  · obtain ⟨b, rfl, _, _, hr⟩ := own_rowS h h0
    exact rds_of hr
def DrawnBox (w : World) (e : Ending) (w' : World) : Prop :=
  ∃ (m : Nat) (g : Nat → Sp) (A' : Option Addr) (c : Nat), m ≤ 16 ∧ e = .returned (.slice A' m c) ∧ RdS w' w'.heap.size A' m g ∧ Below w.heap.size w w'

set_option maxHeartbeats 1000000 in
theorem drawBoxOk (A : Option Addr) (n cap : Nat) (w : World) (h : Bs w w.heap.size A n) (hn : n ≤ 4194304) :
    Calls Tryd.prog 44 #[.slice A n cap] w (DrawnBox w) := by
  obtain ⟨i0, hi0, hz0, hz1, hz2⟩ := info_parts info_span
  go_enter Tryd.func44, Tryd.ntmps44
  go_wp2_with fail
  refine (open_draw A n cap _ h hn).mono ?_
  rintro e w1 ⟨rfl, hR1, hb1⟩
  go_wp2_with fail
  refine (once_draw _ n cap A 16 _ hR1 (by omega) (by omega)).mono ?_
  rintro e w2 ⟨q, rfl, hR2, hg2⟩
  have hb2 := hb1.trans (below_grown hg2 hR1.lt)
  cases q
  · go_wp2_with fail
    refine (below_draw _ n cap A 4 _ hR2 (by omega) (by omega)).mono ?_
    rintro e w3 ⟨x, rfl, hx0, hx1, hR3, hg3⟩
    have hb3 := hb2.trans (below_grown hg3 hR2.lt)
    go_wp2_with fail
    refine (box_drawI _ n cap A _ _ hR3 (by omega) (by omega)).mono ?_
    rintro e w4 ⟨m, g, A', c, _, hm, rfl, hown, hR4, hg4⟩
    have hb4 := hb3.trans (below_grown hg4 hR3.lt)
    go_wp2_with fail
    go_ret
    exact ⟨m, g, A', c, hm, rfl, rds_own hown, hb4⟩
  · go_wp2_with fail
    refine (below_draw _ n cap A 2 _ hR2 (by omega) (by omega)).mono ?_
    rintro e w3 ⟨x, rfl, hx0, hx1, hR3, hg3⟩
    have hb3 := hb2.trans (below_grown hg3 hR2.lt)
    by_cases hx : x = 0
    · subst hx
      have hmk : ∀ wx, (Instr.makeSlice 36 (.int .i64 0) (.int .i64 0)).run Tryd.prog wx = .ok (.slice (some ⟨wx.heap.size, 0, none⟩) 0 0) (wx.alloc (.cells (madeCells (spV ⟨0, 0, false⟩).cells (0 * i0.size)) 32)) :=
        fun wx => run_make_rowN (P := Tryd.prog) 36 32 i0 _ Tryd.underlying36 hi0 hz0 .i64 .i64 0 0 (Nat.le_refl _) (by omega) (by omega) wx
      go_wp2_with fail
      go_ret
      exact ⟨0, (fun _ => ⟨0, 0, false⟩), _, _, by omega, rfl, rds_none, hb3.alloc hb3.size _⟩
    · obtain rfl : x = 1 := by omega
      have hmk : ∀ wx, (Instr.makeSlice 36 (.int .i64 7) (.int .i64 7)).run Tryd.prog wx = .ok (.slice (some ⟨wx.heap.size, 0, none⟩) 7 7) (wx.alloc (.cells (madeCells (spV ⟨0, 0, false⟩).cells (7 * i0.size)) 32)) :=
        fun wx => run_make_rowN (P := Tryd.prog) 36 32 i0 _ Tryd.underlying36 hi0 hz0 .i64 .i64 7 7 (Nat.le_refl _) (by rw [hz2]; omega) (by omega) wx
      rw [hz1] at hmk
      go_wp2_with fail
      go_ret
      refine ⟨7, (fun _ => ⟨0, 0, false⟩), _, _, by omega, rfl, rds_of (t := 32) ⟨_, Blk.new _ _ _, by simp [madeCells], fun i hi j hj => ?_⟩, hb3.alloc hb3.size _⟩
      obtain rfl | rfl | rfl | rfl | rfl | rfl | rfl : i = 0 ∨ i = 1 ∨ i = 2 ∨ i = 3 ∨ i = 4 ∨ i = 5 ∨ i = 6 := by omega
      all_goals
        obtain rfl | rfl | rfl : j = 0 ∨ j = 1 ∨ j = 2 := by omega
        all_goals simp [madeCells, spC]

def spEq (a b : Sp) : Bool := a.lo == b.lo && (a.hi == b.hi && a.gone == b.gone)
theorem spEq_iff {a b : Sp} : spEq a b = true ↔ a = b := by
  obtain ⟨a0, a1, a2⟩ := a
  obtain ⟨b0, b1, b2⟩ := b
  unfold spEq
  simp only [Bool.and_eq_true, beq_iff_eq, Sp.mk.injEq]
def eqBoxB (n : Nat) (g : Nat → Sp) (n' : Nat) (g' : Nat → Sp) : Bool := decide (n = n') && allP (fun i => spEq (g i) (g' i)) n
theorem eqBoxB_self (n : Nat) (g : Nat → Sp) : eqBoxB n g n g = true := by
  unfold eqBoxB
  rw [decide_eq_true rfl, Bool.true_and]
  exact allP_iff.2 fun i _ => spEq_iff.2 rfl
theorem eqBoxB_iff {n n' : Nat} {g g' : Nat → Sp} : eqBoxB n g n' g' = true ↔ n = n' ∧ ∀ i, i < n → g i = g' i := by
  unfold eqBoxB
  rw [Bool.and_eq_true, decide_eq_true_eq, allP_iff]
  constructor
  · rintro ⟨h1, h2⟩; exact ⟨h1, fun i hi => spEq_iff.1 (h2 i hi)⟩
  · rintro ⟨h1, h2⟩; exact ⟨h1, fun i hi => spEq_iff.2 (h2 i hi)⟩

set_option maxHeartbeats 2000000 in
theorem sameBox_any (A A' : Option Addr) (n n' c c' : Nat) (g g' : Nat → Sp) (w : World) (h : RdS w w.heap.size A n g) (h' : RdS w w.heap.size A' n' g') (hn : n ≤ 4194304) (hn' : n' ≤ 4194304) :
    Calls Tryd.prog 21 #[.slice A n c, .slice A' n' c'] w fun e w' => e = .returned (.bool (eqBoxB n g n' g')) ∧ Below w.heap.size w w' := by
  by_cases hnn : n = n'
  · subst hnn
    have e0 : Hid (eqBoxB n g n g' = allP (fun i => spEq (g i) (g' i)) n) := by show _ = _; unfold eqBoxB; rw [decide_eq_true rfl, Bool.true_and]
    go_enter Tryd.func21, Tryd.ntmps21
    go_wp2_with fail
    go_loopw [5] (fun i wr => ∃ k : Nat, k ≤ n ∧ i = .int .i64 k ∧ Hid (allP (fun i => spEq (g i) (g' i)) k = true) ∧ Below w.heap.size w wr) (fun i _ => n - (intOf i).toNat)
    case atStart => exact ⟨0, Nat.zero_le _, rfl, rfl, Below.refl _ _⟩
    case round =>
      obtain ⟨k, hk, rfl, hall, hbl⟩ := hrel
      by_cases hlt : k < n
      · obtain ⟨b, off, rfl, hb, c0, c1, c2⟩ := (h.below hbl).at_ hlt
        obtain ⟨b', off', rfl, hb', c0', c1', c2'⟩ := (h'.below hbl).at_ hlt
        have he : ∀ wx, (Op.equalIn 10000 32 (.agg #[.int .i64 (g k).lo, .int .i64 (g k).hi, .bool (g k).gone]) (.agg #[.int .i64 (g' k).lo, .int .i64 (g' k).hi, .bool (g' k).gone])).run Tryd.prog wx = .ok (spEq (g k) (g' k)) wx := fun wx => eqSp (g k) (g' k) wx
        have hi : (k : Int) < (n : Int) := by omega
        have hi0 : (0 : Int) ≤ (k : Int) := by omega
        cases hq : spEq (g k) (g' k)
        · rw [hq] at he
          have HQ := hid hq
          clear hq
          go_wp2_with fail
          go_region
          all_goals
            go_wp2_with fail
            go_ret
            refine ⟨?_, hbl.drew⟩
            rw [e0.out, allP_false (p := fun i => spEq (g i) (g' i)) hlt HQ.out]
            rfl
        · rw [hq] at he
          have HQ := hid hq
          clear hq
          go_wp2_with fail
          go_region
          all_goals
            go_wp2_with fail
            go_roundw
            case rel => exact ⟨k + 1, by omega, by go_num, (by show allP _ (k + 1) = true; simp only [allP, HQ.out, hall.out]; rfl), hbl.drew⟩
            case measure => simp [intOf]; omega
      · obtain rfl : k = n := by omega
        go_wp2_with fail
        go_ret
        refine ⟨?_, hbl⟩
        rw [e0.out, hall.out]
        rfl
  · have e0 : eqBoxB n g n' g' = false := by unfold eqBoxB; rw [decide_eq_false hnn]; rfl
    rw [e0]
    have e1 : ((n : Int) == (n' : Int)) = false := by simp; omega
    have e2 : ((n : Int) != (n' : Int)) = true := by simp; omega
    have e3 : ¬ (n : Int) = (n' : Int) := by omega
    go_enter Tryd.func21, Tryd.ntmps21
    go_wp2_with fail
    go_ret
    exact ⟨rfl, Below.refl _ _⟩

theorem drawBoxText (A : Option Addr) (n cap : Nat) (w : World) (h : Bs w w.heap.size A n) (hn : n ≤ 4194304) :
    Calls Tryd.prog 18 #[.slice A n cap] w (DrawnBox w) := by
  go_enter Tryd.func18, Tryd.ntmps18
  go_wp2_with fail
  refine (drawBoxOk A n cap _ h hn).mono ?_
  rintro e w1 ⟨m, g, A', c, hm, rfl, hr, hb⟩
  go_wp2_with fail
  go_ret
  exact ⟨m, g, A', c, hm, rfl, hr, hb⟩
end Go.Proofs.YthjphnopcgdgdaaDoor
