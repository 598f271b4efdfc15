/- What is drawn of boxes. -/
import Derived.Test.YtmlcpjcchgihfaaBoxDrawA
import Derived.Test.YtmlcpjcchgihfaaMeetD
import Derived.Test.YtmlcpjcchgihfaaDrawH
namespace Go.Proofs.Ytmlcpjcchgihfaa
open Go.RowKit Go.Deep

def extS (g : Nat → Sp) (k : Nat) (d : Sp) : Nat → Sp := fun i => if i = k then d else g i
theorem spansC_congr {g g' : Nat → Sp} : ∀ n, (∀ i, i < n → g i = g' i) → spansC n g = spansC n g' := by
  intro n
  induction n with
  | zero => intro _; rfl
  | succ n ih => intro h; rw [spansC_succ, spansC_succ, ih fun i hi => h i (by omega), h n (by omega)]
theorem spansC_ext (k : Nat) (g : Nat → Sp) (d : Sp) : spansC (k + 1) (extS g k d) = spansC k g ++ spC d := by
  rw [spansC_succ]
  congr 1
  · exact spansC_congr k fun i hi => by unfold extS; rw [if_neg (by omega)]
  · unfold extS; rw [if_pos rfl]

set_option maxRecDepth 100000 in
set_option maxHeartbeats 2000000 in
theorem box_draw (R n cap : Nat) (A : Option Addr) (m : Nat) (w : World) (h : Rs w R A n cap) (hm : m ≤ 16) :
    Calls Try.prog 114 #[.pointer (some ⟨R, 0, none⟩), .int .i64 m] w fun e w' =>
      ∃ (g : Nat → Sp) (A' : Option Addr) (c : Nat), e = .returned (.slice A' m c) ∧ w'.ownsRow w.heap.size 80 3 (.slice A' m c) m (spansC m g) ∧ Rs w' R A n cap ∧ w.grownBy w' (some R) := by
  obtain ⟨i0, hi0, hz0, hz1, hz2⟩ := info_parts info_span
  have hRw := h.lt
  go_enter Try.func114, Try.ntmps114
  go_wp2_with fail
  go_loopw [5, 6] (fun o i wr => ∃ (k : Nat) (g : Nat → Sp) (A' : Option Addr) (c : Nat), k ≤ m ∧ i = .int .i64 k ∧ o = .slice A' k c ∧ wr.ownsRow w.heap.size 80 3 (.slice A' k c) k (spansC k g) ∧ Rs wr R A n cap ∧ Hid (w.grownBy wr (some R)))
    (fun _ i _ => m - (intOf i).toNat)
  case atStart => exact ⟨0, (fun _ => ⟨0, 0, false⟩), _, _, Nat.zero_le _, rfl, rfl, World.ownsRow_made w #[] 0 (Nat.le_refl _) (by unfold maxLen; omega) rfl, h.alloc _, World.grownBy_alloc _ _ _⟩
  case round =>
    obtain ⟨k, g, A', c, hk, rfl, rfl, hown, hR, hg⟩ := hrel
    by_cases hlt : k < m
    · have i1 : (k : Int) < (m : Int) := by omega
      have hsz := hg.out.size
      go_wp2_with fail
      refine (span_draw R n cap A _ hR).mono ?_
      rintro e w1 ⟨d, rfl, hR1, hg1⟩
      have hown1 := own_grown hown hg1 hRw
      have hgg := grown_trans hg.out hg1
      have hs1 := hgg.size
      have HG := hid hgg
      have hN := Blk.new w1 80 #[.int .i64 d.lo, .int .i64 d.hi, .bool d.gone]
      have hcell : ∀ j u, (spC d)[j]? = some u → (w1.alloc (.cells #[.int .i64 d.lo, .int .i64 d.hi, .bool d.gone] 80)).cell? ⟨w1.heap.size, j, none⟩ = some u := fun j u hu => (hN.cell j).trans (by rw [← hu]; simp [spC])
      have HC := hid hcell
      clear hgg hg1 hown hR hg hN hcell
      go_wp2_with (at_builtin; refine wpList_append_own _ rfl (.tmp 13) (.tmp 16) 43 rfl w.heap.size 80 i0 (spV ⟨0, 0, false⟩) 3 24 Try.underlying43 hi0 hz0 hz1 hz2 rfl (by decide) _ k _ rfl (hown1.alloc _) ⟨w1.heap.size, 0, none⟩ 1 1 (spC d) rfl rfl (fun j u hu => by simpa [Addr.add_lit] using HC.out j u hu) (spC_one _) (by unfold maxLen; omega) (by omega) (by simp; omega) ?_)
      intro v' w3 hown3 hg3 _
      have hgW := grown_own HG.out _ hg3 (fun x hx => (hown1.lt x hx).1)
      have hR3 := rs_own (B := w.heap.size) hR1 _ hg3 (fun x hx => (hown1.lt x hx).1) hRw
      have HGW := hid hgW
      clear hg3 hgW hown1 hR1
      obtain ⟨A3, c3, rfl⟩ := own_form hown3
      go_wp2_with fail
      go_roundw
      case rel => exact ⟨k + 1, extS g k d, A3, c3, by omega, by go_num, rfl, by rw [spansC_ext]; exact hown3, hR3, HGW⟩
      case measure => simp [intOf]; omega
    · have e : k = m := by omega
      go_wp2_with fail
      go_ret
      subst e
      exact ⟨g, A', c, rfl, hown, hR, hg.out⟩

theorem box_drawI (R n cap : Nat) (A : Option Addr) (mI : Int) (w : World) (h : Rs w R A n cap) (h0 : 0 ≤ mI) (hm : mI ≤ 16) :
    Calls Try.prog 114 #[.pointer (some ⟨R, 0, none⟩), .int .i64 mI] w fun e w' =>
      ∃ (m : Nat) (g : Nat → Sp) (A' : Option Addr) (c : Nat), (m : Int) = mI ∧ m ≤ 16 ∧ e = .returned (.slice A' m c) ∧ w'.ownsRow w.heap.size 80 3 (.slice A' m c) m (spansC m g) ∧ Rs w' R A n cap ∧ w.grownBy w' (some R) := by
  obtain ⟨m, rfl⟩ := Int.eq_ofNat_of_zero_le h0
  exact (box_draw R n cap A m w h (by omega)).mono fun e w' ⟨g, A', c, h1, h2, h3, h4⟩ => ⟨m, g, A', c, rfl, by omega, h1, h2, h3, h4⟩

/-- A drawn list of spans that can be read. -/
theorem rds_own {w : World} {B m c : Nat} {A' : Option Addr} {g : Nat → Sp} (h : w.ownsRow B 80 3 (.slice A' m c) m (spansC m g)) : RdS w w.heap.size A' m g := by
  rcases Nat.eq_zero_or_pos m with h0 | h0
  · subst h0; exact rds_none
  · obtain ⟨b, rfl, _, _, hr⟩ := own_rowS h h0
    exact rds_of hr
def DrawnBox (w : World) (e : Ending) (w' : World) : Prop :=
  ∃ (m : Nat) (g : Nat → Sp) (A' : Option Addr) (c : Nat), m ≤ 16 ∧ e = .returned (.slice A' m c) ∧ RdS w' w'.heap.size A' m g ∧ Below w.heap.size w w'

set_option maxHeartbeats 1000000 in
theorem drawBoxOk (A : Option Addr) (n cap : Nat) (w : World) (h : Bs w w.heap.size A n) (hn : n ≤ 4194304) :
    Calls Try.prog 69 #[.slice A n cap] w (DrawnBox w) := by
  obtain ⟨i0, hi0, hz0, hz1, hz2⟩ := info_parts info_span
  go_enter Try.func69, Try.ntmps69
  go_wp2_with fail
  refine (open_draw A n cap _ h hn).mono ?_
  rintro e w1 ⟨rfl, hR1, hb1⟩
  go_wp2_with fail
  refine (once_draw _ n cap A 16 _ hR1 (by omega) (by omega)).mono ?_
  rintro e w2 ⟨q, rfl, hR2, hg2⟩
  have hb2 := hb1.trans (below_grown hg2 hR1.lt)
  cases q
  · go_wp2_with fail
    refine (below_draw _ n cap A 4 _ hR2 (by omega) (by omega)).mono ?_
    rintro e w3 ⟨x, rfl, hx0, hx1, hR3, hg3⟩
    have hb3 := hb2.trans (below_grown hg3 hR2.lt)
    go_wp2_with fail
    refine (box_drawI _ n cap A _ _ hR3 (by omega) (by omega)).mono ?_
    rintro e w4 ⟨m, g, A', c, _, hm, rfl, hown, hR4, hg4⟩
    have hb4 := hb3.trans (below_grown hg4 hR3.lt)
    go_wp2_with fail
    go_ret
    exact ⟨m, g, A', c, hm, rfl, rds_own hown, hb4⟩
  · go_wp2_with fail
    refine (below_draw _ n cap A 2 _ hR2 (by omega) (by omega)).mono ?_
    rintro e w3 ⟨x, rfl, hx0, hx1, hR3, hg3⟩
    have hb3 := hb2.trans (below_grown hg3 hR2.lt)
    by_cases hx : x = 0
    · subst hx
      have hmk : ∀ wx, (Instr.makeSlice 43 (.int .i64 0) (.int .i64 0)).run Try.prog wx = .ok (.slice (some ⟨wx.heap.size, 0, none⟩) 0 0) (wx.alloc (.cells (madeCells (spV ⟨0, 0, false⟩).cells (0 * i0.size)) 80)) :=
        fun wx => run_make_rowN (P := Try.prog) 43 80 i0 _ Try.underlying43 hi0 hz0 .i64 .i64 0 0 (Nat.le_refl _) (by omega) (by omega) wx
      go_wp2_with fail
      go_ret
      exact ⟨0, (fun _ => ⟨0, 0, false⟩), _, _, by omega, rfl, rds_none, hb3.alloc hb3.size _⟩
    · obtain rfl : x = 1 := by omega
      have hmk : ∀ wx, (Instr.makeSlice 43 (.int .i64 7) (.int .i64 7)).run Try.prog wx = .ok (.slice (some ⟨wx.heap.size, 0, none⟩) 7 7) (wx.alloc (.cells (madeCells (spV ⟨0, 0, false⟩).cells (7 * i0.size)) 80)) :=
        fun wx => run_make_rowN (P := Try.prog) 43 80 i0 _ Try.underlying43 hi0 hz0 .i64 .i64 7 7 (Nat.le_refl _) (by rw [hz2]; omega) (by omega) wx
      rw [hz1] at hmk
      go_wp2_with fail
      go_ret
      refine ⟨7, (fun _ => ⟨0, 0, false⟩), _, _, by omega, rfl, rds_of (t := 80) ⟨_, Blk.new _ _ _, by simp [madeCells], fun i hi j hj => ?_⟩, hb3.alloc hb3.size _⟩
      obtain rfl | rfl | rfl | rfl | rfl | rfl | rfl : i = 0 ∨ i = 1 ∨ i = 2 ∨ i = 3 ∨ i = 4 ∨ i = 5 ∨ i = 6 := by omega
      all_goals
        obtain rfl | rfl | rfl : j = 0 ∨ j = 1 ∨ j = 2 := by omega
        all_goals simp [madeCells, spC]

theorem drawPickOf (A : Option Addr) (n cap : Nat) (w : World) (h : Bs w w.heap.size A n) (hn : n ≤ 4194304) :
    Calls Try.prog 68 #[.slice A n cap] w (DrawnBox w) := by
  go_enter Try.func68, Try.ntmps68
  go_wp2_with fail
  refine (drawBoxOk A n cap _ h hn).mono ?_
  rintro e w1 ⟨m, g, A', c, hm, rfl, hr, hb⟩
  go_wp2_with fail
  go_ret
  exact ⟨m, g, A', c, hm, rfl, hr, hb⟩

/-- A drawn list of spans and a drawn list of numbers. -/
def DrawnHas (w : World) (e : Ending) (w' : World) : Prop :=
  ∃ (m : Nat) (g : Nat → Sp) (A' : Option Addr) (c f : Nat) (z : Nat → Int) (D : Option Addr) (dc : Nat), m ≤ 16 ∧ f ≤ 17 ∧ e = .returned (.tuple #[.slice A' m c, .slice D f dc]) ∧ RdS w' w'.heap.size A' m g ∧ Rd w' w'.heap.size D f z ∧ Below w.heap.size w w'

set_option maxHeartbeats 1000000 in
theorem drawBoxHas (A : Option Addr) (n cap : Nat) (w : World) (h : Bs w w.heap.size A n) (hn : n ≤ 4194304) :
    Calls Try.prog 66 #[.slice A n cap] w (DrawnHas w) := by
  go_enter Try.func66, Try.ntmps66
  go_wp2_with fail
  refine (open_draw A n cap _ h hn).mono ?_
  rintro e w1 ⟨rfl, hR1, hb1⟩
  go_wp2_with fail
  refine (below_draw _ n cap A 3 _ hR1 (by omega) (by omega)).mono ?_
  rintro e w2 ⟨x, rfl, hx0, hx1, hR2, hg2⟩
  have hb2 := hb1.trans (below_grown hg2 hR1.lt)
  go_wp2_with fail
  refine (box_drawI _ n cap A _ _ hR2 (by omega) (by omega)).mono ?_
  rintro e w3 ⟨m, g, A', c, _, hm, rfl, hown, hR3, hg3⟩
  have hb3 := hb2.trans (below_grown hg3 hR2.lt)
  go_wp2_with fail
  refine (doc_drawI _ n cap A _ _ hR3 (by omega) (by omega)).mono ?_
  rintro e w4 ⟨f, z, D, dc, hf, rfl, hown4, hR4, hg4⟩
  have hb4 := hb3.trans (below_grown hg4 hR3.lt)
  have hownb := own_grown hown hg4 hR2.lt
  go_wp2_with fail
  refine (hurtDoc_kept _ n cap w3.heap.size A D f dc z _ hR4 hR3.lt hg4.size hf hown4).mono ?_
  rintro e w5 ⟨⟨f', z', D', dc', hf', rfl, hdoc, hR5, hb5⟩, hk⟩
  have hrd : RdS w5 w5.heap.size A' m g := by
    rcases Nat.eq_zero_or_pos m with h0 | h0
    · subst h0; exact rds_none
    · obtain ⟨b, rfl, hlb, _, hr⟩ := own_rowS hownb h0
      have hb3l : b < w3.heap.size := by
        obtain ⟨b', e', _, _, hr'⟩ := own_rowS hown h0
        injection e' with e'
        injection e' with e' _ _
        subst e'
        exact hr'.lt
      exact rds_of (hr.keep (hk b hb3l (by have := hR2.lt; omega)))
  go_wp2_with fail
  go_ret2
  exact ⟨m, g, A', c, f', z', D', dc', hm, hf', rfl, hrd, (fun h0 => by obtain ⟨q, rfl, _, hr⟩ := hdoc h0; exact (rd_of hr) h0), hb4.trans hb5⟩

/-- Two drawn lists of spans. -/
def DrawnMeet (w : World) (e : Ending) (w' : World) : Prop :=
  ∃ (m : Nat) (g : Nat → Sp) (A1 : Option Addr) (c1 k : Nat) (h : Nat → Sp) (A2 : Option Addr) (c2 : Nat), m ≤ 16 ∧ k ≤ 16 ∧ e = .returned (.tuple #[.slice A1 m c1, .slice A2 k c2]) ∧ RdS w' w'.heap.size A1 m g ∧ RdS w' w'.heap.size A2 k h ∧ Below w.heap.size w w'

set_option maxHeartbeats 1000000 in
theorem drawBoxMeet (A : Option Addr) (n cap : Nat) (w : World) (h : Bs w w.heap.size A n) (hn : n ≤ 4194304) :
    Calls Try.prog 71 #[.slice A n cap] w (DrawnMeet w) := by
  go_enter Try.func71, Try.ntmps71
  go_wp2_with fail
  refine (open_draw A n cap _ h hn).mono ?_
  rintro e w1 ⟨rfl, hR1, hb1⟩
  go_wp2_with fail
  refine (below_draw _ n cap A 3 _ hR1 (by omega) (by omega)).mono ?_
  rintro e w2 ⟨x, rfl, hx0, hx1, hR2, hg2⟩
  have hb2 := hb1.trans (below_grown hg2 hR1.lt)
  go_wp2_with fail
  refine (once_draw _ n cap A 16 _ hR2 (by omega) (by omega)).mono ?_
  rintro e w3 ⟨q, rfl, hR3, hg3⟩
  have hb3 := hb2.trans (below_grown hg3 hR2.lt)
  cases q
  all_goals
    go_wp2_with fail
    refine (box_drawI _ n cap A _ _ hR3 (by omega) (by omega)).mono ?_
    rintro e w4 ⟨m, g, A1, c1, _, hm, rfl, hown4, hR4, hg4⟩
    have hb4 := hb3.trans (below_grown hg4 hR3.lt)
    go_wp2_with fail
    refine (box_drawI _ n cap A _ _ hR4 (by omega) (by omega)).mono ?_
    rintro e w5 ⟨k, h', A2, c2, _, hk, rfl, hown5, hR5, hg5⟩
    have hb5 := hb4.trans (below_grown hg5 hR4.lt)
    have hown4' := own_grown hown4 hg5 hR3.lt
    go_wp2_with fail
    go_ret2
    exact ⟨m, g, A1, c1, k, h', A2, c2, hm, hk, rfl, rds_own hown4', rds_own hown5, hb5⟩
end Go.Proofs.Ytmlcpjcchgihfaa
