/- What is drawn of boxes. -/
import Derived.Test.YtckhooibjmheiaaK6
import Derived.Test.YtckhooibjmheiaaMeetD
import Derived.Test.YtckhooibjmheiaaDrawX
namespace Go.Proofs.Ytckhooibjmheiaa
open Go.RowKit Go.Deep

def extS (g : Nat → Sp) (k : Nat) (d : Sp) : Nat → Sp := fun i => if i = k then d else g i
theorem spansC_congr {g g' : Nat → Sp} : ∀ n, (∀ i, i < n → g i = g' i) → spansC n g = spansC n g' := by
  intro n
  induction n with
  | zero => intro _; rfl
  | succ n ih => intro h; rw [spansC_succ, spansC_succ, ih fun i hi => h i (by omega), h n (by omega)]
theorem spansC_ext (k : Nat) (g : Nat → Sp) (d : Sp) : spansC (k + 1) (extS g k d) = spansC k g ++ spC d := by
  rw [spansC_succ]
  congr 1
  · exact spansC_congr k fun i hi => by unfold extS; rw [if_neg (by omega)]
  · unfold extS; rw [if_pos rfl]

set_option maxRecDepth 100000 in
set_option maxHeartbeats 2000000 in
theorem box_draw (R n cap : Nat) (A : Option Addr) (m : Nat) (w : World) (h : Rs w R A n cap) (hm : m ≤ 16) :
    Calls Try.prog 94 #[.pointer (some ⟨R, 0, none⟩), .int .i64 m] w fun e w' =>
      ∃ (g : Nat → Sp) (A' : Option Addr) (c : Nat), e = .returned (.slice A' m c) ∧ w'.ownsRow w.heap.size 74 3 (.slice A' m c) m (spansC m g) ∧ Rs w' R A n cap ∧ w.grownBy w' (some R) := by
  obtain ⟨i0, hi0, hz0, hz1, hz2⟩ := info_parts info_span
  have hRw := h.lt
  go_enter Try.func94, Try.ntmps94
  go_wp2_with fail
  go_loopw [5, 6] (fun o i wr => ∃ (k : Nat) (g : Nat → Sp) (A' : Option Addr) (c : Nat), k ≤ m ∧ i = .int .i64 k ∧ o = .slice A' k c ∧ wr.ownsRow w.heap.size 74 3 (.slice A' k c) k (spansC k g) ∧ Rs wr R A n cap ∧ Hid (w.grownBy wr (some R)))
    (fun _ i _ => m - (intOf i).toNat)
  case atStart => exact ⟨0, (fun _ => ⟨0, 0, false⟩), _, _, Nat.zero_le _, rfl, rfl, World.ownsRow_made w #[] 0 (Nat.le_refl _) (by unfold maxLen; omega) rfl, h.alloc _, World.grownBy_alloc _ _ _⟩
  case round =>
    obtain ⟨k, g, A', c, hk, rfl, rfl, hown, hR, hg⟩ := hrel
    by_cases hlt : k < m
    · have i1 : (k : Int) < (m : Int) := by omega
      have hsz := hg.out.size
      go_wp2_with fail
      refine (span_draw R n cap A _ hR).mono ?_
      rintro e w1 ⟨d, rfl, hR1, hg1⟩
      have hown1 := own_grown hown hg1 hRw
      have hgg := grown_trans hg.out hg1
      have hs1 := hgg.size
      have HG := hid hgg
      have hN := Blk.new w1 74 #[.int .i64 d.lo, .int .i64 d.hi, .bool d.gone]
      have hcell : ∀ j u, (spC d)[j]? = some u → (w1.alloc (.cells #[.int .i64 d.lo, .int .i64 d.hi, .bool d.gone] 74)).cell? ⟨w1.heap.size, j, none⟩ = some u := fun j u hu => (hN.cell j).trans (by rw [← hu]; simp [spC])
      have HC := hid hcell
      clear hgg hg1 hown hR hg hN hcell
      go_wp2_with (at_builtin; refine wpList_append_own _ rfl (.tmp 13) (.tmp 16) 35 rfl w.heap.size 74 i0 (spV ⟨0, 0, false⟩) 3 24 Try.underlying35 hi0 hz0 hz1 hz2 rfl (by decide) _ k _ rfl (hown1.alloc _) ⟨w1.heap.size, 0, none⟩ 1 1 (spC d) rfl rfl (fun j u hu => by simpa [Addr.add_lit] using HC.out j u hu) (spC_one _) (by unfold maxLen; omega) (by omega) (by simp; omega) ?_)
      intro v' w3 hown3 hg3 _
      have hgW := grown_own HG.out _ hg3 (fun x hx => (hown1.lt x hx).1)
      have hR3 := rs_own (B := w.heap.size) hR1 _ hg3 (fun x hx => (hown1.lt x hx).1) hRw
      have HGW := hid hgW
      clear hg3 hgW hown1 hR1
      obtain ⟨A3, c3, rfl⟩ := own_form hown3
      go_wp2_with fail
      go_roundw
      case rel => exact ⟨k + 1, extS g k d, A3, c3, by omega, by go_num, rfl, by rw [spansC_ext]; exact hown3, hR3, HGW⟩
      case measure => simp [intOf]; omega
    · have e : k = m := by omega
      go_wp2_with fail
      go_ret
      subst e
      exact ⟨g, A', c, rfl, hown, hR, hg.out⟩

theorem box_drawI (R n cap : Nat) (A : Option Addr) (mI : Int) (w : World) (h : Rs w R A n cap) (h0 : 0 ≤ mI) (hm : mI ≤ 16) :
    Calls Try.prog 94 #[.pointer (some ⟨R, 0, none⟩), .int .i64 mI] w fun e w' =>
      ∃ (m : Nat) (g : Nat → Sp) (A' : Option Addr) (c : Nat), (m : Int) = mI ∧ m ≤ 16 ∧ e = .returned (.slice A' m c) ∧ w'.ownsRow w.heap.size 74 3 (.slice A' m c) m (spansC m g) ∧ Rs w' R A n cap ∧ w.grownBy w' (some R) := by
  obtain ⟨m, rfl⟩ := Int.eq_ofNat_of_zero_le h0
  exact (box_draw R n cap A m w h (by omega)).mono fun e w' ⟨g, A', c, h1, h2, h3, h4⟩ => ⟨m, g, A', c, rfl, by omega, h1, h2, h3, h4⟩

/-- A drawn list of spans that can be read. -/
theorem rds_own {w : World} {B m c : Nat} {A' : Option Addr} {g : Nat → Sp} (h : w.ownsRow B 74 3 (.slice A' m c) m (spansC m g)) : RdS w w.heap.size A' m g := by
  rcases Nat.eq_zero_or_pos m with h0 | h0
  · subst h0; exact rds_none
  · obtain ⟨b, rfl, _, _, hr⟩ := own_rowS h h0
    exact rds_of hr
def DrawnBox (w : World) (e : Ending) (w' : World) : Prop :=
  ∃ (m : Nat) (g : Nat → Sp) (A' : Option Addr) (c : Nat), m ≤ 16 ∧ e = .returned (.slice A' m c) ∧ RdS w' w'.heap.size A' m g ∧ Below w.heap.size w w'

/-- A drawn list of spans and a drawn list of numbers. -/
def DrawnHas (w : World) (e : Ending) (w' : World) : Prop :=
  ∃ (m : Nat) (g : Nat → Sp) (A' : Option Addr) (c f : Nat) (z : Nat → Int) (D : Option Addr) (dc : Nat), m ≤ 16 ∧ f ≤ 17 ∧ e = .returned (.tuple #[.slice A' m c, .slice D f dc]) ∧ RdS w' w'.heap.size A' m g ∧ Rd w' w'.heap.size D f z ∧ Below w.heap.size w w'

/-- Two drawn lists of spans. -/
def DrawnMeet (w : World) (e : Ending) (w' : World) : Prop :=
  ∃ (m : Nat) (g : Nat → Sp) (A1 : Option Addr) (c1 k : Nat) (h : Nat → Sp) (A2 : Option Addr) (c2 : Nat), m ≤ 16 ∧ k ≤ 16 ∧ e = .returned (.tuple #[.slice A1 m c1, .slice A2 k c2]) ∧ RdS w' w'.heap.size A1 m g ∧ RdS w' w'.heap.size A2 k h ∧ Below w.heap.size w w'

end Go.Proofs.Ytckhooibjmheiaa
