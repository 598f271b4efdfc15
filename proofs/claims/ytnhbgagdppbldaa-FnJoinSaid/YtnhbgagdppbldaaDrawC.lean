/- What is drawn by a code: documents, and a document with a feature and a number. -/
import Derived.Test.YtnhbgagdppbldaaDrawB
namespace Go.Proofs.Ytnhbgagdppbldaa
open Go.RowKit Go.Deep

theorem open_draw (A : Option Addr) (n cap : Nat) (w : World) (h : Bs w w.heap.size A n) (hn : n ≤ 4194304) :
    Calls Try.prog 67 #[.slice A n cap] w fun e w' =>
      e = .returned (.pointer (some ⟨w.heap.size, 0, none⟩)) ∧ Rs w' w.heap.size A n cap ∧ Below w.heap.size w w' := by
  go_enter Try.func67, Try.ntmps67
  go_wp2_with fail
  go_ret
  have hb : Below w.heap.size w (w.alloc (.cells #[.slice A n cap, .int .i64 0] 119)) := (Below.refl _ _).alloc (Nat.le_refl _) _
  exact ⟨rfl, ⟨⟨0, Nat.zero_le _, Blk.new w _ _⟩, h.keep fun p hp => hb.cell hp, hn⟩, hb⟩

theorem doc_drawI (R n cap : Nat) (A : Option Addr) (mI : Int) (w : World) (h : Rs w R A n cap) (h0 : 0 ≤ mI) (hm : mI ≤ 16) :
    Calls Try.prog 94 #[.pointer (some ⟨R, 0, none⟩), .int .i64 mI] w fun e w' =>
      ∃ (m : Nat) (z : Nat → Int) (A' : Option Addr) (c : Nat), m ≤ 16 ∧ e = .returned (.slice A' m c) ∧ w'.ownsRow w.heap.size 2 1 (.slice A' m c) m (numsOf m z) ∧ Rs w' R A n cap ∧ w.grownBy w' (some R) := by
  obtain ⟨m, rfl⟩ := Int.eq_ofNat_of_zero_le h0
  exact (doc_draw R n cap A m w h (by omega)).mono fun e w' ⟨z, A', c, h1, h2, h3, h4⟩ => ⟨m, z, A', c, by omega, h1, h2, h3, h4⟩

/-- A drawn list of numbers. -/
def DrawnDoc (w : World) (e : Ending) (w' : World) : Prop :=
  ∃ (m : Nat) (z : Nat → Int) (A' : Option Addr) (c : Nat), m ≤ 17 ∧ e = .returned (.slice A' m c) ∧ Rd w' w'.heap.size A' m z ∧ Below w.heap.size w w'

set_option maxHeartbeats 1000000 in
theorem drawDocOk (A : Option Addr) (n cap : Nat) (w : World) (h : Bs w w.heap.size A n) (hn : n ≤ 4194304) :
    Calls Try.prog 52 #[.slice A n cap] w (DrawnDoc w) := by
  go_enter Try.func52, Try.ntmps52
  go_wp2_with fail
  refine (open_draw A n cap _ h hn).mono ?_
  rintro e w1 ⟨rfl, hR1, hb1⟩
  go_wp2_with fail
  refine (below_draw _ n cap A 6 _ hR1 (by omega) (by omega)).mono ?_
  rintro e w2 ⟨x, rfl, hx0, hx1, hR2, hg2⟩
  have hb2 := hb1.trans (below_grown hg2 hR1.lt)
  go_wp2_with fail
  refine (doc_drawI _ n cap A _ _ hR2 (by omega) (by omega)).mono ?_
  rintro e w3 ⟨m, z, A', c, hm, rfl, hown, hR3, hg3⟩
  have hb3 := hb2.trans (below_grown hg3 hR2.lt)
  go_wp2_with fail
  refine (hurtDoc_draw _ n cap w2.heap.size A A' m c z _ hR3 hR2.lt hg3.size hm hown).mono ?_
  rintro e w4 ⟨m', z', A'', c', hm', rfl, hrow, hR4, hb4⟩
  go_wp2_with fail
  go_ret
  exact ⟨m', z', A'', c', hm', rfl, (fun h0 => by obtain ⟨g, rfl, _, hr⟩ := hrow h0; exact (rd_of hr) h0), hb3.trans hb4⟩

/-- A drawn list of numbers, a place and a number. -/
def DrawnWith (w : World) (e : Ending) (w' : World) : Prop :=
  ∃ (m : Nat) (z : Nat → Int) (A' : Option Addr) (c : Nat) (i x : Int), m ≤ 17 ∧ e = .returned (.tuple #[.slice A' m c, .int .i64 i, .int .i64 x]) ∧ Rd w' w'.heap.size A' m z ∧ Below w.heap.size w w'

theorem row_keepR {w w' : World} {R m : Nat} {A' : Option Addr} {z : Nat → Int} (h : 0 < m → ∃ g, A' = some ⟨g, 0, none⟩ ∧ R < g ∧ Row w 2 g m z) (hg : w.grownBy w' (some R)) : 0 < m → ∃ g, A' = some ⟨g, 0, none⟩ ∧ R < g ∧ Row w' 2 g m z := fun hm => by
  obtain ⟨g, e, hlt, hr⟩ := h hm
  exact ⟨g, e, hlt, row_grown hr hg (by omega)⟩

end Go.Proofs.Ytnhbgagdppbldaa
