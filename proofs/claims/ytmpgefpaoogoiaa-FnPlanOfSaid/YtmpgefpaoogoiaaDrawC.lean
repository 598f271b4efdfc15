/- What is drawn by a code: documents, and a document with a feature and a number. -/
import Derived.Test.YtmpgefpaoogoiaaDrawB
namespace Go.Proofs.Ytmpgefpaoogoiaa
open Go.RowKit Go.Deep

theorem open_draw (A : Option Addr) (n cap : Nat) (w : World) (h : Bs w w.heap.size A n) (hn : n ≤ 4194304) :
    Calls Try.prog 95 #[.slice A n cap] w fun e w' =>
      e = .returned (.pointer (some ⟨w.heap.size, 0, none⟩)) ∧ Rs w' w.heap.size A n cap ∧ Below w.heap.size w w' := by
  go_enter Try.func95, Try.ntmps95
  go_wp2_with fail
  go_ret
  have hb : Below w.heap.size w (w.alloc (.cells #[.slice A n cap, .int .i64 0] 179)) := (Below.refl _ _).alloc (Nat.le_refl _) _
  exact ⟨rfl, ⟨⟨0, Nat.zero_le _, Blk.new w _ _⟩, h.keep fun p hp => hb.cell hp, hn⟩, hb⟩

theorem doc_drawI (R n cap : Nat) (A : Option Addr) (mI : Int) (w : World) (h : Rs w R A n cap) (h0 : 0 ≤ mI) (hm : mI ≤ 16) :
    Calls Try.prog 111 #[.pointer (some ⟨R, 0, none⟩), .int .i64 mI] w fun e w' =>
      ∃ (m : Nat) (z : Nat → Int) (A' : Option Addr) (c : Nat), m ≤ 16 ∧ e = .returned (.slice A' m c) ∧ w'.ownsRow w.heap.size 2 1 (.slice A' m c) m (numsOf m z) ∧ Rs w' R A n cap ∧ w.grownBy w' (some R) := by
  obtain ⟨m, rfl⟩ := Int.eq_ofNat_of_zero_le h0
  exact (doc_draw R n cap A m w h (by omega)).mono fun e w' ⟨z, A', c, h1, h2, h3, h4⟩ => ⟨m, z, A', c, by omega, h1, h2, h3, h4⟩

/-- A drawn list of numbers. -/
def DrawnDoc (w : World) (e : Ending) (w' : World) : Prop :=
  ∃ (m : Nat) (z : Nat → Int) (A' : Option Addr) (c : Nat), m ≤ 17 ∧ e = .returned (.slice A' m c) ∧ Rd w' w'.heap.size A' m z ∧ Below w.heap.size w w'

/-- A drawn list of numbers, a place and a number. -/
def DrawnWith (w : World) (e : Ending) (w' : World) : Prop :=
  ∃ (m : Nat) (z : Nat → Int) (A' : Option Addr) (c : Nat) (i x : Int), m ≤ 17 ∧ e = .returned (.tuple #[.slice A' m c, .int .i64 i, .int .i64 x]) ∧ Rd w' w'.heap.size A' m z ∧ Below w.heap.size w w'

theorem row_keepR {w w' : World} {R m : Nat} {A' : Option Addr} {z : Nat → Int} (h : 0 < m → ∃ g, A' = some ⟨g, 0, none⟩ ∧ R < g ∧ Row w 2 g m z) (hg : w.grownBy w' (some R)) : 0 < m → ∃ g, A' = some ⟨g, 0, none⟩ ∧ R < g ∧ Row w' 2 g m z := fun hm => by
  obtain ⟨g, e, hlt, hr⟩ := h hm
  exact ⟨g, e, hlt, row_grown hr hg (by omega)⟩

end Go.Proofs.Ytmpgefpaoogoiaa
