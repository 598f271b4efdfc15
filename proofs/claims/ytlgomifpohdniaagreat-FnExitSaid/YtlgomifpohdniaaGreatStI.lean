/- The iterator over the states: the value. -/
import Derived.Test.YtlgomifpohdniaaGreatStH
namespace Go.Proofs.YtlgomifpohdniaaGreat
open Go.RowKit Go.Deep
set_option linter.unusedVariables false
set_option linter.unusedSimpArgs false

/-- What states gives: its closure over the two boxes, and what they hold. -/
def SeqAt (w : World) (gc : Array Value) (D : Option Addr) (p dc : Nat) (lb : Array Value) (w' : World) : Prop :=
  ∃ x y, lb = #[.pointer (some ⟨x, 0, none⟩), .pointer (some ⟨y, 0, none⟩)] ∧ w.heap.size ≤ x ∧ w.heap.size ≤ y ∧ x ≠ y ∧ Blk w' x 68 gc ∧ Blk w' y 27 #[.slice D p dc]
theorem states_any (f b : Int) (Ar : Option Addr) (nr cr : Nat) (Aw : Option Addr) (nw cw : Nat) (A1 : Option Addr) (n1 c1 : Nat) (A2 : Option Addr) (n2 c2 : Nat) (A3 : Option Addr) (n3 c3 : Nat) (A4 : Option Addr) (n4 c4 : Nat) (D : Option Addr) (p dc : Nat) (w : World) :
    Calls Tryz.prog 36 #[.agg (sgC f b Ar nr cr Aw nw cw A1 n1 c1 A2 n2 c2 A3 n3 c3 A4 n4 c4), .slice D p dc] w fun e w' =>
      ∃ lb, e = .returned (.func (.func 74) #[] lb) ∧ SeqAt w (sgC f b Ar nr cr Aw nw cw A1 n1 c1 A2 n2 c2 A3 n3 c3 A4 n4 c4) D p dc lb w' ∧ Below w.heap.size w w' := by
  have hbx := ((Below.refl w.heap.size w).alloc (Nat.le_refl _) (.cells (sgC f b Ar nr cr Aw nw cw A1 n1 c1 A2 n2 c2 A3 n3 c3 A4 n4 c4) 68)).alloc (by simp) (.cells #[.slice D p dc] 27)
  have e1 : Blk ((w.alloc (.cells (sgC f b Ar nr cr Aw nw cw A1 n1 c1 A2 n2 c2 A3 n3 c3 A4 n4 c4) 68)).alloc (.cells #[.slice D p dc] 27)) w.heap.size 68 _ := (Blk.new w _ _).alloc _
  have e2 : Blk ((w.alloc (.cells (sgC f b Ar nr cr Aw nw cw A1 n1 c1 A2 n2 c2 A3 n3 c3 A4 n4 c4) 68)).alloc (.cells #[.slice D p dc] 27)) (w.heap.size + 1) 27 _ := Blk.new2 w _ _ _
  have HB := hid hbx
  have H1 := hid e1
  have H2 := hid e2
  clear hbx e1 e2
  go_enter Tryz.func36, Tryz.ntmps36
  go_wp2_with fail
  go_ret
  exact ⟨_, rfl, ⟨_, _, rfl, Nat.le_refl _, Nat.le_succ _, by omega, H1.out, H2.out⟩, HB.out⟩
end Go.Proofs.YtlgomifpohdniaaGreat
