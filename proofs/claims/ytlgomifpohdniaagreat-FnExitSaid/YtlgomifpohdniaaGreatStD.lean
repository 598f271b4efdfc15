/- BoundsOf of the other side; states copied. -/
import Derived.Test.YtlgomifpohdniaaGreatStC
namespace Go.Proofs.YtlgomifpohdniaaGreat
open Go.RowKit Go.Deep
set_option linter.unusedVariables false
set_option linter.unusedSimpArgs false

theorem size_state : (Tryz.prog.info? 33).map (·.size) = some 3 := by kernel_rfl
/-- The three boxes. -/
def B3 (w0 : World) (ec pc sc : Array Value) (t1 t2 t3 : TypeId) (w : World) : Prop := Blk w w0.heap.size t1 ec ∧ Blk w (w0.heap.size + 1) t2 pc ∧ Blk w (w0.heap.size + 2) t3 sc ∧ Below w0.heap.size w0 w
section
variable {w0 w w' : World} {ec pc sc : Array Value} {t1 t2 t3 : TypeId}
theorem B3.below (h : B3 w0 ec pc sc t1 t2 t3 w) (hb : Below w.heap.size w w') : B3 w0 ec pc sc t1 t2 t3 w' :=
  ⟨h.1.below hb h.1.lt, h.2.1.below hb h.2.1.lt, h.2.2.1.below hb h.2.2.1.lt, h.2.2.2.trans (hb.mono h.2.2.2.size)⟩
theorem B3.drew (h : B3 w0 ec pc sc t1 t2 t3 w) : B3 w0 ec pc sc t1 t2 t3 w.drew := h.below (Below.refl _ w).drew
theorem B3.alloc (h : B3 w0 ec pc sc t1 t2 t3 w) (o : Obj) : B3 w0 ec pc sc t1 t2 t3 (w.alloc o) := h.below ((Below.refl _ w).alloc (Nat.le_refl _) o)
theorem B3.new (w : World) (ec pc sc : Array Value) (t1 t2 t3 : TypeId) : B3 w ec pc sc t1 t2 t3 (((w.alloc (.cells ec t1)).alloc (.cells pc t2)).alloc (.cells sc t3)) :=
  ⟨((Blk.new w _ _).alloc _).alloc _, (Blk.new2 w _ _ _).alloc _, Blk.new3 w _ _ _ _, (((Below.refl _ w).alloc (Nat.le_refl _) _).alloc (by simp) _).alloc (by simp; omega) _⟩
theorem B3.bel (h : B3 w0 ec pc sc t1 t2 t3 w) : Below w0.heap.size w0 w := h.2.2.2
theorem B3.cells {x0 x1 x2 y0 y1 y2 y3 u0 u1 u2 : Value} (h : B3 w0 #[x0, x1, x2] #[y0, y1, y2, y3] #[u0, u1, u2] t1 t2 t3 w) :
    w.cell? ⟨w0.heap.size, 0, none⟩ = some x0 ∧ w.cell? ⟨w0.heap.size, 1, none⟩ = some x1 ∧ w.cell? ⟨w0.heap.size, 2, none⟩ = some x2 ∧ w.cell? ⟨w0.heap.size + 1, 0, none⟩ = some y0 ∧ w.cell? ⟨w0.heap.size + 1, 1, none⟩ = some y1 ∧ w.cell? ⟨w0.heap.size + 1, 2, none⟩ = some y2 ∧ w.cell? ⟨w0.heap.size + 1, 3, none⟩ = some y3 ∧
    w.cell? ⟨w0.heap.size + 2, 0, none⟩ = some u0 ∧ w.cell? ⟨w0.heap.size + 2, 1, none⟩ = some u1 ∧ w.cell? ⟨w0.heap.size + 2, 2, none⟩ = some u2 :=
  ⟨h.1.cell 0, h.1.cell 1, h.1.cell 2, h.2.1.cell 0, h.2.1.cell 1, h.2.1.cell 2, h.2.1.cell 3, h.2.2.1.cell 0, h.2.2.1.cell 1, h.2.2.1.cell 2⟩
end

set_option maxRecDepth 100000 in
set_option maxHeartbeats 4000000 in
theorem l7Bounds_any (f b : Int) (A : Option Addr) (n c : Nat) (A1 : Option Addr) (n1 c1 : Nat) (A2 : Option Addr) (n2 c2 : Nat) (A3 : Option Addr) (n3 c3 : Nat) (z3 : Nat → Int) (A4 : Option Addr) (n4 c4 : Nat) (z4 : Nat → Int) (at_ : Nat) (s q : Int) (w : World)
    (h3 : Rd w w.heap.size A3 n3 z3) (h4 : Rd w w.heap.size A4 n4 z4) (i3 : at_ < n3) (i4 : at_ < n4) (l3 : n3 ≤ 20) (l4 : n4 ≤ 20) (hb : -1000000000 ≤ b ∧ b ≤ 1000000000) (hs : -100000000000 ≤ s ∧ s ≤ 100000000000) (hz : (-100000000000 ≤ z3 at_ ∧ z3 at_ ≤ 100000000000) ∧ -100000000000 ≤ z4 at_ ∧ z4 at_ ≤ 100000000000) :
    Calls Tryz.prog 52 #[enV f b A n c, plV A1 n1 c1 A2 n2 c2 A3 n3 c3 A4 n4 c4, stV at_ s q] w fun e w' => e = .returned (.tuple #[.int .i64 (b + s + z3 at_), .int .i64 (b + s + z4 at_)]) ∧ Below w.heap.size w w' := by
  obtain ⟨t3, o3, rfl, ht3, hc3⟩ := h3.at_ i3
  obtain ⟨t4, o4, rfl, ht4, hc4⟩ := h4.at_ i4
  obtain ⟨x3, hx3⟩ : ∃ x, z3 at_ = x := ⟨_, rfl⟩
  obtain ⟨x4, hx4⟩ : ∃ x, z4 at_ = x := ⟨_, rfl⟩
  rw [hx3] at hz hc3
  rw [hx4] at hz hc4
  rw [hx3, hx4]
  obtain ⟨⟨hz1, hz2⟩, hz3, hz4⟩ := hz
  obtain ⟨hb1, hb2⟩ := hb
  obtain ⟨hs1, hs2⟩ := hs
  have hB := B3.new w #[.int .i64 f, .int .i64 b, .slice A n c] #[.slice A1 n1 c1, .slice A2 n2 c2, .slice (some ⟨t3, o3, none⟩) n3 c3, .slice (some ⟨t4, o4, none⟩) n4 c4] #[.int .i64 (at_ : Nat), .int .i64 s, .int .i64 q] 26 29 33
  have e3 := (hB.bel.cell (p := ⟨t3, o3 + at_, none⟩) ht3).trans hc3
  have e4 := (hB.bel.cell (p := ⟨t4, o4 + at_, none⟩) ht4).trans hc4
  have w1 : IntKind.i64.wrap (b + s) = b + s := IntWalk.i64_in _ (by omega)
  have w2 : IntKind.i64.wrap (b + s + x3) = b + s + x3 := IntWalk.i64_in _ (by omega)
  have w3 : IntKind.i64.wrap (b + s + x4) = b + s + x4 := IntWalk.i64_in _ (by omega)
  have j3 : (at_ : Int) < (n3 : Int) := by omega
  have j4 : (at_ : Int) < (n4 : Int) := by omega
  have j0 : (0 : Int) ≤ (at_ : Int) := by omega
  obtain ⟨_, c0, _, _, _, c1, c2, d0, d1, _⟩ := hB.cells
  have HB := hid hB.bel
  clear hB hc3 hc4
  go_enter Tryz.func52, Tryz.ntmps52
  go_wp2_with fail
  go_quiet (fail)
  go_wp2_with fail
  go_ret2
  exact ⟨rfl, below_drewN HB.out _⟩

end Go.Proofs.YtlgomifpohdniaaGreat
