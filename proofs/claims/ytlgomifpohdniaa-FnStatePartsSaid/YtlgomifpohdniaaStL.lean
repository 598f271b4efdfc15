/- The walk of the exact law of StateTo. -/
import Derived.Test.YtlgomifpohdniaaStK
import Derived.Test.YtlgomifpohdniaaStb
import Derived.Test.YtlgomifpohdniaaK8
import Derived.Deep.RegionHeld3
namespace Go.Proofs.Ytlgomifpohdniaa
open Go.RowKit Go.Deep
set_option linter.unusedVariables false
set_option linter.unusedSimpArgs false

theorem eqState_any (a s q : Int) (w : World) : Calls Try.prog 20 #[stV a s q, stV a s q] w fun e w' => e = .returned (.bool true) ∧ Below w.heap.size w w' := by
  have hb := ((Below.refl w.heap.size w).alloc (Nat.le_refl _) (.cells #[.int .i64 a, .int .i64 s, .int .i64 q] 31)).alloc (by simp) (.cells #[.int .i64 a, .int .i64 s, .int .i64 q] 31)
  have HB := hid hb
  clear hb
  have e1 : (a != a) = false := by simp
  have e2 : (s != s) = false := by simp
  have e3 : (q != q) = false := by simp
  go_enter Try.func20, Try.ntmps20
  go_wp2_with fail
  go_ret
  exact ⟨rfl, HB.out⟩
theorem stb_st (a s q : Int) (Y : Bool) : ∃ a' s' q', stAns Y a s q = stV a' s' q' := by
  cases Y with
  | false => exact ⟨0, 0, 0, rfl⟩
  | true => exact ⟨a, s, q, rfl⟩

/-- The law's own two boxes; the other side's state, if its block is there. -/
def LB (w0 : World) (ec pc : Array Value) (W : World) : Prop := Blk W w0.heap.size 24 ec ∧ Blk W (w0.heap.size + 1) 27 pc ∧ Below w0.heap.size w0 W
def LQ (w0 : World) (ec pc : Array Value) (q : Option Nat) (W : World) : Prop := LB w0 ec pc W ∧ ∀ x, q = some x → w0.heap.size + 2 ≤ x ∧ Blk W x 31 #[.int .i64 0, .int .i64 0, .int .i64 0]
theorem stb_LB {w0 : World} {ec pc : Array Value} : Stb (LB w0 ec pc) := stb_blk.and (stb_blk.and stb_bel)
theorem stb_LQ {w0 : World} {ec pc : Array Value} {q : Option Nat} : Stb (LQ w0 ec pc q) := stb_LB.and stb_opt
section
variable {w0 W : World} {ec pc : Array Value} {q : Option Nat} {x0 x1 x2 y0 y1 y2 y3 : Value} {x : Nat}
theorem LB.new (w : World) (ec pc : Array Value) : LB w ec pc ((w.alloc (.cells ec 24)).alloc (.cells pc 27)) :=
  ⟨(Blk.new w _ _).alloc _, Blk.new2 w _ _ _, ((Below.refl _ w).alloc (Nat.le_refl _) _).alloc (by simp) _⟩
theorem LB.cells (h : LB w0 #[x0, x1, x2] #[y0, y1, y2, y3] W) : W.cell? ⟨w0.heap.size, 0, none⟩ = some x0 ∧ W.cell? ⟨w0.heap.size, 1, none⟩ = some x1 ∧ W.cell? ⟨w0.heap.size, 2, none⟩ = some x2 ∧ W.cell? ⟨w0.heap.size + 1, 0, none⟩ = some y0 ∧ W.cell? ⟨w0.heap.size + 1, 1, none⟩ = some y1 ∧ W.cell? ⟨w0.heap.size + 1, 2, none⟩ = some y2 ∧ W.cell? ⟨w0.heap.size + 1, 3, none⟩ = some y3 := ⟨h.1.cell 0, h.1.cell 1, h.1.cell 2, h.2.1.cell 0, h.2.1.cell 1, h.2.1.cell 2, h.2.1.cell 3⟩
theorem LB.bel (h : LB w0 ec pc W) : Below w0.heap.size w0 W := h.2.2
theorem LQ.lb (h : LQ w0 ec pc q W) : LB w0 ec pc W := h.1
theorem LQ.alloc (h : LQ w0 ec pc none W) : LQ w0 ec pc (some W.heap.size) (W.alloc (.cells #[.int .i64 0, .int .i64 0, .int .i64 0] 31)) := ⟨stb_LB.alloc h.1 _, fun x e => by
  injection e with e
  subst e
  have := h.1.2.1.lt
  exact ⟨by omega, Blk.new W _ _⟩⟩
theorem LB.put (h : LB w0 ec pc W) (hx : w0.heap.size + 2 ≤ x) (u0 u1 u2 : Value) : LB w0 ec pc (((W.setCell ⟨x, 0, none⟩ u0).setCell ⟨x, 1, none⟩ u1).setCell ⟨x, 2, none⟩ u2) := by
  have hk : ∀ y, y < w0.heap.size + 2 → (((W.setCell ⟨x, 0, none⟩ u0).setCell ⟨x, 1, none⟩ u1).setCell ⟨x, 2, none⟩ u2).heap[y]? = W.heap[y]? := fun y q =>
    (Below.heap_setCell _ ⟨x, 2, none⟩ _ y (by show y ≠ x; omega)).trans ((Below.heap_setCell _ ⟨x, 1, none⟩ _ y (by show y ≠ x; omega)).trans (Below.heap_setCell _ ⟨x, 0, none⟩ _ y (by show y ≠ x; omega)))
  exact ⟨(hk _ (by omega)).trans h.1, (hk _ (by omega)).trans h.2.1, ((h.2.2.setCell (p := ⟨x, 0, none⟩) (by show w0.heap.size ≤ x; omega) _).setCell (p := ⟨x, 1, none⟩) (by show w0.heap.size ≤ x; omega) _).setCell (p := ⟨x, 2, none⟩) (by show w0.heap.size ≤ x; omega) _⟩
theorem LQ.put (h : LQ w0 ec pc (some x) W) (u0 u1 u2 : Value) : LB w0 ec pc (((W.setCell ⟨x, 0, none⟩ u0).setCell ⟨x, 1, none⟩ u1).setCell ⟨x, 2, none⟩ u2) ∧ Blk (((W.setCell ⟨x, 0, none⟩ u0).setCell ⟨x, 1, none⟩ u1).setCell ⟨x, 2, none⟩ u2) x 31 #[u0, u1, u2] :=
  ⟨h.1.put (h.2 x rfl).1 u0 u1 u2, (((h.2 x rfl).2.set_ 0 u0).set_ 1 u1).set_ 2 u2⟩
theorem lq_put {x' : Nat} (h : LQ w0 ec pc q W) (hx : w0.heap.size + 2 ≤ x') (u0 u1 u2 : Value) : LB w0 ec pc (((W.setCell ⟨x', 0, none⟩ u0).setCell ⟨x', 1, none⟩ u1).setCell ⟨x', 2, none⟩ u2) := h.1.put hx u0 u1 u2
end
theorem lq_old {w0 W : World} {ec pc : Array Value} {x : Nat} (h : LQ w0 ec pc (some x) W) : (W.cell? ⟨x, 0, none⟩ = some (.int .i64 0) ∧ W.cell? ⟨x, 1, none⟩ = some (.int .i64 0) ∧ W.cell? ⟨x, 2, none⟩ = some (.int .i64 0)) ∧ W.frozen? ⟨x, 0, none⟩ = false ∧ W.frozen? ⟨x, 1, none⟩ = false ∧ W.frozen? ⟨x, 2, none⟩ = false :=
  ⟨⟨(h.2 x rfl).2.cell 0, (h.2 x rfl).2.cell 1, (h.2 x rfl).2.cell 2⟩, (h.2 x rfl).2.frozen 0, (h.2 x rfl).2.frozen 1, (h.2 x rfl).2.frozen 2⟩
/-- Behind both answers: the three boxes of what was copied and answered. -/
def LR (w0 : World) (ec pc : Array Value) (x X Y Z : Nat) (sa xc yc : Array Value) (n : Nat) (len : Nat → Nat) (g : Nat → Nat → Nd) (A A1 : Option Addr) (n1 : Nat) (z1 : Nat → Int) (A2 : Option Addr) (n2 : Nat) (z2 : Nat → Int) (A3 : Option Addr) (n3 : Nat) (z3 : Nat → Int) (A4 : Option Addr) (n4 : Nat) (z4 : Nat → Int) (D : Option Addr) (p : Nat) (z : Nat → Int) (W : World) : Prop :=
  LB w0 ec pc W ∧ (Blk W x 31 sa ∧ Blk W X 36 xc ∧ Blk W Y 38 yc ∧ Blk W Z 31 sa) ∧ RdT W W.heap.size A n len g ∧ RdP W W.heap.size A1 n1 z1 A2 n2 z2 A3 n3 z3 A4 n4 z4 ∧ Rd W W.heap.size D p z
theorem stb_LR {w0 : World} {ec pc : Array Value} {x X Y Z : Nat} {sa xc yc : Array Value} {n : Nat} {len : Nat → Nat} {g : Nat → Nat → Nd} {A A1 : Option Addr} {n1 : Nat} {z1 : Nat → Int} {A2 : Option Addr} {n2 : Nat} {z2 : Nat → Int} {A3 : Option Addr} {n3 : Nat} {z3 : Nat → Int} {A4 : Option Addr} {n4 : Nat} {z4 : Nat → Int} {D : Option Addr} {p : Nat} {z : Nat → Int} : Stb (LR w0 ec pc x X Y Z sa xc yc n len g A A1 n1 z1 A2 n2 z2 A3 n3 z3 A4 n4 z4 D p z) :=
  stb_LB.and ((stb_blk.and (stb_blk.and (stb_blk.and stb_blk))).and (stb_rdT.and (stb_rdP.and stb_rd)))

theorem LR.lb {w0 W : World} {ec pc : Array Value} {x X Y Z : Nat} {sa xc yc : Array Value} {n : Nat} {len : Nat → Nat} {g : Nat → Nat → Nd} {A A1 : Option Addr} {n1 : Nat} {z1 : Nat → Int} {A2 : Option Addr} {n2 : Nat} {z2 : Nat → Int} {A3 : Option Addr} {n3 : Nat} {z3 : Nat → Int} {A4 : Option Addr} {n4 : Nat} {z4 : Nat → Int} {D : Option Addr} {p : Nat} {z : Nat → Int} (h : LR w0 ec pc x X Y Z sa xc yc n len g A A1 n1 z1 A2 n2 z2 A3 n3 z3 A4 n4 z4 D p z W) : LB w0 ec pc W := h.1
theorem LR.rdT {w0 W : World} {ec pc : Array Value} {x X Y Z : Nat} {sa xc yc : Array Value} {n : Nat} {len : Nat → Nat} {g : Nat → Nat → Nd} {A A1 : Option Addr} {n1 : Nat} {z1 : Nat → Int} {A2 : Option Addr} {n2 : Nat} {z2 : Nat → Int} {A3 : Option Addr} {n3 : Nat} {z3 : Nat → Int} {A4 : Option Addr} {n4 : Nat} {z4 : Nat → Int} {D : Option Addr} {p : Nat} {z : Nat → Int} (h : LR w0 ec pc x X Y Z sa xc yc n len g A A1 n1 z1 A2 n2 z2 A3 n3 z3 A4 n4 z4 D p z W) : RdT W W.heap.size A n len g := h.2.2.1
theorem LR.rdP {w0 W : World} {ec pc : Array Value} {x X Y Z : Nat} {sa xc yc : Array Value} {n : Nat} {len : Nat → Nat} {g : Nat → Nat → Nd} {A A1 : Option Addr} {n1 : Nat} {z1 : Nat → Int} {A2 : Option Addr} {n2 : Nat} {z2 : Nat → Int} {A3 : Option Addr} {n3 : Nat} {z3 : Nat → Int} {A4 : Option Addr} {n4 : Nat} {z4 : Nat → Int} {D : Option Addr} {p : Nat} {z : Nat → Int} (h : LR w0 ec pc x X Y Z sa xc yc n len g A A1 n1 z1 A2 n2 z2 A3 n3 z3 A4 n4 z4 D p z W) : RdP W W.heap.size A1 n1 z1 A2 n2 z2 A3 n3 z3 A4 n4 z4 := h.2.2.2.1
theorem LR.rd {w0 W : World} {ec pc : Array Value} {x X Y Z : Nat} {sa xc yc : Array Value} {n : Nat} {len : Nat → Nat} {g : Nat → Nat → Nd} {A A1 : Option Addr} {n1 : Nat} {z1 : Nat → Int} {A2 : Option Addr} {n2 : Nat} {z2 : Nat → Int} {A3 : Option Addr} {n3 : Nat} {z3 : Nat → Int} {A4 : Option Addr} {n4 : Nat} {z4 : Nat → Int} {D : Option Addr} {p : Nat} {z : Nat → Int} (h : LR w0 ec pc x X Y Z sa xc yc n len g A A1 n1 z1 A2 n2 z2 A3 n3 z3 A4 n4 z4 D p z W) : Rd W W.heap.size D p z := h.2.2.2.2
theorem lr_cells2 {w0 W : World} {x X Y Z : Nat} {sa : Array Value} {u0 u1 u2 v0 v1 v2 v3 x0 x1 x2 y0 y1 y2 y3 : Value} {n : Nat} {len : Nat → Nat} {g : Nat → Nat → Nd} {A A1 : Option Addr} {n1 : Nat} {z1 : Nat → Int} {A2 : Option Addr} {n2 : Nat} {z2 : Nat → Int} {A3 : Option Addr} {n3 : Nat} {z3 : Nat → Int} {A4 : Option Addr} {n4 : Nat} {z4 : Nat → Int} {D : Option Addr} {p : Nat} {z : Nat → Int} (h : LR w0 #[u0, u1, u2] #[v0, v1, v2, v3] x X Y Z sa #[x0, x1, x2] #[y0, y1, y2, y3] n len g A A1 n1 z1 A2 n2 z2 A3 n3 z3 A4 n4 z4 D p z W) : W.cell? ⟨X, 0, none⟩ = some x0 ∧ W.cell? ⟨X, 1, none⟩ = some x1 ∧ W.cell? ⟨X, 2, none⟩ = some x2 ∧ W.cell? ⟨w0.heap.size, 0, none⟩ = some u0 ∧ W.cell? ⟨w0.heap.size, 1, none⟩ = some u1 ∧ W.cell? ⟨w0.heap.size, 2, none⟩ = some u2 := ⟨h.2.1.2.1.cell 0, h.2.1.2.1.cell 1, h.2.1.2.1.cell 2, h.1.1.cell 0, h.1.1.cell 1, h.1.1.cell 2⟩
theorem lr_cells3 {w0 W : World} {x X Y Z : Nat} {sa : Array Value} {u0 u1 u2 v0 v1 v2 v3 x0 x1 x2 y0 y1 y2 y3 : Value} {n : Nat} {len : Nat → Nat} {g : Nat → Nat → Nd} {A A1 : Option Addr} {n1 : Nat} {z1 : Nat → Int} {A2 : Option Addr} {n2 : Nat} {z2 : Nat → Int} {A3 : Option Addr} {n3 : Nat} {z3 : Nat → Int} {A4 : Option Addr} {n4 : Nat} {z4 : Nat → Int} {D : Option Addr} {p : Nat} {z : Nat → Int} (h : LR w0 #[u0, u1, u2] #[v0, v1, v2, v3] x X Y Z sa #[x0, x1, x2] #[y0, y1, y2, y3] n len g A A1 n1 z1 A2 n2 z2 A3 n3 z3 A4 n4 z4 D p z W) : W.cell? ⟨Y, 0, none⟩ = some y0 ∧ W.cell? ⟨Y, 1, none⟩ = some y1 ∧ W.cell? ⟨Y, 2, none⟩ = some y2 ∧ W.cell? ⟨Y, 3, none⟩ = some y3 ∧ W.cell? ⟨w0.heap.size + 1, 0, none⟩ = some v0 ∧ W.cell? ⟨w0.heap.size + 1, 1, none⟩ = some v1 ∧ W.cell? ⟨w0.heap.size + 1, 2, none⟩ = some v2 ∧ W.cell? ⟨w0.heap.size + 1, 3, none⟩ = some v3 := ⟨h.2.1.2.2.1.cell 0, h.2.1.2.2.1.cell 1, h.2.1.2.2.1.cell 2, h.2.1.2.2.1.cell 3, h.1.2.1.cell 0, h.1.2.1.cell 1, h.1.2.1.cell 2, h.1.2.1.cell 3⟩

set_option maxRecDepth 100000 in
set_option maxHeartbeats 8000000 in
theorem lawStateTo (f b : Int) (A : Option Addr) (n c : Nat) (len : Nat → Nat) (g : Nat → Nat → Nd) (A1 : Option Addr) (n1 c1 : Nat) (z1 : Nat → Int) (A2 : Option Addr) (n2 c2 : Nat) (z2 : Nat → Int) (A3 : Option Addr) (n3 c3 : Nat) (z3 : Nat → Int) (A4 : Option Addr) (n4 c4 : Nat) (z4 : Nat → Int) (D : Option Addr) (p dc : Nat) (z : Nat → Int) (a : Int) (w : World)
    (h : RdT w w.heap.size A n len g) (hn : n ≤ 9223372036854775807) (hlen : ∀ i, i < n → len i ≤ 9223372036854775807) (hp : RdP w w.heap.size A1 n1 z1 A2 n2 z2 A3 n3 z3 A4 n4 z4) (k1 : n1 ≤ 9223372036854775807) (k2 : n2 ≤ 9223372036854775807) (k3 : n3 ≤ 9223372036854775807) (k4 : n4 ≤ 9223372036854775807) (hd : Rd w w.heap.size D p z) (hpm : p ≤ 9223372036854775807) :
    Calls Try.prog 3 #[enV f b A n c, plV A1 n1 c1 A2 n2 c2 A3 n3 c3 A4 n4 c4, .slice D p dc, .int .i64 a] w fun e w' => e = .returned (.bool true) ∧ Below w.heap.size w w' := by
  have HLEN := hid hlen
  clear hlen
  have hB := LB.new w #[.int .i64 f, .int .i64 b, .slice A n c] #[.slice A1 n1 c1, .slice A2 n2 c2, .slice A3 n3 c3, .slice A4 n4 c4]
  go_enter Try.func3, Try.ntmps3
  by_cases hbig : p > 1048576
  · have HB := hid hB.bel
    clear hB
    go_wp2_with fail
    go_ret
    exact ⟨rfl, HB.out⟩
  have hpp : p ≤ 4194304 := by omega
  go_wp2_with fail
  obtain ⟨W0, hW0⟩ : ∃ W, (w.alloc (.cells #[.int .i64 f, .int .i64 b, .slice A n c] 24)).alloc (.cells #[.slice A1 n1 c1, .slice A2 n2 c2, .slice A3 n3 c3, .slice A4 n4 c4] 27) = W := ⟨_, rfl⟩
  rw [hW0] at hB ⊢
  clear hW0
  refine (szE_any f b A n c len g 1048576 _ (h.to hB.bel hB.bel.size) hn HLEN (by omega) (by omega)).mono ?_
  rintro e W1 ⟨y, rfl, hy, hb1⟩
  have D1 := hid (stb_LB _ _ hB hb1)
  clear hB hb1
  obtain ⟨x0, x1, x2, y0, y1, y2, y3⟩ := D1.out.cells
  by_cases hneg : y < 0
  · clear hy
    go_wp2_with fail
    go_ret
    exact ⟨rfl, D1.out.bel⟩
  have hsm : (0 ≤ y ∧ y ≤ 1048576) ∧ n ≤ 1048576 ∧ ∀ i, i < n → len i ≤ 1048576 := by
    rcases hy with h | h
    · exact absurd h hneg
    · exact ⟨⟨h.1, h.2.1⟩, h.2.2⟩
  have hn2 : n ≤ 4194304 := by have := hsm.2.1; omega
  have hl2 : Hid (∀ i, i < n → len i ≤ 4194304) := fun i hi => by have := hsm.2.2 i hi; omega
  obtain ⟨⟨hy0, hy1⟩, _⟩ := hsm
  clear hy hn HLEN
  go_wp2_with fail
  refine (szP_any A1 n1 c1 A2 n2 c2 A3 n3 c3 A4 n4 c4 y _ k1 k2 k3 k4 hy0 hy1).mono ?_
  rintro e W2 ⟨yy, rfl, hyy, hb2⟩
  have D2 := hid (stb_LB _ _ D1.out hb2)
  clear D1 hb2 x0 x1 x2 y0 y1 y2 y3
  by_cases hneg2 : yy < 0
  · clear hyy
    go_wp2_with fail
    go_ret
    exact ⟨rfl, D2.out.bel⟩
  have hs2 : n1 ≤ 4194304 ∧ n2 ≤ 4194304 ∧ n3 ≤ 4194304 ∧ n4 ≤ 4194304 := by rcases hyy with h | h <;> omega
  obtain ⟨m1, m2, m3, m4⟩ := hs2
  clear hyy
  obtain ⟨V, hV⟩ : ∃ V, stOk f b n len g n1 z1 n2 z2 n3 z3 n4 z4 p z a = V := ⟨_, rfl⟩
  have HV := hid hV
  clear hV
  obtain ⟨a', s', q', hst⟩ := stb_st a (sumT (scO g (ordN z1) z) a.toNat) (sumT (csF g (ordN z1) z) a.toNat) V
  have HST := hid hst
  clear hst
  have X0 : Hid (LQ w #[.int .i64 f, .int .i64 b, .slice A n c] #[.slice A1 n1 c1, .slice A2 n2 c2, .slice A3 n3 c3, .slice A4 n4 c4] none W2.drew) := ⟨stb_LB.drew D2.out, fun x e => by cases e⟩
  have X0a : Hid (LQ w #[.int .i64 f, .int .i64 b, .slice A n c] #[.slice A1 n1 c1, .slice A2 n2 c2, .slice A3 n3 c3, .slice A4 n4 c4] (some W2.heap.size) (W2.alloc (.cells #[.int .i64 0, .int .i64 0, .int .i64 0] 31)).drew) := stb_LQ.drew (LQ.alloc ⟨D2.out, fun x e => by cases e⟩)
  have hlw : w.heap.size + 2 ≤ W2.heap.size := by have := D2.out.2.1.lt; omega
  have S0 := hid X0.out.lb.cells
  have S0a := hid X0a.out.lb.cells
  clear D2
  go_wp2_with fail
  go_cut [10, 11] (fun s10 s11 wx => ∃ x : Nat, s10 = .pointer (some ⟨x, 0, none⟩) ∧ s11 = .bool V ∧ Hid (Blk wx x 31 #[.int .i64 a', .int .i64 s', .int .i64 q'] ∧ LB w #[.int .i64 f, .int .i64 b, .slice A n c] #[.slice A1 n1 c1, .slice A2 n2 c2, .slice A3 n3 c3, .slice A4 n4 c4] wx))
  case first =>
    go_region_held3 (fun w' => w'.cell? ⟨w.heap.size, 0, none⟩ = some (.int .i64 f) ∧ w'.cell? ⟨w.heap.size, 1, none⟩ = some (.int .i64 b) ∧ w'.cell? ⟨w.heap.size, 2, none⟩ = some (.slice A n c) ∧ w'.cell? ⟨w.heap.size + 1, 0, none⟩ = some (.slice A1 n1 c1) ∧ w'.cell? ⟨w.heap.size + 1, 1, none⟩ = some (.slice A2 n2 c2) ∧ w'.cell? ⟨w.heap.size + 1, 2, none⟩ = some (.slice A3 n3 c3) ∧ w'.cell? ⟨w.heap.size + 1, 3, none⟩ = some (.slice A4 n4 c4))
      ((refine Hid.out ?_; with_reducible assumption))
      (first
        | (go_at_call 16; first | ((with_reducible refine Calls.mono (toE_any f b A n c len g W2.drew (h.to X0.out.lb.bel X0.out.lb.bel.size) hn2 hl2) ?_); rintro e W3 ⟨b3, rfl, _, hr3, hb3⟩; have x3 := stb_LQ _ _ X0.out hb3; have R3 := hid hr3; have S3 := hid x3.lb.cells; (try have S3a := hid (LQ.alloc x3).lb.cells); have X3 := hid x3; clear x3 hb3 hr3) | ((with_reducible refine Calls.mono (toE_any f b A n c len g (W2.alloc (.cells #[.int .i64 0, .int .i64 0, .int .i64 0] 31)).drew (h.to X0a.out.lb.bel X0a.out.lb.bel.size) hn2 hl2) ?_); rintro e W3 ⟨b3, rfl, _, hr3, hb3⟩; have x3 := stb_LQ _ _ X0a.out hb3; have R3 := hid hr3; have S3 := hid x3.lb.cells; (try have S3a := hid (LQ.alloc x3).lb.cells); have X3 := hid x3; clear x3 hb3 hr3))
        | (go_at_call 17; first | ((with_reducible refine Calls.mono (toP_any A1 n1 c1 z1 A2 n2 c2 z2 A3 n3 c3 z3 A4 n4 c4 z4 W3 (hp.to X3.out.lb.bel X3.out.lb.bel.size) m1 m2 m3 m4) ?_); rintro e W4 ⟨a1, a2, a3, a4, rfl, hp4, hb4⟩; have x4 := stb_LQ _ _ X3.out hb4; have R4 := hid (stb_rdT _ _ R3.out hb4); have P4 := hid hp4; have S4 := hid x4.lb.cells; (try have S4a := hid (LQ.alloc x4).lb.cells); have X4 := hid x4; clear x4 hb4 hp4) | ((with_reducible refine Calls.mono (toP_any A1 n1 c1 z1 A2 n2 c2 z2 A3 n3 c3 z3 A4 n4 c4 z4 (W3.alloc (.cells #[.int .i64 0, .int .i64 0, .int .i64 0] 31)) (hp.to (LQ.alloc X3.out).lb.bel (LQ.alloc X3.out).lb.bel.size) m1 m2 m3 m4) ?_); rintro e W4 ⟨a1, a2, a3, a4, rfl, hp4, hb4⟩; have x4 := stb_LQ _ _ (LQ.alloc X3.out) hb4; have R4 := hid (stb_rdT _ _ (stb_rdT.alloc R3.out _) hb4); have P4 := hid hp4; have S4 := hid x4.lb.cells; (try have S4a := hid (LQ.alloc x4).lb.cells); have X4 := hid x4; clear x4 hb4 hp4))
        | (go_at_call 18; first | ((with_reducible refine Calls.mono (toI_any D p dc z W4 (hd.to X4.out.lb.bel X4.out.lb.bel.size) hpp) ?_); rintro e W5 ⟨d5, rfl, _, hi5, hb5⟩; have x5 := stb_LQ _ _ X4.out hb5; have R5 := hid (stb_rdT _ _ R4.out hb5); have P5 := hid (stb_rdP _ _ P4.out hb5); have I5 := hid (hi5.rd hi5.lt); have S5 := hid x5.lb.cells; (try have S5a := hid (LQ.alloc x5).lb.cells); have X5 := hid x5; clear x5 hb5 hi5) | ((with_reducible refine Calls.mono (toI_any D p dc z (W4.alloc (.cells #[.int .i64 0, .int .i64 0, .int .i64 0] 31)) (hd.to (LQ.alloc X4.out).lb.bel (LQ.alloc X4.out).lb.bel.size) hpp) ?_); rintro e W5 ⟨d5, rfl, _, hi5, hb5⟩; have x5 := stb_LQ _ _ (LQ.alloc X4.out) hb5; have R5 := hid (stb_rdT _ _ (stb_rdT.alloc R4.out _) hb5); have P5 := hid (stb_rdP _ _ (stb_rdP.alloc P4.out _) hb5); have I5 := hid (hi5.rd hi5.lt); have S5 := hid x5.lb.cells; (try have S5a := hid (LQ.alloc x5).lb.cells); have X5 := hid x5; clear x5 hb5 hi5))
        | (go_at_call 15; first | ((with_reducible refine Calls.mono (sStateTo_any f b (some ⟨b3, 0, none⟩) n n len g (some ⟨a1, 0, none⟩) n1 n1 z1 (some ⟨a2, 0, none⟩) n2 n2 z2 (some ⟨a3, 0, none⟩) n3 n3 z3 (some ⟨a4, 0, none⟩) n4 n4 z4 (some ⟨d5, 0, none⟩) p p z a V W5 R5.out P5.out I5.out hn2 hl2 k1 k2 k3 k4 hpp HV) ?_); rintro e W6 ⟨rfl, hb6⟩; have x6 := stb_LQ _ _ X5.out hb6; rw [HST.out]; (try obtain ⟨⟨v0, v1, v2⟩, q0, q1, q2⟩ := lq_old x6); have S6 := hid x6.lb.cells; (try have S6q := hid (x6.put (.int .i64 a') (.int .i64 s') (.int .i64 q')).1.cells); have S6z := hid (stb_LB.alloc x6.lb (.cells #[.int .i64 0, .int .i64 0, .int .i64 0] 31)).cells; have S6a := hid (stb_LB.alloc x6.lb (.cells #[.int .i64 a', .int .i64 s', .int .i64 q'] 31)).cells; have X6 := hid x6; clear x6 hb6) | ((with_reducible refine Calls.mono (sStateTo_any f b (some ⟨b3, 0, none⟩) n n len g (some ⟨a1, 0, none⟩) n1 n1 z1 (some ⟨a2, 0, none⟩) n2 n2 z2 (some ⟨a3, 0, none⟩) n3 n3 z3 (some ⟨a4, 0, none⟩) n4 n4 z4 (some ⟨d5, 0, none⟩) p p z a V (W5.alloc (.cells #[.int .i64 0, .int .i64 0, .int .i64 0] 31)) (stb_rdT.alloc R5.out _) (stb_rdP.alloc P5.out _) (stb_rd.alloc I5.out _) hn2 hl2 k1 k2 k3 k4 hpp HV) ?_); rintro e W6 ⟨rfl, hb6⟩; have x6 := stb_LQ _ _ (LQ.alloc X5.out) hb6; rw [HST.out]; (try obtain ⟨⟨v0, v1, v2⟩, q0, q1, q2⟩ := lq_old x6); have S6 := hid x6.lb.cells; (try have S6q := hid (x6.put (.int .i64 a') (.int .i64 s') (.int .i64 q')).1.cells); have S6z := hid (stb_LB.alloc x6.lb (.cells #[.int .i64 0, .int .i64 0, .int .i64 0] 31)).cells; have S6a := hid (stb_LB.alloc x6.lb (.cells #[.int .i64 a', .int .i64 s', .int .i64 q'] 31)).cells; have X6 := hid x6; clear x6 hb6)))
    all_goals
      go_wp2_with fail
      go_meet
      first
        | exact ⟨_, rfl, rfl, hid ⟨Blk.new W6 _ _, stb_LB.alloc X6.out.lb _⟩⟩
        | exact ⟨_, rfl, rfl, hid ⟨(X6.out.put (.int .i64 a') (.int .i64 s') (.int .i64 q')).2, (X6.out.put (.int .i64 a') (.int .i64 s') (.int .i64 q')).1⟩⟩
  case rest =>
    obtain ⟨x, rfl, rfl, HX⟩ := hcut
    clear X0 X0a S0 S0a
    obtain ⟨x0, x1, x2, y0, y1, y2, y3⟩ := HX.out.2.cells
    go_wp2_with fail
    with_reducible refine Calls.mono (toE_any f b A n c len g wc (h.to HX.out.2.bel HX.out.2.bel.size) hn2 hl2) ?_
    rintro e W7 ⟨b6, rfl, _, hr7, hb7⟩
    have hx8 := (Below.refl W7.heap.size W7).alloc (Nat.le_refl _) (.cells #[.int .i64 f, .int .i64 b, .slice (some ⟨b6, 0, none⟩) n n] 36)
    have HX8 : Hid ((Blk (W7.alloc (.cells #[.int .i64 f, .int .i64 b, .slice (some ⟨b6, 0, none⟩) n n] 36)) x 31 #[.int .i64 a', .int .i64 s', .int .i64 q'] ∧ LB w #[.int .i64 f, .int .i64 b, .slice A n c] #[.slice A1 n1 c1, .slice A2 n2 c2, .slice A3 n3 c3, .slice A4 n4 c4] (W7.alloc (.cells #[.int .i64 f, .int .i64 b, .slice (some ⟨b6, 0, none⟩) n n] 36))) ∧ Blk (W7.alloc (.cells #[.int .i64 f, .int .i64 b, .slice (some ⟨b6, 0, none⟩) n n] 36)) W7.heap.size 36 #[.int .i64 f, .int .i64 b, .slice (some ⟨b6, 0, none⟩) n n] ∧ RdT (W7.alloc (.cells #[.int .i64 f, .int .i64 b, .slice (some ⟨b6, 0, none⟩) n n] 36)) (W7.alloc (.cells #[.int .i64 f, .int .i64 b, .slice (some ⟨b6, 0, none⟩) n n] 36)).heap.size (some ⟨b6, 0, none⟩) n len g) :=
      ⟨(stb_blk.and stb_LB).alloc ((stb_blk.and stb_LB) _ _ HX.out hb7) _, Blk.new W7 _ _, hr7.to hx8 hx8.size⟩
    clear HX hb7 hr7 hx8 x0 x1 x2 y0 y1 y2 y3
    obtain ⟨x0, x1, x2, y0, y1, y2, y3⟩ := HX8.out.1.2.cells
    go_wp2_with fail
    obtain ⟨W8, hW8⟩ : ∃ W, W7.alloc (.cells #[.int .i64 f, .int .i64 b, .slice (some ⟨b6, 0, none⟩) n n] 36) = W := ⟨_, rfl⟩
    rw [hW8] at HX8 x0 x1 x2 y0 y1 y2 y3 ⊢
    obtain ⟨X, hX⟩ : ∃ X, W7.heap.size = X := ⟨_, rfl⟩
    rw [hX] at HX8
    try rw [hX]
    clear hW8 hX
    with_reducible refine Calls.mono (toP_any A1 n1 c1 z1 A2 n2 c2 z2 A3 n3 c3 z3 A4 n4 c4 z4 W8 (hp.to HX8.out.1.2.bel HX8.out.1.2.bel.size) m1 m2 m3 m4) ?_
    rintro e W9 ⟨a1, a2, a3, a4, rfl, hp9, hb9⟩
    have hx9 := (Below.refl W9.heap.size W9).alloc (Nat.le_refl _) (.cells #[.slice (some ⟨a1, 0, none⟩) n1 n1, .slice (some ⟨a2, 0, none⟩) n2 n2, .slice (some ⟨a3, 0, none⟩) n3 n3, .slice (some ⟨a4, 0, none⟩) n4 n4] 38)
    have HX9 : Hid (((Blk (W9.alloc (.cells #[.slice (some ⟨a1, 0, none⟩) n1 n1, .slice (some ⟨a2, 0, none⟩) n2 n2, .slice (some ⟨a3, 0, none⟩) n3 n3, .slice (some ⟨a4, 0, none⟩) n4 n4] 38)) x 31 #[.int .i64 a', .int .i64 s', .int .i64 q'] ∧ LB w #[.int .i64 f, .int .i64 b, .slice A n c] #[.slice A1 n1 c1, .slice A2 n2 c2, .slice A3 n3 c3, .slice A4 n4 c4] (W9.alloc (.cells #[.slice (some ⟨a1, 0, none⟩) n1 n1, .slice (some ⟨a2, 0, none⟩) n2 n2, .slice (some ⟨a3, 0, none⟩) n3 n3, .slice (some ⟨a4, 0, none⟩) n4 n4] 38))) ∧ Blk (W9.alloc (.cells #[.slice (some ⟨a1, 0, none⟩) n1 n1, .slice (some ⟨a2, 0, none⟩) n2 n2, .slice (some ⟨a3, 0, none⟩) n3 n3, .slice (some ⟨a4, 0, none⟩) n4 n4] 38)) X 36 #[.int .i64 f, .int .i64 b, .slice (some ⟨b6, 0, none⟩) n n] ∧ RdT (W9.alloc (.cells #[.slice (some ⟨a1, 0, none⟩) n1 n1, .slice (some ⟨a2, 0, none⟩) n2 n2, .slice (some ⟨a3, 0, none⟩) n3 n3, .slice (some ⟨a4, 0, none⟩) n4 n4] 38)) (W9.alloc (.cells #[.slice (some ⟨a1, 0, none⟩) n1 n1, .slice (some ⟨a2, 0, none⟩) n2 n2, .slice (some ⟨a3, 0, none⟩) n3 n3, .slice (some ⟨a4, 0, none⟩) n4 n4] 38)).heap.size (some ⟨b6, 0, none⟩) n len g) ∧ Blk (W9.alloc (.cells #[.slice (some ⟨a1, 0, none⟩) n1 n1, .slice (some ⟨a2, 0, none⟩) n2 n2, .slice (some ⟨a3, 0, none⟩) n3 n3, .slice (some ⟨a4, 0, none⟩) n4 n4] 38)) W9.heap.size 38 #[.slice (some ⟨a1, 0, none⟩) n1 n1, .slice (some ⟨a2, 0, none⟩) n2 n2, .slice (some ⟨a3, 0, none⟩) n3 n3, .slice (some ⟨a4, 0, none⟩) n4 n4] ∧ RdP (W9.alloc (.cells #[.slice (some ⟨a1, 0, none⟩) n1 n1, .slice (some ⟨a2, 0, none⟩) n2 n2, .slice (some ⟨a3, 0, none⟩) n3 n3, .slice (some ⟨a4, 0, none⟩) n4 n4] 38)) (W9.alloc (.cells #[.slice (some ⟨a1, 0, none⟩) n1 n1, .slice (some ⟨a2, 0, none⟩) n2 n2, .slice (some ⟨a3, 0, none⟩) n3 n3, .slice (some ⟨a4, 0, none⟩) n4 n4] 38)).heap.size (some ⟨a1, 0, none⟩) n1 z1 (some ⟨a2, 0, none⟩) n2 z2 (some ⟨a3, 0, none⟩) n3 z3 (some ⟨a4, 0, none⟩) n4 z4) :=
      ⟨((stb_blk.and stb_LB).and (stb_blk.and stb_rdT)).alloc (((stb_blk.and stb_LB).and (stb_blk.and stb_rdT)) _ _ HX8.out hb9) _, Blk.new W9 _ _, hp9.to hx9 hx9.size⟩
    clear HX8 hb9 hp9 hx9 x0 x1 x2 y0 y1 y2 y3
    go_wp2_with fail
    obtain ⟨WA, hWA⟩ : ∃ W, W9.alloc (.cells #[.slice (some ⟨a1, 0, none⟩) n1 n1, .slice (some ⟨a2, 0, none⟩) n2 n2, .slice (some ⟨a3, 0, none⟩) n3 n3, .slice (some ⟨a4, 0, none⟩) n4 n4] 38) = W := ⟨_, rfl⟩
    rw [hWA] at HX9 ⊢
    obtain ⟨Y, hY⟩ : ∃ Y, W9.heap.size = Y := ⟨_, rfl⟩
    rw [hY] at HX9
    try rw [hY]
    clear hWA hY
    have hlbA := HX9.out.1.1.2
    with_reducible refine Calls.mono (toI_any D p dc z WA (hd.to hlbA.bel hlbA.bel.size) hpp) ?_
    rintro e WB ⟨dB, rfl, _, hiB, hbB⟩
    have HXB : Hid ((((Blk WB x 31 #[.int .i64 a', .int .i64 s', .int .i64 q'] ∧ LB w #[.int .i64 f, .int .i64 b, .slice A n c] #[.slice A1 n1 c1, .slice A2 n2 c2, .slice A3 n3 c3, .slice A4 n4 c4] WB) ∧ Blk WB X 36 #[.int .i64 f, .int .i64 b, .slice (some ⟨b6, 0, none⟩) n n] ∧ RdT WB WB.heap.size (some ⟨b6, 0, none⟩) n len g) ∧ Blk WB Y 38 #[.slice (some ⟨a1, 0, none⟩) n1 n1, .slice (some ⟨a2, 0, none⟩) n2 n2, .slice (some ⟨a3, 0, none⟩) n3 n3, .slice (some ⟨a4, 0, none⟩) n4 n4] ∧ RdP WB WB.heap.size (some ⟨a1, 0, none⟩) n1 z1 (some ⟨a2, 0, none⟩) n2 z2 (some ⟨a3, 0, none⟩) n3 z3 (some ⟨a4, 0, none⟩) n4 z4) ∧ Rd WB WB.heap.size (some ⟨dB, 0, none⟩) p z) :=
      ⟨(((stb_blk.and stb_LB).and (stb_blk.and stb_rdT)).and (stb_blk.and stb_rdP)) _ _ HX9.out hbB, hiB.rd hiB.lt⟩
    clear HX9 hbB hiB hlbA
    obtain ⟨x0, x1, x2⟩ := blk_three HXB.out.1.1.2.1
    obtain ⟨y0, y1, y2, y3⟩ := blk_four HXB.out.1.2.1
    go_wp2_with fail
    with_reducible refine Calls.mono (iStateTo_any f b (some ⟨b6, 0, none⟩) n n len g (some ⟨a1, 0, none⟩) n1 n1 z1 (some ⟨a2, 0, none⟩) n2 n2 z2 (some ⟨a3, 0, none⟩) n3 n3 z3 (some ⟨a4, 0, none⟩) n4 n4 z4 (some ⟨dB, 0, none⟩) p p z a V WB HXB.out.1.1.2.2 HXB.out.1.2.2 HXB.out.2 hn2 hl2 k1 k2 k3 k4 hpp HV) ?_
    rintro e WC ⟨rfl, hbC⟩
    rw [HST.out]
    have hxD := (Below.refl WC.heap.size WC).alloc (Nat.le_refl _) (.cells #[.int .i64 a', .int .i64 s', .int .i64 q'] 31)
    have HLR : Hid (LR w #[.int .i64 f, .int .i64 b, .slice A n c] #[.slice A1 n1 c1, .slice A2 n2 c2, .slice A3 n3 c3, .slice A4 n4 c4] x X Y WC.heap.size #[.int .i64 a', .int .i64 s', .int .i64 q'] #[.int .i64 f, .int .i64 b, .slice (some ⟨b6, 0, none⟩) n n] #[.slice (some ⟨a1, 0, none⟩) n1 n1, .slice (some ⟨a2, 0, none⟩) n2 n2, .slice (some ⟨a3, 0, none⟩) n3 n3, .slice (some ⟨a4, 0, none⟩) n4 n4] n len g (some ⟨b6, 0, none⟩) (some ⟨a1, 0, none⟩) n1 z1 (some ⟨a2, 0, none⟩) n2 z2 (some ⟨a3, 0, none⟩) n3 z3 (some ⟨a4, 0, none⟩) n4 z4 (some ⟨dB, 0, none⟩) p z (WC.alloc (.cells #[.int .i64 a', .int .i64 s', .int .i64 q'] 31))) := by
      obtain ⟨⟨⟨⟨q1, q2⟩, q3, q4⟩, q5, q6⟩, q7⟩ := HXB.out
      exact ⟨stb_LB.alloc (stb_LB _ _ q2 hbC) _, ⟨(q1.below hbC q1.lt).alloc _, (q3.below hbC q3.lt).alloc _, (q5.below hbC q5.lt).alloc _, Blk.new WC _ _⟩, stb_rdT.alloc (stb_rdT _ _ q4 hbC) _, stb_rdP.alloc (stb_rdP _ _ q6 hbC) _, stb_rd.alloc (stb_rd _ _ q7 hbC) _⟩
    clear HXB hbC hxD x0 x1 x2 y0 y1 y2 y3
    obtain ⟨v0, v1, v2⟩ := blk_three HLR.out.2.1.1
    have hVV : (V != V) = false := by simp
    go_wp2_with fail
    obtain ⟨WD, hWD⟩ : ∃ W, WC.alloc (.cells #[.int .i64 a', .int .i64 s', .int .i64 q'] 31) = W := ⟨_, rfl⟩
    rw [hWD] at HLR v0 v1 v2 ⊢
    obtain ⟨Z, hZ⟩ : ∃ Z, WC.heap.size = Z := ⟨_, rfl⟩
    rw [hZ] at HLR
    try rw [hZ]
    clear hWD hZ
    with_reducible refine Calls.mono (eqState_any a' s' q' WD) ?_
    rintro e WE ⟨rfl, hbE⟩
    have G0 := hid (stb_LR.drew (stb_LR _ _ HLR.out hbE))
    clear HLR hbE v0 v1 v2
    have S0 := hid (lr_cells2 G0.out)
    have hrG := h.to G0.out.1.bel G0.out.1.bel.size
    go_wp2_with fail
    go_region_held3 (fun w' => w'.cell? ⟨X, 0, none⟩ = some (.int .i64 f) ∧ w'.cell? ⟨X, 1, none⟩ = some (.int .i64 b) ∧ w'.cell? ⟨X, 2, none⟩ = some (.slice (some ⟨b6, 0, none⟩) n n) ∧ w'.cell? ⟨w.heap.size, 0, none⟩ = some (.int .i64 f) ∧ w'.cell? ⟨w.heap.size, 1, none⟩ = some (.int .i64 b) ∧ w'.cell? ⟨w.heap.size, 2, none⟩ = some (.slice A n c))
      ((refine Hid.out ?_; with_reducible assumption))
      (first
        | (go_at_call 16; (with_reducible refine Calls.mono (toE_any f b A n c len g WE.drew hrG hn2 hl2) ?_); rintro e WF ⟨b7, rfl, _, hr7, hb7⟩; have f1 := stb_LR _ _ G0.out hb7; have S1 := hid (lr_cells2 f1); have R7 := hid hr7; have G1 := hid f1; clear f1 hb7 hr7)
        | (go_at_call 21; (with_reducible refine Calls.mono (eqE_any f b _ _ n n n len g WF G1.out.rdT R7.out hn2 hl2) ?_); rintro e WG ⟨rfl, hbE⟩; have f2 := stb_LR _ _ G1.out hbE; have S2 := hid (lr_cells2 f2); have G2 := hid f2; clear f2 hbE))
    have I0 := hid (stb_LR.drew G2.out)
    clear S0 S1 S2 G0 G1 R7 hrG
    have S0 := hid (lr_cells3 I0.out)
    have hpI := hp.to I0.out.1.bel I0.out.1.bel.size
    go_wp2_with fail
    go_region_held3 (fun w' => w'.cell? ⟨Y, 0, none⟩ = some (.slice (some ⟨a1, 0, none⟩) n1 n1) ∧ w'.cell? ⟨Y, 1, none⟩ = some (.slice (some ⟨a2, 0, none⟩) n2 n2) ∧ w'.cell? ⟨Y, 2, none⟩ = some (.slice (some ⟨a3, 0, none⟩) n3 n3) ∧ w'.cell? ⟨Y, 3, none⟩ = some (.slice (some ⟨a4, 0, none⟩) n4 n4) ∧ w'.cell? ⟨w.heap.size + 1, 0, none⟩ = some (.slice A1 n1 c1) ∧ w'.cell? ⟨w.heap.size + 1, 1, none⟩ = some (.slice A2 n2 c2) ∧ w'.cell? ⟨w.heap.size + 1, 2, none⟩ = some (.slice A3 n3 c3) ∧ w'.cell? ⟨w.heap.size + 1, 3, none⟩ = some (.slice A4 n4 c4))
      ((refine Hid.out ?_; with_reducible assumption))
      (first
        | (go_at_call 17; (with_reducible refine Calls.mono (toP_any A1 n1 c1 z1 A2 n2 c2 z2 A3 n3 c3 z3 A4 n4 c4 z4 WG.drew hpI m1 m2 m3 m4) ?_); rintro e WH ⟨o1, o2, o3, o4, rfl, hpF, hbF⟩; have f1 := stb_LR _ _ I0.out hbF; have S1 := hid (lr_cells3 f1); have PF := hid hpF; have I1 := hid f1; clear f1 hbF hpF)
        | (go_at_call 22; (with_reducible refine Calls.mono (eqP_any (some ⟨a1, 0, none⟩) n1 n1 z1 (some ⟨a2, 0, none⟩) n2 n2 z2 (some ⟨a3, 0, none⟩) n3 n3 z3 (some ⟨a4, 0, none⟩) n4 n4 z4 (some ⟨o1, 0, none⟩) n1 (some ⟨o2, 0, none⟩) n2 (some ⟨o3, 0, none⟩) n3 (some ⟨o4, 0, none⟩) n4 WH I1.out.rdP PF.out m1 m2 m3 m4) ?_); rintro e WI ⟨rfl, hbG⟩; have f2 := stb_LR _ _ I1.out hbG; have S2 := hid (lr_cells3 f2); have I2 := hid f2; clear f2 hbG))
    clear S0 S1 S2 I0 I1 PF hpI G2
    go_wp2_with fail
    with_reducible refine Calls.mono (toI_any D p dc z WI (hd.to I2.out.lb.bel I2.out.lb.bel.size) hpp) ?_
    rintro e WJ ⟨dJ, rfl, _, hiJ, hbJ⟩
    have J2 := hid (stb_LR _ _ I2.out hbJ)
    have hdJ := hiJ.rd hiJ.lt
    clear I2 hbJ hiJ
    go_wp2_with fail
    with_reducible refine Calls.mono (eqI_any (some ⟨dB, 0, none⟩) (some ⟨dJ, 0, none⟩) p p p z z WJ J2.out.rd hdJ (hid fun _ _ => rfl) hpp) ?_
    rintro e WK ⟨rfl, mK, rfl⟩
    have HB := hid J2.out.1.bel
    clear J2 hdJ
    go_wp2_with fail
    go_ret
    exact ⟨rfl, below_drewN HB.out _⟩
end Go.Proofs.Ytlgomifpohdniaa
