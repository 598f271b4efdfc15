/- A drawn plan: the walk. -/
import Derived.Test.YtlgomifpohdniaaGreatPlY
namespace Go.Proofs.YtlgomifpohdniaaGreat
open Go.RowKit Go.Deep
set_option linter.unusedVariables false
set_option linter.unusedSimpArgs false

theorem far4 {w : World} {p : Nat} (u0 u1 u2 u3 : Value) (x : Nat) (hx : x ≠ p) : ((((w.setCell ⟨p, 0, none⟩ u0).setCell ⟨p, 1, none⟩ u1).setCell ⟨p, 2, none⟩ u2).setCell ⟨p, 3, none⟩ u3).heap[x]? = w.heap[x]? :=
  (Below.heap_setCell _ _ _ x hx).trans ((Below.heap_setCell _ _ _ x hx).trans ((Below.heap_setCell _ _ _ x hx).trans (Below.heap_setCell _ _ _ x hx)))
theorem size4 {w : World} {p : Nat} (u0 u1 u2 u3 : Value) : ((((w.setCell ⟨p, 0, none⟩ u0).setCell ⟨p, 1, none⟩ u1).setCell ⟨p, 2, none⟩ u2).setCell ⟨p, 3, none⟩ u3).heap.size = w.heap.size := by simp [World.setCell]
theorem grown4 {w0 w : World} {p : Nat} {r : Option Nat} (h : w0.grownBy w r) (hp : w0.heap.size ≤ p) (u0 u1 u2 u3 : Value) : w0.grownBy ((((w.setCell ⟨p, 0, none⟩ u0).setCell ⟨p, 1, none⟩ u1).setCell ⟨p, 2, none⟩ u2).setCell ⟨p, 3, none⟩ u3) r :=
  ⟨h.os, h.tape, h.output, by rw [size4]; exact h.size, fun i hi hne => (far4 u0 u1 u2 u3 i (by omega)).trans (h.block i hi hne)⟩
section
variable {w0 W W' : World} {R n cap k : Nat} {A A' : Option Addr} {ec : Array Value} {len : Nat → Nat} {g : Nat → Nat → Nd}
theorem PD.alloc (h : PD w0 R n cap A ec A' k len g W) (o : Obj) : PD w0 R n cap A ec A' k len g (W.alloc o) := h.below ((Below.refl _ W).alloc (Nat.le_refl _) o)
theorem PD.zero (h : PD w0 R n cap A ec A' k len g W) : Blk W (w0.heap.size + 1) 29 #[.slice none 0 0, .slice none 0 0, .slice none 0 0, .slice none 0 0] := h.2.1
theorem PD.put (h : PD w0 R n cap A ec A' k len g W) {p : Nat} (hp : w0.heap.size + 1 < p) (hRw : R < w0.heap.size) (u0 u1 u2 u3 : Value) : PD w0 R n cap A ec A' k len g ((((W.setCell ⟨p, 0, none⟩ u0).setCell ⟨p, 1, none⟩ u1).setCell ⟨p, 2, none⟩ u2).setCell ⟨p, 3, none⟩ u3) := by
  obtain ⟨h1, h2, h3, h4, h5⟩ := h
  exact ⟨(far4 u0 u1 u2 u3 _ (by omega)).trans h1, (far4 u0 u1 u2 u3 _ (by omega)).trans h2, h3.keep fun b hb => far4 u0 u1 u2 u3 b (by omega), grown4 h4 (by omega) u0 u1 u2 u3, h5.keep (fun x hx => far4 u0 u1 u2 u3 x (by omega)) (fun x hx => hx)⟩
theorem PD.fin (h : PD w0 R n cap A ec A' k len g W) (hRw : R < w0.heap.size) (u0 u1 u2 u3 : Value) : Blk ((((W.setCell ⟨w0.heap.size + 1, 0, none⟩ u0).setCell ⟨w0.heap.size + 1, 1, none⟩ u1).setCell ⟨w0.heap.size + 1, 2, none⟩ u2).setCell ⟨w0.heap.size + 1, 3, none⟩ u3) (w0.heap.size + 1) 29 #[u0, u1, u2, u3] ∧ Rs ((((W.setCell ⟨w0.heap.size + 1, 0, none⟩ u0).setCell ⟨w0.heap.size + 1, 1, none⟩ u1).setCell ⟨w0.heap.size + 1, 2, none⟩ u2).setCell ⟨w0.heap.size + 1, 3, none⟩ u3) R A n cap ∧ w0.grownBy ((((W.setCell ⟨w0.heap.size + 1, 0, none⟩ u0).setCell ⟨w0.heap.size + 1, 1, none⟩ u1).setCell ⟨w0.heap.size + 1, 2, none⟩ u2).setCell ⟨w0.heap.size + 1, 3, none⟩ u3) (some R) := by
  obtain ⟨h1, h2, h3, h4, h5⟩ := h
  exact ⟨(((h2.set_ 0 u0).set_ 1 u1).set_ 2 u2).set_ 3 u3, h3.keep fun b hb => far4 u0 u1 u2 u3 b (by omega), grown4 h4 (by omega) u0 u1 u2 u3⟩
end
theorem Owns4.keep {w w' : World} {B B' n1 c1 n2 c2 n3 c3 n4 c4 : Nat} {A1 A2 A3 A4 : Option Addr} {z1 z2 z3 z4 : Nat → Int} (h : Owns4 w B A1 n1 c1 z1 A2 n2 c2 z2 A3 n3 c3 z3 A4 n4 c4 z4) (hB : B' ≤ B) (hk : ∀ g, B ≤ g → g < w.heap.size → w'.heap[g]? = w.heap[g]?) : Owns4 w' B' A1 n1 c1 z1 A2 n2 c2 z2 A3 n3 c3 z3 A4 n4 c4 z4 :=
  ⟨own_more4 (own_keep h.o1 fun g h1 h2 _ => hk g h1 h2) hB, own_more4 (own_keep h.o2 fun g h1 h2 _ => hk g h1 h2) hB, own_more4 (own_keep h.o3 fun g h1 h2 _ => hk g h1 h2) hB, own_more4 (own_keep h.o4 fun g h1 h2 _ => hk g h1 h2) hB, h.d12, h.d13, h.d14, h.d23, h.d24, h.d34⟩
theorem PlanOwn.keep {w w' : World} {B B' k N1 c1 N2 c2 N3 c3 N4 c4 : Nat} {f b : Int} {len : Nat → Nat} {g : Nat → Nat → Nd} {A1 A2 A3 A4 : Option Addr} (h : PlanOwn w B f b k len g A1 N1 c1 A2 N2 c2 A3 N3 c3 A4 N4 c4) (hB : B' ≤ B) (hk : ∀ g, B ≤ g → g < w.heap.size → w'.heap[g]? = w.heap[g]?) : PlanOwn w' B' f b k len g A1 N1 c1 A2 N2 c2 A3 N3 c3 A4 N4 c4 := by
  obtain ⟨z1, z2, z3, z4, ho, hg, he⟩ := h
  exact ⟨z1, z2, z3, z4, ho.keep hB hk, hg, he⟩


/-- PD, and the plan's own block, if it is there. -/
def PX (w0 : World) (R n cap : Nat) (A : Option Addr) (ec : Array Value) (A' : Option Addr) (k : Nat) (len : Nat → Nat) (g : Nat → Nat → Nd) (p : Option Nat) (W : World) : Prop :=
  PD w0 R n cap A ec A' k len g W ∧ ∀ q, p = some q → w0.heap.size + 1 < q ∧ Blk W q 29 #[.slice none 0 0, .slice none 0 0, .slice none 0 0, .slice none 0 0]
section
variable {w0 W W' : World} {R n cap k : Nat} {A A' : Option Addr} {ec : Array Value} {len : Nat → Nat} {g : Nat → Nat → Nd} {p : Option Nat} {x0 x1 x2 : Value}
theorem PX.alloc (h : PX w0 R n cap A ec A' k len g none W) : PX w0 R n cap A ec A' k len g (some W.heap.size) (W.alloc (.cells #[.slice none 0 0, .slice none 0 0, .slice none 0 0, .slice none 0 0] 29)) := ⟨h.1.alloc _, fun q e => by
  injection e with e
  subst e
  exact ⟨h.1.zero.lt, Blk.new W _ _⟩⟩
theorem PX.cells (h : PX w0 R n cap A #[x0, x1, x2] A' k len g p W) : W.cell? ⟨w0.heap.size, 0, none⟩ = some x0 ∧ W.cell? ⟨w0.heap.size, 1, none⟩ = some x1 ∧ W.cell? ⟨w0.heap.size, 2, none⟩ = some x2 := h.1.cells
theorem PX.cellsA (h : PX w0 R n cap A #[x0, x1, x2] A' k len g p W) (o : Obj) : (W.alloc o).cell? ⟨w0.heap.size, 0, none⟩ = some x0 ∧ (W.alloc o).cell? ⟨w0.heap.size, 1, none⟩ = some x1 ∧ (W.alloc o).cell? ⟨w0.heap.size, 2, none⟩ = some x2 := (h.1.alloc o).cells
theorem PX.cellsQ {q : Nat} (h : PX w0 R n cap A #[x0, x1, x2] A' k len g (some q) W) (u0 u1 u2 u3 : Value) : ((((W.setCell ⟨q, 0, none⟩ u0).setCell ⟨q, 1, none⟩ u1).setCell ⟨q, 2, none⟩ u2).setCell ⟨q, 3, none⟩ u3).cell? ⟨w0.heap.size, 0, none⟩ = some x0 ∧ ((((W.setCell ⟨q, 0, none⟩ u0).setCell ⟨q, 1, none⟩ u1).setCell ⟨q, 2, none⟩ u2).setCell ⟨q, 3, none⟩ u3).cell? ⟨w0.heap.size, 1, none⟩ = some x1 ∧ ((((W.setCell ⟨q, 0, none⟩ u0).setCell ⟨q, 1, none⟩ u1).setCell ⟨q, 2, none⟩ u2).setCell ⟨q, 3, none⟩ u3).cell? ⟨w0.heap.size, 2, none⟩ = some x2 := heldQ4 h.1.home (by have := (h.2 _ rfl).1; omega) u0 u1 u2 u3
theorem px_below (m : Int) (h : PX w0 R n cap A ec A' k len g p W) (hRw : R < w0.heap.size) (hm1 : 1 < m) (hm : m ≤ 256) :
    Calls Tryz.prog 27 #[.pointer (some ⟨R, 0, none⟩), .int .i64 m] W fun e W' => ∃ y : Int, e = .returned (.int .i64 y) ∧ IntKind.i64.wrap (1 + y) = 1 + y ∧ PX w0 R n cap A ec A' k len g p W' :=
  (below_draw R n cap A m W h.1.rs hm1 hm).mono fun e W' ⟨y, he, h0, h1, hR, hg⟩ => ⟨y, he, IntWalk.i64_in _ (by omega), h.1.next hR hg hRw, fun q e => ⟨(h.2 q e).1, (h.2 q e).2.grown hg (by intro e'; injection e' with e'; have := (h.2 q e).1; omega)⟩⟩
/-- Behind PlanOf: its plan, too. -/
def PZ (w0 : World) (R n cap : Nat) (A : Option Addr) (f b : Int) (c : Nat) (A' : Option Addr) (k : Nat) (len : Nat → Nat) (g : Nat → Nat → Nd) (p : Option Nat) (A1 : Option Addr) (N1 c1 : Nat) (A2 : Option Addr) (N2 c2 : Nat) (A3 : Option Addr) (N3 c3 : Nat) (A4 : Option Addr) (N4 c4 : Nat) (W : World) : Prop :=
  PX w0 R n cap A #[.int .i64 f, .int .i64 b, .slice A' k c] A' k len g p W ∧ ∃ B, w0.heap.size + 2 ≤ B ∧ (∀ q, p = some q → q < B) ∧ PlanOwn W B f b k len g A1 N1 c1 A2 N2 c2 A3 N3 c3 A4 N4 c4
theorem PZ.px {f b : Int} {c N1 c1 N2 c2 N3 c3 N4 c4 : Nat} {A1 A2 A3 A4 : Option Addr} (h : PZ w0 R n cap A f b c A' k len g p A1 N1 c1 A2 N2 c2 A3 N3 c3 A4 N4 c4 W) : PX w0 R n cap A #[.int .i64 f, .int .i64 b, .slice A' k c] A' k len g p W := h.1
theorem px_plan (f b y1 y2 : Int) (c : Nat) (h : PX w0 R n cap A #[.int .i64 f, .int .i64 b, .slice A' k c] A' k len g p W) (hk : k ≤ 4194304) (hlen : Hid (∀ i, i < k → len i ≤ 4194304)) :
    Calls Tryz.prog 21 #[enV f b A' k c, .int .i64 y1, .int .i64 y2] W fun e W' => ∃ (Y : Bool) (A1 : Option Addr) (N1 c1 : Nat) (A2 : Option Addr) (N2 c2 : Nat) (A3 : Option Addr) (N3 c3 : Nat) (A4 : Option Addr) (N4 c4 : Nat),
      e = .returned (.tuple #[plV A1 N1 c1 A2 N2 c2 A3 N3 c3 A4 N4 c4, .bool Y]) ∧ PZ w0 R n cap A f b c A' k len g p A1 N1 c1 A2 N2 c2 A3 N3 c3 A4 N4 c4 W' :=
  (sPlanOf_drawn f b y1 y2 A' k c len g W h.1.rd hk hlen).mono fun e W' ⟨Y, A1, N1, c1, A2, N2, c2, A3, N3, c3, A4, N4, c4, he, ho, hb⟩ =>
    ⟨Y, A1, N1, c1, A2, N2, c2, A3, N3, c3, A4, N4, c4, he, ⟨h.1.below hb, fun q e => ⟨(h.2 q e).1, (h.2 q e).2.below hb (h.2 q e).2.lt⟩⟩, W.heap.size, h.1.zero.lt, fun q e => (h.2 q e).2.lt, ho⟩
end

section
variable {w0 W : World} {R n cap k c q N1 c1 N2 c2 N3 c3 N4 c4 : Nat} {A A' A1 A2 A3 A4 : Option Addr} {f b : Int} {len : Nat → Nat} {g : Nat → Nat → Nd}
theorem pz_new (h : PZ w0 R n cap A f b c A' k len g none A1 N1 c1 A2 N2 c2 A3 N3 c3 A4 N4 c4 W) :
    PD w0 R n cap A #[.int .i64 f, .int .i64 b, .slice A' k c] A' k len g (W.alloc (.cells #[.slice A1 N1 c1, .slice A2 N2 c2, .slice A3 N3 c3, .slice A4 N4 c4] 29)) ∧ Blk (W.alloc (.cells #[.slice A1 N1 c1, .slice A2 N2 c2, .slice A3 N3 c3, .slice A4 N4 c4] 29)) W.heap.size 29 #[.slice A1 N1 c1, .slice A2 N2 c2, .slice A3 N3 c3, .slice A4 N4 c4] ∧ ∃ B, w0.heap.size + 2 ≤ B ∧ PlanOwn (W.alloc (.cells #[.slice A1 N1 c1, .slice A2 N2 c2, .slice A3 N3 c3, .slice A4 N4 c4] 29)) B f b k len g A1 N1 c1 A2 N2 c2 A3 N3 c3 A4 N4 c4 := by
  obtain ⟨h1, B, hB, _, ho⟩ := h
  exact ⟨h1.1.alloc _, Blk.new W _ _, B, hB, ho.keep (Nat.le_refl _) fun x _ hx => Below.heap_alloc _ _ x hx⟩
theorem pz_old (h : PZ w0 R n cap A f b c A' k len g (some q) A1 N1 c1 A2 N2 c2 A3 N3 c3 A4 N4 c4 W) (hRw : R < w0.heap.size) :
    PD w0 R n cap A #[.int .i64 f, .int .i64 b, .slice A' k c] A' k len g ((((W.setCell ⟨q, 0, none⟩ (.slice A1 N1 c1)).setCell ⟨q, 1, none⟩ (.slice A2 N2 c2)).setCell ⟨q, 2, none⟩ (.slice A3 N3 c3)).setCell ⟨q, 3, none⟩ (.slice A4 N4 c4)) ∧ Blk ((((W.setCell ⟨q, 0, none⟩ (.slice A1 N1 c1)).setCell ⟨q, 1, none⟩ (.slice A2 N2 c2)).setCell ⟨q, 2, none⟩ (.slice A3 N3 c3)).setCell ⟨q, 3, none⟩ (.slice A4 N4 c4)) q 29 #[.slice A1 N1 c1, .slice A2 N2 c2, .slice A3 N3 c3, .slice A4 N4 c4] ∧ ∃ B, w0.heap.size + 2 ≤ B ∧ PlanOwn ((((W.setCell ⟨q, 0, none⟩ (.slice A1 N1 c1)).setCell ⟨q, 1, none⟩ (.slice A2 N2 c2)).setCell ⟨q, 2, none⟩ (.slice A3 N3 c3)).setCell ⟨q, 3, none⟩ (.slice A4 N4 c4)) B f b k len g A1 N1 c1 A2 N2 c2 A3 N3 c3 A4 N4 c4 := by
  obtain ⟨h1, B, hB, hq, ho⟩ := h
  obtain ⟨h2, h3⟩ := h1.2 q rfl
  have h4 := hq q rfl
  exact ⟨h1.1.put h2 hRw _ _ _ _, (((h3.set_ 0 _).set_ 1 _).set_ 2 _).set_ 3 _, B, hB, ho.keep (Nat.le_refl _) fun x hx _ => far4 _ _ _ _ x (by omega)⟩
end
/-- What is left to say when the plan lies in its own block P of the world W. -/
theorem plan_end {w W : World} {R n cap k c B : Nat} {A A' : Option Addr} {f b : Int} {len : Nat → Nat} {g : Nat → Nat → Nd} {A1 A2 A3 A4 : Option Addr} {N1 c1 N2 c2 N3 c3 N4 c4 : Nat}
    (hD : PD w R n cap A #[.int .i64 f, .int .i64 b, .slice A' k c] A' k len g W) (hB : w.heap.size + 2 ≤ B) (ho : PlanOwn W B f b k len g A1 N1 c1 A2 N2 c2 A3 N3 c3 A4 N4 c4) (hRw : R < w.heap.size) :
    Blk ((((W.setCell ⟨w.heap.size + 1, 0, none⟩ (.slice A1 N1 c1)).setCell ⟨w.heap.size + 1, 1, none⟩ (.slice A2 N2 c2)).setCell ⟨w.heap.size + 1, 2, none⟩ (.slice A3 N3 c3)).setCell ⟨w.heap.size + 1, 3, none⟩ (.slice A4 N4 c4)) (w.heap.size + 1) 29 #[.slice A1 N1 c1, .slice A2 N2 c2, .slice A3 N3 c3, .slice A4 N4 c4] ∧ PlanOwn ((((W.setCell ⟨w.heap.size + 1, 0, none⟩ (.slice A1 N1 c1)).setCell ⟨w.heap.size + 1, 1, none⟩ (.slice A2 N2 c2)).setCell ⟨w.heap.size + 1, 2, none⟩ (.slice A3 N3 c3)).setCell ⟨w.heap.size + 1, 3, none⟩ (.slice A4 N4 c4)) w.heap.size f b k len g A1 N1 c1 A2 N2 c2 A3 N3 c3 A4 N4 c4 ∧ Rs ((((W.setCell ⟨w.heap.size + 1, 0, none⟩ (.slice A1 N1 c1)).setCell ⟨w.heap.size + 1, 1, none⟩ (.slice A2 N2 c2)).setCell ⟨w.heap.size + 1, 2, none⟩ (.slice A3 N3 c3)).setCell ⟨w.heap.size + 1, 3, none⟩ (.slice A4 N4 c4)) R A n cap ∧ w.grownBy ((((W.setCell ⟨w.heap.size + 1, 0, none⟩ (.slice A1 N1 c1)).setCell ⟨w.heap.size + 1, 1, none⟩ (.slice A2 N2 c2)).setCell ⟨w.heap.size + 1, 2, none⟩ (.slice A3 N3 c3)).setCell ⟨w.heap.size + 1, 3, none⟩ (.slice A4 N4 c4)) (some R) := by
  obtain ⟨h1, h2, h3⟩ := hD.fin hRw (.slice A1 N1 c1) (.slice A2 N2 c2) (.slice A3 N3 c3) (.slice A4 N4 c4)
  exact ⟨h1, ho.keep (by omega) (fun x hx _ => far4 _ _ _ _ x (by omega)), h2, h3⟩

set_option maxRecDepth 100000 in
set_option maxHeartbeats 4000000 in
theorem plan_draw (R n cap : Nat) (A A' : Option Addr) (f b : Int) (k c : Nat) (len : Nat → Nat) (g : Nat → Nat → Nd) (w : World) (h : Rs w R A n cap) (hT : HiT w (fun x => R < x ∧ x < w.heap.size) A' k len g) (hk : k ≤ 4194304) (hlen : Hid (∀ i, i < k → len i ≤ 4194304)) :
    Calls Tryz.prog 30 #[.pointer (some ⟨R, 0, none⟩), enV f b A' k c] w (PlanDrawn R n cap A f b k len g w) := by
  have hRw := h.lt
  have hD0 : PX w R n cap A #[.int .i64 f, .int .i64 b, .slice A' k c] A' k len g none ((w.alloc (.cells #[.int .i64 f, .int .i64 b, .slice A' k c] 26)).alloc (.cells #[.slice none 0 0, .slice none 0 0, .slice none 0 0, .slice none 0 0] 29)) := by
    have hx : Below w.heap.size w ((w.alloc (.cells #[.int .i64 f, .int .i64 b, .slice A' k c] 26)).alloc (.cells #[.slice none 0 0, .slice none 0 0, .slice none 0 0, .slice none 0 0] 29)) := ((Below.refl _ w).alloc (Nat.le_refl _) _).alloc (by simp) _
    exact ⟨⟨(Blk.new w _ _).alloc _, Blk.new2 w _ _ _, (h.alloc _).alloc _, ⟨hx.os, hx.tape, hx.output, hx.size, fun i hi _ => hx.block i hi⟩, hT.keep (fun x hx' => hx.block x hx'.2) (fun x hx' => hx')⟩, fun q e => by cases e⟩
  go_enter Tryz.func30, Tryz.ntmps30
  go_wp2_with fail
  obtain ⟨W0, hW0⟩ : ∃ W, (w.alloc (.cells #[.int .i64 f, .int .i64 b, .slice A' k c] 26)).alloc (.cells #[.slice none 0 0, .slice none 0 0, .slice none 0 0, .slice none 0 0] 29) = W := ⟨_, rfl⟩
  rw [hW0] at hD0 ⊢
  clear hW0 h hT
  have X0 : Hid (PX w R n cap A #[.int .i64 f, .int .i64 b, .slice A' k c] A' k len g none W0.drew) := ⟨hD0.1.drew, fun q e => by cases e⟩
  clear hD0
  have S0 := hid (PX.cells X0.out)
  have X0a : Hid (PX w R n cap A #[.int .i64 f, .int .i64 b, .slice A' k c] A' k len g (some W0.heap.size) (W0.alloc (.cells #[.slice none 0 0, .slice none 0 0, .slice none 0 0, .slice none 0 0] 29)).drew) := X0.out.alloc
  have S0a := hid (PX.cells X0a.out)
  go_region_held3 (fun w' => w'.cell? ⟨w.heap.size, 0, none⟩ = some (.int .i64 f) ∧ w'.cell? ⟨w.heap.size, 1, none⟩ = some (.int .i64 b) ∧ w'.cell? ⟨w.heap.size, 2, none⟩ = some (.slice A' k c))
    ((refine Hid.out ?_; with_reducible assumption))
    (first
      | (go_at_call 27; (first | with_reducible refine Calls.mono (px_below 3 X0.out hRw (of_decide_eq_true rfl) (of_decide_eq_true rfl)) ?_ | with_reducible refine Calls.mono (px_below 3 X0a.out hRw (of_decide_eq_true rfl) (of_decide_eq_true rfl)) ?_); rintro e w7 ⟨y1, rfl, hwy, x7⟩; have S7 := hid (PX.cells x7); (try have S7a := hid (PX.cells x7.alloc)); have X7 := hid x7; clear x7)
      | (go_at_call 27; (first | with_reducible refine Calls.mono (px_below 4 X7.out hRw (of_decide_eq_true rfl) (of_decide_eq_true rfl)) ?_ | with_reducible refine Calls.mono (px_below 4 X7.out.alloc hRw (of_decide_eq_true rfl) (of_decide_eq_true rfl)) ?_); rintro e w8 ⟨y2, rfl, hwz, x8⟩; have S8 := hid (PX.cells x8); (try have S8a := hid (PX.cells x8.alloc)); have X8 := hid x8; clear x8)
      | (go_at_call 21; (first | with_reducible refine Calls.mono (px_plan f b (1 + y1) (1 + y2) c X8.out hk hlen) ?_ | with_reducible refine Calls.mono (px_plan f b (1 + y1) (1 + y2) c X8.out.alloc hk hlen) ?_); rintro e w9 ⟨Y, A1, N1, c1, A2, N2, c2, A3, N3, c3, A4, N4, c4, rfl, z9⟩; (try (obtain ⟨⟨v0, v1, v2, v3⟩, p0, p1, p2, p3⟩ := blk_cells4 (z9.px.2 _ rfl).2; (first | (obtain ⟨q9, hq9⟩ : ∃ q, w8.heap.size = q := ⟨_, rfl⟩; rw [hq9] at v0 v1 v2 v3 p0 p1 p2 p3 z9 ⊢; clear hq9) | (obtain ⟨q9, hq9⟩ : ∃ q, w7.heap.size = q := ⟨_, rfl⟩; rw [hq9] at v0 v1 v2 v3 p0 p1 p2 p3 z9 ⊢; clear hq9) | (obtain ⟨q9, hq9⟩ : ∃ q, W0.heap.size = q := ⟨_, rfl⟩; rw [hq9] at v0 v1 v2 v3 p0 p1 p2 p3 z9 ⊢; clear hq9)))); have S9 := hid (PX.cells z9.px); have S9a := hid (PX.cellsA z9.px (.cells #[.slice none 0 0, .slice none 0 0, .slice none 0 0, .slice none 0 0] 29)); have S9b := hid (PX.cellsA z9.px (.cells #[.slice A1 N1 c1, .slice A2 N2 c2, .slice A3 N3 c3, .slice A4 N4 c4] 29)); (try have S9q := hid (PX.cellsQ z9.px (.slice A1 N1 c1) (.slice A2 N2 c2) (.slice A3 N3 c3) (.slice A4 N4 c4))); have Z9 := hid z9; clear z9))
  all_goals clear S0 S0a S7 S8 S9 S9a S9b X0 X0a X7 X8
  all_goals (try clear S7a)
  all_goals (try clear S8a)
  all_goals first
    | (obtain ⟨hD, hP, B, hB, ho⟩ := pz_new Z9.out; obtain ⟨X, hX⟩ : ∃ X, w9.alloc (.cells #[.slice A1 N1 c1, .slice A2 N2 c2, .slice A3 N3 c3, .slice A4 N4 c4] 29) = X := ⟨_, rfl⟩; rw [hX] at hD hP ho ⊢; obtain ⟨P, hPe⟩ : ∃ P, w9.heap.size = P := ⟨_, rfl⟩; rw [hPe] at hP ⊢; clear hX hPe Z9)
    | (obtain ⟨hD, hP, B, hB, ho⟩ := pz_old Z9.out hRw; obtain ⟨X, hX⟩ : ∃ X, ((((w9.setCell ⟨q9, 0, none⟩ (.slice A1 N1 c1)).setCell ⟨q9, 1, none⟩ (.slice A2 N2 c2)).setCell ⟨q9, 2, none⟩ (.slice A3 N3 c3)).setCell ⟨q9, 3, none⟩ (.slice A4 N4 c4)) = X := ⟨_, rfl⟩; rw [hX] at hD hP ho ⊢; clear hX Z9 S9q v0 v1 v2 v3 p0 p1 p2 p3)
  all_goals
    obtain ⟨⟨t0, t1, t2, t3⟩, q0, q1, q2, q3⟩ := blk_cells4 hP
    obtain ⟨⟨r0, r1, r2, r3⟩, s0, s1, s2, s3⟩ := blk_cells4 hD.zero
    have HF := hid (plan_end hD hB ho hRw)
    clear hD hP ho
    go_wp2_with fail
    (try simp only [Exit.inBlock, Exit.then])
    refine bodyPost_ret (results_cell_row rfl _ _ (w.heap.size + 1) 29 #[.slice A1 N1 c1, .slice A2 N2 c2, .slice A3 N3 c3, .slice A4 N4 c4] (0, 0) _ rfl HF.out.1 Tryz.underlying29 rfl size_plan) rfl ?_
    exact ⟨A1, N1, c1, A2, N2, c2, A3, N3, c3, A4, N4, c4, rfl, HF.out.2.1, HF.out.2.2.1, HF.out.2.2.2⟩
end Go.Proofs.YtlgomifpohdniaaGreat
