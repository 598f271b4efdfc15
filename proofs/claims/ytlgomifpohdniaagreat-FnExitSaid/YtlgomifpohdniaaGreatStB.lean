/- The staged evaluation of a right plan: what stagedOf hands back; the bounds in a state. -/
import Derived.Test.YtlgomifpohdniaaGreatStA
import Derived.Test.YtlgomifpohdniaaGreatPlK
import Derived.Test.YtlgomifpohdniaaGreatEnsX
import Derived.Deep.RegionHeld3
namespace Go.Proofs.YtlgomifpohdniaaGreat
open Go.RowKit Go.Deep
set_option linter.unusedVariables false
set_option linter.unusedSimpArgs false

abbrev sgC (f b : Int) (Ar : Option Addr) (nr cr : Nat) (Aw : Option Addr) (nw cw : Nat) (A1 : Option Addr) (n1 c1 : Nat) (A2 : Option Addr) (n2 c2 : Nat) (A3 : Option Addr) (n3 c3 : Nat) (A4 : Option Addr) (n4 c4 : Nat) : Array Value :=
  #[.int .i64 f, .int .i64 b, .slice Ar nr cr, .slice Aw nw cw, .slice A1 n1 c1, .slice A2 n2 c2, .slice A3 n3 c3, .slice A4 n4 c4]
theorem size_staged : (Tryz.prog.info? 68).map (·.size) = some 8 := by kernel_rfl
theorem blk_cells8 {w : World} {b : Nat} {t : TypeId} {x0 x1 x2 x3 x4 x5 x6 x7 : Value} (h : Blk w b t #[x0, x1, x2, x3, x4, x5, x6, x7]) :
    (w.cell? ⟨b, 0, none⟩ = some x0 ∧ w.cell? ⟨b, 1, none⟩ = some x1 ∧ w.cell? ⟨b, 2, none⟩ = some x2 ∧ w.cell? ⟨b, 3, none⟩ = some x3 ∧ w.cell? ⟨b, 4, none⟩ = some x4 ∧ w.cell? ⟨b, 5, none⟩ = some x5 ∧ w.cell? ⟨b, 6, none⟩ = some x6 ∧ w.cell? ⟨b, 7, none⟩ = some x7) ∧
    w.frozen? ⟨b, 0, none⟩ = false ∧ w.frozen? ⟨b, 1, none⟩ = false ∧ w.frozen? ⟨b, 2, none⟩ = false ∧ w.frozen? ⟨b, 3, none⟩ = false ∧ w.frozen? ⟨b, 4, none⟩ = false ∧ w.frozen? ⟨b, 5, none⟩ = false ∧ w.frozen? ⟨b, 6, none⟩ = false ∧ w.frozen? ⟨b, 7, none⟩ = false :=
  ⟨⟨h.cell 0, h.cell 1, h.cell 2, h.cell 3, h.cell 4, h.cell 5, h.cell 6, h.cell 7⟩, h.frozen 0, h.frozen 1, h.frozen 2, h.frozen 3, h.frozen 4, h.frozen 5, h.frozen 6, h.frozen 7⟩
theorem far8 {w : World} {p : Nat} (u0 u1 u2 u3 u4 u5 u6 u7 : Value) (x : Nat) (hx : x ≠ p) : ((((((((w.setCell ⟨p, 0, none⟩ u0).setCell ⟨p, 1, none⟩ u1).setCell ⟨p, 2, none⟩ u2).setCell ⟨p, 3, none⟩ u3).setCell ⟨p, 4, none⟩ u4).setCell ⟨p, 5, none⟩ u5).setCell ⟨p, 6, none⟩ u6).setCell ⟨p, 7, none⟩ u7).heap[x]? = w.heap[x]? := by
  have h : ∀ (W : World) (i : Nat) (u : Value), (W.setCell ⟨p, i, none⟩ u).heap[x]? = W.heap[x]? := fun W i u => Below.heap_setCell W ⟨p, i, none⟩ u x hx
  rw [h, h, h, h, h, h, h, h]
theorem below8 {w0 w : World} {B p : Nat} (h : Below B w0 w) (hp : B ≤ p) (u0 u1 u2 u3 u4 u5 u6 u7 : Value) : Below B w0 ((((((((w.setCell ⟨p, 0, none⟩ u0).setCell ⟨p, 1, none⟩ u1).setCell ⟨p, 2, none⟩ u2).setCell ⟨p, 3, none⟩ u3).setCell ⟨p, 4, none⟩ u4).setCell ⟨p, 5, none⟩ u5).setCell ⟨p, 6, none⟩ u6).setCell ⟨p, 7, none⟩ u7) := by
  have k : ∀ (W : World) (i : Nat) (u : Value), Below B w0 W → Below B w0 (W.setCell ⟨p, i, none⟩ u) := fun W i u q => q.setCell (p := ⟨p, i, none⟩) hp u
  exact k _ _ _ (k _ _ _ (k _ _ _ (k _ _ _ (k _ _ _ (k _ _ _ (k _ _ _ (k _ _ _ h)))))))
theorem put8 {w : World} {p : Nat} {t : TypeId} {x0 x1 x2 x3 x4 x5 x6 x7 : Value} (h : Blk w p t #[x0, x1, x2, x3, x4, x5, x6, x7]) (u0 u1 u2 u3 u4 u5 u6 u7 : Value) : Blk ((((((((w.setCell ⟨p, 0, none⟩ u0).setCell ⟨p, 1, none⟩ u1).setCell ⟨p, 2, none⟩ u2).setCell ⟨p, 3, none⟩ u3).setCell ⟨p, 4, none⟩ u4).setCell ⟨p, 5, none⟩ u5).setCell ⟨p, 6, none⟩ u6).setCell ⟨p, 7, none⟩ u7) p t #[u0, u1, u2, u3, u4, u5, u6, u7] := by
  have h0 : Blk (w.setCell ⟨p, 0, none⟩ u0) p t #[u0, x1, x2, x3, x4, x5, x6, x7] := h.set_ 0 u0
  have h1 : Blk ((w.setCell ⟨p, 0, none⟩ u0).setCell ⟨p, 1, none⟩ u1) p t #[u0, u1, x2, x3, x4, x5, x6, x7] := h0.set_ 1 u1
  have h2 : Blk (((w.setCell ⟨p, 0, none⟩ u0).setCell ⟨p, 1, none⟩ u1).setCell ⟨p, 2, none⟩ u2) p t #[u0, u1, u2, x3, x4, x5, x6, x7] := h1.set_ 2 u2
  have h3 : Blk ((((w.setCell ⟨p, 0, none⟩ u0).setCell ⟨p, 1, none⟩ u1).setCell ⟨p, 2, none⟩ u2).setCell ⟨p, 3, none⟩ u3) p t #[u0, u1, u2, u3, x4, x5, x6, x7] := h2.set_ 3 u3
  have h4 : Blk (((((w.setCell ⟨p, 0, none⟩ u0).setCell ⟨p, 1, none⟩ u1).setCell ⟨p, 2, none⟩ u2).setCell ⟨p, 3, none⟩ u3).setCell ⟨p, 4, none⟩ u4) p t #[u0, u1, u2, u3, u4, x5, x6, x7] := h3.set_ 4 u4
  have h5 : Blk ((((((w.setCell ⟨p, 0, none⟩ u0).setCell ⟨p, 1, none⟩ u1).setCell ⟨p, 2, none⟩ u2).setCell ⟨p, 3, none⟩ u3).setCell ⟨p, 4, none⟩ u4).setCell ⟨p, 5, none⟩ u5) p t #[u0, u1, u2, u3, u4, u5, x6, x7] := h4.set_ 5 u5
  have h6 : Blk (((((((w.setCell ⟨p, 0, none⟩ u0).setCell ⟨p, 1, none⟩ u1).setCell ⟨p, 2, none⟩ u2).setCell ⟨p, 3, none⟩ u3).setCell ⟨p, 4, none⟩ u4).setCell ⟨p, 5, none⟩ u5).setCell ⟨p, 6, none⟩ u6) p t #[u0, u1, u2, u3, u4, u5, u6, x7] := h5.set_ 6 u6
  have h7 : Blk ((((((((w.setCell ⟨p, 0, none⟩ u0).setCell ⟨p, 1, none⟩ u1).setCell ⟨p, 2, none⟩ u2).setCell ⟨p, 3, none⟩ u3).setCell ⟨p, 4, none⟩ u4).setCell ⟨p, 5, none⟩ u5).setCell ⟨p, 6, none⟩ u6).setCell ⟨p, 7, none⟩ u7) p t #[u0, u1, u2, u3, u4, u5, u6, u7] := h6.set_ 7 u7
  exact h7
/-- stagedOf's three blocks. -/
def SG (w0 : World) (ec pc sc : Array Value) (W : World) : Prop := Blk W w0.heap.size 26 ec ∧ Blk W (w0.heap.size + 1) 29 pc ∧ Blk W (w0.heap.size + 2) 68 sc ∧ Below w0.heap.size w0 W
theorem SG.below {w0 w w' : World} {ec pc sc : Array Value} (h : SG w0 ec pc sc w) (hb : Below w.heap.size w w') : SG w0 ec pc sc w' :=
  ⟨h.1.below hb h.1.lt, h.2.1.below hb h.2.1.lt, h.2.2.1.below hb h.2.2.1.lt, h.2.2.2.trans (hb.mono h.2.2.2.size)⟩
theorem SG.drew {w0 w : World} {ec pc sc : Array Value} (h : SG w0 ec pc sc w) : SG w0 ec pc sc w.drew := h.below (Below.refl _ w).drew
theorem SG.new (w : World) (ec pc sc : Array Value) : SG w ec pc sc (((w.alloc (.cells ec 26)).alloc (.cells pc 29)).alloc (.cells sc 68)) :=
  ⟨((Blk.new w _ _).alloc _).alloc _, (Blk.new2 w _ _ _).alloc _, Blk.new3 w _ _ _ _, (((Below.refl _ w).alloc (Nat.le_refl _) _).alloc (by simp) _).alloc (by simp; omega) _⟩
theorem SG.cells {w0 w : World} {f b : Int} {A : Option Addr} {n c : Nat} {A1 A2 A3 A4 : Option Addr} {n1 c1 n2 c2 n3 c3 n4 c4 : Nat} {sc : Array Value} (h : SG w0 #[.int .i64 f, .int .i64 b, .slice A n c] #[.slice A1 n1 c1, .slice A2 n2 c2, .slice A3 n3 c3, .slice A4 n4 c4] sc w) : w.cell? ⟨w0.heap.size, 0, none⟩ = some (.int .i64 f) ∧ w.cell? ⟨w0.heap.size, 1, none⟩ = some (.int .i64 b) ∧ w.cell? ⟨w0.heap.size, 2, none⟩ = some (.slice A n c) ∧ w.cell? ⟨w0.heap.size + 1, 0, none⟩ = some (.slice A1 n1 c1) ∧ w.cell? ⟨w0.heap.size + 1, 1, none⟩ = some (.slice A2 n2 c2) ∧ w.cell? ⟨w0.heap.size + 1, 2, none⟩ = some (.slice A3 n3 c3) ∧ w.cell? ⟨w0.heap.size + 1, 3, none⟩ = some (.slice A4 n4 c4) := ⟨h.1.cell 0, h.1.cell 1, h.1.cell 2, h.2.1.cell 0, h.2.1.cell 1, h.2.1.cell 2, h.2.1.cell 3⟩
theorem SG.put {w0 w : World} {ec pc : Array Value} {x0 x1 x2 x3 x4 x5 x6 x7 : Value} (h : SG w0 ec pc #[x0, x1, x2, x3, x4, x5, x6, x7] w) (u0 u1 u2 u3 u4 u5 u6 u7 : Value) : SG w0 ec pc #[u0, u1, u2, u3, u4, u5, u6, u7] ((((((((w.setCell ⟨w0.heap.size + 2, 0, none⟩ u0).setCell ⟨w0.heap.size + 2, 1, none⟩ u1).setCell ⟨w0.heap.size + 2, 2, none⟩ u2).setCell ⟨w0.heap.size + 2, 3, none⟩ u3).setCell ⟨w0.heap.size + 2, 4, none⟩ u4).setCell ⟨w0.heap.size + 2, 5, none⟩ u5).setCell ⟨w0.heap.size + 2, 6, none⟩ u6).setCell ⟨w0.heap.size + 2, 7, none⟩ u7) :=
  ⟨(far8 u0 u1 u2 u3 u4 u5 u6 u7 _ (by omega)).trans h.1, (far8 u0 u1 u2 u3 u4 u5 u6 u7 _ (by omega)).trans h.2.1, put8 h.2.2.1 u0 u1 u2 u3 u4 u5 u6 u7, below8 h.2.2.2 (by omega) u0 u1 u2 u3 u4 u5 u6 u7⟩

set_option maxRecDepth 100000 in
set_option maxHeartbeats 4000000 in
theorem staged_no (f b : Int) (A : Option Addr) (n c : Nat) (len : Nat → Nat) (g : Nat → Nat → Nd) (A1 : Option Addr) (n1 c1 : Nat) (z1 : Nat → Int) (A2 : Option Addr) (n2 c2 : Nat) (z2 : Nat → Int) (A3 : Option Addr) (n3 c3 : Nat) (z3 : Nat → Int) (A4 : Option Addr) (n4 c4 : Nat) (z4 : Nat → Int) (w : World)
    (hr : RdT w w.heap.size A n len g) (hp : RdP w w.heap.size A1 n1 z1 A2 n2 z2 A3 n3 z3 A4 n4 z4) (hn : n ≤ 4194304) (hlen : Hid (∀ i, i < n → len i ≤ 4194304)) (k1 : n1 ≤ 9223372036854775807) (k2 : n2 ≤ 9223372036854775807) (k3 : n3 ≤ 9223372036854775807) (k4 : n4 ≤ 9223372036854775807)
    (hno : planB f b n len g n1 z1 n2 z2 n3 z3 n4 z4 = false) :
    Calls Tryz.prog 34 #[enV f b A n c, plV A1 n1 c1 A2 n2 c2 A3 n3 c3 A4 n4 c4] w fun e w' => e = .returned (.tuple #[.agg #[.int .i64 0, .int .i64 0, .slice none 0 0, .slice none 0 0, .slice none 0 0, .slice none 0 0, .slice none 0 0, .slice none 0 0], .bool false]) ∧ Below w.heap.size w w' := by
  have HNO := hid hno
  clear hno
  have hG0 := SG.new w #[.int .i64 f, .int .i64 b, .slice A n c] #[.slice A1 n1 c1, .slice A2 n2 c2, .slice A3 n3 c3, .slice A4 n4 c4] #[.int .i64 0, .int .i64 0, .slice none 0 0, .slice none 0 0, .slice none 0 0, .slice none 0 0, .slice none 0 0, .slice none 0 0]
  go_enter Tryz.func34, Tryz.ntmps34
  go_wp2_with fail
  obtain ⟨W0, hW0⟩ : ∃ W, (((w.alloc (.cells #[.int .i64 f, .int .i64 b, .slice A n c] 26)).alloc (.cells #[.slice A1 n1 c1, .slice A2 n2 c2, .slice A3 n3 c3, .slice A4 n4 c4] 29)).alloc (.cells #[.int .i64 0, .int .i64 0, .slice none 0 0, .slice none 0 0, .slice none 0 0, .slice none 0 0, .slice none 0 0, .slice none 0 0] 68)) = W := ⟨_, rfl⟩
  rw [hW0] at hG0 ⊢
  clear hW0
  have hr0 := hr.to hG0.2.2.2 hG0.2.2.2.size
  have hp0 := hp.to hG0.2.2.2 hG0.2.2.2.size
  with_reducible refine Calls.mono (iPlanOk_any f b A n c len g A1 n1 c1 z1 A2 n2 c2 z2 A3 n3 c3 z3 A4 n4 c4 z4 W0 hr0 hp0 hn hlen k1 k2 k3 k4) ?_
  rintro e w1 ⟨rfl, hb1⟩
  rw [HNO.out]
  have G1 := hid (hG0.below hb1)
  clear hG0 hb1
  obtain ⟨⟨s0, s1, s2, s3, s4, s5, s6, s7⟩, r0, r1, r2, r3, r4, r5, r6, r7⟩ := blk_cells8 G1.out.2.2.1
  go_wp2_with fail
  have G2 := G1.out.put (.int .i64 0) (.int .i64 0) (.slice none 0 0) (.slice none 0 0) (.slice none 0 0) (.slice none 0 0) (.slice none 0 0) (.slice none 0 0)
  (try simp only [Exit.inBlock, Exit.then])
  refine bodyPost_ret (results_cell_row_tmp rfl _ _ (w.heap.size + 2) 68 #[.int .i64 0, .int .i64 0, .slice none 0 0, .slice none 0 0, .slice none 0 0, .slice none 0 0, .slice none 0 0, .slice none 0 0] (0, 0) _ rfl G2.2.2.1 Tryz.underlying68 rfl size_staged) rfl ?_
  exact ⟨rfl, G2.2.2.2⟩

/-- What stagedOf hands back of a right plan. -/
def StagedPost (w : World) (f b : Int) (n : Nat) (len : Nat → Nat) (g : Nat → Nat → Nd) (A1 : Option Addr) (n1 c1 : Nat) (A2 : Option Addr) (n2 c2 : Nat) (A3 : Option Addr) (n3 c3 : Nat) (A4 : Option Addr) (n4 c4 : Nat) (e : Ending) (w' : World) : Prop :=
  ∃ (Ar : Option Addr) (cr : Nat) (Aw : Option Addr) (cw : Nat), e = .returned (.tuple #[.agg (sgC f b Ar n cr Aw (cumT len n) cw A1 n1 c1 A2 n2 c2 A3 n3 c3 A4 n4 c4), .bool true]) ∧
    Rd w' w'.heap.size Ar n (rootZ len) ∧ RdW w' w'.heap.size Aw (cumT len n) (wordZ len g n) ∧ Below w.heap.size w w'

set_option maxRecDepth 100000 in
set_option maxHeartbeats 4000000 in
theorem staged_yes (f b : Int) (A : Option Addr) (n c : Nat) (len : Nat → Nat) (g : Nat → Nat → Nd) (A1 : Option Addr) (n1 c1 : Nat) (z1 : Nat → Int) (A2 : Option Addr) (n2 c2 : Nat) (z2 : Nat → Int) (A3 : Option Addr) (n3 c3 : Nat) (z3 : Nat → Int) (A4 : Option Addr) (n4 c4 : Nat) (z4 : Nat → Int) (w : World)
    (hr : RdT w w.heap.size A n len g) (hp : RdP w w.heap.size A1 n1 z1 A2 n2 z2 A3 n3 z3 A4 n4 z4) (hn : n ≤ 4194304) (hlen : Hid (∀ i, i < n → len i ≤ 4194304)) (k1 : n1 ≤ 9223372036854775807) (k2 : n2 ≤ 9223372036854775807) (k3 : n3 ≤ 9223372036854775807) (k4 : n4 ≤ 9223372036854775807)
    (hy : planB f b n len g n1 z1 n2 z2 n3 z3 n4 z4 = true) :
    Calls Tryz.prog 34 #[enV f b A n c, plV A1 n1 c1 A2 n2 c2 A3 n3 c3 A4 n4 c4] w (StagedPost w f b n len g A1 n1 c1 A2 n2 c2 A3 n3 c3 A4 n4 c4) := by
  have hE : ensB f b n len g = true := by unfold planB at hy; rw [Bool.and_eq_true] at hy; exact hy.1
  have HY := hid hy
  have HE := hid hE
  have hn12 := (ensB_iff.1 hE).2.2.1
  have HL := hid (ens_len hE)
  have HN : Hid (∀ i, i < n → ∀ j, j < len i → (-1000 ≤ (g i j).left ∧ (g i j).left ≤ 1000) ∧ -1000 ≤ (g i j).right ∧ (g i j).right ≤ 1000) := fun i hi j hj => by have := ens_nodes hE i hi j hj; omega
  clear hy hE
  have hG0 := SG.new w #[.int .i64 f, .int .i64 b, .slice A n c] #[.slice A1 n1 c1, .slice A2 n2 c2, .slice A3 n3 c3, .slice A4 n4 c4] #[.int .i64 0, .int .i64 0, .slice none 0 0, .slice none 0 0, .slice none 0 0, .slice none 0 0, .slice none 0 0, .slice none 0 0]
  go_enter Tryz.func34, Tryz.ntmps34
  go_wp2_with fail
  obtain ⟨W0, hW0⟩ : ∃ W, (((w.alloc (.cells #[.int .i64 f, .int .i64 b, .slice A n c] 26)).alloc (.cells #[.slice A1 n1 c1, .slice A2 n2 c2, .slice A3 n3 c3, .slice A4 n4 c4] 29)).alloc (.cells #[.int .i64 0, .int .i64 0, .slice none 0 0, .slice none 0 0, .slice none 0 0, .slice none 0 0, .slice none 0 0, .slice none 0 0] 68)) = W := ⟨_, rfl⟩
  rw [hW0] at hG0 ⊢
  clear hW0
  have hr0 := hr.to hG0.2.2.2 hG0.2.2.2.size
  have hp0 := hp.to hG0.2.2.2 hG0.2.2.2.size
  with_reducible refine Calls.mono (iPlanOk_any f b A n c len g A1 n1 c1 z1 A2 n2 c2 z2 A3 n3 c3 z3 A4 n4 c4 z4 W0 hr0 hp0 hn hlen k1 k2 k3 k4) ?_
  rintro e w1 ⟨rfl, hb1⟩
  rw [HY.out]
  have G1 := hid (hG0.below hb1).drew
  have S1 := hid G1.out.cells
  have hr1 : RdT w1.drew w1.drew.heap.size A n len g := hr.to G1.out.2.2.2 G1.out.2.2.2.size
  clear hG0 hb1
  go_wp2_with fail
  go_region_held3 (fun w' => w'.cell? ⟨w.heap.size, 0, none⟩ = some (.int .i64 f) ∧ w'.cell? ⟨w.heap.size, 1, none⟩ = some (.int .i64 b) ∧ w'.cell? ⟨w.heap.size, 2, none⟩ = some (.slice A n c) ∧ w'.cell? ⟨w.heap.size + 1, 0, none⟩ = some (.slice A1 n1 c1) ∧ w'.cell? ⟨w.heap.size + 1, 1, none⟩ = some (.slice A2 n2 c2) ∧ w'.cell? ⟨w.heap.size + 1, 2, none⟩ = some (.slice A3 n3 c3) ∧ w'.cell? ⟨w.heap.size + 1, 3, none⟩ = some (.slice A4 n4 c4))
    ((refine Hid.out ?_; with_reducible assumption))
    (first
      | (go_at_call 45; (with_reducible refine Calls.mono (pack_any f b A n c len g w1.drew hr1 hn12 HL HN) ?_); rintro e w2 ⟨Ar, cr, Aw, cw, rfl, _, oR, oW, hb2⟩; have g2 := G1.out.below hb2; have S2 := hid g2.cells; obtain ⟨⟨s0, s1, s2, s3, s4, s5, s6, s7⟩, r0, r1, r2, r3, r4, r5, r6, r7⟩ := blk_cells8 g2.2.2.1; have S3 := hid (g2.put (.int .i64 f) (.int .i64 b) (.slice Ar n cr) (.slice Aw (cumT len n) cw) (.slice A1 n1 c1) (.slice A2 n2 c2) (.slice A3 n3 c3) (.slice A4 n4 c4)).cells; have G2 := hid g2; have OR := hid oR; have OW := hid oW; clear g2 oR oW hb2))
  all_goals
    have G3 := hid (G2.out.put (.int .i64 f) (.int .i64 b) (.slice Ar n cr) (.slice Aw (cumT len n) cw) (.slice A1 n1 c1) (.slice A2 n2 c2) (.slice A3 n3 c3) (.slice A4 n4 c4))
    have hlw : w.heap.size + 2 < w1.drew.heap.size := G1.out.2.2.1.lt
    have hk : ∀ x, w1.drew.heap.size ≤ x → ((((((((w2.setCell ⟨w.heap.size + 2, 0, none⟩ (.int .i64 f)).setCell ⟨w.heap.size + 2, 1, none⟩ (.int .i64 b)).setCell ⟨w.heap.size + 2, 2, none⟩ (.slice Ar n cr)).setCell ⟨w.heap.size + 2, 3, none⟩ (.slice Aw (cumT len n) cw)).setCell ⟨w.heap.size + 2, 4, none⟩ (.slice A1 n1 c1)).setCell ⟨w.heap.size + 2, 5, none⟩ (.slice A2 n2 c2)).setCell ⟨w.heap.size + 2, 6, none⟩ (.slice A3 n3 c3)).setCell ⟨w.heap.size + 2, 7, none⟩ (.slice A4 n4 c4)).heap[x]? = w2.heap[x]? := fun x q => far8 (.int .i64 f) (.int .i64 b) (.slice Ar n cr) (.slice Aw (cumT len n) cw) (.slice A1 n1 c1) (.slice A2 n2 c2) (.slice A3 n3 c3) (.slice A4 n4 c4) x (by omega)
    have o1 := own_rdF (own_keepJ OR.out fun x q _ _ => hk x q)
    have o2 := own_rdWF (own_keepJ OW.out fun x q _ _ => hk x q)
    clear hk S1 S2 S3 OR OW G1 G2 s0 s1 s2 s3 s4 s5 s6 s7 r0 r1 r2 r3 r4 r5 r6 r7
    obtain ⟨X, hX⟩ : ∃ X, ((((((((w2.setCell ⟨w.heap.size + 2, 0, none⟩ (.int .i64 f)).setCell ⟨w.heap.size + 2, 1, none⟩ (.int .i64 b)).setCell ⟨w.heap.size + 2, 2, none⟩ (.slice Ar n cr)).setCell ⟨w.heap.size + 2, 3, none⟩ (.slice Aw (cumT len n) cw)).setCell ⟨w.heap.size + 2, 4, none⟩ (.slice A1 n1 c1)).setCell ⟨w.heap.size + 2, 5, none⟩ (.slice A2 n2 c2)).setCell ⟨w.heap.size + 2, 6, none⟩ (.slice A3 n3 c3)).setCell ⟨w.heap.size + 2, 7, none⟩ (.slice A4 n4 c4)) = X := ⟨_, rfl⟩
    rw [hX] at G3 o1 o2 ⊢
    clear hX
    go_wp2_with fail
    (try simp only [Exit.inBlock, Exit.then])
    refine bodyPost_ret (results_cell_row_tmp rfl _ _ (w.heap.size + 2) 68 (sgC f b Ar n cr Aw (cumT len n) cw A1 n1 c1 A2 n2 c2 A3 n3 c3 A4 n4 c4) (0, 0) _ rfl G3.out.2.2.1 Tryz.underlying68 rfl size_staged) rfl ?_
    exact ⟨Ar, cr, Aw, cw, rfl, o1, o2, G3.out.2.2.2⟩

/-- The state's value. -/
abbrev stV (a s c : Int) : Value := .agg #[.int .i64 a, .int .i64 s, .int .i64 c]

set_option maxRecDepth 100000 in
set_option maxHeartbeats 4000000 in
theorem sbounds_any (f b : Int) (Ar : Option Addr) (nr cr : Nat) (Aw : Option Addr) (nw cw : Nat) (A1 : Option Addr) (n1 c1 : Nat) (A2 : Option Addr) (n2 c2 : Nat) (A3 : Option Addr) (n3 c3 : Nat) (z3 : Nat → Int) (A4 : Option Addr) (n4 c4 : Nat) (z4 : Nat → Int) (at_ : Nat) (s q : Int) (w : World)
    (h3 : Rd w w.heap.size A3 n3 z3) (h4 : Rd w w.heap.size A4 n4 z4) (i3 : at_ < n3) (i4 : at_ < n4) (l3 : n3 ≤ 20) (l4 : n4 ≤ 20) (hb : -1000000000 ≤ b ∧ b ≤ 1000000000) (hs : -100000000000 ≤ s ∧ s ≤ 100000000000) (hz : (-100000000000 ≤ z3 at_ ∧ z3 at_ ≤ 100000000000) ∧ -100000000000 ≤ z4 at_ ∧ z4 at_ ≤ 100000000000) :
    Calls Tryz.prog 44 #[.agg (sgC f b Ar nr cr Aw nw cw A1 n1 c1 A2 n2 c2 A3 n3 c3 A4 n4 c4), stV at_ s q] w fun e w' => e = .returned (.tuple #[.int .i64 (b + s + z3 at_), .int .i64 (b + s + z4 at_)]) ∧ Below w.heap.size w w' := by
  obtain ⟨t3, o3, rfl, ht3, hc3⟩ := h3.at_ i3
  obtain ⟨t4, o4, rfl, ht4, hc4⟩ := h4.at_ i4
  obtain ⟨x3, hx3⟩ : ∃ x, z3 at_ = x := ⟨_, rfl⟩
  obtain ⟨x4, hx4⟩ : ∃ x, z4 at_ = x := ⟨_, rfl⟩
  rw [hx3] at hz hc3
  rw [hx4] at hz hc4
  rw [hx3, hx4]
  obtain ⟨⟨hz1, hz2⟩, hz3, hz4⟩ := hz
  obtain ⟨hb1, hb2⟩ := hb
  obtain ⟨hs1, hs2⟩ := hs
  have hbx := ((Below.refl w.heap.size w).alloc (Nat.le_refl _) (.cells (sgC f b Ar nr cr Aw nw cw A1 n1 c1 A2 n2 c2 (some ⟨t3, o3, none⟩) n3 c3 (some ⟨t4, o4, none⟩) n4 c4) 68)).alloc (by simp) (.cells #[.int .i64 (at_ : Nat), .int .i64 s, .int .i64 q] 33)
  have b1 : Blk ((w.alloc (.cells (sgC f b Ar nr cr Aw nw cw A1 n1 c1 A2 n2 c2 (some ⟨t3, o3, none⟩) n3 c3 (some ⟨t4, o4, none⟩) n4 c4) 68)).alloc (.cells #[.int .i64 (at_ : Nat), .int .i64 s, .int .i64 q] 33)) w.heap.size 68 _ := (Blk.new w _ _).alloc _
  have b2 : Blk ((w.alloc (.cells (sgC f b Ar nr cr Aw nw cw A1 n1 c1 A2 n2 c2 (some ⟨t3, o3, none⟩) n3 c3 (some ⟨t4, o4, none⟩) n4 c4) 68)).alloc (.cells #[.int .i64 (at_ : Nat), .int .i64 s, .int .i64 q] 33)) (w.heap.size + 1) 33 _ := Blk.new2 w _ _ _
  have e3 := (hbx.cell (p := ⟨t3, o3 + at_, none⟩) ht3).trans hc3
  have e4 := (hbx.cell (p := ⟨t4, o4 + at_, none⟩) ht4).trans hc4
  have w1 : IntKind.i64.wrap (b + s) = b + s := IntWalk.i64_in _ (by omega)
  have w2 : IntKind.i64.wrap (b + s + x3) = b + s + x3 := IntWalk.i64_in _ (by omega)
  have w3 : IntKind.i64.wrap (b + s + x4) = b + s + x4 := IntWalk.i64_in _ (by omega)
  have j3 : (at_ : Int) < (n3 : Int) := by omega
  have j4 : (at_ : Int) < (n4 : Int) := by omega
  have j0 : (0 : Int) ≤ (at_ : Int) := by omega
  have c0 := b1.cell 1
  have c1 := b1.cell 6
  have c2 := b1.cell 7
  have d0 := b2.cell 0
  have d1 := b2.cell 1
  have HB := hid hbx
  clear b1 b2 hbx hc3 hc4
  go_enter Tryz.func44, Tryz.ntmps44
  go_wp2_with fail
  go_quiet (fail)
  go_wp2_with fail
  go_ret2
  exact ⟨rfl, below_drewN HB.out _⟩
end Go.Proofs.YtlgomifpohdniaaGreat
