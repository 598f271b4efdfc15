/- Plans measured, copied and compared by the exact laws. -/
import Derived.Test.YtmpgefpaoogoiaaPlB
namespace Go.Proofs.Ytmpgefpaoogoiaa
open Go.RowKit Go.Deep
set_option linter.unusedVariables false
set_option linter.unusedSimpArgs false

set_option maxHeartbeats 1000000 in
theorem szI_any (A : Option Addr) (n c : Nat) (l : Int) (w : World) (hn : n ≤ 9223372036854775807) (h0 : 0 ≤ l) (h1 : l ≤ 1048576) :
    Calls Try.prog 65 #[.slice A n c, .int .i64 l] w fun e w' =>
      ∃ y : Int, e = .returned (.int .i64 y) ∧ (y < 0 ∨ (0 ≤ y ∧ y ≤ l ∧ n ≤ 1048576)) ∧ w = w' := by
  have HN := hid hn
  by_cases hlt : l - (n : Int) < 0
  · go_enter Try.func65, Try.ntmps65
    go_wp2_with fail
    go_ret
    exact ⟨_, rfl, .inl (by omega), rfl⟩
  · go_enter Try.func65, Try.ntmps65
    go_wp2_with fail
    go_ret
    exact ⟨_, rfl, .inr ⟨by omega, by omega, by omega⟩, rfl⟩

set_option maxRecDepth 100000 in
set_option maxHeartbeats 2000000 in
theorem szP_any (A1 : Option Addr) (n1 c1 : Nat) (A2 : Option Addr) (n2 c2 : Nat) (A3 : Option Addr) (n3 c3 : Nat) (A4 : Option Addr) (n4 c4 : Nat) (l : Int) (w : World) (k1 : n1 ≤ 9223372036854775807) (k2 : n2 ≤ 9223372036854775807) (k3 : n3 ≤ 9223372036854775807) (k4 : n4 ≤ 9223372036854775807) (h0 : 0 ≤ l) (h1 : l ≤ 1048576) :
    Calls Try.prog 17 #[plV A1 n1 c1 A2 n2 c2 A3 n3 c3 A4 n4 c4, .int .i64 l] w fun e w' =>
      ∃ y : Int, e = .returned (.int .i64 y) ∧ (y < 0 ∨ (0 ≤ y ∧ n1 ≤ 1048576 ∧ n2 ≤ 1048576 ∧ n3 ≤ 1048576 ∧ n4 ≤ 1048576)) ∧ Below w.heap.size w w' := by
  have hb := (Below.refl w.heap.size w).alloc (Nat.le_refl _) (.cells #[.slice A1 n1 c1, .slice A2 n2 c2, .slice A3 n3 c3, .slice A4 n4 c4] 27)
  have hB := hid hb
  clear hb
  go_enter Try.func17, Try.ntmps17
  go_wp2_with fail
  refine (szI_any A1 n1 c1 l _ k1 (by omega) (by omega)).mono ?_
  rintro e v1 ⟨y1, rfl, hy1, rfl⟩
  by_cases hl1 : y1 < 0
  · clear hy1
    go_wp2_with fail
    go_ret
    exact ⟨_, rfl, .inl (by omega), hB.out⟩
  · have hz1 : 0 ≤ y1 ∧ y1 ≤ l ∧ n1 ≤ 1048576 := by rcases hy1 with h | h <;> omega
    clear hy1
    obtain ⟨ha1, hb1, hc1⟩ := hz1
    go_wp2_with fail
    refine (szI_any A2 n2 c2 y1 _ k2 (by omega) (by omega)).mono ?_
    rintro e v2 ⟨y2, rfl, hy2, rfl⟩
    by_cases hl2 : y2 < 0
    · clear hy2
      go_wp2_with fail
      go_ret
      exact ⟨_, rfl, .inl (by omega), hB.out⟩
    · have hz2 : 0 ≤ y2 ∧ y2 ≤ y1 ∧ n2 ≤ 1048576 := by rcases hy2 with h | h <;> omega
      clear hy2
      obtain ⟨ha2, hb2, hc2⟩ := hz2
      go_wp2_with fail
      refine (szI_any A3 n3 c3 y2 _ k3 (by omega) (by omega)).mono ?_
      rintro e v3 ⟨y3, rfl, hy3, rfl⟩
      by_cases hl3 : y3 < 0
      · clear hy3
        go_wp2_with fail
        go_ret
        exact ⟨_, rfl, .inl (by omega), hB.out⟩
      · have hz3 : 0 ≤ y3 ∧ y3 ≤ y2 ∧ n3 ≤ 1048576 := by rcases hy3 with h | h <;> omega
        clear hy3
        obtain ⟨ha3, hb3, hc3⟩ := hz3
        go_wp2_with fail
        refine (szI_any A4 n4 c4 y3 _ k4 (by omega) (by omega)).mono ?_
        rintro e v4 ⟨y4, rfl, hy4, rfl⟩
        by_cases hl4 : y4 < 0
        · clear hy4
          go_wp2_with fail
          go_ret
          exact ⟨_, rfl, .inl (by omega), hB.out⟩
        · have hz4 : 0 ≤ y4 ∧ y4 ≤ y3 ∧ n4 ≤ 1048576 := by rcases hy4 with h | h <;> omega
          clear hy4
          obtain ⟨ha4, hb4, hc4⟩ := hz4
          go_wp2_with fail
          go_ret
          exact ⟨y4, rfl, .inr ⟨by omega, by omega, by omega, by omega, by omega⟩, hB.out⟩

set_option maxRecDepth 100000 in
set_option maxHeartbeats 2000000 in
theorem eqP_any (A1 : Option Addr) (n1 c1 : Nat) (z1 : Nat → Int) (A2 : Option Addr) (n2 c2 : Nat) (z2 : Nat → Int) (A3 : Option Addr) (n3 c3 : Nat) (z3 : Nat → Int) (A4 : Option Addr) (n4 c4 : Nat) (z4 : Nat → Int) (A1' : Option Addr) (c1' : Nat) (A2' : Option Addr) (c2' : Nat) (A3' : Option Addr) (c3' : Nat) (A4' : Option Addr) (c4' : Nat) (w : World) (h : RdP w w.heap.size A1 n1 z1 A2 n2 z2 A3 n3 z3 A4 n4 z4) (h' : RdP w w.heap.size A1' n1 z1 A2' n2 z2 A3' n3 z3 A4' n4 z4) (k1 : n1 ≤ 4194304) (k2 : n2 ≤ 4194304) (k3 : n3 ≤ 4194304) (k4 : n4 ≤ 4194304) :
    Calls Try.prog 23 #[plV A1 n1 c1 A2 n2 c2 A3 n3 c3 A4 n4 c4, plV A1' n1 c1' A2' n2 c2' A3' n3 c3' A4' n4 c4'] w fun e w' => e = .returned (.bool true) ∧ Below w.heap.size w w' := by
  have hX := (Blk.new w 35 #[.slice A1 n1 c1, .slice A2 n2 c2, .slice A3 n3 c3, .slice A4 n4 c4]).alloc (.cells #[.slice A1' n1 c1', .slice A2' n2 c2', .slice A3' n3 c3', .slice A4' n4 c4'] 35)
  have hY := Blk.new2 w (.cells #[.slice A1 n1 c1, .slice A2 n2 c2, .slice A3 n3 c3, .slice A4 n4 c4] 35) 35 #[.slice A1' n1 c1', .slice A2' n2 c2', .slice A3' n3 c3', .slice A4' n4 c4']
  have hb := ((Below.refl w.heap.size w).alloc (Nat.le_refl _) (.cells #[.slice A1 n1 c1, .slice A2 n2 c2, .slice A3 n3 c3, .slice A4 n4 c4] 35)).alloc (by simp) (.cells #[.slice A1' n1 c1', .slice A2' n2 c2', .slice A3' n3 c3', .slice A4' n4 c4'] 35)
  go_enter Try.func23, Try.ntmps23
  go_wp2_with fail
  obtain ⟨W0, hW0⟩ : ∃ W, (w.alloc (.cells #[.slice A1 n1 c1, .slice A2 n2 c2, .slice A3 n3 c3, .slice A4 n4 c4] 35)).alloc (.cells #[.slice A1' n1 c1', .slice A2' n2 c2', .slice A3' n3 c3', .slice A4' n4 c4'] 35) = W := ⟨_, rfl⟩
  rw [hW0] at hX hY hb ⊢
  clear hW0
  have HX := hid hX
  have HY := hid hY
  have HB := hid hb
  clear hX hY hb
  obtain ⟨⟨x0, x1, x2, x3⟩, _⟩ := blk_cells4 HX.out
  obtain ⟨⟨y0, y1, y2, y3⟩, _⟩ := blk_cells4 HY.out
  refine (eqI_any A1 A1' n1 c1 c1' z1 z1 (W0) ((h.o.below HB.out).more (by show w.heap.size ≤ W0.heap.size; exact HB.out.size)) ((h'.o.below HB.out).more (by show w.heap.size ≤ W0.heap.size; exact HB.out.size)) (fun _ _ => rfl) k1).mono ?_
  rintro e v1 ⟨rfl, q1, rfl⟩
  clear x0 y0
  have x1 : (W0.drewN q1).cell? ⟨w.heap.size, 1, none⟩ = some (.slice A2 n2 c2) := HX.out.cell 1
  have y1 : (W0.drewN q1).cell? ⟨w.heap.size + 1, 1, none⟩ = some (.slice A2' n2 c2') := HY.out.cell 1
  have x2 : (W0.drewN q1).cell? ⟨w.heap.size, 2, none⟩ = some (.slice A3 n3 c3) := HX.out.cell 2
  have y2 : (W0.drewN q1).cell? ⟨w.heap.size + 1, 2, none⟩ = some (.slice A3' n3 c3') := HY.out.cell 2
  have x3 : (W0.drewN q1).cell? ⟨w.heap.size, 3, none⟩ = some (.slice A4 n4 c4) := HX.out.cell 3
  have y3 : (W0.drewN q1).cell? ⟨w.heap.size + 1, 3, none⟩ = some (.slice A4' n4 c4') := HY.out.cell 3
  go_wp2_with fail
  refine (eqI_any A2 A2' n2 c2 c2' z2 z2 (W0.drewN q1) ((h.e.below (below_drewN HB.out q1)).more (by show w.heap.size ≤ W0.heap.size; exact HB.out.size)) ((h'.e.below (below_drewN HB.out q1)).more (by show w.heap.size ≤ W0.heap.size; exact HB.out.size)) (fun _ _ => rfl) k2).mono ?_
  rintro e v2 ⟨rfl, p2, hv2⟩
  rw [World.drewN_drewN] at hv2
  obtain ⟨q2, hq2⟩ : ∃ q, q1 + p2 = q := ⟨_, rfl⟩
  rw [hq2] at hv2
  subst hv2
  clear hq2
  clear x1 y1
  have x2 : (W0.drewN q2).cell? ⟨w.heap.size, 2, none⟩ = some (.slice A3 n3 c3) := HX.out.cell 2
  have y2 : (W0.drewN q2).cell? ⟨w.heap.size + 1, 2, none⟩ = some (.slice A3' n3 c3') := HY.out.cell 2
  have x3 : (W0.drewN q2).cell? ⟨w.heap.size, 3, none⟩ = some (.slice A4 n4 c4) := HX.out.cell 3
  have y3 : (W0.drewN q2).cell? ⟨w.heap.size + 1, 3, none⟩ = some (.slice A4' n4 c4') := HY.out.cell 3
  go_wp2_with fail
  refine (eqI_any A3 A3' n3 c3 c3' z3 z3 (W0.drewN q2) ((h.m.below (below_drewN HB.out q2)).more (by show w.heap.size ≤ W0.heap.size; exact HB.out.size)) ((h'.m.below (below_drewN HB.out q2)).more (by show w.heap.size ≤ W0.heap.size; exact HB.out.size)) (fun _ _ => rfl) k3).mono ?_
  rintro e v3 ⟨rfl, p3, hv3⟩
  rw [World.drewN_drewN] at hv3
  obtain ⟨q3, hq3⟩ : ∃ q, q2 + p3 = q := ⟨_, rfl⟩
  rw [hq3] at hv3
  subst hv3
  clear hq3
  clear x2 y2
  have x3 : (W0.drewN q3).cell? ⟨w.heap.size, 3, none⟩ = some (.slice A4 n4 c4) := HX.out.cell 3
  have y3 : (W0.drewN q3).cell? ⟨w.heap.size + 1, 3, none⟩ = some (.slice A4' n4 c4') := HY.out.cell 3
  go_wp2_with fail
  refine (eqI_any A4 A4' n4 c4 c4' z4 z4 (W0.drewN q3) ((h.x.below (below_drewN HB.out q3)).more (by show w.heap.size ≤ W0.heap.size; exact HB.out.size)) ((h'.x.below (below_drewN HB.out q3)).more (by show w.heap.size ≤ W0.heap.size; exact HB.out.size)) (fun _ _ => rfl) k4).mono ?_
  rintro e v4 ⟨rfl, p4, hv4⟩
  rw [World.drewN_drewN] at hv4
  obtain ⟨q4, hq4⟩ : ∃ q, q3 + p4 = q := ⟨_, rfl⟩
  rw [hq4] at hv4
  subst hv4
  clear hq4
  clear x3 y3
  go_wp2_with fail
  go_ret
  exact ⟨rfl, below_drewN HB.out q4⟩

theorem setC4 {w : World} {b : Nat} {t : TypeId} {x y z u : Value} (h : Blk w b t #[x, y, z, u]) (v : Value) : Blk (w.setCell ⟨b, 0, none⟩ v) b t #[v, y, z, u] ∧ Blk (w.setCell ⟨b, 1, none⟩ v) b t #[x, v, z, u] ∧ Blk (w.setCell ⟨b, 2, none⟩ v) b t #[x, y, v, u] ∧ Blk (w.setCell ⟨b, 3, none⟩ v) b t #[x, y, z, v] :=
  ⟨h.set_ 0 v, h.set_ 1 v, h.set_ 2 v, h.set_ 3 v⟩
/-- A plan being copied. -/
def Copying (w : World) (pc : Array Value) (xs : Array Value) (W : World) : Prop :=
  Blk W w.heap.size 27 pc ∧ Blk W (w.heap.size + 1) 35 #[.slice none 0 0, .slice none 0 0, .slice none 0 0, .slice none 0 0] ∧ Blk W (w.heap.size + 2) 35 xs ∧ Below w.heap.size w W
theorem Copying.below {w W W' : World} {pc xs : Array Value} (h : Copying w pc xs W) (hb : Below W.heap.size W W') : Copying w pc xs W' := by
  obtain ⟨h1, h2, h3, h4⟩ := h
  exact ⟨h1.below hb h1.lt, h2.below hb h2.lt, h3.below hb h3.lt, h4.trans (hb.mono h4.size)⟩
theorem Copying.set {w W : World} {pc xs ys : Array Value} (h : Copying w pc xs W) (i : Nat) (v : Value) (hy : Blk (W.setCell ⟨w.heap.size + 2, i, none⟩ v) (w.heap.size + 2) 35 ys) : Copying w pc ys (W.setCell ⟨w.heap.size + 2, i, none⟩ v) := by
  obtain ⟨h1, h2, h3, h4⟩ := h
  exact ⟨h1.far (p := ⟨w.heap.size + 2, i, none⟩) (by show w.heap.size ≠ w.heap.size + 2; omega) v, h2.far (p := ⟨w.heap.size + 2, i, none⟩) (by show w.heap.size + 1 ≠ w.heap.size + 2; omega) v, hy, h4.setCell (p := ⟨w.heap.size + 2, i, none⟩) (by show w.heap.size ≤ w.heap.size + 2; omega) v⟩
theorem size_planI : (Try.prog.info? 35).map (·.size) = some 4 := by kernel_rfl

set_option maxRecDepth 100000 in
set_option maxHeartbeats 4000000 in
theorem toP_any (A1 : Option Addr) (n1 c1 : Nat) (z1 : Nat → Int) (A2 : Option Addr) (n2 c2 : Nat) (z2 : Nat → Int) (A3 : Option Addr) (n3 c3 : Nat) (z3 : Nat → Int) (A4 : Option Addr) (n4 c4 : Nat) (z4 : Nat → Int) (w : World) (h : RdP w w.heap.size A1 n1 z1 A2 n2 z2 A3 n3 z3 A4 n4 z4) (k1 : n1 ≤ 4194304) (k2 : n2 ≤ 4194304) (k3 : n3 ≤ 4194304) (k4 : n4 ≤ 4194304) :
    Calls Try.prog 20 #[plV A1 n1 c1 A2 n2 c2 A3 n3 c3 A4 n4 c4] w fun e w' =>
      ∃ a1 a2 a3 a4, e = .returned (plV (some ⟨a1, 0, none⟩) n1 n1 (some ⟨a2, 0, none⟩) n2 n2 (some ⟨a3, 0, none⟩) n3 n3 (some ⟨a4, 0, none⟩) n4 n4) ∧ RdP w' w'.heap.size (some ⟨a1, 0, none⟩) n1 z1 (some ⟨a2, 0, none⟩) n2 z2 (some ⟨a3, 0, none⟩) n3 z3 (some ⟨a4, 0, none⟩) n4 z4 ∧ Below w.heap.size w w' := by
  have hC0 : Copying w #[.slice A1 n1 c1, .slice A2 n2 c2, .slice A3 n3 c3, .slice A4 n4 c4] #[.slice none 0 0, .slice none 0 0, .slice none 0 0, .slice none 0 0] (((w.alloc (.cells #[.slice A1 n1 c1, .slice A2 n2 c2, .slice A3 n3 c3, .slice A4 n4 c4] 27)).alloc (.cells #[.slice none 0 0, .slice none 0 0, .slice none 0 0, .slice none 0 0] 35)).alloc (.cells #[.slice none 0 0, .slice none 0 0, .slice none 0 0, .slice none 0 0] 35)) :=
    ⟨((Blk.new w _ _).alloc _).alloc _, (Blk.new2 w _ _ _).alloc _, Blk.new3 w _ _ _ _, (((Below.refl _ w).alloc (Nat.le_refl _) _).alloc (by simp) _).alloc (by simp; omega) _⟩
  go_enter Try.func20, Try.ntmps20
  go_wp2_with fail
  obtain ⟨W0, hW0⟩ : ∃ W, ((w.alloc (.cells #[.slice A1 n1 c1, .slice A2 n2 c2, .slice A3 n3 c3, .slice A4 n4 c4] 27)).alloc (.cells #[.slice none 0 0, .slice none 0 0, .slice none 0 0, .slice none 0 0] 35)).alloc (.cells #[.slice none 0 0, .slice none 0 0, .slice none 0 0, .slice none 0 0] 35) = W := ⟨_, rfl⟩
  rw [hW0] at hC0 ⊢
  clear hW0
  have HC0 := hid hC0
  clear hC0
  obtain ⟨⟨p0, p1, p2, p3⟩, _⟩ := blk_cells4 HC0.out.1
  refine (toI_any A1 n1 c1 z1 _ ((h.o.below HC0.out.2.2.2).more HC0.out.2.2.2.size) k1).mono ?_
  rintro e u1 ⟨a1, rfl, hge1, hrow1, hbl1⟩
  have hD1 := HC0.out.below hbl1
  have hl1 := hrow1.lt
  have hs1 := HC0.out.2.2.1.lt
  obtain ⟨⟨t0, t1, t2, t3⟩, f0, f1, f2, f3⟩ := blk_cells4 hD1.2.2.1
  have hne1 : a1 ≠ w.heap.size + 2 := by omega
  have hnf1 : a1 ≠ w.heap.size + 1 := by omega
  have HD1 := hid hD1
  have HR1 := hid hrow1
  clear p0 p1 p2 p3 hD1 hrow1 hbl1 hge1
  obtain ⟨⟨p0, p1, p2, p3⟩, _⟩ := blk_cells4 HD1.out.1
  have HC1 : Hid (Copying w #[.slice A1 n1 c1, .slice A2 n2 c2, .slice A3 n3 c3, .slice A4 n4 c4] #[.slice (some ⟨a1, 0, none⟩) n1 n1, .slice none 0 0, .slice none 0 0, .slice none 0 0] (u1.setCell ⟨w.heap.size + 2, 0, none⟩ (.slice (some ⟨a1, 0, none⟩) n1 n1))) := HD1.out.set 0 _ (setC4 HD1.out.2.2.1 _).1
  go_wp2_with fail
  have HS1 : Hid (∀ x, x ≠ w.heap.size + 2 → (u1.setCell ⟨w.heap.size + 2, 0, none⟩ (.slice (some ⟨a1, 0, none⟩) n1 n1)).heap[x]? = u1.heap[x]?) := fun x hx => Below.heap_setCell _ ⟨w.heap.size + 2, 0, none⟩ _ x hx
  obtain ⟨W1, hW1⟩ : ∃ W, u1.setCell ⟨w.heap.size + 2, 0, none⟩ (.slice (some ⟨a1, 0, none⟩) n1 n1) = W := ⟨_, rfl⟩
  have HR1 : Hid (Row W1 2 a1 n1 z1) := by rw [← hW1]; exact HR1.out.keep (HS1.out _ hne1)
  rw [hW1] at HC1 ⊢
  clear hW1 HS1 HD1 HC0 t0 t1 t2 t3 f0 f1 f2 f3 p0 p1 p2 p3
  obtain ⟨⟨p0, p1, p2, p3⟩, _⟩ := blk_cells4 HC1.out.1
  skip
  refine (toI_any A2 n2 c2 z2 _ ((h.e.below HC1.out.2.2.2).more HC1.out.2.2.2.size) k2).mono ?_
  rintro e u2 ⟨a2, rfl, hge2, hrow2, hbl2⟩
  have hD2 := HC1.out.below hbl2
  have hl2 := hrow2.lt
  have hs2 := HC1.out.2.2.1.lt
  have HR1 : Hid (Row u2 2 a1 n1 z1) := HR1.out.below hbl2 HR1.out.lt
  obtain ⟨⟨t0, t1, t2, t3⟩, f0, f1, f2, f3⟩ := blk_cells4 hD2.2.2.1
  have hne2 : a2 ≠ w.heap.size + 2 := by omega
  have hnf2 : a2 ≠ w.heap.size + 1 := by omega
  have HD2 := hid hD2
  have HR2 := hid hrow2
  clear p0 p1 p2 p3 hD2 hrow2 hbl2 hge2
  obtain ⟨⟨p0, p1, p2, p3⟩, _⟩ := blk_cells4 HD2.out.1
  have HC2 : Hid (Copying w #[.slice A1 n1 c1, .slice A2 n2 c2, .slice A3 n3 c3, .slice A4 n4 c4] #[.slice (some ⟨a1, 0, none⟩) n1 n1, .slice (some ⟨a2, 0, none⟩) n2 n2, .slice none 0 0, .slice none 0 0] (u2.setCell ⟨w.heap.size + 2, 1, none⟩ (.slice (some ⟨a2, 0, none⟩) n2 n2))) := HD2.out.set 1 _ (setC4 HD2.out.2.2.1 _).2.1
  go_wp2_with fail
  have HS2 : Hid (∀ x, x ≠ w.heap.size + 2 → (u2.setCell ⟨w.heap.size + 2, 1, none⟩ (.slice (some ⟨a2, 0, none⟩) n2 n2)).heap[x]? = u2.heap[x]?) := fun x hx => Below.heap_setCell _ ⟨w.heap.size + 2, 1, none⟩ _ x hx
  obtain ⟨W2, hW2⟩ : ∃ W, u2.setCell ⟨w.heap.size + 2, 1, none⟩ (.slice (some ⟨a2, 0, none⟩) n2 n2) = W := ⟨_, rfl⟩
  have HR1 : Hid (Row W2 2 a1 n1 z1) := by rw [← hW2]; exact HR1.out.keep (HS2.out _ hne1)
  have HR2 : Hid (Row W2 2 a2 n2 z2) := by rw [← hW2]; exact HR2.out.keep (HS2.out _ hne2)
  rw [hW2] at HC2 ⊢
  clear hW2 HS2 HD2 HC1 t0 t1 t2 t3 f0 f1 f2 f3 p0 p1 p2 p3
  obtain ⟨⟨p0, p1, p2, p3⟩, _⟩ := blk_cells4 HC2.out.1
  skip
  refine (toI_any A3 n3 c3 z3 _ ((h.m.below HC2.out.2.2.2).more HC2.out.2.2.2.size) k3).mono ?_
  rintro e u3 ⟨a3, rfl, hge3, hrow3, hbl3⟩
  have hD3 := HC2.out.below hbl3
  have hl3 := hrow3.lt
  have hs3 := HC2.out.2.2.1.lt
  have HR1 : Hid (Row u3 2 a1 n1 z1) := HR1.out.below hbl3 HR1.out.lt
  have HR2 : Hid (Row u3 2 a2 n2 z2) := HR2.out.below hbl3 HR2.out.lt
  obtain ⟨⟨t0, t1, t2, t3⟩, f0, f1, f2, f3⟩ := blk_cells4 hD3.2.2.1
  have hne3 : a3 ≠ w.heap.size + 2 := by omega
  have hnf3 : a3 ≠ w.heap.size + 1 := by omega
  have HD3 := hid hD3
  have HR3 := hid hrow3
  clear p0 p1 p2 p3 hD3 hrow3 hbl3 hge3
  obtain ⟨⟨p0, p1, p2, p3⟩, _⟩ := blk_cells4 HD3.out.1
  have HC3 : Hid (Copying w #[.slice A1 n1 c1, .slice A2 n2 c2, .slice A3 n3 c3, .slice A4 n4 c4] #[.slice (some ⟨a1, 0, none⟩) n1 n1, .slice (some ⟨a2, 0, none⟩) n2 n2, .slice (some ⟨a3, 0, none⟩) n3 n3, .slice none 0 0] (u3.setCell ⟨w.heap.size + 2, 2, none⟩ (.slice (some ⟨a3, 0, none⟩) n3 n3))) := HD3.out.set 2 _ (setC4 HD3.out.2.2.1 _).2.2.1
  go_wp2_with fail
  have HS3 : Hid (∀ x, x ≠ w.heap.size + 2 → (u3.setCell ⟨w.heap.size + 2, 2, none⟩ (.slice (some ⟨a3, 0, none⟩) n3 n3)).heap[x]? = u3.heap[x]?) := fun x hx => Below.heap_setCell _ ⟨w.heap.size + 2, 2, none⟩ _ x hx
  obtain ⟨W3, hW3⟩ : ∃ W, u3.setCell ⟨w.heap.size + 2, 2, none⟩ (.slice (some ⟨a3, 0, none⟩) n3 n3) = W := ⟨_, rfl⟩
  have HR1 : Hid (Row W3 2 a1 n1 z1) := by rw [← hW3]; exact HR1.out.keep (HS3.out _ hne1)
  have HR2 : Hid (Row W3 2 a2 n2 z2) := by rw [← hW3]; exact HR2.out.keep (HS3.out _ hne2)
  have HR3 : Hid (Row W3 2 a3 n3 z3) := by rw [← hW3]; exact HR3.out.keep (HS3.out _ hne3)
  rw [hW3] at HC3 ⊢
  clear hW3 HS3 HD3 HC2 t0 t1 t2 t3 f0 f1 f2 f3 p0 p1 p2 p3
  obtain ⟨⟨p0, p1, p2, p3⟩, _⟩ := blk_cells4 HC3.out.1
  skip
  refine (toI_any A4 n4 c4 z4 _ ((h.x.below HC3.out.2.2.2).more HC3.out.2.2.2.size) k4).mono ?_
  rintro e u4 ⟨a4, rfl, hge4, hrow4, hbl4⟩
  have hD4 := HC3.out.below hbl4
  have hl4 := hrow4.lt
  have hs4 := HC3.out.2.2.1.lt
  have HR1 : Hid (Row u4 2 a1 n1 z1) := HR1.out.below hbl4 HR1.out.lt
  have HR2 : Hid (Row u4 2 a2 n2 z2) := HR2.out.below hbl4 HR2.out.lt
  have HR3 : Hid (Row u4 2 a3 n3 z3) := HR3.out.below hbl4 HR3.out.lt
  obtain ⟨⟨t0, t1, t2, t3⟩, f0, f1, f2, f3⟩ := blk_cells4 hD4.2.2.1
  have hne4 : a4 ≠ w.heap.size + 2 := by omega
  have hnf4 : a4 ≠ w.heap.size + 1 := by omega
  have HD4 := hid hD4
  obtain ⟨⟨r0, r1, r2, r3⟩, g0, g1, g2, g3⟩ := blk_cells4 HD4.out.2.1
  have HR4 := hid hrow4
  clear p0 p1 p2 p3 hD4 hrow4 hbl4 hge4
  obtain ⟨⟨p0, p1, p2, p3⟩, _⟩ := blk_cells4 HD4.out.1
  have HC4 : Hid (Copying w #[.slice A1 n1 c1, .slice A2 n2 c2, .slice A3 n3 c3, .slice A4 n4 c4] #[.slice (some ⟨a1, 0, none⟩) n1 n1, .slice (some ⟨a2, 0, none⟩) n2 n2, .slice (some ⟨a3, 0, none⟩) n3 n3, .slice (some ⟨a4, 0, none⟩) n4 n4] (u4.setCell ⟨w.heap.size + 2, 3, none⟩ (.slice (some ⟨a4, 0, none⟩) n4 n4))) := HD4.out.set 3 _ (setC4 HD4.out.2.2.1 _).2.2.2
  go_wp2_with fail
  have HS4 : Hid (∀ x, x ≠ w.heap.size + 2 → (u4.setCell ⟨w.heap.size + 2, 3, none⟩ (.slice (some ⟨a4, 0, none⟩) n4 n4)).heap[x]? = u4.heap[x]?) := fun x hx => Below.heap_setCell _ ⟨w.heap.size + 2, 3, none⟩ _ x hx
  obtain ⟨W4, hW4⟩ : ∃ W, u4.setCell ⟨w.heap.size + 2, 3, none⟩ (.slice (some ⟨a4, 0, none⟩) n4 n4) = W := ⟨_, rfl⟩
  have HK4 : Hid (∀ x, x ≠ w.heap.size + 2 → W4.heap[x]? = u4.heap[x]?) := by rw [← hW4]; exact HS4.out
  try rw [hW4] at HC4
  try rw [hW4]
  refine bodyPost_ret (results_cell_row rfl _ _ (w.heap.size + 1) 35 #[.slice (some ⟨a1, 0, none⟩) n1 n1, .slice (some ⟨a2, 0, none⟩) n2 n2, .slice (some ⟨a3, 0, none⟩) n3 n3, .slice (some ⟨a4, 0, none⟩) n4 n4] (0, 0) _ rfl ((((HC4.out.2.1.set_ 0 (.slice (some ⟨a1, 0, none⟩) n1 n1)).set_ 1 (.slice (some ⟨a2, 0, none⟩) n2 n2)).set_ 2 (.slice (some ⟨a3, 0, none⟩) n3 n3)).set_ 3 (.slice (some ⟨a4, 0, none⟩) n4 n4)) Try.underlying35 rfl size_planI) rfl ?_
  have hk : ∀ x, x ≠ w.heap.size + 2 → x ≠ w.heap.size + 1 → ((((W4.setCell ⟨w.heap.size + 1, 0, none⟩ (.slice (some ⟨a1, 0, none⟩) n1 n1)).setCell ⟨w.heap.size + 1, 1, none⟩ (.slice (some ⟨a2, 0, none⟩) n2 n2)).setCell ⟨w.heap.size + 1, 2, none⟩ (.slice (some ⟨a3, 0, none⟩) n3 n3)).setCell ⟨w.heap.size + 1, 3, none⟩ (.slice (some ⟨a4, 0, none⟩) n4 n4)).heap[x]? = u4.heap[x]? := fun x h2 h1 => (Below.heap_setCell _ ⟨w.heap.size + 1, 3, none⟩ _ x h1).trans ((Below.heap_setCell _ ⟨w.heap.size + 1, 2, none⟩ _ x h1).trans ((Below.heap_setCell _ ⟨w.heap.size + 1, 1, none⟩ _ x h1).trans ((Below.heap_setCell _ ⟨w.heap.size + 1, 0, none⟩ _ x h1).trans (HK4.out x h2))))
  have hbf : Below w.heap.size w ((((W4.setCell ⟨w.heap.size + 1, 0, none⟩ (.slice (some ⟨a1, 0, none⟩) n1 n1)).setCell ⟨w.heap.size + 1, 1, none⟩ (.slice (some ⟨a2, 0, none⟩) n2 n2)).setCell ⟨w.heap.size + 1, 2, none⟩ (.slice (some ⟨a3, 0, none⟩) n3 n3)).setCell ⟨w.heap.size + 1, 3, none⟩ (.slice (some ⟨a4, 0, none⟩) n4 n4)) := (((HC4.out.2.2.2.setCell (p := ⟨w.heap.size + 1, 0, none⟩) (by show w.heap.size ≤ w.heap.size + 1; omega) _).setCell (p := ⟨w.heap.size + 1, 1, none⟩) (by show w.heap.size ≤ w.heap.size + 1; omega) _).setCell (p := ⟨w.heap.size + 1, 2, none⟩) (by show w.heap.size ≤ w.heap.size + 1; omega) _).setCell (p := ⟨w.heap.size + 1, 3, none⟩) (by show w.heap.size ≤ w.heap.size + 1; omega) _
  have hrd : ∀ (a n : Nat) (z : Nat → Int), Row u4 2 a n z → a ≠ w.heap.size + 2 → a ≠ w.heap.size + 1 → Rd ((((W4.setCell ⟨w.heap.size + 1, 0, none⟩ (.slice (some ⟨a1, 0, none⟩) n1 n1)).setCell ⟨w.heap.size + 1, 1, none⟩ (.slice (some ⟨a2, 0, none⟩) n2 n2)).setCell ⟨w.heap.size + 1, 2, none⟩ (.slice (some ⟨a3, 0, none⟩) n3 n3)).setCell ⟨w.heap.size + 1, 3, none⟩ (.slice (some ⟨a4, 0, none⟩) n4 n4)) ((((W4.setCell ⟨w.heap.size + 1, 0, none⟩ (.slice (some ⟨a1, 0, none⟩) n1 n1)).setCell ⟨w.heap.size + 1, 1, none⟩ (.slice (some ⟨a2, 0, none⟩) n2 n2)).setCell ⟨w.heap.size + 1, 2, none⟩ (.slice (some ⟨a3, 0, none⟩) n3 n3)).setCell ⟨w.heap.size + 1, 3, none⟩ (.slice (some ⟨a4, 0, none⟩) n4 n4)).heap.size (some ⟨a, 0, none⟩) n z := fun a n z h h2 h1 => (h.keep (hk a h2 h1)).rd (h.keep (hk a h2 h1)).lt
  exact ⟨a1, a2, a3, a4, rfl, ⟨hrd _ _ _ HR1.out hne1 hnf1, hrd _ _ _ HR2.out hne2 hnf2, hrd _ _ _ HR3.out hne3 hnf3, hrd _ _ _ HR4.out hne4 hnf4⟩, hbf⟩
end Go.Proofs.Ytmpgefpaoogoiaa
