/- BoundsOf of the other side; states copied. -/
import Derived.Test.YtlgomifpohdniaaStC
namespace Go.Proofs.Ytlgomifpohdniaa
open Go.RowKit Go.Deep
set_option linter.unusedVariables false
set_option linter.unusedSimpArgs false

theorem size_state : (Try.prog.info? 31).map (·.size) = some 3 := by kernel_rfl
/-- The three boxes. -/
def B3 (w0 : World) (ec pc sc : Array Value) (t1 t2 t3 : TypeId) (w : World) : Prop := Blk w w0.heap.size t1 ec ∧ Blk w (w0.heap.size + 1) t2 pc ∧ Blk w (w0.heap.size + 2) t3 sc ∧ Below w0.heap.size w0 w
section
variable {w0 w w' : World} {ec pc sc : Array Value} {t1 t2 t3 : TypeId}
theorem B3.below (h : B3 w0 ec pc sc t1 t2 t3 w) (hb : Below w.heap.size w w') : B3 w0 ec pc sc t1 t2 t3 w' :=
  ⟨h.1.below hb h.1.lt, h.2.1.below hb h.2.1.lt, h.2.2.1.below hb h.2.2.1.lt, h.2.2.2.trans (hb.mono h.2.2.2.size)⟩
theorem B3.drew (h : B3 w0 ec pc sc t1 t2 t3 w) : B3 w0 ec pc sc t1 t2 t3 w.drew := h.below (Below.refl _ w).drew
theorem B3.alloc (h : B3 w0 ec pc sc t1 t2 t3 w) (o : Obj) : B3 w0 ec pc sc t1 t2 t3 (w.alloc o) := h.below ((Below.refl _ w).alloc (Nat.le_refl _) o)
theorem B3.new (w : World) (ec pc sc : Array Value) (t1 t2 t3 : TypeId) : B3 w ec pc sc t1 t2 t3 (((w.alloc (.cells ec t1)).alloc (.cells pc t2)).alloc (.cells sc t3)) :=
  ⟨((Blk.new w _ _).alloc _).alloc _, (Blk.new2 w _ _ _).alloc _, Blk.new3 w _ _ _ _, (((Below.refl _ w).alloc (Nat.le_refl _) _).alloc (by simp) _).alloc (by simp; omega) _⟩
theorem B3.bel (h : B3 w0 ec pc sc t1 t2 t3 w) : Below w0.heap.size w0 w := h.2.2.2
theorem B3.cells {x0 x1 x2 y0 y1 y2 y3 u0 u1 u2 : Value} (h : B3 w0 #[x0, x1, x2] #[y0, y1, y2, y3] #[u0, u1, u2] t1 t2 t3 w) :
    w.cell? ⟨w0.heap.size, 0, none⟩ = some x0 ∧ w.cell? ⟨w0.heap.size, 1, none⟩ = some x1 ∧ w.cell? ⟨w0.heap.size, 2, none⟩ = some x2 ∧ w.cell? ⟨w0.heap.size + 1, 0, none⟩ = some y0 ∧ w.cell? ⟨w0.heap.size + 1, 1, none⟩ = some y1 ∧ w.cell? ⟨w0.heap.size + 1, 2, none⟩ = some y2 ∧ w.cell? ⟨w0.heap.size + 1, 3, none⟩ = some y3 ∧
    w.cell? ⟨w0.heap.size + 2, 0, none⟩ = some u0 ∧ w.cell? ⟨w0.heap.size + 2, 1, none⟩ = some u1 ∧ w.cell? ⟨w0.heap.size + 2, 2, none⟩ = some u2 :=
  ⟨h.1.cell 0, h.1.cell 1, h.1.cell 2, h.2.1.cell 0, h.2.1.cell 1, h.2.1.cell 2, h.2.1.cell 3, h.2.2.1.cell 0, h.2.2.1.cell 1, h.2.2.1.cell 2⟩
end

set_option maxRecDepth 100000 in
set_option maxHeartbeats 4000000 in
theorem l7Bounds_any (f b : Int) (A : Option Addr) (n c : Nat) (A1 : Option Addr) (n1 c1 : Nat) (A2 : Option Addr) (n2 c2 : Nat) (A3 : Option Addr) (n3 c3 : Nat) (z3 : Nat → Int) (A4 : Option Addr) (n4 c4 : Nat) (z4 : Nat → Int) (at_ : Nat) (s q : Int) (w : World)
    (h3 : Rd w w.heap.size A3 n3 z3) (h4 : Rd w w.heap.size A4 n4 z4) (i3 : at_ < n3) (i4 : at_ < n4) (l3 : n3 ≤ 20) (l4 : n4 ≤ 20) (hb : -1000000000 ≤ b ∧ b ≤ 1000000000) (hs : -100000000000 ≤ s ∧ s ≤ 100000000000) (hz : (-100000000000 ≤ z3 at_ ∧ z3 at_ ≤ 100000000000) ∧ -100000000000 ≤ z4 at_ ∧ z4 at_ ≤ 100000000000) :
    Calls Try.prog 64 #[enV f b A n c, plV A1 n1 c1 A2 n2 c2 A3 n3 c3 A4 n4 c4, stV at_ s q] w fun e w' => e = .returned (.tuple #[.int .i64 (b + s + z3 at_), .int .i64 (b + s + z4 at_)]) ∧ Below w.heap.size w w' := by
  obtain ⟨t3, o3, rfl, ht3, hc3⟩ := h3.at_ i3
  obtain ⟨t4, o4, rfl, ht4, hc4⟩ := h4.at_ i4
  obtain ⟨x3, hx3⟩ : ∃ x, z3 at_ = x := ⟨_, rfl⟩
  obtain ⟨x4, hx4⟩ : ∃ x, z4 at_ = x := ⟨_, rfl⟩
  rw [hx3] at hz hc3
  rw [hx4] at hz hc4
  rw [hx3, hx4]
  obtain ⟨⟨hz1, hz2⟩, hz3, hz4⟩ := hz
  obtain ⟨hb1, hb2⟩ := hb
  obtain ⟨hs1, hs2⟩ := hs
  have hB := B3.new w #[.int .i64 f, .int .i64 b, .slice A n c] #[.slice A1 n1 c1, .slice A2 n2 c2, .slice (some ⟨t3, o3, none⟩) n3 c3, .slice (some ⟨t4, o4, none⟩) n4 c4] #[.int .i64 (at_ : Nat), .int .i64 s, .int .i64 q] 36 38 31
  have e3 := (hB.bel.cell (p := ⟨t3, o3 + at_, none⟩) ht3).trans hc3
  have e4 := (hB.bel.cell (p := ⟨t4, o4 + at_, none⟩) ht4).trans hc4
  have w1 : IntKind.i64.wrap (b + s) = b + s := IntWalk.i64_in _ (by omega)
  have w2 : IntKind.i64.wrap (b + s + x3) = b + s + x3 := IntWalk.i64_in _ (by omega)
  have w3 : IntKind.i64.wrap (b + s + x4) = b + s + x4 := IntWalk.i64_in _ (by omega)
  have j3 : (at_ : Int) < (n3 : Int) := by omega
  have j4 : (at_ : Int) < (n4 : Int) := by omega
  have j0 : (0 : Int) ≤ (at_ : Int) := by omega
  obtain ⟨_, c0, _, _, _, c1, c2, d0, d1, _⟩ := hB.cells
  have HB := hid hB.bel
  clear hB hc3 hc4
  go_enter Try.func64, Try.ntmps64
  go_wp2_with fail
  go_quiet (fail)
  go_wp2_with fail
  go_ret2
  exact ⟨rfl, below_drewN HB.out _⟩

set_option maxRecDepth 100000 in
set_option maxHeartbeats 4000000 in
theorem sBounds_any (a s q : Int) (f b : Int) (A : Option Addr) (n c : Nat) (len : Nat → Nat) (g : Nat → Nat → Nd) (A1 : Option Addr) (n1 c1 : Nat) (z1 : Nat → Int) (A2 : Option Addr) (n2 c2 : Nat) (z2 : Nat → Int) (A3 : Option Addr) (n3 c3 : Nat) (z3 : Nat → Int) (A4 : Option Addr) (n4 c4 : Nat) (z4 : Nat → Int) (w : World)
    (hr : RdT w w.heap.size A n len g) (hp : RdP w w.heap.size A1 n1 z1 A2 n2 z2 A3 n3 z3 A4 n4 z4) (hn : n ≤ 4194304) (hlen : Hid (∀ i, i < n → len i ≤ 4194304)) (k1 : n1 ≤ 9223372036854775807) (k2 : n2 ≤ 9223372036854775807) (k3 : n3 ≤ 9223372036854775807) (k4 : n4 ≤ 9223372036854775807) :
    Calls Try.prog 29 #[enV f b A n c, plV A1 n1 c1 A2 n2 c2 A3 n3 c3 A4 n4 c4, stV a s q] w fun e w' =>
      e = .returned (.tuple #[.int .i64 (bdN (planB f b n len g n1 z1 n2 z2 n3 z3 n4 z4) n a s b z3), .int .i64 (bdN (planB f b n len g n1 z1 n2 z2 n3 z3 n4 z4) n a s b z4)]) ∧ Below w.heap.size w w' := by
  have hB := B3.new w #[.int .i64 f, .int .i64 b, .slice A n c] #[.slice A1 n1 c1, .slice A2 n2 c2, .slice A3 n3 c3, .slice A4 n4 c4] #[.int .i64 a, .int .i64 s, .int .i64 q] 36 38 31
  obtain ⟨P, hPe⟩ : ∃ P, planB f b n len g n1 z1 n2 z2 n3 z3 n4 z4 = P := ⟨_, rfl⟩
  rw [hPe]
  obtain ⟨L, hL⟩ : ∃ L, bdN P n a s b z3 = L := ⟨_, rfl⟩
  obtain ⟨H, hH⟩ : ∃ H, bdN P n a s b z4 = H := ⟨_, rfl⟩
  rw [hL, hH]
  have HP := hid hPe
  have HL := hid hL
  have HH := hid hH
  clear hPe hL hH
  go_enter Try.func29, Try.ntmps29
  go_wp2_with fail
  obtain ⟨W0, hW0⟩ : ∃ W, ((w.alloc (.cells #[.int .i64 f, .int .i64 b, .slice A n c] 36)).alloc (.cells #[.slice A1 n1 c1, .slice A2 n2 c2, .slice A3 n3 c3, .slice A4 n4 c4] 38)).alloc (.cells #[.int .i64 a, .int .i64 s, .int .i64 q] 31) = W := ⟨_, rfl⟩
  rw [hW0] at hB ⊢
  clear hW0
  have hr0 := hr.to hB.bel hB.bel.size
  have hp0 := hp.to hB.bel hB.bel.size
  with_reducible refine Calls.mono (sPlanOk_any f b A n c len g A1 n1 c1 z1 A2 n2 c2 z2 A3 n3 c3 z3 A4 n4 c4 z4 W0 hr0 hp0 hn hlen k1 k2 k3 k4) ?_
  rintro e w1 ⟨rfl, hb1⟩
  rw [HP.out]
  have D1 := hid (hB.below hb1)
  clear hB hr0 hp0 hb1
  obtain ⟨x0, x1, x2, y0, y1, y2, y3, u0, u1, u2⟩ := D1.out.cells
  cases P with
  | false =>
    have e1 : bdB false n a s = false := rfl
    obtain rfl : L = 0 := by rw [← HL.out]; exact bdN_no e1
    obtain rfl : H = 0 := by rw [← HH.out]; exact bdN_no e1
    clear HL HH e1
    go_wp2_with fail
    go_ret2
    exact ⟨rfl, D1.out.bel⟩
  | true =>
    obtain ⟨hEn, g1, g3, g4, _, _, _, _, _, hbd⟩ := planB_says HP.out
    obtain ⟨_, hbias, hn12, _⟩ := ensB_iff.1 hEn
    have HBD := hid hbd
    have HG3 := hid g3
    have HG4 := hid g4
    clear hEn hbd g1 g3 g4
    go_wp2_with fail
    refine (In_any a 0 (n : Int) _).mono ?_
    rintro e w2 ⟨rfl, rfl⟩
    cases hin : (decide (0 ≤ a) && decide (a ≤ (n : Int))) with
    | false =>
      have e1 : bdB true n a s = false := by unfold bdB; rw [hin]; rfl
      obtain rfl : L = 0 := by rw [← HL.out]; exact bdN_no e1
      obtain rfl : H = 0 := by rw [← HH.out]; exact bdN_no e1
      clear HL HH e1 hin
      go_wp2_with fail
      go_ret2
      exact ⟨rfl, D1.out.bel⟩
    | true =>
      have HIN := hid hin
      clear hin
      go_wp2_with fail
      refine (In_any s (-100000000000) 100000000000 _).mono ?_
      rintro e w3 ⟨rfl, rfl⟩
      cases hsc : (decide (-100000000000 ≤ s) && decide (s ≤ 100000000000)) with
      | false =>
        have e1 : bdB true n a s = false := by unfold bdB scB; rw [HIN.out, hsc]; rfl
        obtain rfl : L = 0 := by rw [← HL.out]; exact bdN_no e1
        obtain rfl : H = 0 := by rw [← HH.out]; exact bdN_no e1
        clear HL HH e1 hsc
        go_wp2_with fail
        go_ret2
        exact ⟨rfl, D1.out.bel⟩
      | true =>
        have e1 : bdB true n a s = true := by unfold bdB scB; rw [HIN.out, hsc]; rfl
        have hin := HIN.out
        rw [Bool.and_eq_true, decide_eq_true_eq, decide_eq_true_eq] at hin
        obtain ⟨x, rfl⟩ : ∃ x : Nat, a = (x : Int) := ⟨a.toNat, by omega⟩
        have hx : x ≤ n := by omega
        have e3 : bdN true n (x : Int) s b z3 = b + s + z3 x := by unfold bdN; rw [if_pos e1]; rfl
        have e4 : bdN true n (x : Int) s b z4 = b + s + z4 x := by unfold bdN; rw [if_pos e1]; rfl
        obtain rfl : b + s + z3 x = L := by rw [← HL.out]; exact e3.symm
        obtain rfl : b + s + z4 x = H := by rw [← HH.out]; exact e4.symm
        have hsr : -100000000000 ≤ s ∧ s ≤ 100000000000 := by rw [Bool.and_eq_true, decide_eq_true_eq, decide_eq_true_eq] at hsc; exact hsc
        have h3 := (hp.m.below D1.out.bel).more D1.out.bel.size
        have h4 := (hp.x.below D1.out.bel).more D1.out.bel.size
        have g3 := HG3.out
        have g4 := HG4.out
        have hzz := HBD.out x hx
        have q1 : x < n3 := by omega
        have q2 : x < n4 := by omega
        have q3 : n3 ≤ 20 := by omega
        have q4 : n4 ≤ 20 := by omega
        have q5 : (-100000000000 ≤ z3 x ∧ z3 x ≤ 100000000000) ∧ -100000000000 ≤ z4 x ∧ z4 x ≤ 100000000000 := by omega
        clear HL HH e1 e3 e4 hsc hin HIN hzz g3 g4
        go_wp2_with fail
        with_reducible refine Calls.mono (l7Bounds_any f b A n c A1 n1 c1 A2 n2 c2 A3 n3 c3 z3 A4 n4 c4 z4 x s q _ h3 h4 q1 q2 q3 q4 hbias hsr q5) ?_
        rintro e w4 ⟨rfl, hb4⟩
        go_wp2_with fail
        go_ret2
        exact ⟨rfl, D1.out.bel.trans (hb4.mono D1.out.bel.size)⟩
end Go.Proofs.Ytlgomifpohdniaa
