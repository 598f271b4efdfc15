/- The walk of the exact law of BoundsOf. -/
import Derived.Test.YtghjeaffnocihaaStD
import Derived.Test.YtghjeaffnocihaaK8
import Derived.Deep.RegionHeld3
namespace Go.Proofs.Ytghjeaffnocihaa
open Go.RowKit Go.Deep
set_option linter.unusedVariables false
set_option linter.unusedSimpArgs false

/-- A box of three cells, or of four. -/
theorem blk_three {w : World} {g : Nat} {t : TypeId} {x0 x1 x2 : Value} (h : Blk w g t #[x0, x1, x2]) : w.cell? ⟨g, 0, none⟩ = some x0 ∧ w.cell? ⟨g, 1, none⟩ = some x1 ∧ w.cell? ⟨g, 2, none⟩ = some x2 := ⟨h.cell 0, h.cell 1, h.cell 2⟩
theorem blk_four {w : World} {g : Nat} {t : TypeId} {x0 x1 x2 x3 : Value} (h : Blk w g t #[x0, x1, x2, x3]) : w.cell? ⟨g, 0, none⟩ = some x0 ∧ w.cell? ⟨g, 1, none⟩ = some x1 ∧ w.cell? ⟨g, 2, none⟩ = some x2 ∧ w.cell? ⟨g, 3, none⟩ = some x3 := ⟨h.cell 0, h.cell 1, h.cell 2, h.cell 3⟩
/-- The state of the law: its own three boxes, the two of what it has copied. -/
def BL (w0 : World) (ec pc sc : Array Value) (X Y : Nat) (xc yc : Array Value) (n : Nat) (len : Nat → Nat) (g : Nat → Nat → Nd) (A : Option Addr) (A1 : Option Addr) (n1 : Nat) (z1 : Nat → Int) (A2 : Option Addr) (n2 : Nat) (z2 : Nat → Int) (A3 : Option Addr) (n3 : Nat) (z3 : Nat → Int) (A4 : Option Addr) (n4 : Nat) (z4 : Nat → Int) (w : World) : Prop :=
  B3 w0 ec pc sc 81 82 90 w ∧ (Blk w X 26 xc ∧ Blk w Y 29 yc) ∧ RdT w w.heap.size A n len g ∧ RdP w w.heap.size A1 n1 z1 A2 n2 z2 A3 n3 z3 A4 n4 z4
section
variable {w0 w w' : World} {ec pc sc xc yc : Array Value} {X Y n n1 n2 n3 n4 : Nat} {len : Nat → Nat} {g : Nat → Nat → Nd} {A A1 A2 A3 A4 : Option Addr} {z1 z2 z3 z4 : Nat → Int}
theorem BL.below (h : BL w0 ec pc sc X Y xc yc n len g A A1 n1 z1 A2 n2 z2 A3 n3 z3 A4 n4 z4 w) (hb : Below w.heap.size w w') : BL w0 ec pc sc X Y xc yc n len g A A1 n1 z1 A2 n2 z2 A3 n3 z3 A4 n4 z4 w' :=
  ⟨h.1.below hb, ⟨h.2.1.1.below hb h.2.1.1.lt, h.2.1.2.below hb h.2.1.2.lt⟩, h.2.2.1.to hb hb.size, h.2.2.2.to hb hb.size⟩
theorem BL.drew (h : BL w0 ec pc sc X Y xc yc n len g A A1 n1 z1 A2 n2 z2 A3 n3 z3 A4 n4 z4 w) : BL w0 ec pc sc X Y xc yc n len g A A1 n1 z1 A2 n2 z2 A3 n3 z3 A4 n4 z4 w.drew := h.below (Below.refl _ w).drew
theorem BL.bel (h : BL w0 ec pc sc X Y xc yc n len g A A1 n1 z1 A2 n2 z2 A3 n3 z3 A4 n4 z4 w) : Below w0.heap.size w0 w := h.1.bel
theorem BL.rdT (h : BL w0 ec pc sc X Y xc yc n len g A A1 n1 z1 A2 n2 z2 A3 n3 z3 A4 n4 z4 w) : RdT w w.heap.size A n len g := h.2.2.1
theorem BL.rdP (h : BL w0 ec pc sc X Y xc yc n len g A A1 n1 z1 A2 n2 z2 A3 n3 z3 A4 n4 z4 w) : RdP w w.heap.size A1 n1 z1 A2 n2 z2 A3 n3 z3 A4 n4 z4 := h.2.2.2
end

theorem bl_cells1 {w0 w : World} {f b a s q : Int} {A A1 A2 A3 A4 : Option Addr} {n c n1 c1 n2 c2 n3 c3 n4 c4 X Y b6 a1 a2 a3 a4 : Nat} {len : Nat → Nat} {g : Nat → Nat → Nd} {z1 z2 z3 z4 : Nat → Int} (h : BL w0 #[.int .i64 f, .int .i64 b, .slice A n c] #[.slice A1 n1 c1, .slice A2 n2 c2, .slice A3 n3 c3, .slice A4 n4 c4] #[.int .i64 a, .int .i64 s, .int .i64 q] X Y #[.int .i64 f, .int .i64 b, .slice (some ⟨b6, 0, none⟩) n n] #[.slice (some ⟨a1, 0, none⟩) n1 n1, .slice (some ⟨a2, 0, none⟩) n2 n2, .slice (some ⟨a3, 0, none⟩) n3 n3, .slice (some ⟨a4, 0, none⟩) n4 n4] n len g (some ⟨b6, 0, none⟩) (some ⟨a1, 0, none⟩) n1 z1 (some ⟨a2, 0, none⟩) n2 z2 (some ⟨a3, 0, none⟩) n3 z3 (some ⟨a4, 0, none⟩) n4 z4 w) : w.cell? ⟨X, 0, none⟩ = some (.int .i64 f) ∧ w.cell? ⟨X, 1, none⟩ = some (.int .i64 b) ∧ w.cell? ⟨X, 2, none⟩ = some (.slice (some ⟨b6, 0, none⟩) n n) ∧ w.cell? ⟨Y, 0, none⟩ = some (.slice (some ⟨a1, 0, none⟩) n1 n1) ∧ w.cell? ⟨Y, 1, none⟩ = some (.slice (some ⟨a2, 0, none⟩) n2 n2) ∧ w.cell? ⟨Y, 2, none⟩ = some (.slice (some ⟨a3, 0, none⟩) n3 n3) ∧ w.cell? ⟨Y, 3, none⟩ = some (.slice (some ⟨a4, 0, none⟩) n4 n4) ∧ w.cell? ⟨w0.heap.size + 2, 0, none⟩ = some (.int .i64 a) ∧ w.cell? ⟨w0.heap.size + 2, 1, none⟩ = some (.int .i64 s) ∧ w.cell? ⟨w0.heap.size + 2, 2, none⟩ = some (.int .i64 q) := by
  obtain ⟨h1, ⟨h2, h3⟩, _⟩ := h
  exact ⟨h2.cell 0, h2.cell 1, h2.cell 2, h3.cell 0, h3.cell 1, h3.cell 2, h3.cell 3, h1.2.2.1.cell 0, h1.2.2.1.cell 1, h1.2.2.1.cell 2⟩
theorem bl_cells2 {w0 w : World} {f b a s q : Int} {A A1 A2 A3 A4 : Option Addr} {n c n1 c1 n2 c2 n3 c3 n4 c4 X Y b6 a1 a2 a3 a4 : Nat} {len : Nat → Nat} {g : Nat → Nat → Nd} {z1 z2 z3 z4 : Nat → Int} (h : BL w0 #[.int .i64 f, .int .i64 b, .slice A n c] #[.slice A1 n1 c1, .slice A2 n2 c2, .slice A3 n3 c3, .slice A4 n4 c4] #[.int .i64 a, .int .i64 s, .int .i64 q] X Y #[.int .i64 f, .int .i64 b, .slice (some ⟨b6, 0, none⟩) n n] #[.slice (some ⟨a1, 0, none⟩) n1 n1, .slice (some ⟨a2, 0, none⟩) n2 n2, .slice (some ⟨a3, 0, none⟩) n3 n3, .slice (some ⟨a4, 0, none⟩) n4 n4] n len g (some ⟨b6, 0, none⟩) (some ⟨a1, 0, none⟩) n1 z1 (some ⟨a2, 0, none⟩) n2 z2 (some ⟨a3, 0, none⟩) n3 z3 (some ⟨a4, 0, none⟩) n4 z4 w) : w.cell? ⟨X, 0, none⟩ = some (.int .i64 f) ∧ w.cell? ⟨X, 1, none⟩ = some (.int .i64 b) ∧ w.cell? ⟨X, 2, none⟩ = some (.slice (some ⟨b6, 0, none⟩) n n) ∧ w.cell? ⟨w0.heap.size, 0, none⟩ = some (.int .i64 f) ∧ w.cell? ⟨w0.heap.size, 1, none⟩ = some (.int .i64 b) ∧ w.cell? ⟨w0.heap.size, 2, none⟩ = some (.slice A n c) := by
  obtain ⟨h1, ⟨h2, h3⟩, _⟩ := h
  exact ⟨h2.cell 0, h2.cell 1, h2.cell 2, h1.1.cell 0, h1.1.cell 1, h1.1.cell 2⟩
theorem bl_cells3 {w0 w : World} {f b a s q : Int} {A A1 A2 A3 A4 : Option Addr} {n c n1 c1 n2 c2 n3 c3 n4 c4 X Y b6 a1 a2 a3 a4 : Nat} {len : Nat → Nat} {g : Nat → Nat → Nd} {z1 z2 z3 z4 : Nat → Int} (h : BL w0 #[.int .i64 f, .int .i64 b, .slice A n c] #[.slice A1 n1 c1, .slice A2 n2 c2, .slice A3 n3 c3, .slice A4 n4 c4] #[.int .i64 a, .int .i64 s, .int .i64 q] X Y #[.int .i64 f, .int .i64 b, .slice (some ⟨b6, 0, none⟩) n n] #[.slice (some ⟨a1, 0, none⟩) n1 n1, .slice (some ⟨a2, 0, none⟩) n2 n2, .slice (some ⟨a3, 0, none⟩) n3 n3, .slice (some ⟨a4, 0, none⟩) n4 n4] n len g (some ⟨b6, 0, none⟩) (some ⟨a1, 0, none⟩) n1 z1 (some ⟨a2, 0, none⟩) n2 z2 (some ⟨a3, 0, none⟩) n3 z3 (some ⟨a4, 0, none⟩) n4 z4 w) : w.cell? ⟨Y, 0, none⟩ = some (.slice (some ⟨a1, 0, none⟩) n1 n1) ∧ w.cell? ⟨Y, 1, none⟩ = some (.slice (some ⟨a2, 0, none⟩) n2 n2) ∧ w.cell? ⟨Y, 2, none⟩ = some (.slice (some ⟨a3, 0, none⟩) n3 n3) ∧ w.cell? ⟨Y, 3, none⟩ = some (.slice (some ⟨a4, 0, none⟩) n4 n4) ∧ w.cell? ⟨w0.heap.size + 1, 0, none⟩ = some (.slice A1 n1 c1) ∧ w.cell? ⟨w0.heap.size + 1, 1, none⟩ = some (.slice A2 n2 c2) ∧ w.cell? ⟨w0.heap.size + 1, 2, none⟩ = some (.slice A3 n3 c3) ∧ w.cell? ⟨w0.heap.size + 1, 3, none⟩ = some (.slice A4 n4 c4) := by
  obtain ⟨h1, ⟨h2, h3⟩, _⟩ := h
  exact ⟨h3.cell 0, h3.cell 1, h3.cell 2, h3.cell 3, h1.2.1.cell 0, h1.2.1.cell 1, h1.2.1.cell 2, h1.2.1.cell 3⟩

set_option maxRecDepth 100000 in
set_option maxHeartbeats 8000000 in
theorem lawBounds (f b : Int) (A : Option Addr) (n c : Nat) (len : Nat → Nat) (g : Nat → Nat → Nd) (A1 : Option Addr) (n1 c1 : Nat) (z1 : Nat → Int) (A2 : Option Addr) (n2 c2 : Nat) (z2 : Nat → Int) (A3 : Option Addr) (n3 c3 : Nat) (z3 : Nat → Int) (A4 : Option Addr) (n4 c4 : Nat) (z4 : Nat → Int) (a s q : Int) (w : World)
    (h : RdT w w.heap.size A n len g) (hn : n ≤ 9223372036854775807) (hlen : ∀ i, i < n → len i ≤ 9223372036854775807) (hp : RdP w w.heap.size A1 n1 z1 A2 n2 z2 A3 n3 z3 A4 n4 z4) (k1 : n1 ≤ 9223372036854775807) (k2 : n2 ≤ 9223372036854775807) (k3 : n3 ≤ 9223372036854775807) (k4 : n4 ≤ 9223372036854775807) :
    Calls Try.prog 13 #[enV f b A n c, plV A1 n1 c1 A2 n2 c2 A3 n3 c3 A4 n4 c4, stV a s q] w fun e w' => e = .returned (.bool true) ∧ Below w.heap.size w w' := by
  have HLEN := hid hlen
  clear hlen
  have hB := B3.new w #[.int .i64 f, .int .i64 b, .slice A n c] #[.slice A1 n1 c1, .slice A2 n2 c2, .slice A3 n3 c3, .slice A4 n4 c4] #[.int .i64 a, .int .i64 s, .int .i64 q] 81 82 90
  go_enter Try.func13, Try.ntmps13
  go_wp2_with fail
  obtain ⟨W0, hW0⟩ : ∃ W, ((w.alloc (.cells #[.int .i64 f, .int .i64 b, .slice A n c] 81)).alloc (.cells #[.slice A1 n1 c1, .slice A2 n2 c2, .slice A3 n3 c3, .slice A4 n4 c4] 82)).alloc (.cells #[.int .i64 a, .int .i64 s, .int .i64 q] 90) = W := ⟨_, rfl⟩
  rw [hW0] at hB ⊢
  clear hW0
  have hr0 := h.to hB.bel hB.bel.size
  refine (szE_any f b A n c len g 1048576 _ hr0 hn HLEN (by omega) (by omega)).mono ?_
  rintro e W1 ⟨y, rfl, hy, hb1⟩
  have D1 := hid (hB.below hb1)
  clear hB hr0 hb1
  obtain ⟨x0, x1, x2, y0, y1, y2, y3, u0, u1, u2⟩ := D1.out.cells
  by_cases hneg : y < 0
  · clear hy
    go_wp2_with fail
    go_ret
    exact ⟨rfl, D1.out.bel⟩
  have hsm : (0 ≤ y ∧ y ≤ 1048576) ∧ n ≤ 1048576 ∧ ∀ i, i < n → len i ≤ 1048576 := by
    rcases hy with h | h
    · exact absurd h hneg
    · exact ⟨⟨h.1, h.2.1⟩, h.2.2⟩
  have hn2 : n ≤ 4194304 := by have := hsm.2.1; omega
  have hl2 : Hid (∀ i, i < n → len i ≤ 4194304) := fun i hi => by have := hsm.2.2 i hi; omega
  obtain ⟨⟨hy0, hy1⟩, _⟩ := hsm
  clear hy hn HLEN
  go_wp2_with fail
  refine (szP_any A1 n1 c1 A2 n2 c2 A3 n3 c3 A4 n4 c4 y _ k1 k2 k3 k4 hy0 hy1).mono ?_
  rintro e W2 ⟨yy, rfl, hyy, hb2⟩
  have D2 := hid (D1.out.below hb2)
  clear D1 hb2 x0 x1 x2 y0 y1 y2 y3 u0 u1 u2
  by_cases hneg2 : yy < 0
  · clear hyy
    go_wp2_with fail
    go_ret
    exact ⟨rfl, D2.out.bel⟩
  have hs2 : n1 ≤ 4194304 ∧ n2 ≤ 4194304 ∧ n3 ≤ 4194304 ∧ n4 ≤ 4194304 := by rcases hyy with h | h <;> omega
  obtain ⟨m1, m2, m3, m4⟩ := hs2
  clear hyy
  have E0 := hid D2.out.drew
  have S0 := hid E0.out.cells
  have hrD : RdT W2.drew W2.drew.heap.size A n len g := h.to E0.out.bel E0.out.bel.size
  clear D2
  go_wp2_with fail
  go_region_held3 (fun w' => w'.cell? ⟨w.heap.size, 0, none⟩ = some (.int .i64 f) ∧ w'.cell? ⟨w.heap.size, 1, none⟩ = some (.int .i64 b) ∧ w'.cell? ⟨w.heap.size, 2, none⟩ = some (.slice A n c) ∧ w'.cell? ⟨w.heap.size + 1, 0, none⟩ = some (.slice A1 n1 c1) ∧ w'.cell? ⟨w.heap.size + 1, 1, none⟩ = some (.slice A2 n2 c2) ∧ w'.cell? ⟨w.heap.size + 1, 2, none⟩ = some (.slice A3 n3 c3) ∧ w'.cell? ⟨w.heap.size + 1, 3, none⟩ = some (.slice A4 n4 c4) ∧ w'.cell? ⟨w.heap.size + 2, 0, none⟩ = some (.int .i64 a) ∧ w'.cell? ⟨w.heap.size + 2, 1, none⟩ = some (.int .i64 s) ∧ w'.cell? ⟨w.heap.size + 2, 2, none⟩ = some (.int .i64 q))
    ((refine Hid.out ?_; with_reducible assumption))
    (first
      | (go_at_call 59; (with_reducible refine Calls.mono (toE_any f b A n c len g W2.drew hrD hn2 hl2) ?_); rintro e W3 ⟨b3, rfl, _, hr3, hb3⟩; have d3 := E0.out.below hb3; have S3 := hid d3.cells; have R3 := hid hr3; have hp3 := hid (hp.to d3.bel d3.bel.size); have D3 := hid d3; clear d3 hb3 hr3)
      | (go_at_call 60; (with_reducible refine Calls.mono (toP_any A1 n1 c1 z1 A2 n2 c2 z2 A3 n3 c3 z3 A4 n4 c4 z4 W3 hp3.out m1 m2 m3 m4) ?_); rintro e W4 ⟨a1, a2, a3, a4, rfl, hp4, hb4⟩; have d4 := D3.out.below hb4; have S4 := hid d4.cells; have R4 := hid (R3.out.to hb4 hb4.size); have P4 := hid hp4; have D4 := hid d4; clear d4 hb4 hp4)
      | (go_at_call 63; (with_reducible refine Calls.mono (toState_any a s q W4) ?_); rintro e W5 ⟨rfl, hb5⟩; have d5 := D4.out.below hb5; have S5 := hid d5.cells; have R5 := hid (R4.out.to hb5 hb5.size); have P5 := hid (P4.out.to hb5 hb5.size); have D5 := hid d5; clear d5 hb5)
      | (go_at_call 49; (with_reducible refine Calls.mono (sBounds_any a s q f b (some ⟨b3, 0, none⟩) n n len g (some ⟨a1, 0, none⟩) n1 n1 z1 (some ⟨a2, 0, none⟩) n2 n2 z2 (some ⟨a3, 0, none⟩) n3 n3 z3 (some ⟨a4, 0, none⟩) n4 n4 z4 W5 R5.out P5.out hn2 hl2 k1 k2 k3 k4) ?_); rintro e W6 ⟨rfl, hb6⟩; have d6 := D5.out.below hb6; have S6 := hid d6.cells; have D6 := hid d6; clear d6 hb6))
  obtain ⟨x0, x1, x2, y0, y1, y2, y3, u0, u1, u2⟩ := D6.out.cells
  obtain ⟨L, hL⟩ : ∃ L, bdN (planB f b n len g n1 z1 n2 z2 n3 z3 n4 z4) n a s b z3 = L := ⟨_, rfl⟩
  obtain ⟨H, hH⟩ : ∃ H, bdN (planB f b n len g n1 z1 n2 z2 n3 z3 n4 z4) n a s b z4 = H := ⟨_, rfl⟩
  rw [hL, hH]
  have HL := hid hL
  have HH := hid hH
  clear hL hH S0 S3 S4 S5 S6 E0 D3 D4 D5 R3 R4 R5 P4 P5 hp3 hrD
  have hrD := h.to D6.out.bel D6.out.bel.size
  go_wp2_with fail
  with_reducible refine Calls.mono (toE_any f b A n c len g W6 hrD hn2 hl2) ?_
  rintro e W7 ⟨b6, rfl, _, hr7, hb7⟩
  have D8 := hid ((D6.out.below hb7).alloc (.cells #[.int .i64 f, .int .i64 b, .slice (some ⟨b6, 0, none⟩) n n] 26))
  have hx8 := (Below.refl W7.heap.size W7).alloc (Nat.le_refl _) (.cells #[.int .i64 f, .int .i64 b, .slice (some ⟨b6, 0, none⟩) n n] 26)
  have R8 := hid (hr7.to hx8 hx8.size)
  have X8 := hid (Blk.new W7 26 #[.int .i64 f, .int .i64 b, .slice (some ⟨b6, 0, none⟩) n n])
  clear D6 hb7 hr7 hx8 x0 x1 x2 y0 y1 y2 y3 u0 u1 u2 hrD
  obtain ⟨x0, x1, x2, y0, y1, y2, y3, u0, u1, u2⟩ := D8.out.cells
  go_wp2_with fail
  obtain ⟨W8, hW8⟩ : ∃ W, W7.alloc (.cells #[.int .i64 f, .int .i64 b, .slice (some ⟨b6, 0, none⟩) n n] 26) = W := ⟨_, rfl⟩
  rw [hW8] at D8 R8 X8 x0 x1 x2 y0 y1 y2 y3 u0 u1 u2 ⊢
  obtain ⟨X, hX⟩ : ∃ X, W7.heap.size = X := ⟨_, rfl⟩
  rw [hX] at X8
  try rw [hX]
  clear hW8 hX
  have hp8 := hp.to D8.out.bel D8.out.bel.size
  with_reducible refine Calls.mono (toP_any A1 n1 c1 z1 A2 n2 c2 z2 A3 n3 c3 z3 A4 n4 c4 z4 W8 hp8 m1 m2 m3 m4) ?_
  rintro e W9 ⟨a1, a2, a3, a4, rfl, hp9, hb9⟩
  have hx9 := (Below.refl W9.heap.size W9).alloc (Nat.le_refl _) (.cells #[.slice (some ⟨a1, 0, none⟩) n1 n1, .slice (some ⟨a2, 0, none⟩) n2 n2, .slice (some ⟨a3, 0, none⟩) n3 n3, .slice (some ⟨a4, 0, none⟩) n4 n4] 29)
  have hBL : BL w #[.int .i64 f, .int .i64 b, .slice A n c] #[.slice A1 n1 c1, .slice A2 n2 c2, .slice A3 n3 c3, .slice A4 n4 c4] #[.int .i64 a, .int .i64 s, .int .i64 q] X W9.heap.size #[.int .i64 f, .int .i64 b, .slice (some ⟨b6, 0, none⟩) n n] #[.slice (some ⟨a1, 0, none⟩) n1 n1, .slice (some ⟨a2, 0, none⟩) n2 n2, .slice (some ⟨a3, 0, none⟩) n3 n3, .slice (some ⟨a4, 0, none⟩) n4 n4] n len g (some ⟨b6, 0, none⟩) (some ⟨a1, 0, none⟩) n1 z1 (some ⟨a2, 0, none⟩) n2 z2 (some ⟨a3, 0, none⟩) n3 z3 (some ⟨a4, 0, none⟩) n4 z4 (W9.alloc (.cells #[.slice (some ⟨a1, 0, none⟩) n1 n1, .slice (some ⟨a2, 0, none⟩) n2 n2, .slice (some ⟨a3, 0, none⟩) n3 n3, .slice (some ⟨a4, 0, none⟩) n4 n4] 29)) :=
    ⟨(D8.out.below hb9).alloc _, ⟨(X8.out.below hb9 X8.out.lt).alloc _, Blk.new W9 _ _⟩, (R8.out.to hb9 hb9.size).to hx9 hx9.size, hp9.to hx9 hx9.size⟩
  clear D8 R8 X8 hb9 hp9 hx9 hp8 x0 x1 x2 y0 y1 y2 y3 u0 u1 u2
  go_wp2_with fail
  obtain ⟨WA, hWA⟩ : ∃ W, W9.alloc (.cells #[.slice (some ⟨a1, 0, none⟩) n1 n1, .slice (some ⟨a2, 0, none⟩) n2 n2, .slice (some ⟨a3, 0, none⟩) n3 n3, .slice (some ⟨a4, 0, none⟩) n4 n4] 29) = W := ⟨_, rfl⟩
  rw [hWA] at hBL ⊢
  obtain ⟨Y, hY⟩ : ∃ Y, W9.heap.size = Y := ⟨_, rfl⟩
  rw [hY] at hBL
  try rw [hY]
  clear hWA hY
  have F0 := hid hBL.drew
  have S0 := hid (bl_cells1 F0.out)
  clear hBL
  go_region_held3 (fun w' => w'.cell? ⟨X, 0, none⟩ = some (.int .i64 f) ∧ w'.cell? ⟨X, 1, none⟩ = some (.int .i64 b) ∧ w'.cell? ⟨X, 2, none⟩ = some (.slice (some ⟨b6, 0, none⟩) n n) ∧ w'.cell? ⟨Y, 0, none⟩ = some (.slice (some ⟨a1, 0, none⟩) n1 n1) ∧ w'.cell? ⟨Y, 1, none⟩ = some (.slice (some ⟨a2, 0, none⟩) n2 n2) ∧ w'.cell? ⟨Y, 2, none⟩ = some (.slice (some ⟨a3, 0, none⟩) n3 n3) ∧ w'.cell? ⟨Y, 3, none⟩ = some (.slice (some ⟨a4, 0, none⟩) n4 n4) ∧ w'.cell? ⟨w.heap.size + 2, 0, none⟩ = some (.int .i64 a) ∧ w'.cell? ⟨w.heap.size + 2, 1, none⟩ = some (.int .i64 s) ∧ w'.cell? ⟨w.heap.size + 2, 2, none⟩ = some (.int .i64 q))
    ((refine Hid.out ?_; with_reducible assumption))
    (first
      | (go_at_call 63; (with_reducible refine Calls.mono (toState_any a s q WA.drew) ?_); rintro e WB ⟨rfl, hbB⟩; have f1 := F0.out.below hbB; have S1 := hid (bl_cells1 f1); have F1 := hid f1; clear f1 hbB)
      | (go_at_call 48; (with_reducible refine Calls.mono (iBounds_any a s q f b (some ⟨b6, 0, none⟩) n n len g (some ⟨a1, 0, none⟩) n1 n1 z1 (some ⟨a2, 0, none⟩) n2 n2 z2 (some ⟨a3, 0, none⟩) n3 n3 z3 (some ⟨a4, 0, none⟩) n4 n4 z4 WB F1.out.rdT F1.out.rdP hn2 hl2 k1 k2 k3 k4) ?_); rintro e WC ⟨rfl, hbC⟩; rw [HL.out, HH.out]; have f2 := F1.out.below hbC; have S2 := hid (bl_cells1 f2); have F2 := hid f2; clear f2 hbC))
  have e1 : (L != L) = false := by simp
  have e2 : (H != H) = false := by simp
  have G0 := hid F2.out.drew
  clear S0 S1 S2 F0 F1
  have S0 := hid (bl_cells2 G0.out)
  have hrG := h.to G0.out.bel G0.out.bel.size
  go_wp2_with fail
  go_region_held3 (fun w' => w'.cell? ⟨X, 0, none⟩ = some (.int .i64 f) ∧ w'.cell? ⟨X, 1, none⟩ = some (.int .i64 b) ∧ w'.cell? ⟨X, 2, none⟩ = some (.slice (some ⟨b6, 0, none⟩) n n) ∧ w'.cell? ⟨w.heap.size, 0, none⟩ = some (.int .i64 f) ∧ w'.cell? ⟨w.heap.size, 1, none⟩ = some (.int .i64 b) ∧ w'.cell? ⟨w.heap.size, 2, none⟩ = some (.slice A n c))
    ((refine Hid.out ?_; with_reducible assumption))
    (first
      | (go_at_call 59; (with_reducible refine Calls.mono (toE_any f b A n c len g WC.drew hrG hn2 hl2) ?_); rintro e WD ⟨b7, rfl, _, hr7, hb7⟩; have f1 := G0.out.below hb7; have S1 := hid (bl_cells2 f1); have R7 := hid hr7; have G1 := hid f1; clear f1 hb7 hr7)
      | (go_at_call 40; (with_reducible refine Calls.mono (eqE_any f b _ _ n n n len g WD G1.out.rdT R7.out hn2 hl2) ?_); rintro e WE ⟨rfl, hbE⟩; have f2 := G1.out.below hbE; have S2 := hid (bl_cells2 f2); have G2 := hid f2; clear f2 hbE))
  have I0 := hid G2.out.drew
  clear S0 S1 S2 G0 G1 R7 hrG
  have S0 := hid (bl_cells3 I0.out)
  have hpI := hp.to I0.out.bel I0.out.bel.size
  go_wp2_with fail
  go_region_held3 (fun w' => w'.cell? ⟨Y, 0, none⟩ = some (.slice (some ⟨a1, 0, none⟩) n1 n1) ∧ w'.cell? ⟨Y, 1, none⟩ = some (.slice (some ⟨a2, 0, none⟩) n2 n2) ∧ w'.cell? ⟨Y, 2, none⟩ = some (.slice (some ⟨a3, 0, none⟩) n3 n3) ∧ w'.cell? ⟨Y, 3, none⟩ = some (.slice (some ⟨a4, 0, none⟩) n4 n4) ∧ w'.cell? ⟨w.heap.size + 1, 0, none⟩ = some (.slice A1 n1 c1) ∧ w'.cell? ⟨w.heap.size + 1, 1, none⟩ = some (.slice A2 n2 c2) ∧ w'.cell? ⟨w.heap.size + 1, 2, none⟩ = some (.slice A3 n3 c3) ∧ w'.cell? ⟨w.heap.size + 1, 3, none⟩ = some (.slice A4 n4 c4))
    ((refine Hid.out ?_; with_reducible assumption))
    (first
      | (go_at_call 60; (with_reducible refine Calls.mono (toP_any A1 n1 c1 z1 A2 n2 c2 z2 A3 n3 c3 z3 A4 n4 c4 z4 WE.drew hpI m1 m2 m3 m4) ?_); rintro e WF ⟨o1, o2, o3, o4, rfl, hpF, hbF⟩; have f1 := I0.out.below hbF; have S1 := hid (bl_cells3 f1); have PF := hid hpF; have I1 := hid f1; clear f1 hbF hpF)
      | (go_at_call 62; (with_reducible refine Calls.mono (eqP_any (some ⟨a1, 0, none⟩) n1 n1 z1 (some ⟨a2, 0, none⟩) n2 n2 z2 (some ⟨a3, 0, none⟩) n3 n3 z3 (some ⟨a4, 0, none⟩) n4 n4 z4 (some ⟨o1, 0, none⟩) n1 (some ⟨o2, 0, none⟩) n2 (some ⟨o3, 0, none⟩) n3 (some ⟨o4, 0, none⟩) n4 WF I1.out.rdP PF.out m1 m2 m3 m4) ?_); rintro e WG ⟨rfl, hbG⟩; have f2 := I1.out.below hbG; have S2 := hid (bl_cells3 f2); have I2 := hid f2; clear f2 hbG))
  go_wp2_with fail
  go_ret
  exact ⟨rfl, I2.out.bel⟩
end Go.Proofs.Ytghjeaffnocihaa
