/- The walk of the exact law of PlanOk. -/
import Derived.Test.YtmpgefpaoogoiaaPlK
import Derived.Test.YtmpgefpaoogoiaaPlF
import Derived.Test.YtmpgefpaoogoiaaEnsC
import Derived.Deep.RegionHeld3
namespace Go.Proofs.Ytmpgefpaoogoiaa
open Go.RowKit Go.Deep
set_option linter.unusedVariables false
set_option linter.unusedSimpArgs false

/-- The two arguments in their boxes. -/
def PArgs (w0 : World) (ec pc : Array Value) (w : World) : Prop :=
  Blk w w0.heap.size 24 ec ∧ Blk w (w0.heap.size + 1) 27 pc ∧ Below w0.heap.size w0 w
theorem PArgs.below {w0 w w' : World} {ec pc : Array Value} (h : PArgs w0 ec pc w) (hb : Below w.heap.size w w') : PArgs w0 ec pc w' := by
  obtain ⟨h1, h2, h3⟩ := h
  exact ⟨h1.below hb h1.lt, h2.below hb h2.lt, h3.trans (hb.mono h3.size)⟩
theorem PArgs.alloc {w0 w : World} {ec pc : Array Value} (h : PArgs w0 ec pc w) (o : Obj) : PArgs w0 ec pc (w.alloc o) := h.below ((Below.refl _ w).alloc (Nat.le_refl _) o)
theorem PArgs.drew {w0 w : World} {ec pc : Array Value} (h : PArgs w0 ec pc w) : PArgs w0 ec pc w.drew := h.below (Below.refl _ w).drew
theorem PArgs.cells {w0 w : World} {x0 x1 x2 y0 y1 y2 y3 : Value} (h : PArgs w0 #[x0, x1, x2] #[y0, y1, y2, y3] w) :
    w.cell? ⟨w0.heap.size, 0, none⟩ = some x0 ∧ w.cell? ⟨w0.heap.size, 1, none⟩ = some x1 ∧ w.cell? ⟨w0.heap.size, 2, none⟩ = some x2 ∧ w.cell? ⟨w0.heap.size + 1, 0, none⟩ = some y0 ∧ w.cell? ⟨w0.heap.size + 1, 1, none⟩ = some y1 ∧ w.cell? ⟨w0.heap.size + 1, 2, none⟩ = some y2 ∧ w.cell? ⟨w0.heap.size + 1, 3, none⟩ = some y3 :=
  ⟨h.1.cell 0, h.1.cell 1, h.1.cell 2, h.2.1.cell 0, h.2.1.cell 1, h.2.1.cell 2, h.2.1.cell 3⟩
theorem heldE {w0 w : World} {x0 x1 x2 u0 u1 u2 : Value} {s : Nat} {pc : Array Value} (h : PArgs w0 #[x0, x1, x2] pc w) (h' : Blk w s 33 #[u0, u1, u2]) :
    w.cell? ⟨w0.heap.size, 0, none⟩ = some x0 ∧ w.cell? ⟨w0.heap.size, 1, none⟩ = some x1 ∧ w.cell? ⟨w0.heap.size, 2, none⟩ = some x2 ∧ w.cell? ⟨s, 0, none⟩ = some u0 ∧ w.cell? ⟨s, 1, none⟩ = some u1 ∧ w.cell? ⟨s, 2, none⟩ = some u2 :=
  ⟨h.1.cell 0, h.1.cell 1, h.1.cell 2, h'.cell 0, h'.cell 1, h'.cell 2⟩
theorem heldPl {w0 w : World} {y0 y1 y2 y3 u0 u1 u2 u3 : Value} {s : Nat} {ec : Array Value} (h : PArgs w0 ec #[y0, y1, y2, y3] w) (h' : Blk w s 35 #[u0, u1, u2, u3]) :
    w.cell? ⟨w0.heap.size + 1, 0, none⟩ = some y0 ∧ w.cell? ⟨w0.heap.size + 1, 1, none⟩ = some y1 ∧ w.cell? ⟨w0.heap.size + 1, 2, none⟩ = some y2 ∧ w.cell? ⟨w0.heap.size + 1, 3, none⟩ = some y3 ∧ w.cell? ⟨s, 0, none⟩ = some u0 ∧ w.cell? ⟨s, 1, none⟩ = some u1 ∧ w.cell? ⟨s, 2, none⟩ = some u2 ∧ w.cell? ⟨s, 3, none⟩ = some u3 :=
  ⟨h.2.1.cell 0, h.2.1.cell 1, h.2.1.cell 2, h.2.1.cell 3, h'.cell 0, h'.cell 1, h'.cell 2, h'.cell 3⟩

set_option maxRecDepth 100000 in
set_option maxHeartbeats 8000000 in
theorem lawPlanOk (f b : Int) (A : Option Addr) (n c : Nat) (len : Nat → Nat) (g : Nat → Nat → Nd) (A1 : Option Addr) (n1 c1 : Nat) (z1 : Nat → Int) (A2 : Option Addr) (n2 c2 : Nat) (z2 : Nat → Int) (A3 : Option Addr) (n3 c3 : Nat) (z3 : Nat → Int) (A4 : Option Addr) (n4 c4 : Nat) (z4 : Nat → Int) (w : World)
    (h : RdT w w.heap.size A n len g) (hn : n ≤ 9223372036854775807) (hlen : ∀ i, i < n → len i ≤ 9223372036854775807) (hp : RdP w w.heap.size A1 n1 z1 A2 n2 z2 A3 n3 z3 A4 n4 z4) (k1 : n1 ≤ 9223372036854775807) (k2 : n2 ≤ 9223372036854775807) (k3 : n3 ≤ 9223372036854775807) (k4 : n4 ≤ 9223372036854775807) :
    Calls Try.prog 3 #[enV f b A n c, plV A1 n1 c1 A2 n2 c2 A3 n3 c3 A4 n4 c4] w fun e w' => e = .returned (.bool true) ∧ Below w.heap.size w w' := by
  have HLEN := hid hlen
  clear hlen
  have hA0 : PArgs w #[.int .i64 f, .int .i64 b, .slice A n c] #[.slice A1 n1 c1, .slice A2 n2 c2, .slice A3 n3 c3, .slice A4 n4 c4] ((w.alloc (.cells #[.int .i64 f, .int .i64 b, .slice A n c] 24)).alloc (.cells #[.slice A1 n1 c1, .slice A2 n2 c2, .slice A3 n3 c3, .slice A4 n4 c4] 27)) := ⟨(Blk.new w _ _).alloc _, Blk.new2 w _ _ _, ((Below.refl _ w).alloc (Nat.le_refl _) _).alloc (by simp) _⟩
  go_enter Try.func3, Try.ntmps3
  go_wp2_with fail
  obtain ⟨W0, hW0⟩ : ∃ W, (w.alloc (.cells #[.int .i64 f, .int .i64 b, .slice A n c] 24)).alloc (.cells #[.slice A1 n1 c1, .slice A2 n2 c2, .slice A3 n3 c3, .slice A4 n4 c4] 27) = W := ⟨_, rfl⟩
  rw [hW0] at hA0 ⊢
  clear hW0
  have hr0 := h.to hA0.2.2 hA0.2.2.size
  refine (szE_any f b A n c len g 1048576 _ hr0 hn HLEN (by omega) (by omega)).mono ?_
  rintro e W1 ⟨y, rfl, hy, hb1⟩
  have HA1 := hid (hA0.below hb1)
  clear hA0 hr0 hb1
  obtain ⟨c0, c1', c2', d0, d1, d2, d3⟩ := HA1.out.cells
  by_cases hneg : y < 0
  · clear hy
    go_wp2_with fail
    go_ret
    exact ⟨rfl, HA1.out.2.2⟩
  · have hsm : (0 ≤ y ∧ y ≤ 1048576) ∧ n ≤ 1048576 ∧ ∀ i, i < n → len i ≤ 1048576 := by
      rcases hy with h | h
      · exact absurd h hneg
      · exact ⟨⟨h.1, h.2.1⟩, h.2.2⟩
    have hn2 : n ≤ 4194304 := by have := hsm.2.1; omega
    have hl2 : Hid (∀ i, i < n → len i ≤ 4194304) := fun i hi => by have := hsm.2.2 i hi; omega
    obtain ⟨⟨hy0, hy1⟩, _⟩ := hsm
    clear hy hn HLEN
    go_wp2_with fail
    refine (szP_any A1 n1 c1 A2 n2 c2 A3 n3 c3 A4 n4 c4 y _ k1 k2 k3 k4 hy0 hy1).mono ?_
    rintro e W2 ⟨y2, rfl, hy2, hb2⟩
    have HA2 := hid (HA1.out.below hb2)
    clear HA1 hb2 c0 c1' c2' d0 d1 d2 d3
    by_cases hneg2 : y2 < 0
    · clear hy2
      go_wp2_with fail
      go_ret
      exact ⟨rfl, HA2.out.2.2⟩
    · have hs2 : n1 ≤ 4194304 ∧ n2 ≤ 4194304 ∧ n3 ≤ 4194304 ∧ n4 ≤ 4194304 := by rcases hy2 with h | h <;> omega
      obtain ⟨m1, m2, m3, m4⟩ := hs2
      clear hy2
      have hrD : RdT W2.drew W2.drew.heap.size A n len g := (h.below HA2.out.2.2).more HA2.out.2.2.size
      go_wp2_with fail
      go_region_held3 (fun w' => w'.cell? ⟨w.heap.size, 0, none⟩ = some (.int .i64 f) ∧ w'.cell? ⟨w.heap.size, 1, none⟩ = some (.int .i64 b) ∧ w'.cell? ⟨w.heap.size, 2, none⟩ = some (.slice A n c) ∧ w'.cell? ⟨w.heap.size + 1, 0, none⟩ = some (.slice A1 n1 c1) ∧ w'.cell? ⟨w.heap.size + 1, 1, none⟩ = some (.slice A2 n2 c2) ∧ w'.cell? ⟨w.heap.size + 1, 2, none⟩ = some (.slice A3 n3 c3) ∧ w'.cell? ⟨w.heap.size + 1, 3, none⟩ = some (.slice A4 n4 c4))
        (first | with_reducible exact PArgs.cells HA2.out.drew | with_reducible exact PArgs.cells HA3.out | with_reducible exact PArgs.cells HA4.out | with_reducible exact PArgs.cells HA5.out)
        (first
          | (go_at_call 19; refine (toE_any f b A n c len g W2.drew hrD hn2 hl2).mono ?_; rintro e W3 ⟨b3, rfl, _, hr3, hb3⟩; have HA3 := hid (HA2.out.drew.below hb3); have HR3 := hid hr3; clear hb3 hr3)
          | (go_at_call 20; refine (toP_any A1 n1 c1 z1 A2 n2 c2 z2 A3 n3 c3 z3 A4 n4 c4 z4 W3 ((hp.below HA3.out.2.2).more HA3.out.2.2.size) m1 m2 m3 m4).mono ?_; rintro e W4 ⟨a1, a2, a3, a4, rfl, hp4, hb4⟩; have HA4 := hid (HA3.out.below hb4); have HR4 := hid (HR3.out.to hb4 hb4.size); have HP4 := hid hp4; clear hb4 hp4)
          | (go_at_call 18; refine (sPlanOk_any f b (some ⟨b3, 0, none⟩) n n len g (some ⟨a1, 0, none⟩) n1 n1 z1 (some ⟨a2, 0, none⟩) n2 n2 z2 (some ⟨a3, 0, none⟩) n3 n3 z3 (some ⟨a4, 0, none⟩) n4 n4 z4 W4 HR4.out HP4.out hn2 hl2 k1 k2 k3 k4).mono ?_; rintro e W5 ⟨rfl, hb5⟩; have HA5 := hid (HA4.out.below hb5); clear hb5))
      obtain ⟨c0, c1', c2', d0, d1, d2, d3⟩ := HA5.out.cells
      obtain ⟨R, hR⟩ : ∃ R, planB f b n len g n1 z1 n2 z2 n3 z3 n4 z4 = R := ⟨_, rfl⟩
      rw [hR]
      have HRR := hid hR
      clear hR HA2 HA3 HA4 HR3 HR4 HP4 hrD
      go_wp2_with fail
      refine (toE_any f b A n c len g W5 ((h.below HA5.out.2.2).more HA5.out.2.2.size) hn2 hl2).mono ?_
      rintro e W6 ⟨b6, rfl, _, hr6, hb6⟩
      have HA6 := hid ((HA5.out.below hb6).alloc (.cells #[.int .i64 f, .int .i64 b, .slice (some ⟨b6, 0, none⟩) n n] 33))
      have hx6 := (Below.refl W6.heap.size W6).alloc (Nat.le_refl _) (.cells #[.int .i64 f, .int .i64 b, .slice (some ⟨b6, 0, none⟩) n n] 33)
      have HR6 := hid (hr6.to hx6 hx6.size)
      have HX6 := hid (Blk.new W6 33 #[.int .i64 f, .int .i64 b, .slice (some ⟨b6, 0, none⟩) n n])
      clear HA5 hb6 hr6 hx6 c0 c1' c2' d0 d1 d2 d3
      obtain ⟨c0, c1', c2', d0, d1, d2, d3⟩ := HA6.out.cells
      go_wp2_with fail
      obtain ⟨W7, hW7⟩ : ∃ W, W6.alloc (.cells #[.int .i64 f, .int .i64 b, .slice (some ⟨b6, 0, none⟩) n n] 33) = W := ⟨_, rfl⟩
      rw [hW7] at HA6 HR6 HX6 c0 c1' c2' d0 d1 d2 d3 ⊢
      obtain ⟨X6, hX6⟩ : ∃ X, W6.heap.size = X := ⟨_, rfl⟩
      rw [hX6] at HX6
      try rw [hX6]
      clear hW7 hX6
      refine (toP_any A1 n1 c1 z1 A2 n2 c2 z2 A3 n3 c3 z3 A4 n4 c4 z4 W7 ((hp.below HA6.out.2.2).more HA6.out.2.2.size) m1 m2 m3 m4).mono ?_
      rintro e W8 ⟨a1, a2, a3, a4, rfl, hp8, hb8⟩
      have hx8 := (Below.refl W8.heap.size W8).alloc (Nat.le_refl _) (.cells #[.slice (some ⟨a1, 0, none⟩) n1 n1, .slice (some ⟨a2, 0, none⟩) n2 n2, .slice (some ⟨a3, 0, none⟩) n3 n3, .slice (some ⟨a4, 0, none⟩) n4 n4] 35)
      have HA9 := hid ((HA6.out.below hb8).below hx8)
      have HR9 := hid ((HR6.out.to hb8 hb8.size).to hx8 hx8.size)
      have HX9 := hid ((HX6.out.below hb8 HX6.out.lt).alloc (.cells #[.slice (some ⟨a1, 0, none⟩) n1 n1, .slice (some ⟨a2, 0, none⟩) n2 n2, .slice (some ⟨a3, 0, none⟩) n3 n3, .slice (some ⟨a4, 0, none⟩) n4 n4] 35))
      have HP9 := hid (hp8.to hx8 hx8.size)
      have HY9 := hid (Blk.new W8 35 #[.slice (some ⟨a1, 0, none⟩) n1 n1, .slice (some ⟨a2, 0, none⟩) n2 n2, .slice (some ⟨a3, 0, none⟩) n3 n3, .slice (some ⟨a4, 0, none⟩) n4 n4])
      have c3' := HX9.out.cell 0
      have c4' := HX9.out.cell 1
      have c5' := HX9.out.cell 2
      clear HA6 HR6 HX6 hb8 hp8 hx8 c0 c1' c2' d0 d1 d2 d3
      go_wp2_with fail
      obtain ⟨W9, hW9⟩ : ∃ W, W8.alloc (.cells #[.slice (some ⟨a1, 0, none⟩) n1 n1, .slice (some ⟨a2, 0, none⟩) n2 n2, .slice (some ⟨a3, 0, none⟩) n3 n3, .slice (some ⟨a4, 0, none⟩) n4 n4] 35) = W := ⟨_, rfl⟩
      rw [hW9] at HA9 HR9 HX9 HP9 HY9 c3' c4' c5' ⊢
      obtain ⟨Y8, hY8⟩ : ∃ X, W8.heap.size = X := ⟨_, rfl⟩
      rw [hY8] at HY9
      try rw [hY8]
      clear hW9 hY8 c3' c4' c5'
      refine (iPlanOk_any f b (some ⟨b6, 0, none⟩) n n len g (some ⟨a1, 0, none⟩) n1 n1 z1 (some ⟨a2, 0, none⟩) n2 n2 z2 (some ⟨a3, 0, none⟩) n3 n3 z3 (some ⟨a4, 0, none⟩) n4 n4 z4 W9 HR9.out HP9.out hn2 hl2 k1 k2 k3 k4).mono ?_
      rintro e W10 ⟨rfl, hb10⟩
      rw [HRR.out]
      have HA10 := hid (HA9.out.below hb10)
      have HR10 := hid (HR9.out.to hb10 hb10.size)
      have HX10 := hid (HX9.out.below hb10 HX9.out.lt)
      have HP10 := hid (HP9.out.to hb10 hb10.size)
      have HY10 := hid (HY9.out.below hb10 HY9.out.lt)
      clear HA9 HR9 HX9 HP9 HY9 hb10
      have hrE : RdT W10.drew W10.drew.heap.size A n len g := (h.below HA10.out.2.2).more HA10.out.2.2.size
      go_wp2_with fail
      go_region_held3 (fun w' => w'.cell? ⟨w.heap.size, 0, none⟩ = some (.int .i64 f) ∧ w'.cell? ⟨w.heap.size, 1, none⟩ = some (.int .i64 b) ∧ w'.cell? ⟨w.heap.size, 2, none⟩ = some (.slice A n c) ∧ w'.cell? ⟨X6, 0, none⟩ = some (.int .i64 f) ∧ w'.cell? ⟨X6, 1, none⟩ = some (.int .i64 b) ∧ w'.cell? ⟨X6, 2, none⟩ = some (.slice (some ⟨b6, 0, none⟩) n n))
        (first | with_reducible exact heldE HA10.out.drew HX10.out.drew | with_reducible exact heldE HA11.out HX11.out | with_reducible exact heldE HA12.out HX12.out)
        (first
          | (go_at_call 19; refine (toE_any f b A n c len g W10.drew hrE hn2 hl2).mono ?_; rintro e W11 ⟨b11, rfl, _, hr11, hb11⟩; have HA11 := hid (HA10.out.drew.below hb11); have HX11 := hid (HX10.out.drew.below hb11 HX10.out.lt); have HS11 := hid hr11; have HR11 := hid ((HR10.out.below (Below.refl _ W10).drew).to hb11 hb11.size); have HP11 := hid ((HP10.out.below (Below.refl _ W10).drew).to hb11 hb11.size); have HY11 := hid (HY10.out.drew.below hb11 HY10.out.lt); clear hb11 hr11)
          | (go_at_call 22; refine (eqE_any f b _ _ n n n len g W11 HR11.out HS11.out hn2 hl2).mono ?_; rintro e W12 ⟨rfl, hb12⟩; have HA12 := hid (HA11.out.below hb12); have HX12 := hid (HX11.out.below hb12 HX11.out.lt); have HP12 := hid (HP11.out.to hb12 hb12.size); have HY12 := hid (HY11.out.below hb12 HY11.out.lt); clear hb12))
      have hpD : RdP W12.drew W12.drew.heap.size A1 n1 z1 A2 n2 z2 A3 n3 z3 A4 n4 z4 := (hp.below HA12.out.drew.2.2).more HA12.out.drew.2.2.size
      clear HA10 HA11 HX10 HX11 HX12 HR10 HR11 HS11 HP10 HP11 HY10 HY11 hrE
      go_wp2_with fail
      go_region_held3 (fun w' => w'.cell? ⟨w.heap.size + 1, 0, none⟩ = some (.slice A1 n1 c1) ∧ w'.cell? ⟨w.heap.size + 1, 1, none⟩ = some (.slice A2 n2 c2) ∧ w'.cell? ⟨w.heap.size + 1, 2, none⟩ = some (.slice A3 n3 c3) ∧ w'.cell? ⟨w.heap.size + 1, 3, none⟩ = some (.slice A4 n4 c4) ∧ w'.cell? ⟨Y8, 0, none⟩ = some (.slice (some ⟨a1, 0, none⟩) n1 n1) ∧ w'.cell? ⟨Y8, 1, none⟩ = some (.slice (some ⟨a2, 0, none⟩) n2 n2) ∧ w'.cell? ⟨Y8, 2, none⟩ = some (.slice (some ⟨a3, 0, none⟩) n3 n3) ∧ w'.cell? ⟨Y8, 3, none⟩ = some (.slice (some ⟨a4, 0, none⟩) n4 n4))
        (first | with_reducible exact heldPl HA12.out.drew HY12.out.drew | with_reducible exact heldPl HA13.out HY13.out | with_reducible exact heldPl HA14.out HY14.out)
        (first
          | (go_at_call 20; refine (toP_any A1 n1 c1 z1 A2 n2 c2 z2 A3 n3 c3 z3 A4 n4 c4 z4 W12.drew hpD m1 m2 m3 m4).mono ?_; rintro e W13 ⟨o1, o2, o3, o4, rfl, hp13, hb13⟩; have HA13 := hid (HA12.out.drew.below hb13); have HY13 := hid (HY12.out.drew.below hb13 HY12.out.lt); have HP13 := hid ((HP12.out.below (Below.refl _ W12).drew).to hb13 hb13.size); have HO13 := hid hp13; clear hb13 hp13)
          | (go_at_call 23; refine (eqP_any (some ⟨a1, 0, none⟩) n1 n1 z1 (some ⟨a2, 0, none⟩) n2 n2 z2 (some ⟨a3, 0, none⟩) n3 n3 z3 (some ⟨a4, 0, none⟩) n4 n4 z4 (some ⟨o1, 0, none⟩) n1 (some ⟨o2, 0, none⟩) n2 (some ⟨o3, 0, none⟩) n3 (some ⟨o4, 0, none⟩) n4 W13 HP13.out HO13.out m1 m2 m3 m4).mono ?_; rintro e W14 ⟨rfl, hb14⟩; have HA14 := hid (HA13.out.below hb14); have HY14 := hid (HY13.out.below hb14 HY13.out.lt); clear hb14))
      clear HA12 HA13 HY12 HY13 HY14 HP12 HP13 HO13 hpD
      go_wp2_with fail
      go_ret
      exact ⟨rfl, HA14.out.2.2⟩
end Go.Proofs.Ytmpgefpaoogoiaa
