/- The walk of the law of a right plan; its draw is a premise. -/
import Derived.Test.YtghjeaffnocihaaPlanX
import Derived.Test.YtghjeaffnocihaaPlU
namespace Go.Proofs.Ytghjeaffnocihaa
open Go.RowKit Go.Deep
set_option linter.unusedVariables false
set_option linter.unusedSimpArgs false

/-- A drawn ensemble and a drawn plan. -/
def DrawnPk (w : World) (e : Ending) (w' : World) : Prop :=
  ∃ (f b : Int) (k : Nat) (A' : Option Addr) (c : Nat) (len : Nat → Nat) (g : Nat → Nat → Nd) (A1 : Option Addr) (n1 c1 : Nat) (z1 : Nat → Int) (A2 : Option Addr) (n2 c2 : Nat) (z2 : Nat → Int) (A3 : Option Addr) (n3 c3 : Nat) (z3 : Nat → Int) (A4 : Option Addr) (n4 c4 : Nat) (z4 : Nat → Int),
    k ≤ 12 ∧ (∀ i, i < k → len i ≤ 16) ∧ (n1 ≤ 20 ∧ n2 ≤ 20 ∧ n3 ≤ 20 ∧ n4 ≤ 20) ∧ e = .returned (.tuple #[enV f b A' k c, plV A1 n1 c1 A2 n2 c2 A3 n3 c3 A4 n4 c4]) ∧ RdT w' w'.heap.size A' k len g ∧ RdP w' w'.heap.size A1 n1 z1 A2 n2 z2 A3 n3 z3 A4 n4 z4 ∧ Below w.heap.size w w'

set_option maxRecDepth 100000 in
set_option maxHeartbeats 8000000 in
theorem lawPlanRight (hD : ∀ (A : Option Addr) (n cap : Nat) (w : World), Bs w w.heap.size A n → n ≤ 4194304 → Calls Try.prog 18 #[.slice A n cap] w (DrawnPk w)) (A : Option Addr) (n cap : Nat) (w : World) (h : Bs w w.heap.size A n) :
    Calls Try.prog 3 #[.slice A n cap] w fun e w' => e = .returned (.bool true) ∧ Below w.heap.size w w' := by
  by_cases hbig : (1048576 : Int) < (n : Int)
  · go_enter Try.func3, Try.ntmps3
    go_wp2_with fail
    refine (big_yes A n cap _ hbig).mono ?_
    rintro e w1 ⟨rfl, rfl⟩
    go_wp2_with fail
    go_ret
    exact ⟨rfl, Below.refl _ _⟩
  · have hn : n ≤ 4194304 := by omega
    go_enter Try.func3, Try.ntmps3
    go_wp2_with fail
    refine (big_no A n cap _ (by omega)).mono ?_
    rintro e w0 ⟨rfl, rfl⟩
    go_wp2_with fail
    refine (hD A n cap _ h hn).mono ?_
    clear hD
    rintro e w1 ⟨f, b, k, A', c, len, g, A1, n1, c1, z1, A2, n2, c2, z2, A3, n3, c3, z3, A4, n4, c4, z4, hk, hl, ⟨m1, m2, m3, m4⟩, rfl, hr1, hp1, hb1⟩
    have hl' : Hid (∀ i, i < k → len i ≤ 4194304) := fun i hi => by have := hl i hi; omega
    have hk' : k ≤ 4194304 := by omega
    have hx : Below w1.heap.size w1 ((w1.alloc (.cells #[.int .i64 f, .int .i64 b, .slice A' k c] 26)).alloc (.cells #[.slice A1 n1 c1, .slice A2 n2 c2, .slice A3 n3 c3, .slice A4 n4 c4] 29)) := ((Below.refl _ w1).alloc (Nat.le_refl _) _).alloc (by simp) _
    have hE2 : ES w w1.heap.size #[.int .i64 f, .int .i64 b, .slice A' k c] A' k len g ((w1.alloc (.cells #[.int .i64 f, .int .i64 b, .slice A' k c] 26)).alloc (.cells #[.slice A1 n1 c1, .slice A2 n2 c2, .slice A3 n3 c3, .slice A4 n4 c4] 29)) := ⟨(Blk.new w1 _ _).alloc _, hr1.to hx hx.size, hb1.trans (hx.mono hb1.size)⟩
    have hP2 : PS (w1.heap.size + 1) #[.slice A1 n1 c1, .slice A2 n2 c2, .slice A3 n3 c3, .slice A4 n4 c4] A1 n1 z1 A2 n2 z2 A3 n3 z3 A4 n4 z4 ((w1.alloc (.cells #[.int .i64 f, .int .i64 b, .slice A' k c] 26)).alloc (.cells #[.slice A1 n1 c1, .slice A2 n2 c2, .slice A3 n3 c3, .slice A4 n4 c4] 29)) := ⟨Blk.new2 w1 _ _ _, hp1.to hx hx.size⟩
    clear hl hx hr1 hp1 hb1
    obtain ⟨e0, e1, e2⟩ := hE2.cells
    obtain ⟨u0, u1, u2, u3⟩ := hP2.cells
    obtain ⟨R, hR⟩ : ∃ R, planB f b k len g n1 z1 n2 z2 n3 z3 n4 z4 = R := ⟨_, rfl⟩
    have HR := hid hR
    clear hR
    go_wp2_with fail
    obtain ⟨W2, hW2⟩ : ∃ W, ((w1.alloc (.cells #[.int .i64 f, .int .i64 b, .slice A' k c] 26)).alloc (.cells #[.slice A1 n1 c1, .slice A2 n2 c2, .slice A3 n3 c3, .slice A4 n4 c4] 29)) = W := ⟨_, rfl⟩
    rw [hW2] at hE2 hP2 e0 e1 e2 u0 u1 u2 u3 ⊢
    clear hW2
    obtain ⟨sP, hsP⟩ : ∃ s, w1.heap.size + 1 = s := ⟨_, rfl⟩
    rw [hsP] at hP2 u0 u1 u2 u3
    try rw [hsP]
    clear hsP
    obtain ⟨sE, hsE⟩ : ∃ s, w1.heap.size = s := ⟨_, rfl⟩
    rw [hsE] at hE2 e0 e1 e2
    try rw [hsE]
    clear hsE
    refine (iPlanOk_any f b A' k c len g A1 n1 c1 z1 A2 n2 c2 z2 A3 n3 c3 z3 A4 n4 c4 z4 W2 hE2.rd hP2.rd hk' hl' (by omega) (by omega) (by omega) (by omega)).mono ?_
    rintro e W3 ⟨rfl, hb3⟩
    rw [HR.out]
    have E3 := hid (hE2.below hb3)
    have P3 := hid (hP2.below hb3)
    clear hE2 hP2 hb3 e0 e1 e2 u0 u1 u2 u3
    obtain ⟨e0, e1, e2⟩ := E3.out.cells
    obtain ⟨u0, u1, u2, u3⟩ := P3.out.cells
    go_wp2_with fail
    refine (sPlanOk_any f b A' k c len g A1 n1 c1 z1 A2 n2 c2 z2 A3 n3 c3 z3 A4 n4 c4 z4 W3 E3.out.rd P3.out.rd hk' hl' (by omega) (by omega) (by omega) (by omega)).mono ?_
    rintro e W4 ⟨rfl, hb4⟩
    rw [HR.out]
    have E4 := hid (E3.out.below hb4)
    have P4 := hid (P3.out.below hb4)
    clear E3 P3 hb4 e0 e1 e2 u0 u1 u2 u3
    obtain ⟨e0, e1, e2⟩ := E4.out.cells
    obtain ⟨u0, u1, u2, u3⟩ := P4.out.cells
    cases R with
    | false =>
      go_wp2_with fail
      refine (sPlanOk_any f b A' k c len g A1 n1 c1 z1 A2 n2 c2 z2 A3 n3 c3 z3 A4 n4 c4 z4 W4 E4.out.rd P4.out.rd hk' hl' (by omega) (by omega) (by omega) (by omega)).mono ?_
      rintro e W5 ⟨rfl, hb5⟩
      rw [HR.out]
      have E5 := hid (E4.out.below hb5)
      clear E4 P4 hb5 e0 e1 e2 u0 u1 u2 u3
      go_wp2_with fail
      go_ret
      exact ⟨rfl, E5.out.2.2⟩
    | true =>
      obtain ⟨hEn, g1, g3, g4, hst, hz3, hz4, hs3, hs4, hbd⟩ := planB_says HR.out
      obtain ⟨_, ⟨qb1, qb2⟩, _, hT⟩ := ensB_iff.1 hEn
      have HT6 : Hid (∀ i, i < k → treeB (g i) (len i) 6 = true) := fun i hi => tree_moreO (hT i hi) (by have := (ensB_iff.1 hEn).1; omega) (by omega)
      have HEN := hid hEn
      have G1 := hid g1
      have G3 := hid g3
      have G4 := hid g4
      have HST := hid hst
      have Z3 := hid hz3
      have Z4 := hid hz4
      have S3 := hid hs3
      have S4 := hid hs4
      have HBD := hid hbd
      clear hEn g1 g3 g4 hst hz3 hz4 hs3 hs4 hbd hT HR
      clear u0 u1 u2 u3
      go_wp2_with fail
      clear e0 e1 e2
      go_loopw [7] (fun i wr => ∃ j : Nat, j ≤ k ∧ i = .int .i64 j ∧ Hid (ES w sE #[.int .i64 f, .int .i64 b, .slice A' k c] A' k len g wr) ∧ Hid (PS sP #[.slice A1 n1 c1, .slice A2 n2 c2, .slice A3 n3 c3, .slice A4 n4 c4] A1 n1 z1 A2 n2 z2 A3 n3 z3 A4 n4 z4 wr)) (fun i _ => k - (intOf i).toNat)
      case atStart => exact ⟨0, Nat.zero_le _, rfl, E4, P4⟩
      case round =>
        obtain ⟨j, hj, rfl, HE, HP⟩ := hrel
        clear E4 P4
        by_cases hlt : j < k
        · obtain ⟨x, hx, hzx, hlo, hhi⟩ := HST.out j hlt
          obtain ⟨⟨b1, b2⟩, b3, b4⟩ := HBD.out j (by omega)
          obtain ⟨⟨d1, d2⟩, d3, d4⟩ := HBD.out (j + 1) (by omega)
          have j1 : j < n1 := by have := G1.out; omega
          have j3 : j < n3 := by have := G3.out; omega
          have s3 : j + 1 < n3 := by have := G3.out; omega
          have j4 : j < n4 := by have := G4.out; omega
          have s4 : j + 1 < n4 := by have := G4.out; omega
          have hr := hid HE.out.rd
          have hTx := hid (HT6.out x hx)
          have hlx := hl'.out x hx
          obtain ⟨tb, off, Ax, cx, hA, htb, htc, hrx⟩ := HE.out.drew.rd.at_ hx
          obtain ⟨bo, oo, hA1, hbo, hoc⟩ := HP.out.drew.rd.o.at_ j1
          rw [hzx] at hoc
          obtain ⟨v, hv⟩ : ∃ v, wr.drew = v := ⟨_, rfl⟩
          have E5 := hid HE.out.drew
          have P5 := hid HP.out.drew
          obtain ⟨e0, e1, e2⟩ := E5.out.cells
          obtain ⟨u0, u1, u2, u3⟩ := P5.out.cells
          rw [hA] at e2
          rw [hA1] at u0
          have i1 : (j : Int) < (k : Int) := by omega
          have i2 : (0 : Int) ≤ (j : Int) := by omega
          have i3 : (j : Int) < (n1 : Int) := by omega
          have x1 : (x : Int) < (k : Int) := by omega
          have x2 : (0 : Int) ≤ (x : Int) := by omega
          have hcR := iRange_yes Ax (len x) cx (g x) wr.drew hrx hlx hTx.out
          obtain ⟨lo, hlo'⟩ : ∃ y, loTo (g x) (len x) = y := ⟨_, rfl⟩
          obtain ⟨hi, hhi'⟩ : ∃ y, hiTo (g x) (len x) = y := ⟨_, rfl⟩
          rw [hlo'] at hlo hcR
          rw [hhi'] at hhi hcR
          have hw3 : IntKind.i64.wrap (z3 (j + 1) + lo) = z3 j := by rw [hlo]; exact IntWalk.i64_in _ (by omega)
          have hw4 : IntKind.i64.wrap (z4 (j + 1) + hi) = z4 j := by rw [hhi]; exact IntWalk.i64_in _ (by omega)
          have HCR := hid hcR
          clear hlo' hhi' hlo hhi hzx b1 b2 b3 b4 d1 d2 d3 d4 hv hcR
          clear e0 e1 u1 u2 u3
          obtain ⟨e0, e1, f2⟩ := HE.out.cells
          obtain ⟨w0', _, _, _⟩ := HP.out.cells
          rw [hA] at f2
          rw [hA1] at w0'
          clear e0 e1 hA hA1
          go_wp2_with fail
          go_region_held3 (fun w' => w'.cell? ⟨sE, 2, none⟩ = some (.slice (some ⟨tb, off, none⟩) k c) ∧ w'.cell? ⟨sP, 0, none⟩ = some (.slice (some ⟨bo, oo, none⟩) n1 c1) ∧ w'.cell? ⟨bo, oo + j, none⟩ = some (.int .i64 x) ∧ w'.cell? ⟨tb, off + x, none⟩ = some (.slice Ax (len x) cx))
            (first | with_reducible exact ⟨e2, u0, hoc, htc⟩ | with_reducible exact ⟨r2, r0, roc, rtc⟩)
            (first
              | (go_at_call 21; refine HCR.out.mono ?_; rintro e w8 ⟨rfl, hb8⟩; have E8 := hid (E5.out.below hb8); have P8 := hid (P5.out.below hb8); have r2 : w8.cell? ⟨sE, 2, none⟩ = some (.slice (some ⟨tb, off, none⟩) k c) := (hb8.cell (p := ⟨sE, 2, none⟩) E5.out.1.lt).trans e2; have r0 : w8.cell? ⟨sP, 0, none⟩ = some (.slice (some ⟨bo, oo, none⟩) n1 c1) := (hb8.cell (p := ⟨sP, 0, none⟩) P5.out.1.lt).trans u0; have roc : w8.cell? ⟨bo, oo + j, none⟩ = some (.int .i64 x) := (hb8.cell (p := ⟨bo, oo + j, none⟩) hbo).trans hoc; have rtc : w8.cell? ⟨tb, off + x, none⟩ = some (.slice Ax (len x) cx) := (hb8.cell (p := ⟨tb, off + x, none⟩) htb).trans htc))
          clear e2 u0 hoc htc f2 w0' r2 r0 roc rtc HCR E5 P5
          obtain ⟨t3, o3, hA3, ht3, hc3⟩ := P8.out.rd.m.at_ j3
          obtain ⟨t3', o3', hA3', ht3', hc3'⟩ := P8.out.rd.m.at_ s3
          obtain ⟨t4, o4, hA4, ht4, hc4⟩ := P8.out.rd.x.at_ j4
          obtain ⟨t4', o4', hA4', ht4', hc4'⟩ := P8.out.rd.x.at_ s4
          rw [hA3] at hA3'
          injection hA3' with hA3'
          injection hA3' with q1 q2
          subst q1 q2
          rw [hA4] at hA4'
          injection hA4' with hA4'
          injection hA4' with q1 q2
          subst q1 q2
          obtain ⟨u0, u1, u2, u3⟩ := P8.out.cells
          rw [hA3] at u2
          rw [hA4] at u3
          clear u0 u1
          obtain ⟨s, hs⟩ : ∃ s, j + 1 = s := ⟨_, rfl⟩
          have k1 : (j : Int) + 1 = (s : Int) := by omega
          have kw : IntKind.i64.wrap (s : Int) = (s : Int) := IntWalk.i64_in _ (by omega)
          have k3 : (s : Int) < (n3 : Int) := by omega
          have k4 : (s : Int) < (n4 : Int) := by omega
          have k0 : (0 : Int) ≤ (s : Int) := by omega
          have l3 : (j : Int) < (n3 : Int) := by omega
          have l4 : (j : Int) < (n4 : Int) := by omega
          rw [hs] at hw3 hw4 hc3' hc4'
          obtain ⟨a3, ha3⟩ : ∃ y, z3 j = y := ⟨_, rfl⟩
          obtain ⟨a4, ha4⟩ : ∃ y, z4 j = y := ⟨_, rfl⟩
          obtain ⟨y3, hy3⟩ : ∃ y, z3 s = y := ⟨_, rfl⟩
          obtain ⟨y4, hy4⟩ : ∃ y, z4 s = y := ⟨_, rfl⟩
          rw [ha3] at hw3 hc3
          rw [ha4] at hw4 hc4
          rw [hy3] at hw3 hc3'
          rw [hy4] at hw4 hc4'
          have e3 : (a3 != a3) = false := by simp
          have e4 : (a4 != a4) = false := by simp
          clear ha3 ha4 hy3 hy4 ht3 ht3' ht4 ht4' htb hbo hA3 hA4 hrx hr
          have HS := hid hs
          clear hs
          go_wp2_with fail
          go_quiet (fail)
          go_wp2_with fail
          go_roundw
          case rel => exact ⟨j + 1, by omega, by go_num, hid (E8.out.below (below_drewN (Below.refl _ _) nq)), hid (P8.out.below (below_drewN (Below.refl _ _) nq))⟩
          case measure => simp [intOf]; omega
        · obtain rfl : j = k := by omega
          have hlj : ¬ (j : Int) < (j : Int) := by omega
          obtain ⟨e0, e1, e2⟩ := HE.out.cells
          go_wp2_with fail
          refine (iSpan_yes f b A' j c len g wr HE.out.rd hk' hl' HEN.out).mono ?_
          rintro e w8 ⟨rfl, hb8⟩
          rw [← S3.out, ← S4.out]
          have E8 := hid (HE.out.below hb8)
          have P8 := hid (HP.out.below hb8)
          clear e0 e1 e2 HE HP hb8
          obtain ⟨⟨b1, b2⟩, b3, b4⟩ := HBD.out 0 (by omega)
          have j3 : j < n3 := by have := G3.out; omega
          have j4 : j < n4 := by have := G4.out; omega
          obtain ⟨t3, o3, hA3, ht3, hc3⟩ := P8.out.rd.m.at_ j3
          obtain ⟨t3', o3', hA3', ht3', hc3'⟩ := P8.out.rd.m.at_ (show 0 < n3 by omega)
          obtain ⟨t4, o4, hA4, ht4, hc4⟩ := P8.out.rd.x.at_ j4
          obtain ⟨t4', o4', hA4', ht4', hc4'⟩ := P8.out.rd.x.at_ (show 0 < n4 by omega)
          rw [hA3] at hA3'
          injection hA3' with hA3'
          injection hA3' with q1 q2
          subst q1 q2
          rw [hA4] at hA4'
          injection hA4' with hA4'
          injection hA4' with q1 q2
          subst q1 q2
          obtain ⟨e0, e1, e2⟩ := E8.out.cells
          obtain ⟨u0, u1, u2, u3⟩ := P8.out.cells
          rw [hA3] at u2
          rw [hA4] at u3
          rw [Z3.out] at hc3
          rw [Z4.out] at hc4
          obtain ⟨y3, hy3⟩ : ∃ y, z3 0 = y := ⟨_, rfl⟩
          obtain ⟨y4, hy4⟩ : ∃ y, z4 0 = y := ⟨_, rfl⟩
          rw [hy3] at hc3' b1 b2
          rw [hy4] at hc4' b3 b4
          rw [hy3, hy4]
          obtain ⟨v3, hv3⟩ : ∃ y, b + y3 = y := ⟨_, rfl⟩
          obtain ⟨v4, hv4⟩ : ∃ y, b + y4 = y := ⟨_, rfl⟩
          have kw3 : IntKind.i64.wrap (b + y3) = v3 := (IntWalk.i64_in _ (by omega)).trans hv3
          have kw4 : IntKind.i64.wrap (b + y4) = v4 := (IntWalk.i64_in _ (by omega)).trans hv4
          rw [hv3, hv4]
          have l3 : (j : Int) < (n3 : Int) := by omega
          have l4 : (j : Int) < (n4 : Int) := by omega
          have i2 : (0 : Int) ≤ (j : Int) := by omega
          have l30 : (0 : Int) < (n3 : Int) := by omega
          have l40 : (0 : Int) < (n4 : Int) := by omega
          have l30n : 0 < n3 := by omega
          have l40n : 0 < n4 := by omega
          have hc30 : w8.cell? ⟨t3, o3, none⟩ = some (.int .i64 y3) := hc3'
          have hc40 : w8.cell? ⟨t4, o4, none⟩ = some (.int .i64 y4) := hc4'
          clear hv3 hv4 hy3 hy4 b1 b2 b3 b4 ht3 ht3' ht4 ht4' hA3 hA4 e0 e2 u0 u1
          go_wp2_with fail
          go_quiet (fail)
          go_wp2_with fail
          go_ret
          exact ⟨rfl, (E8.out.below (below_drewN (Below.refl _ _) nq)).2.2⟩
end Go.Proofs.Ytghjeaffnocihaa
