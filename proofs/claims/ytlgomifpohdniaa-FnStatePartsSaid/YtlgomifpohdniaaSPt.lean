/- The walk of the law of what a state gains by a tree. -/
import Derived.Test.YtlgomifpohdniaaThr
namespace Go.Proofs.Ytlgomifpohdniaa
open Go.RowKit Go.Deep
set_option linter.unusedVariables false
set_option linter.unusedSimpArgs false

set_option maxRecDepth 100000 in
set_option maxHeartbeats 8000000 in
theorem lawParts (A : Option Addr) (n cap : Nat) (w : World) (h : Bs w w.heap.size A n) :
    Calls Try.prog 7 #[.slice A n cap] w fun e w' => e = .returned (.bool true) ∧ Below w.heap.size w w' := by
  go_enter Try.func7, Try.ntmps7
  go_wp2_with fail
  by_cases hbig : (1048576 : Int) < (n : Int)
  · refine (big_yes A n cap w hbig).mono ?_
    rintro e w' ⟨rfl, rfl⟩
    go_wp2_with fail
    go_ret
    exact ⟨rfl, Below.refl _ _⟩
  refine (big_no A n cap w hbig).mono ?_
  rintro e w' ⟨rfl, rfl⟩
  go_wp2_with fail
  with_reducible refine Calls.mono (drawStateTo A n cap w h (by omega)) ?_
  rintro e w1 ⟨f, b, k, A', c, len, g, A1, n1, c1, A2, n2, c2, A3, n3, c3, A4, n4, c4, m, z, D, dc, at_, hk, hl, ⟨m1, m2, m3, m4⟩, hm, rfl, hr, hp, hd, hb1⟩
  have hQ : ∀ x, w.heap.size ≤ x ∧ x < w1.heap.size → x < w1.heap.size := fun x q => q.2
  obtain ⟨z1, r1⟩ := hp.1.rd hQ
  obtain ⟨z2, r2⟩ := hp.2.1.rd hQ
  obtain ⟨z3, r3⟩ := hp.2.2.1.rd hQ
  obtain ⟨z4, r4⟩ := hp.2.2.2.rd hQ
  have hrT := hr.rdT hQ
  have hdd : Rd w1 w1.heap.size D m z := fun h0 => by
    obtain ⟨q, rfl, _, hw⟩ := hd h0
    exact (hw.rd hw.lt) h0
  have hbx := ((Below.refl w1.heap.size w1).alloc (Nat.le_refl _) (.cells #[.int .i64 f, .int .i64 b, .slice A' k c] 36)).alloc (by simp) (.cells #[.slice A1 n1 c1, .slice A2 n2 c2, .slice A3 n3 c3, .slice A4 n4 c4] 38)
  have e1 : Blk ((w1.alloc (.cells #[.int .i64 f, .int .i64 b, .slice A' k c] 36)).alloc (.cells #[.slice A1 n1 c1, .slice A2 n2 c2, .slice A3 n3 c3, .slice A4 n4 c4] 38)) w1.heap.size 36 #[.int .i64 f, .int .i64 b, .slice A' k c] := (Blk.new w1 _ _).alloc _
  have e2 : Blk ((w1.alloc (.cells #[.int .i64 f, .int .i64 b, .slice A' k c] 36)).alloc (.cells #[.slice A1 n1 c1, .slice A2 n2 c2, .slice A3 n3 c3, .slice A4 n4 c4] 38)) (w1.heap.size + 1) 38 #[.slice A1 n1 c1, .slice A2 n2 c2, .slice A3 n3 c3, .slice A4 n4 c4] := Blk.new2 w1 _ _ _
  have hwb := hb1.trans (hbx.mono hb1.size)
  have hrT1 := hrT.to hbx hbx.size
  have hP1 : RdP _ _ A1 n1 z1 A2 n2 z2 A3 n3 z3 A4 n4 z4 := (⟨r1, r2, r3, r4⟩ : RdP w1 w1.heap.size A1 n1 z1 A2 n2 z2 A3 n3 z3 A4 n4 z4).to hbx hbx.size
  have hd1 := hdd.to hbx hbx.size
  clear hr hp hd r1 r2 r3 r4 hrT hdd hQ hb1 hbx
  go_wp2_with fail
  obtain ⟨W1, hW1⟩ : ∃ W, (w1.alloc (.cells #[.int .i64 f, .int .i64 b, .slice A' k c] 36)).alloc (.cells #[.slice A1 n1 c1, .slice A2 n2 c2, .slice A3 n3 c3, .slice A4 n4 c4] 38) = W := ⟨_, rfl⟩
  rw [hW1] at e1 e2 hwb hrT1 hP1 hd1 ⊢
  obtain ⟨eb, heb⟩ : ∃ eb, w1.heap.size = eb := ⟨_, rfl⟩
  rw [heb] at e1 e2
  try rw [heb]
  clear hW1 heb
  have HL := hid hl
  have hk' : k ≤ 4194304 := by omega
  have hl' : Hid (∀ i, i < k → len i ≤ 4194304) := fun i hi => Nat.le_trans (HL.out i hi) (by omega)
  have hm' : m ≤ 4194304 := by omega
  have k1 : n1 ≤ 9223372036854775807 := by omega
  have k2 : n2 ≤ 9223372036854775807 := by omega
  have k3 : n3 ≤ 9223372036854775807 := by omega
  have k4 : n4 ≤ 9223372036854775807 := by omega
  obtain ⟨V, hV⟩ : ∃ V, stOk f b k len g n1 z1 n2 z2 n3 z3 n4 z4 m z at_ = V := ⟨_, rfl⟩
  have HV := hid hV
  clear hl hV
  obtain ⟨a, s, q, hst⟩ := stb_st at_ (sumT (scO g (ordN z1) z) at_.toNat) (sumT (csF g (ordN z1) z) at_.toNat) V
  have HST := hid hst
  clear hst
  have hB0 := Below.refl W1.heap.size W1
  obtain ⟨x0, x1, x2, y0, y1, y2, y3⟩ := ob_cells hB0 e1 e2
  with_reducible refine Calls.mono (iStateTo_any f b A' k c len g A1 n1 c1 z1 A2 n2 c2 z2 A3 n3 c3 z3 A4 n4 c4 z4 D m dc z at_ V W1 (hrT1.to hB0 hB0.size) (hP1.to hB0 hB0.size) (hd1.to hB0 hB0.size) hk' hl' k1 k2 k3 k4 hm' HV) ?_
  rintro e w2 ⟨rfl, hb2⟩
  rw [HST.out]
  have s2 := Blk.new w2 31 #[.int .i64 a, .int .i64 s, .int .i64 q]
  have hB2 := hb2.alloc hb2.size (.cells #[.int .i64 a, .int .i64 s, .int .i64 q] 31)
  clear hb2 x0 x1 x2 y0 y1 y2 y3
  obtain ⟨x0, x1, x2, y0, y1, y2, y3⟩ := ob_cells hB2 e1 e2
  go_wp2_with fail
  obtain ⟨W2, hW2⟩ : ∃ W, w2.alloc (.cells #[.int .i64 a, .int .i64 s, .int .i64 q] 31) = W := ⟨_, rfl⟩
  rw [hW2] at s2 hB2 x0 x1 x2 y0 y1 y2 y3 ⊢
  obtain ⟨sx, hsx⟩ : ∃ x, w2.heap.size = x := ⟨_, rfl⟩
  rw [hsx] at s2
  try rw [hsx]
  clear hW2 hsx
  with_reducible refine Calls.mono (sStateTo_any f b A' k c len g A1 n1 c1 z1 A2 n2 c2 z2 A3 n3 c3 z3 A4 n4 c4 z4 D m dc z at_ V W2 (hrT1.to hB2 hB2.size) (hP1.to hB2 hB2.size) (hd1.to hB2 hB2.size) hk' hl' k1 k2 k3 k4 hm' HV) ?_
  rintro e w3 ⟨rfl, hb3⟩
  rw [HST.out]
  have s3 := (s2.below hb3 s2.lt).alloc (.cells #[.int .i64 a, .int .i64 s, .int .i64 q] 31)
  have s3' := Blk.new w3 31 #[.int .i64 a, .int .i64 s, .int .i64 q]
  have hB3 := (hB2.trans (hb3.mono hB2.size)).alloc (by have := hb3.size; have := hB2.size; omega) (.cells #[.int .i64 a, .int .i64 s, .int .i64 q] 31)
  clear hb3 s2 hB2 x0 x1 x2 y0 y1 y2 y3
  obtain ⟨u0, u1, u2⟩ := blk_three s3
  obtain ⟨v0, v1, v2⟩ := blk_three s3'
  obtain ⟨x0, x1, x2, y0, y1, y2, y3⟩ := ob_cells hB3 e1 e2
  have q2 : (V != V) = false := by simp
  have q4 : (V == V) = true := by simp
  have he := fun wx => eqSt a s q wx
  cases V with
  | false =>
    have HB3 := hid hB3
    clear hB3 s3 s3' HV HST
    go_wp2_with fail
    go_ret
    exact ⟨rfl, hwb.trans (HB3.out.mono hwb.size)⟩
  | true =>
    have hVt := HV.out
    unfold stOk at hVt
    rw [Bool.and_eq_true, Bool.and_eq_true, Bool.and_eq_true, decide_eq_true_eq, decide_eq_true_eq] at hVt
    obtain ⟨⟨hpl, hfi⟩, ha0, ha1⟩ := hVt
    obtain ⟨x, rfl⟩ : ∃ x : Nat, at_ = (x : Int) := ⟨at_.toNat, by omega⟩
    by_cases hxk : x = k
    · have d1 : (((x : Nat) : Int) == (k : Int)) = true := by simp [hxk]
      have HB3 := hid hB3
      clear hB3 s3 s3' HV HST hpl hfi hxk ha0 ha1
      go_wp2_with fail
      go_ret
      exact ⟨rfl, hwb.trans (HB3.out.mono hwb.size)⟩
    have d1 : (((x : Nat) : Int) == (k : Int)) = false := by
      have : ¬ ((x : Nat) : Int) = (k : Int) := by omega
      simpa using this
    have hxk' : x < k := by omega
    have hV' : Hid (stOk f b k len g n1 z1 n2 z2 n3 z3 n4 z4 m z (((x : Nat) : Int) + 1) = true) := by
      show stOk _ _ _ _ _ _ _ _ _ _ _ _ _ _ _ _ = true
      unfold stOk
      rw [hpl, hfi, decide_eq_true (by omega : (0 : Int) ≤ (((x : Nat) : Int) + 1)), decide_eq_true (by omega : (((x : Nat) : Int) + 1) ≤ (k : Int))]
      rfl
    have hEn := (planB_says hpl).1
    have hn1e := (planB_says hpl).2.1
    have hord : ordO z1 k k = true := by have := hpl; unfold planB at this; simp only [Bool.and_eq_true] at this; exact this.2.1.2
    obtain ⟨hf6, hbias, hn12, hT⟩ := ensB_iff.1 hEn
    have hq6 : (m : Int) = f ∧ docB m z = true := by unfold fitB at hfi; simpa using hfi
    have ho1 : ordN z1 x < k := ordN_lt hord x hxk'
    have hoz : z1 x = ((ordN z1 x : Nat) : Int) := by
      have := (ordO_iff.1 hord x hxk').1
      unfold ordN
      omega
    have hTr : treeB (g (ordN z1 x)) (len (ordN z1 x)) m = true := by rw [hq6.1]; exact hT _ ho1
    have hTree := (treeB_iff _ _ _).1 hTr
    have hlk := hTree.2.1
    obtain ⟨hE, hSl⟩ := spl_tree z hTr
    have hv := lvv_is hE (by omega)
    obtain ⟨_, hia⟩ := itr_up z hTree.up (by omega) _ hE.1
    have hsq : seqZ (g (ordN z1 x)) z (spl (g (ordN z1 x)) z) = ((itr (g (ordN z1 x)) z (spl (g (ordN z1 x)) z) : Nat) : Int) := rfl
    obtain ⟨tb, to_, Ai, ci, hA', htb, hc, hrd⟩ := hrT1.at_ ho1
    obtain ⟨ob, oo, hA1, hob, hoc⟩ := hP1.o.at_ (show x < n1 by omega)
    obtain ⟨b', off', e1', hb', d0', d1', d2', d3', d4', d5'⟩ := hrd.at_ hia
    rw [hoz] at hoc
    rw [← hv] at d5'
    have hos : ∀ j, j < n1 → ordN z1 j < k := fun j hj => ordN_lt hord j (by omega)
    have B1 := sumT_bound (p := scO g (ordN z1) z) (n := n1) (fun i hi => lvv_bound z (show treeB (g (ordN z1 i)) (len (ordN z1 i)) m = true by rw [hq6.1]; exact hT _ (hos i hi))) x (by omega)
    have B2 := csF_bound (g := g) (o := ordN z1) (z := z) (n := n1) (fun i hi => by
      have hh : treeB (g (ordN z1 i)) (len (ordN z1 i)) m = true := by rw [hq6.1]; exact hT _ (hos i hi)
      have := (spl_tree z hh).2
      have := ((treeB_iff _ _ _).1 hh).2.1
      omega) x (by omega)
    have B3' := lvv_bound z hTr
    have s1 : sumT (scO g (ordN z1) z) (x + 1) = sumT (scO g (ordN z1) z) x + lvv (g (ordN z1 x)) z := rfl
    have s2 : sumT (csF g (ordN z1) z) (x + 1) = sumT (csF g (ordN z1) z) x + ((spl (g (ordN z1 x)) z : Nat) : Int) := rfl
    have hst := HST.out
    have hst' : stV ((x : Nat) : Int) (sumT (scO g (ordN z1) z) x) (sumT (csF g (ordN z1) z) x) = stV a s q := hst
    injection hst' with hst'
    injection hst' with hst'
    simp only [List.cons.injEq, Value.int.injEq, true_and, and_true] at hst'
    obtain ⟨ea, es, eq⟩ := hst'
    have hni := iStateTo_any f b A' k c len g A1 n1 c1 z1 A2 n2 c2 z2 A3 n3 c3 z3 A4 n4 c4 z4 D m dc z (((x : Nat) : Int) + 1) true
    have hans : stAns true (((x : Nat) : Int) + 1) (sumT (scO g (ordN z1) z) (((x : Nat) : Int) + 1).toNat) (sumT (csF g (ordN z1) z) (((x : Nat) : Int) + 1).toNat) = stV (((x : Nat) : Int) + 1) (sumT (scO g (ordN z1) z) x + lvv (g (ordN z1 x)) z) (sumT (csF g (ordN z1) z) x + ((spl (g (ordN z1 x)) z : Nat) : Int)) := rfl
    rw [hans] at hni
    have HE := hid hE
    have HTR := hid hTr
    have HDOC := hid hq6.2
    have hmx : k ≤ 12 := hn12
    obtain ⟨M0, hM0⟩ : ∃ o, ordN z1 x = o := ⟨_, rfl⟩
    rw [hM0] at ho1 hlk hSl hia hsq hc hrd hoc d5' hni B3' HE HTR
    generalize hTe : spl (g M0) z = Tn at hSl hia hsq d5' hni HE
    generalize hAt : itr (g M0) z Tn = an at hia hsq d5'
    generalize hVt2 : lvv (g M0) z = v at B3' d5' hni
    generalize hXt : sumT (scO g (ordN z1) z) x = X at B1 hni es
    generalize hYt : sumT (csF g (ordN z1) z) x = Y at B2 hni eq
    subst ea es eq
    have HNI := hid hni
    have HHS := hid hsq
    have hxn : x < n1 := by omega
    have hsq2 := hsq
    clear hni hans hst s1 s2 hEn hn1e hord hT hE hTr hTree hv hos hTe hAt hVt2 hXt hYt hsq hpl hfi HV hq6 hM0 hoz hf6 hbias d0' d1' d2' d3' d4'
    have w1x : IntKind.i64.wrap (((x : Nat) : Int) + 1) = ((x : Nat) : Int) + 1 := IntWalk.i64_in _ (by omega)
    subst hA' hA1 e1'
    clear hSl
    go_wp2_with fail
    obtain ⟨W3, hW3⟩ : ∃ W, w3.alloc (.cells #[.int .i64 ((x : Nat) : Int), .int .i64 X, .int .i64 Y] 31) = W := ⟨_, rfl⟩
    rw [hW3] at s3 s3' hB3 ⊢
    clear hW3 u0 u1 u2 v0 v1 v2 x0 x1 x2 y0 y1 y2 y3 he q2 q4 d1 s3'
    with_reducible refine Calls.mono (HNI.out W3 (hrT1.to hB3 hB3.size) (hP1.to hB3 hB3.size) (hd1.to hB3 hB3.size) hk' hl' k1 k2 k3 k4 hm' hV') ?_
    rintro e w5 ⟨rfl, hb5⟩
    have s5 := (s3.below hb5 s3.lt).alloc (.cells #[.int .i64 (((x : Nat) : Int) + 1), .int .i64 (X + v), .int .i64 (Y + ((Tn : Nat) : Int))] 31)
    have t5 := Blk.new w5 31 #[.int .i64 (((x : Nat) : Int) + 1), .int .i64 (X + v), .int .i64 (Y + ((Tn : Nat) : Int))]
    have hB5 := (hB3.trans (hb5.mono hB3.size)).alloc (by have := hb5.size; have := hB3.size; omega) (.cells #[.int .i64 (((x : Nat) : Int) + 1), .int .i64 (X + v), .int .i64 (Y + ((Tn : Nat) : Int))] 31)
    clear hb5 s3 hB3 HNI hV' w1x HHS
    go_wp2_with fail
    obtain ⟨W5, hW5⟩ : ∃ W, w5.alloc (.cells #[.int .i64 (((x : Nat) : Int) + 1), .int .i64 (X + v), .int .i64 (Y + ((Tn : Nat) : Int))] 31) = W := ⟨_, rfl⟩
    rw [hW5] at s5 t5 hB5 ⊢
    obtain ⟨nx, hnx⟩ : ∃ x, w5.heap.size = x := ⟨_, rfl⟩
    rw [hnx] at t5
    try rw [hnx]
    clear hW5 hnx
    obtain ⟨x0, x1, x2, y0, y1, y2, y3⟩ := ob_cells hB5 e1 e2
    have i1 : ((x : Nat) : Int) < (n1 : Int) := by omega
    have i2 : (0 : Int) ≤ ((x : Nat) : Int) := by omega
    have i3 : (M0 : Int) < (k : Int) := by omega
    have i4 : (0 : Int) ≤ (M0 : Int) := by omega
    have hcT : W5.cell? ⟨tb, to_ + M0, none⟩ = some (.slice (some ⟨b', off', none⟩) (len M0) ci) := (hB5.cell (p := ⟨tb, to_ + M0, none⟩) htb).trans hc
    have hcO : W5.cell? ⟨ob, oo + x, none⟩ = some (.int .i64 ((M0 : Nat) : Int)) := (hB5.cell (p := ⟨ob, oo + x, none⟩) hob).trans hoc
    go_region
    have hB6 := hB5.drew
    have s6 : Blk W5.drew sx 31 _ := s5
    have t6 : Blk W5.drew nx 31 _ := t5
    clear hB5 s5 t5 x0 x1 x2 y0 y1 y2 y3 hcT hcO
    obtain ⟨W6, hW6⟩ : ∃ W, W5.drew = W := ⟨_, rfl⟩
    rw [hW6] at hB6 s6 t6 ⊢
    clear hW6
    go_wp2_with fail
    with_reducible refine Calls.mono (iPath_yes (some ⟨b', off', none⟩) D (len M0) ci m dc (g M0) z W6 (hrd.to hB6 hB6.size) (hd1.to hB6 hB6.size) (Nat.le_trans hlk.2 (by omega)) HDOC.out HTR.out) ?_
    rintro e w7 ⟨T', pb, pc, hE', hT15, rfl, hpl, hrow, hb7⟩
    obtain rfl := HE.out.same hE'
    have hpc := hrow.cell (show Tn < Tn + 1 by omega)
    rw [show seqZ (g M0) z Tn = ((an : Nat) : Int) from hsq2] at hpc
    have hB7 := hB6.trans (hb7.mono hB6.size)
    have s7 := s6.below hb7 s6.lt
    have t7 := t6.below hb7 t6.lt
    have hv7 : w7.cell? ⟨b', off' + an * 6 + 5, none⟩ = some (.int .i64 v) := (hB7.cell (p := ⟨b', off' + an * 6 + 5, none⟩) hb').trans d5'
    clear hE' hrow hb7 hB6 s6 t6 HE HTR HDOC hrd
    obtain ⟨M, hM⟩ : ∃ M, Tn + 1 = M := ⟨_, rfl⟩
    rw [hM]
    have hM15 : M ≤ 16 := by omega
    have hMT : (M : Int) - 1 = (Tn : Int) := by omega
    have hM0 : ((M : Int) == 0) = false := by
      have : ¬ (M : Int) = 0 := by omega
      simpa using this
    have w2 : IntKind.i64.wrap ((M : Int) - 1) = (Tn : Int) := by rw [hMT]; exact IntWalk.i64_in _ (by omega)
    have w4 : IntKind.i64.wrap (X + v) = X + v := IntWalk.i64_in _ (by omega)
    have w5' : IntKind.i64.wrap (Y + (M : Int)) = Y + (M : Int) := IntWalk.i64_in _ (by omega)
    have w6' : IntKind.i64.wrap (Y + (M : Int) - 1) = Y + (M : Int) - 1 := IntWalk.i64_in _ (by omega)
    have j1 : (Tn : Int) < (M : Int) := by omega
    have j2 : (0 : Int) ≤ (Tn : Int) := by omega
    have j3 : (an : Int) < (len M0 : Int) := by omega
    have j4 : (0 : Int) ≤ (an : Int) := by omega
    have q5 : (X + v == X + v) = true := by simp
    have q6 : (Y + (Tn : Int) == Y + (M : Int) - 1) = true := by
      have : Y + (Tn : Int) = Y + (M : Int) - 1 := by omega
      simpa using this
    have HB7 := hid (hwb.trans (hB7.mono hwb.size))
    obtain ⟨u0, u1, u2⟩ := blk_three s7
    obtain ⟨v0, v1, v2⟩ := blk_three t7
    clear hM hMT hB7 s7 t7 hpl hT15 B1 B2 B3' hlk hia
    go_wp2_with fail
    go_quiet (fail)
    go_wp2_with fail
    go_ret
    exact ⟨rfl, below_drewN HB7.out _⟩
end Go.Proofs.Ytlgomifpohdniaa
