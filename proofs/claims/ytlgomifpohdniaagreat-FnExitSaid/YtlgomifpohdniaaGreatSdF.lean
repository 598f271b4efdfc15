/- What is drawn for Classify. -/
import Derived.Test.YtlgomifpohdniaaGreatSdA
import Derived.Test.YtlgomifpohdniaaGreatK9
namespace Go.Proofs.YtlgomifpohdniaaGreat
open Go.RowKit Go.Deep
set_option linter.unusedVariables false
set_option linter.unusedSimpArgs false

set_option maxHeartbeats 2000000 in
theorem near_wide (R n cap : Nat) (A : Option Addr) (lo hi : Int) (w : World) (h : Rs w R A n cap) (h1 : -200000000000 ≤ lo) (h2 : hi ≤ 200000000000) :
    Calls Tryz.prog 71 #[.pointer (some ⟨R, 0, none⟩), .int .i64 lo, .int .i64 hi] w fun e w' =>
      ∃ x : Int, e = .returned (.int .i64 x) ∧ Rs w' R A n cap ∧ w.grownBy w' (some R) := by
  go_enter Tryz.func71, Tryz.ntmps71
  go_wp2_with fail
  refine (below_draw R n cap A 8 _ h (by omega) (by omega)).mono ?_
  rintro e w1 ⟨k, rfl, hk0, hk1, hR1, hg1⟩
  by_cases hk : k = 0
  · subst hk
    go_wp2_with fail
    go_ret
    exact ⟨lo, rfl, hR1, hg1⟩
  by_cases hk' : k = 1
  · subst hk'
    go_wp2_with fail
    go_ret
    exact ⟨hi, rfl, hR1, hg1⟩
  by_cases hlt : hi < lo
  · go_wp2_with fail
    go_ret
    exact ⟨lo, rfl, hR1, hg1⟩
  · go_wp2_with fail
    refine (word_draw R n cap A _ hR1).mono ?_
    rintro e w2 ⟨x, rfl, hx0, hx1, hR2, hg2⟩
    have i1 : (0 : Int) < hi - lo + 1 := by omega
    go_wp2_with fail
    go_ret
    exact ⟨_, rfl, hR2, grown_trans hg1 hg2⟩

set_option maxHeartbeats 2000000 in
theorem off_wide (R n cap : Nat) (A : Option Addr) (lo hi : Int) (w : World) (h : Rs w R A n cap) (h1 : -200000000000 ≤ lo) (h2 : hi ≤ 200000000000) (h3 : lo ≤ 200000000000) (h4 : -200000000000 ≤ hi) :
    Calls Tryz.prog 33 #[.pointer (some ⟨R, 0, none⟩), .int .i64 lo, .int .i64 hi] w fun e w' =>
      ∃ x : Int, e = .returned (.int .i64 x) ∧ Rs w' R A n cap ∧ w.grownBy w' (some R) := by
  go_enter Tryz.func33, Tryz.ntmps33
  go_wp2_with fail
  refine (once_draw R n cap A 24 _ h (by omega) (by omega)).mono ?_
  rintro e w1 ⟨q, rfl, hR1, hg1⟩
  cases q
  · go_wp2_with fail
    refine (near_wide R n cap A lo hi _ hR1 h1 h2).mono ?_
    rintro e w2 ⟨x, rfl, hR2, hg2⟩
    go_wp2_with fail
    go_ret
    exact ⟨x, rfl, hR2, grown_trans hg1 hg2⟩
  · have hRlt := hR1.lt
    go_wp2_with fail
    refine (below_draw R n cap A 4 _ (hR1.alloc _) (by omega) (by omega)).mono ?_
    rintro e w2 ⟨k, rfl, hk0, hk1, hR2, hg2⟩
    have hB := Blk.grown (Blk.new w1 _ _) hg2 (by simp; omega)
    have c0 := hB.cell 0; have c1 := hB.cell 1; have c2 := hB.cell 2; have c3 := hB.cell 3
    simp at c0 c1 c2 c3
    have hgg := grown_trans hg1 (grown_trans (World.grownBy_alloc w1 _ (some R)) hg2)
    have hGG := hid hgg
    clear hB hg2 hgg
    obtain rfl | rfl | rfl | rfl : k = 0 ∨ k = 1 ∨ k = 2 ∨ k = 3 := by omega
    all_goals
      go_wp2_with fail
      go_ret
      exact ⟨_, rfl, hR2, hGG.out⟩


set_option maxRecDepth 100000 in
set_option maxHeartbeats 8000000 in
theorem drawClassify (A : Option Addr) (n cap : Nat) (w : World) (h : Bs w w.heap.size A n) (hn : n ≤ 4194304) :
    Calls Tryz.prog 16 #[.slice A n cap] w (DrawnS w) := by
  have hbz := ((Below.refl w.heap.size w).alloc (Nat.le_refl _) (.cells #[.int .i64 0, .int .i64 0, .slice none 0 0] 26)).alloc (by simp) (.cells #[.slice none 0 0, .slice none 0 0, .slice none 0 0, .slice none 0 0] 29)
  have z1 : Blk ((w.alloc (.cells #[.int .i64 0, .int .i64 0, .slice none 0 0] 26)).alloc (.cells #[.slice none 0 0, .slice none 0 0, .slice none 0 0, .slice none 0 0] 29)) w.heap.size 26 #[.int .i64 0, .int .i64 0, .slice none 0 0] := (Blk.new w _ _).alloc _
  have z2 : Blk ((w.alloc (.cells #[.int .i64 0, .int .i64 0, .slice none 0 0] 26)).alloc (.cells #[.slice none 0 0, .slice none 0 0, .slice none 0 0, .slice none 0 0] 29)) (w.heap.size + 1) 29 #[.slice none 0 0, .slice none 0 0, .slice none 0 0, .slice none 0 0] := Blk.new2 w _ _ _
  have hs0 : ((w.alloc (.cells #[.int .i64 0, .int .i64 0, .slice none 0 0] 26)).alloc (.cells #[.slice none 0 0, .slice none 0 0, .slice none 0 0, .slice none 0 0] 29)).heap.size = w.heap.size + 2 := by simp
  go_enter Tryz.func16, Tryz.ntmps16
  go_wp2_with fail
  obtain ⟨W0, hW0⟩ : ∃ W, (w.alloc (.cells #[.int .i64 0, .int .i64 0, .slice none 0 0] 26)).alloc (.cells #[.slice none 0 0, .slice none 0 0, .slice none 0 0, .slice none 0 0] 29) = W := ⟨_, rfl⟩
  rw [hW0] at hbz z1 z2 hs0 ⊢
  clear hW0
  refine (open_draw A n cap W0 (Bs.more (Bs.keep h fun _ hp => hbz.cell hp) hbz.size) hn).mono ?_
  rintro e w1 ⟨rfl, hR1, hb1⟩
  have hB1 : Below w.heap.size w w1 := hbz.trans (hb1.mono hbz.size)
  have y1 := z1.below hb1 z1.lt
  have y2 := z2.below hb1 z2.lt
  rw [hs0] at hR1
  rw [hs0]
  generalize hRR : w.heap.size + 2 = R at *
  clear hb1 hbz z1 z2 hs0
  have hRw := hR1.lt
  go_wp2_with fail
  with_reducible refine Calls.mono (drawStateTo A n cap w1 (Bs.more (Bs.keep h fun _ hp => hB1.cell hp) hB1.size) hn) ?_
  rintro e w2 ⟨f, b, k, A', c, len, g, A1, n1, c1, A2, n2, c2, A3, n3, c3, A4, n4, c4, m, z, D, dc, at_, hk, hl, ⟨m1, m2, m3, m4⟩, hm, rfl, hr, hp, hd, hb2⟩
  have HLEN := hid hl
  have hB2 := hB1.trans (hb2.mono hB1.size)
  have hR2 := hR1.below hb2
  have x1 := y1.below hb2 y1.lt
  have x2 := y2.below hb2 y2.lt
  have hs12 := hb2.size
  clear hb2 hR1 hB1 y1 y2 hl
  have hbx : Below w2.heap.size w2 ((w2.alloc (.cells #[.int .i64 f, .int .i64 b, .slice A' k c] 26)).alloc (.cells #[.slice A1 n1 c1, .slice A2 n2 c2, .slice A3 n3 c3, .slice A4 n4 c4] 29)) := ((Below.refl _ w2).alloc (Nat.le_refl _) _).alloc (by simp) _
  have e1 : Blk ((w2.alloc (.cells #[.int .i64 f, .int .i64 b, .slice A' k c] 26)).alloc (.cells #[.slice A1 n1 c1, .slice A2 n2 c2, .slice A3 n3 c3, .slice A4 n4 c4] 29)) w2.heap.size 26 #[.int .i64 f, .int .i64 b, .slice A' k c] := (Blk.new w2 _ _).alloc _
  have e2 : Blk ((w2.alloc (.cells #[.int .i64 f, .int .i64 b, .slice A' k c] 26)).alloc (.cells #[.slice A1 n1 c1, .slice A2 n2 c2, .slice A3 n3 c3, .slice A4 n4 c4] 29)) (w2.heap.size + 1) 29 #[.slice A1 n1 c1, .slice A2 n2 c2, .slice A3 n3 c3, .slice A4 n4 c4] := Blk.new2 w2 _ _ _
  have hsx : ((w2.alloc (.cells #[.int .i64 f, .int .i64 b, .slice A' k c] 26)).alloc (.cells #[.slice A1 n1 c1, .slice A2 n2 c2, .slice A3 n3 c3, .slice A4 n4 c4] 29)).heap.size = w2.heap.size + 2 := by simp
  go_wp2_with fail
  obtain ⟨W3, hW3⟩ : ∃ W, (w2.alloc (.cells #[.int .i64 f, .int .i64 b, .slice A' k c] 26)).alloc (.cells #[.slice A1 n1 c1, .slice A2 n2 c2, .slice A3 n3 c3, .slice A4 n4 c4] 29) = W := ⟨_, rfl⟩
  rw [hW3] at hbx e1 e2 hsx ⊢
  clear hW3
  obtain ⟨eb, heb⟩ : ∃ eb, w2.heap.size = eb := ⟨_, rfl⟩
  rw [heb] at e1 e2 hsx
  try rw [heb]
  obtain ⟨pb, hpb⟩ : ∃ pb, eb + 1 = pb := ⟨_, rfl⟩
  have hQ : ∀ x, w1.heap.size ≤ x ∧ x < w2.heap.size → R < x ∧ x < eb + 2 := fun x q => by omega
  have hD3 : SD w R n cap A (eb + 2) eb (eb + 1) f b A' k c len g A1 n1 c1 A2 n2 c2 A3 n3 c3 A4 n4 c4 W3 :=
    ⟨hR2.below hbx, ⟨e1, e2⟩, ⟨by omega, by omega, by omega, by omega, by omega, by omega⟩, hB2.trans (hbx.mono hB2.size), hr.keep (fun x q => hbx.block x q.2) hQ, (hp.1.keep fun x q => hbx.block x q.2).more hQ, (hp.2.1.keep fun x q => hbx.block x q.2).more hQ, (hp.2.2.1.keep fun x q => hbx.block x q.2).more hQ, (hp.2.2.2.keep fun x q => hbx.block x q.2).more hQ⟩
  have hZ3 : Blk W3 w.heap.size 26 #[.int .i64 0, .int .i64 0, .slice none 0 0] ∧ Blk W3 (w.heap.size + 1) 29 #[.slice none 0 0, .slice none 0 0, .slice none 0 0, .slice none 0 0] := ⟨x1.below hbx x1.lt, x2.below hbx x2.lt⟩
  have hDo3 : 0 < m → ∃ q, D = some ⟨q, 0, none⟩ ∧ R < q ∧ Row W3 2 q m z := fun h0 => by
    obtain ⟨q, e, hq, hw⟩ := hd h0
    exact ⟨q, e, by omega, hw.below hbx hw.lt⟩
  have hr3 : RdT W3 W3.heap.size A' k len g := (hD3.2.2.2.2.1).rdT fun x q => by omega
  have hd3 : Rd W3 W3.heap.size D m z := fun h0 => by
    obtain ⟨q, rfl, hq, hw⟩ := hDo3 h0
    exact (hw.rd hw.lt) h0
  clear hbx e1 e2 hQ x1 x2 hR2 hB2 hr hp hd heb
  rw [hpb] at hD3
  try rw [hpb]
  obtain ⟨M, hM⟩ : ∃ M, eb + 2 = M := ⟨_, rfl⟩
  rw [hM] at hD3 hsx
  have hMs : M ≤ W3.heap.size := Nat.le_of_eq hsx.symm
  have hwR : w.heap.size < R := by omega
  have hwR2 : w.heap.size + 1 < R := by omega
  clear hpb hM hsx hRR hRw hs12
  obtain ⟨c0, c1', c2', p0, p1, p2, p3⟩ := hD3.cells
  have HD3 := hid hD3
  have HZ3 := hid hZ3
  have HDo3 := hid hDo3
  clear hD3 hZ3 hDo3
  go_wp2_with fail
  with_reducible refine Calls.mono (sFull_any f b A' k c len g D m dc z W3 hr3 hd3 (Nat.le_trans hk (by omega)) (hid fun i hi => Nat.le_trans (HLEN.out i hi) (by omega)) (Nat.le_trans hm (by omega))) ?_
  rintro e w4 ⟨rfl, hb4⟩
  obtain ⟨N, hN⟩ : ∃ N, fullN f b k len g m z = N := ⟨_, rfl⟩
  obtain ⟨Y, hY⟩ : ∃ Y, fullB f b k len g m z = Y := ⟨_, rfl⟩
  rw [hN, hY]
  clear hN hY
  have hD4 := HD3.out.keep (HD3.out.rs.below hb4) (hb4.mono (by have := HD3.out.2.2.2.1.size; omega)) (fun x q1 q2 => hb4.block x (by omega))
  have hZ4 := zz_below HZ3.out (hb4.mono (show R ≤ W3.heap.size by have := HD3.out.rs.lt; omega)) hwR2
  have hDo4 : 0 < m → ∃ q, D = some ⟨q, 0, none⟩ ∧ R < q ∧ Row w4 2 q m z := fun h0 => by
    obtain ⟨q, e, hq, hw⟩ := HDo3.out h0
    exact ⟨q, e, hq, hw.below hb4 hw.lt⟩
  clear hr3 hd3 HD3 HZ3 HDo3 hb4 c0 c1' c2' p0 p1 p2 p3 hMs
  go_wp2_with fail
  refine (below_draw R n cap A 4 _ hD4.rs (by omega) (by omega)).mono ?_
  rintro e w5 ⟨y, rfl, hy0, hy1, hR5, hg5⟩
  have hD5 := hD4.next hR5 hg5
  have hZ5 := zz_next hZ4 hg5 hwR2
  have hDo5 := doc_next hDo4 hg5
  have D0 := hid hD5.drew
  have Z0 : Hid (Blk w5.drew w.heap.size 26 #[.int .i64 0, .int .i64 0, .slice none 0 0] ∧ Blk w5.drew (w.heap.size + 1) 29 #[.slice none 0 0, .slice none 0 0, .slice none 0 0, .slice none 0 0]) := hZ5
  have HD0 : Hid (0 < m → ∃ q, D = some ⟨q, 0, none⟩ ∧ R < q ∧ Row w5.drew 2 q m z) := hDo5
  have S0 := hid D0.out.cells
  clear hD4 hZ4 hDo4 hD5 hZ5 hDo5 hR5 hg5
  by_cases q0 : y = 0
  · have d1 : (y == 0) = true := by simpa using q0
    clear q0 hy0 hy1
    go_wp2_with fail
    go_region_held3 (fun w' => w'.cell? ⟨eb, 0, none⟩ = some (.int .i64 f) ∧ w'.cell? ⟨eb, 1, none⟩ = some (.int .i64 b) ∧ w'.cell? ⟨eb, 2, none⟩ = some (.slice A' k c) ∧ w'.cell? ⟨pb, 0, none⟩ = some (.slice A1 n1 c1) ∧ w'.cell? ⟨pb, 1, none⟩ = some (.slice A2 n2 c2) ∧ w'.cell? ⟨pb, 2, none⟩ = some (.slice A3 n3 c3) ∧ w'.cell? ⟨pb, 3, none⟩ = some (.slice A4 n4 c4))
      ((refine Hid.out ?_; with_reducible assumption))
      (first | (go_at_call 27; (with_reducible refine Calls.mono (below_draw R n cap A 200 w5.drew D0.out.rs (of_decide_eq_true rfl) (of_decide_eq_true rfl)) ?_); rintro e wA ⟨u, rfl, hu0, hu1, hRA, hgA⟩; have dA := D0.out.next hRA hgA; have SA := hid dA.cells; have zA := zz_next Z0.out hgA hwR2; have HDA := hid (doc_next HD0.out hgA); obtain ⟨t0, t1, t2, f0, f1, f2⟩ := blk_cells3 zA.1; obtain ⟨⟨t3, t4, t5, t6⟩, f3, f4, f5, f6⟩ := blk_cells4 zA.2; have SA3 := hid (dA.far (Y := (((wA.setCell ⟨w.heap.size, 0, none⟩ (.int .i64 f)).setCell ⟨w.heap.size, 1, none⟩ (.int .i64 b)).setCell ⟨w.heap.size, 2, none⟩ (.slice A' k c))) (far3 R w.heap.size hwR wA _ _ _)); have SA7 := hid (dA.far (Y := (((((((wA.setCell ⟨w.heap.size, 0, none⟩ (.int .i64 f)).setCell ⟨w.heap.size, 1, none⟩ (.int .i64 b)).setCell ⟨w.heap.size, 2, none⟩ (.slice A' k c)).setCell ⟨w.heap.size + 1, 0, none⟩ (.slice A1 n1 c1)).setCell ⟨w.heap.size + 1, 1, none⟩ (.slice A2 n2 c2)).setCell ⟨w.heap.size + 1, 2, none⟩ (.slice A3 n3 c3)).setCell ⟨w.heap.size + 1, 3, none⟩ (.slice A4 n4 c4))) (far7 R w.heap.size hwR2 wA _ _ _ _ _ _ _)); have ZA := hid zA; have DA := hid dA; clear dA zA hRA hgA))
    all_goals
      have hE := sd_end DA.out ZA.out HDA.out
      clear S0 SA SA3 SA7 D0 DA Z0 ZA HD0 HDA t0 t1 t2 t3 t4 t5 t6 f0 f1 f2 f3 f4 f5 f6
      obtain ⟨X, hX⟩ : ∃ X, (((((((wA.setCell ⟨w.heap.size, 0, none⟩ (.int .i64 f)).setCell ⟨w.heap.size, 1, none⟩ (.int .i64 b)).setCell ⟨w.heap.size, 2, none⟩ (.slice A' k c)).setCell ⟨w.heap.size + 1, 0, none⟩ (.slice A1 n1 c1)).setCell ⟨w.heap.size + 1, 1, none⟩ (.slice A2 n2 c2)).setCell ⟨w.heap.size + 1, 2, none⟩ (.slice A3 n3 c3)).setCell ⟨w.heap.size + 1, 3, none⟩ (.slice A4 n4 c4)) = X := ⟨_, rfl⟩
      rw [hX] at hE ⊢
      clear hX
      obtain ⟨⟨hE1, hE2⟩, hE3, hE4, hE5, hE6⟩ := hE
      go_wp2_with fail
      (try simp only [Exit.inBlock, Exit.then])
      refine bodyPost_ret (results_ept rfl _ _ w.heap.size (w.heap.size + 1) 26 29 #[.int .i64 f, .int .i64 b, .slice A' k c] #[.slice A1 n1 c1, .slice A2 n2 c2, .slice A3 n3 c3, .slice A4 n4 c4] (0, 0) (0, 0) _ _ rfl hE1 rfl hE2 Tryz.underlying26 rfl size_ens Tryz.underlying29 rfl size_plan) rfl ?_
      exact ⟨f, b, k, A', c, len, g, A1, n1, c1, A2, n2, c2, A3, n3, c3, A4, n4, c4, m, z, D, dc, _, hk, HLEN.out, ⟨m1, m2, m3, m4⟩, hm, rfl, hE3, hE4, hE5, hE6⟩
  have d1 : (y == 0) = false := by simpa using q0
  by_cases q1 : y = 1
  · have d2 : (y == 1) = true := by simpa using q1
    clear q0 q1 hy0 hy1
    have b0 : (-200000000000 : Int) ≤ -100000000000 := by omega
    have b1 : (100000000000 : Int) ≤ 200000000000 := by omega
    have b2 : (-100000000000 : Int) ≤ 200000000000 := by omega
    have b3 : (-200000000000 : Int) ≤ 100000000000 := by omega
    go_wp2_with fail
    go_region_held3 (fun w' => w'.cell? ⟨eb, 0, none⟩ = some (.int .i64 f) ∧ w'.cell? ⟨eb, 1, none⟩ = some (.int .i64 b) ∧ w'.cell? ⟨eb, 2, none⟩ = some (.slice A' k c) ∧ w'.cell? ⟨pb, 0, none⟩ = some (.slice A1 n1 c1) ∧ w'.cell? ⟨pb, 1, none⟩ = some (.slice A2 n2 c2) ∧ w'.cell? ⟨pb, 2, none⟩ = some (.slice A3 n3 c3) ∧ w'.cell? ⟨pb, 3, none⟩ = some (.slice A4 n4 c4))
      ((refine Hid.out ?_; with_reducible assumption))
      (first | (go_at_call 33; (with_reducible refine Calls.mono (off_wide R n cap A (-100000000000) 100000000000 w5.drew D0.out.rs b0 b1 b2 b3) ?_); rintro e wA ⟨u, rfl, hRA, hgA⟩; have dA := D0.out.next hRA hgA; have SA := hid dA.cells; have zA := zz_next Z0.out hgA hwR2; have HDA := hid (doc_next HD0.out hgA); obtain ⟨t0, t1, t2, f0, f1, f2⟩ := blk_cells3 zA.1; obtain ⟨⟨t3, t4, t5, t6⟩, f3, f4, f5, f6⟩ := blk_cells4 zA.2; have SA3 := hid (dA.far (Y := (((wA.setCell ⟨w.heap.size, 0, none⟩ (.int .i64 f)).setCell ⟨w.heap.size, 1, none⟩ (.int .i64 b)).setCell ⟨w.heap.size, 2, none⟩ (.slice A' k c))) (far3 R w.heap.size hwR wA _ _ _)); have SA7 := hid (dA.far (Y := (((((((wA.setCell ⟨w.heap.size, 0, none⟩ (.int .i64 f)).setCell ⟨w.heap.size, 1, none⟩ (.int .i64 b)).setCell ⟨w.heap.size, 2, none⟩ (.slice A' k c)).setCell ⟨w.heap.size + 1, 0, none⟩ (.slice A1 n1 c1)).setCell ⟨w.heap.size + 1, 1, none⟩ (.slice A2 n2 c2)).setCell ⟨w.heap.size + 1, 2, none⟩ (.slice A3 n3 c3)).setCell ⟨w.heap.size + 1, 3, none⟩ (.slice A4 n4 c4))) (far7 R w.heap.size hwR2 wA _ _ _ _ _ _ _)); have ZA := hid zA; have DA := hid dA; clear dA zA hRA hgA))
    all_goals
      have hE := sd_end DA.out ZA.out HDA.out
      clear S0 SA SA3 SA7 D0 DA Z0 ZA HD0 HDA t0 t1 t2 t3 t4 t5 t6 f0 f1 f2 f3 f4 f5 f6
      obtain ⟨X, hX⟩ : ∃ X, (((((((wA.setCell ⟨w.heap.size, 0, none⟩ (.int .i64 f)).setCell ⟨w.heap.size, 1, none⟩ (.int .i64 b)).setCell ⟨w.heap.size, 2, none⟩ (.slice A' k c)).setCell ⟨w.heap.size + 1, 0, none⟩ (.slice A1 n1 c1)).setCell ⟨w.heap.size + 1, 1, none⟩ (.slice A2 n2 c2)).setCell ⟨w.heap.size + 1, 2, none⟩ (.slice A3 n3 c3)).setCell ⟨w.heap.size + 1, 3, none⟩ (.slice A4 n4 c4)) = X := ⟨_, rfl⟩
      rw [hX] at hE ⊢
      clear hX
      obtain ⟨⟨hE1, hE2⟩, hE3, hE4, hE5, hE6⟩ := hE
      go_wp2_with fail
      (try simp only [Exit.inBlock, Exit.then])
      refine bodyPost_ret (results_ept rfl _ _ w.heap.size (w.heap.size + 1) 26 29 #[.int .i64 f, .int .i64 b, .slice A' k c] #[.slice A1 n1 c1, .slice A2 n2 c2, .slice A3 n3 c3, .slice A4 n4 c4] (0, 0) (0, 0) _ _ rfl hE1 rfl hE2 Tryz.underlying26 rfl size_ens Tryz.underlying29 rfl size_plan) rfl ?_
      exact ⟨f, b, k, A', c, len, g, A1, n1, c1, A2, n2, c2, A3, n3, c3, A4, n4, c4, m, z, D, dc, _, hk, HLEN.out, ⟨m1, m2, m3, m4⟩, hm, rfl, hE3, hE4, hE5, hE6⟩
  have d2 : (y == 1) = false := by simpa using q1
  clear q0 q1 hy0 hy1
  go_wp2_with fail
  go_region_held3 (fun w' => w'.cell? ⟨eb, 0, none⟩ = some (.int .i64 f) ∧ w'.cell? ⟨eb, 1, none⟩ = some (.int .i64 b) ∧ w'.cell? ⟨eb, 2, none⟩ = some (.slice A' k c) ∧ w'.cell? ⟨pb, 0, none⟩ = some (.slice A1 n1 c1) ∧ w'.cell? ⟨pb, 1, none⟩ = some (.slice A2 n2 c2) ∧ w'.cell? ⟨pb, 2, none⟩ = some (.slice A3 n3 c3) ∧ w'.cell? ⟨pb, 3, none⟩ = some (.slice A4 n4 c4))
    ((refine Hid.out ?_; with_reducible assumption))
    (first | (go_at_call 27; (with_reducible refine Calls.mono (below_draw R n cap A 5 w5.drew D0.out.rs (of_decide_eq_true rfl) (of_decide_eq_true rfl)) ?_); rintro e wA ⟨u, rfl, hu0, hu1, hRA, hgA⟩; have dA := D0.out.next hRA hgA; have SA := hid dA.cells; have zA := zz_next Z0.out hgA hwR2; have HDA := hid (doc_next HD0.out hgA); obtain ⟨t0, t1, t2, f0, f1, f2⟩ := blk_cells3 zA.1; obtain ⟨⟨t3, t4, t5, t6⟩, f3, f4, f5, f6⟩ := blk_cells4 zA.2; have SA3 := hid (dA.far (Y := (((wA.setCell ⟨w.heap.size, 0, none⟩ (.int .i64 f)).setCell ⟨w.heap.size, 1, none⟩ (.int .i64 b)).setCell ⟨w.heap.size, 2, none⟩ (.slice A' k c))) (far3 R w.heap.size hwR wA _ _ _)); have SA7 := hid (dA.far (Y := (((((((wA.setCell ⟨w.heap.size, 0, none⟩ (.int .i64 f)).setCell ⟨w.heap.size, 1, none⟩ (.int .i64 b)).setCell ⟨w.heap.size, 2, none⟩ (.slice A' k c)).setCell ⟨w.heap.size + 1, 0, none⟩ (.slice A1 n1 c1)).setCell ⟨w.heap.size + 1, 1, none⟩ (.slice A2 n2 c2)).setCell ⟨w.heap.size + 1, 2, none⟩ (.slice A3 n3 c3)).setCell ⟨w.heap.size + 1, 3, none⟩ (.slice A4 n4 c4))) (far7 R w.heap.size hwR2 wA _ _ _ _ _ _ _)); have ZA := hid zA; have DA := hid dA; clear dA zA hRA hgA))
  all_goals
    have hE := sd_end DA.out ZA.out HDA.out
    clear S0 SA SA3 SA7 D0 DA Z0 ZA HD0 HDA t0 t1 t2 t3 t4 t5 t6 f0 f1 f2 f3 f4 f5 f6
    obtain ⟨X, hX⟩ : ∃ X, (((((((wA.setCell ⟨w.heap.size, 0, none⟩ (.int .i64 f)).setCell ⟨w.heap.size, 1, none⟩ (.int .i64 b)).setCell ⟨w.heap.size, 2, none⟩ (.slice A' k c)).setCell ⟨w.heap.size + 1, 0, none⟩ (.slice A1 n1 c1)).setCell ⟨w.heap.size + 1, 1, none⟩ (.slice A2 n2 c2)).setCell ⟨w.heap.size + 1, 2, none⟩ (.slice A3 n3 c3)).setCell ⟨w.heap.size + 1, 3, none⟩ (.slice A4 n4 c4)) = X := ⟨_, rfl⟩
    rw [hX] at hE ⊢
    clear hX
    obtain ⟨⟨hE1, hE2⟩, hE3, hE4, hE5, hE6⟩ := hE
    go_wp2_with fail
    (try simp only [Exit.inBlock, Exit.then])
    refine bodyPost_ret (results_ept rfl _ _ w.heap.size (w.heap.size + 1) 26 29 #[.int .i64 f, .int .i64 b, .slice A' k c] #[.slice A1 n1 c1, .slice A2 n2 c2, .slice A3 n3 c3, .slice A4 n4 c4] (0, 0) (0, 0) _ _ rfl hE1 rfl hE2 Tryz.underlying26 rfl size_ens Tryz.underlying29 rfl size_plan) rfl ?_
    exact ⟨f, b, k, A', c, len, g, A1, n1, c1, A2, n2, c2, A3, n3, c3, A4, n4, c4, m, z, D, dc, _, hk, HLEN.out, ⟨m1, m2, m3, m4⟩, hm, rfl, hE3, hE4, hE5, hE6⟩
end Go.Proofs.YtlgomifpohdniaaGreat
