/- The walk of the law of a tree that is put below a split. -/
import Derived.Test.YtmlcpjcchgihfaaUnderA
import Derived.Deep.RegionHeld3
import Derived.Deep.DeepCutAuto
namespace Go.Proofs.Ytmlcpjcchgihfaa
open Go.RowKit Go.Deep

theorem node_bounds {g : Nat → Nd} {m : Nat} {f : Int} (h : Tree g m f) (i : Nat) (hi : i < m) : (g i).left ≤ 15 ∧ (g i).right ≤ 15 ∧ (0 < (g i).left → -15 ≤ (g i).right) := by
  have hm := h.2.1
  have hN := (h.2.2 i hi).1
  by_cases h0 : (g i).left = 0
  · have := node_yes hN h0
    simp only [lfB, Bool.and_eq_true, beq_iff_eq, decide_eq_true_eq] at this
    omega
  · have := node_no hN h0
    omega
theorem byte_vals (A : Option Addr) (n cap : Nat) (w : World) (O : Obj) (h : Bs w w.heap.size A n) (hn : n ≤ 4194304) :
    ∃ bv : Nat → Int, (∀ k, 0 ≤ bv k ∧ bv k ≤ 255) ∧ ∀ k : Nat, k ≤ 1000 → ∀ w1 : World, w1 = w.drew ∨ w1 = w.drew.alloc O → Calls Try.prog 33 #[.slice A n cap, .int .i64 k] w1 fun e w' => e = .returned (.int .i64 (bv k)) ∧ w1 = w' := by
  by_cases h0 : n = 0
  · subst h0
    refine ⟨fun _ => 0, fun _ => ⟨Int.le_refl 0, by simp⟩, fun k hk w1 _ => ?_⟩
    go_enter Try.func33, Try.ntmps33
    go_wp2_with fail
    go_ret
    exact ⟨rfl, rfl⟩
  · obtain ⟨b, off, rfl, hb, hc⟩ := h (by omega)
    have hq : ∀ k : Nat, ∃ x : Int, w.cell? ⟨b, off + k % n, none⟩ = some (.int .u8 x) ∧ 0 ≤ x ∧ x ≤ 255 := fun k => hc (k % n) (Nat.mod_lt _ (by omega))
    obtain ⟨bv, hbv⟩ := Classical.axiomOfChoice hq
    refine ⟨bv, fun k => (hbv k).2, fun k hk w1 hw1 => ?_⟩
    obtain ⟨hx, hx0, hx1⟩ := hbv k
    generalize bv k = x at hx hx0 hx1 ⊢
    have hx' : w1.cell? ⟨b, off + k % n, none⟩ = some (.int .u8 x) := by
      rcases hw1 with rfl | rfl
      · exact hx
      · exact (((Below.refl w.drew.heap.size w.drew).alloc (Nat.le_refl _) O).cell (p := ⟨b, off + k % n, none⟩) hb).trans hx
    clear hx hw1
    have hlt : k % n < n := Nat.mod_lt _ (by omega)
    have i0 : ¬ (n : Int) = 0 := by omega
    have i1 : (k : Int) % (n : Int) < (n : Int) := by omega
    have i2 : 0 ≤ (k : Int) % (n : Int) := by omega
    have i3 : ((k : Int) % (n : Int)).toNat = k % n := by omega
    go_enter Try.func33, Try.ntmps33
    go_wp2_with fail
    go_ret
    exact ⟨rfl, rfl⟩

set_option maxRecDepth 100000 in
set_option maxHeartbeats 4000000 in
theorem lawUnder (A : Option Addr) (n cap : Nat) (w : World) (h : Bs w w.heap.size A n) :
    Calls Try.prog 7 #[.slice A n cap] w fun e w' => e = .returned (.bool true) ∧ Below w.heap.size w w' := by
  by_cases hbig : (1048576 : Int) < (n : Int)
  · go_enter Try.func7, Try.ntmps7
    go_wp2_with fail
    refine (big_yes A n cap _ hbig).mono ?_
    rintro e w1 ⟨rfl, rfl⟩
    go_wp2_with fail
    go_ret
    exact ⟨rfl, Below.refl _ _⟩
  · have hn : n ≤ 4194304 := by omega
    go_enter Try.func7, Try.ntmps7
    go_wp2_with fail
    refine (big_no A n cap _ (by omega)).mono ?_
    rintro e w0 ⟨rfl, rfl⟩
    go_wp2_with fail
    refine (drawPathOf A n cap _ h hn).mono ?_
    rintro e w1 ⟨m, g, b, c, f, z, D, dc, hm1, hm2, hf, rfl, hwb, hbL, hrow, hmc, hrd, hb1⟩
    have ht1 := hrow.rdN hbL
    have hm' : m ≤ 4194304 := by omega
    have hf' : f ≤ 4194304 := by omega
    have hB1 : Bs w1 w1.heap.size A n := (h.keep fun p hp => hb1.cell hp).more hb1.size
    clear hwb hbL hrow hmc
    cases hy : (docB f z && treeB g m f) with
    | false =>
      have HY := hid hy
      clear hy hB1
      go_wp2_with fail
      refine (iLeaf_no _ D m c f dc g z _ ht1 hrd hm' hf' HY.out).mono ?_
      rintro e w2 ⟨rfl, hb2⟩
      have ht2 := ht1.to hb2 hb2.size
      have hr2 := hrd.to hb2 hb2.size
      have hw2 := hb1.trans (hb2.mono hb1.size)
      clear hb2 hb1 ht1 hrd
      go_wp2_with fail
      refine (sLeaf_no _ D m c f dc g z _ ht2 hr2 hm' hf' HY.out).mono ?_
      rintro e w3 ⟨rfl, hb3⟩
      have ht3 := ht2.to hb3 hb3.size
      have hr3 := hr2.to hb3 hb3.size
      have hw3 := hw2.trans (hb3.mono hw2.size)
      clear hb3 hw2 ht2 hr2
      go_wp2_with fail
      refine (sLeaf_no _ D m c f dc g z _ ht3 hr3 hm' hf' HY.out).mono ?_
      rintro e w4 ⟨rfl, hb4⟩
      go_wp2_with fail
      go_ret
      exact ⟨rfl, hw3.trans (hb4.mono hw3.size)⟩
    | true =>
      obtain ⟨h1, h2⟩ : docB f z = true ∧ treeB g m f = true := by simpa using hy
      have H1 := hid h1
      have H2 := hid h2
      have hf1 := (docB_true h1).1
      have hf6 := (docB_true h1).2.1
      have hT := (treeB_iff g m f).1 h2
      have hm15 := hT.2.1.2
      have HU := hid hT.up
      have HT := hid hT
      clear hT h1 h2 hy
      go_wp2_with fail
      refine (iLeaf_yes _ D m c f dc g z _ ht1 hrd hm' H1.out H2.out).mono ?_
      rintro e w2 ⟨T, hE, rfl, hb2⟩
      have ht2 := ht1.to hb2 hb2.size
      have hr2 := hrd.to hb2 hb2.size
      have hw2 := hb1.trans (hb2.mono hb1.size)
      have hB2 : Bs w2 w2.heap.size A n := (hB1.keep fun _ hp => hb2.cell hp).more hb2.size
      have HE := hid hE
      have hlt0 := (itr_up z HU.out (by omega) T hE.1).2
      obtain ⟨a, ha⟩ : ∃ a : Nat, itr g z T = a := ⟨_, rfl⟩
      rw [ha] at hlt0
      have HA : Hid (seqZ g z T = (a : Int)) := by show ((itr g z T : Nat) : Int) = _; rw [ha]
      have HI := hid ha
      have ha0 : ¬ (a : Int) < 0 := by omega
      rw [HA.out]
      clear hb2 hb1 ht1 hrd hB1 hE ha
      go_wp2_with fail
      refine (sLeaf_yes _ D m c f dc g z _ ht2 hr2 hm' hf' H1.out H2.out).mono ?_
      rintro e w3 ⟨T', hE', rfl, hb3⟩
      obtain rfl := HE.out.same hE'
      rw [HA.out]
      have ht3 := ht2.to hb3 hb3.size
      have hr3 := hr2.to hb3 hb3.size
      have hw3 := hw2.trans (hb3.mono hw2.size)
      have hB3 : Bs w3 w3.heap.size A n := (hB2.keep fun _ hp => hb3.cell hp).more hb3.size
      clear hb3 hw2 ht2 hr2 hB2 hE'
      by_cases h13 : (13 : Int) < (m : Int)
      · go_wp2_with fail
        refine (sLeaf_yes _ D m c f dc g z _ ht3 hr3 hm' hf' H1.out H2.out).mono ?_
        rintro e w4 ⟨T', hE', rfl, hb4⟩
        obtain rfl := HE.out.same hE'
        rw [HA.out]
        go_wp2_with fail
        go_ret
        exact ⟨rfl, hw3.trans (hb4.mono hw3.size)⟩
      · obtain ⟨bv, hbv, hbc⟩ := byte_vals A n cap w3 (.cells #[.int .i64 0, .int .i64 0, .int .i64 0, .int .i64 0, .bool false, .int .i64 0] 33) hB3 hn
        have q3 := hbc 3 (by omega)
        have q4 := hbc 4 (by omega)
        have q5 := hbc 5 (by omega)
        have b3 := hbv 3
        have b4 := hbv 4
        have b5 := hbv 5
        generalize bv 3 = x3 at q3 b3
        generalize bv 4 = x4 at q4 b4
        generalize bv 5 = x5 at q5 b5
        clear hbv hbc
        have i0 : ¬ (f : Int) = 0 := by omega
        have i1 : ¬ f = 0 := by omega
        have i2 : ((f : Int) = 0) = False := by simp; omega
        have i3 : (f = 0) = False := by simp; omega
        obtain ⟨j, hj, e3⟩ : ∃ j : Nat, j < f ∧ x3.tmod (f : Int) = (j : Int) := ⟨(x3 % (f : Int)).toNat, by have := Int.emod_lt_of_pos x3 (show (0 : Int) < f by omega); have := Int.emod_nonneg x3 (show (f : Int) ≠ 0 by omega); omega, by rw [Int.tmod_eq_emod_of_nonneg b3.1]; have := Int.emod_nonneg x3 (show (f : Int) ≠ 0 by omega); omega⟩
        obtain ⟨q, hq, e4⟩ : ∃ q : Int, (-10 ≤ q ∧ q ≤ 9) ∧ x4.tmod 20 = q + 10 := ⟨x4 % 20 - 10, by omega, by rw [Int.tmod_eq_emod_of_nonneg b4.1]; omega⟩
        have e4' : IntKind.i64.wrap q = q := IntWalk.i64_in _ (by omega)
        obtain ⟨p, e5⟩ : ∃ p : Bool, (x5.tmod 2 == 0) = p := ⟨_, rfl⟩
        have hw3s := hw3.size
        go_wp2_with fail
        have HQ := hid hq
        have HJ := hid hj
        clear hB3 b3 b4 b5 hq hj
        go_cut [6] (fun s6 wx => ∃ g6 : Nat, s6 = .pointer (some ⟨g6, 0, none⟩) ∧ w3.heap.size ≤ g6 ∧ Blk wx g6 33 #[.int .i64 j, .int .i64 q, .int .i64 0, .int .i64 0, .bool p, .int .i64 0] ∧ Below w3.heap.size w3 wx)
        case first =>
          go_region_held3 (fun _ => True)
            (exact True.intro)
            (first
              | (go_at_call_of 33 (Value.int IntKind.i64 3); refine (q3 _ (by first | exact .inl rfl | exact .inr rfl)).mono ?_; rintro e w4 ⟨rfl, rfl⟩)
              | (go_at_call_of 33 (Value.int IntKind.i64 4); refine (q4 _ (by first | exact .inl rfl | exact .inr rfl)).mono ?_; rintro e w4 ⟨rfl, rfl⟩)
              | (go_at_call_of 33 (Value.int IntKind.i64 5); refine (q5 _ (by first | exact .inl rfl | exact .inr rfl)).mono ?_; rintro e w4 ⟨rfl, rfl⟩))
          all_goals
            go_wp2_with fail
            go_meet
            exact ⟨w3.heap.size, rfl, Nat.le_refl _, Blk.new _ _ _, below_drewN ((Below.refl w3.heap.size w3).alloc (Nat.le_refl _) (.cells #[.int .i64 j, .int .i64 q, .int .i64 0, .int .i64 0, .bool p, .int .i64 0] 33)) 1⟩
        case rest =>
          obtain ⟨g6, rfl, hg6, hblk, hbc⟩ := hcut
          clear q3 q4 q5 e3 e4 e4' e5 i2 i3
          have hq := HQ.out
          have hj := HJ.out
          have hsp : spB (f : Int) ⟨(j : Int), q, 0, 0, p, 0⟩ = true := by
            simp [spB]
            omega
          have hTu : Tree (under g m ⟨(j : Int), q, 0, 0, p, 0⟩ 77) (m + 2) f := under_tree HT.out (by omega) hsp (by omega)
          have h2u := (treeB_iff (under g m ⟨(j : Int), q, 0, 0, p, 0⟩ 77) (m + 2) f).2 hTu
          have H6u := hid (tree_more (i := 6) h2u (by omega) (by omega))
          have H6 := hid (tree_more (i := 6) H2.out (by omega) (by omega))
          have H2u := hid h2u
          have hdl := dep_lt HU.out 15 0 (by omega)
          have hdn := dep_nonneg g 15 0
          have hdu := under_deep ⟨(j : Int), q, 0, 0, p, 0⟩ 77 HU.out (by omega) (by omega)
          obtain ⟨dd, hdd⟩ : ∃ dd : Int, dep g 15 0 = dd := ⟨_, rfl⟩
          rw [hdd] at hdl hdn hdu
          have HD := hid hdd
          have HDU := hid hdu
          have HNB := hid (node_bounds HT.out)
          clear hsp hTu h2u hdd hdu hq hj
          have htc := ht3.to hbc hbc.size
          have hrc := hr3.to hbc hbc.size
          have hwc := hw3.trans (hbc.mono hw3.size)
          clear ht3 hr3 hw3 hbc
          have c0 : wc.cell? ⟨g6, 0, none⟩ = some (.int .i64 j) := hblk.cell 0
          have c1 : wc.cell? ⟨g6, 1, none⟩ = some (.int .i64 q) := hblk.cell 1
          have c2 : wc.cell? ⟨g6, 2, none⟩ = some (.int .i64 0) := hblk.cell 2
          have c3 : wc.cell? ⟨g6, 3, none⟩ = some (.int .i64 0) := hblk.cell 3
          have c4 : wc.cell? ⟨g6, 4, none⟩ = some (.bool p) := hblk.cell 4
          have c5 : wc.cell? ⟨g6, 5, none⟩ = some (.int .i64 0) := hblk.cell 5
          have hg6l := hblk.lt
          go_wp2_with fail
          refine (under_any _ m c g ⟨(j : Int), q, 0, 0, p, 0⟩ 77 _ htc (by omega) HNB).mono ?_
          rintro e w5 ⟨b5, k5, rfl, hb5, hrow5, hbu⟩
          have ht5 := htc.to hbu hbu.size
          have hr5 := hrc.to hbu hbu.size
          have hw5 := hwc.trans (hbu.mono hwc.size)
          have hblk5 := hblk.below hbu hg6l
          have htu5 := rdN_of hrow5
          clear htc hrc hwc hbu hrow5 hblk c0 c1 c2 c3 c4 c5 hb5 hg6 hg6l
          have c0 : w5.cell? ⟨g6, 0, none⟩ = some (.int .i64 j) := hblk5.cell 0
          have c1 : w5.cell? ⟨g6, 1, none⟩ = some (.int .i64 q) := hblk5.cell 1
          have c4 : w5.cell? ⟨g6, 4, none⟩ = some (.bool p) := hblk5.cell 4
          clear hblk5
          obtain ⟨b', off, rfl, hb', hc'⟩ := hr5.at_ HJ.out
          have hjl : (j : Int) < (f : Int) := by have := HJ.out; omega
          have hjf : j < f := HJ.out
          have hj0 : (0 : Int) ≤ (j : Int) := by omega
          by_cases e9 : z j = 9999999
          · rw [e9] at hc'
            cases p with
            | true =>
              have HEL := hid (under_ends_left (d := ⟨(j : Int), q, 0, 0, true, 0⟩) (v := 77) (z := z) HU.out (by omega) HE.out (by show goL ⟨(j : Int), q, 0, 0, true, 0⟩ (z j) = true; unfold goL; rw [if_pos e9]))
              have HAL : Hid (seqZ (under g m ⟨(j : Int), q, 0, 0, true, 0⟩ 77) z (T + 1) = (a : Int) + 1) := by show ((itr (under g m ⟨(j : Int), q, 0, 0, true, 0⟩ 77) z (T + 1) : Nat) : Int) = _; rw [under_itr (d := ⟨(j : Int), q, 0, 0, true, 0⟩) (v := 77) (z := z) HU.out (by omega) HE.out (by show goL ⟨(j : Int), q, 0, 0, true, 0⟩ (z j) = true; unfold goL; rw [if_pos e9]) T (Nat.le_refl _), HI.out]; rfl
              have b1 : (0 : Int) ≤ (a : Int) := by omega
              have b2 : (a : Int) ≤ 15 := by omega
              go_wp2_with fail
              refine (iLeaf_yes _ _ (m + 2) k5 f dc (under g m ⟨(j : Int), q, 0, 0, true, 0⟩ 77) z _ htu5 hr5 (by omega) H1.out H2u.out).mono ?_
              rintro e w6 ⟨T', hE', rfl, hb6⟩
              obtain rfl := HEL.out.same hE'
              rw [HAL.out]
              have htu6 := htu5.to hb6 hb6.size
              have ht6 := ht5.to hb6 hb6.size
              have hw6 := hw5.trans (hb6.mono hw5.size)
              clear htu5 ht5 hr5 hw5 hb6 hE'
              go_wp2_with fail
              refine (iTreeOk_any _ (m + 2) k5 (under g m ⟨(j : Int), q, 0, 0, true, 0⟩ 77) f _ htu6 (by omega)).mono ?_
              rintro e w7 ⟨rfl, hb7⟩
              rw [H2u.out]
              have htu7 := htu6.to hb7 hb7.size
              have ht7 := ht6.to hb7 hb7.size
              have hw7 := hw6.trans (hb7.mono hw6.size)
              clear htu6 ht6 hw6 hb7
              go_wp2_with fail
              refine (iDepth_yes _ (m + 2) k5 (under g m ⟨(j : Int), q, 0, 0, true, 0⟩ 77) _ htu7 (by omega) H6u.out).mono ?_
              rintro e w8 ⟨rfl, hb8⟩
              rw [HDU.out]
              have ht8 := ht7.to hb8 hb8.size
              have hw8 := hw7.trans (hb8.mono hw7.size)
              clear htu7 ht7 hw7 hb8
              go_wp2_with fail
              refine (iDepth_yes _ m c g _ ht8 (by omega) H6.out).mono ?_
              rintro e w9 ⟨rfl, hb9⟩
              rw [HD.out]
              go_wp2_with fail
              go_ret
              exact ⟨by simp, hw8.trans (hb9.mono hw8.size)⟩
            | false =>
              have hrt := under_ends_right (g := g) (m := m) (d := ⟨(j : Int), q, 0, 0, false, 0⟩) (v := 77) (z := z) (by show ¬ goL ⟨(j : Int), q, 0, 0, false, 0⟩ (z j) = true; unfold goL; rw [if_pos e9]; simp)
              have HEL := hid hrt.1
              have HAL : Hid (seqZ (under g m ⟨(j : Int), q, 0, 0, false, 0⟩ 77) z 1 = (m : Int) + 1) := by show ((itr (under g m ⟨(j : Int), q, 0, 0, false, 0⟩ 77) z 1 : Nat) : Int) = _; rw [hrt.2]; rfl
              clear hrt
              have b1 : (0 : Int) ≤ (a : Int) := by omega
              have b2 : (a : Int) ≤ 15 := by omega
              go_wp2_with fail
              refine (iLeaf_yes _ _ (m + 2) k5 f dc (under g m ⟨(j : Int), q, 0, 0, false, 0⟩ 77) z _ htu5 hr5 (by omega) H1.out H2u.out).mono ?_
              rintro e w6 ⟨T', hE', rfl, hb6⟩
              obtain rfl := HEL.out.same hE'
              rw [HAL.out]
              have htu6 := htu5.to hb6 hb6.size
              have ht6 := ht5.to hb6 hb6.size
              have hw6 := hw5.trans (hb6.mono hw5.size)
              clear htu5 ht5 hr5 hw5 hb6 hE'
              go_wp2_with fail
              refine (iTreeOk_any _ (m + 2) k5 (under g m ⟨(j : Int), q, 0, 0, false, 0⟩ 77) f _ htu6 (by omega)).mono ?_
              rintro e w7 ⟨rfl, hb7⟩
              rw [H2u.out]
              have htu7 := htu6.to hb7 hb7.size
              have ht7 := ht6.to hb7 hb7.size
              have hw7 := hw6.trans (hb7.mono hw6.size)
              clear htu6 ht6 hw6 hb7
              go_wp2_with fail
              refine (iDepth_yes _ (m + 2) k5 (under g m ⟨(j : Int), q, 0, 0, false, 0⟩ 77) _ htu7 (by omega) H6u.out).mono ?_
              rintro e w8 ⟨rfl, hb8⟩
              rw [HDU.out]
              have ht8 := ht7.to hb8 hb8.size
              have hw8 := hw7.trans (hb8.mono hw7.size)
              clear htu7 ht7 hw7 hb8
              go_wp2_with fail
              refine (iDepth_yes _ m c g _ ht8 (by omega) H6.out).mono ?_
              rintro e w9 ⟨rfl, hb9⟩
              rw [HD.out]
              go_wp2_with fail
              go_ret
              exact ⟨by simp, hw8.trans (hb9.mono hw8.size)⟩
          · by_cases eq : z j ≤ q
            · have HEL := hid (under_ends_left (d := ⟨(j : Int), q, 0, 0, p, 0⟩) (v := 77) (z := z) HU.out (by omega) HE.out (by show goL ⟨(j : Int), q, 0, 0, p, 0⟩ (z j) = true; unfold goL; rw [if_neg e9]; simpa using eq))
              have HAL : Hid (seqZ (under g m ⟨(j : Int), q, 0, 0, p, 0⟩ 77) z (T + 1) = (a : Int) + 1) := by show ((itr (under g m ⟨(j : Int), q, 0, 0, p, 0⟩ 77) z (T + 1) : Nat) : Int) = _; rw [under_itr (d := ⟨(j : Int), q, 0, 0, p, 0⟩) (v := 77) (z := z) HU.out (by omega) HE.out (by show goL ⟨(j : Int), q, 0, 0, p, 0⟩ (z j) = true; unfold goL; rw [if_neg e9]; simpa using eq) T (Nat.le_refl _), HI.out]; rfl
              have b1 : (0 : Int) ≤ (a : Int) := by omega
              have b2 : (a : Int) ≤ 15 := by omega
              go_wp2_with fail
              refine (iLeaf_yes _ _ (m + 2) k5 f dc (under g m ⟨(j : Int), q, 0, 0, p, 0⟩ 77) z _ htu5 hr5 (by omega) H1.out H2u.out).mono ?_
              rintro e w6 ⟨T', hE', rfl, hb6⟩
              obtain rfl := HEL.out.same hE'
              rw [HAL.out]
              have htu6 := htu5.to hb6 hb6.size
              have ht6 := ht5.to hb6 hb6.size
              have hw6 := hw5.trans (hb6.mono hw5.size)
              clear htu5 ht5 hr5 hw5 hb6 hE'
              go_wp2_with fail
              refine (iTreeOk_any _ (m + 2) k5 (under g m ⟨(j : Int), q, 0, 0, p, 0⟩ 77) f _ htu6 (by omega)).mono ?_
              rintro e w7 ⟨rfl, hb7⟩
              rw [H2u.out]
              have htu7 := htu6.to hb7 hb7.size
              have ht7 := ht6.to hb7 hb7.size
              have hw7 := hw6.trans (hb7.mono hw6.size)
              clear htu6 ht6 hw6 hb7
              go_wp2_with fail
              refine (iDepth_yes _ (m + 2) k5 (under g m ⟨(j : Int), q, 0, 0, p, 0⟩ 77) _ htu7 (by omega) H6u.out).mono ?_
              rintro e w8 ⟨rfl, hb8⟩
              rw [HDU.out]
              have ht8 := ht7.to hb8 hb8.size
              have hw8 := hw7.trans (hb8.mono hw7.size)
              clear htu7 ht7 hw7 hb8
              go_wp2_with fail
              refine (iDepth_yes _ m c g _ ht8 (by omega) H6.out).mono ?_
              rintro e w9 ⟨rfl, hb9⟩
              rw [HD.out]
              go_wp2_with fail
              go_ret
              exact ⟨by simp, hw8.trans (hb9.mono hw8.size)⟩
            · have hrt := under_ends_right (g := g) (m := m) (d := ⟨(j : Int), q, 0, 0, p, 0⟩) (v := 77) (z := z) (by show ¬ goL ⟨(j : Int), q, 0, 0, p, 0⟩ (z j) = true; unfold goL; rw [if_neg e9]; simpa using eq)
              have HEL := hid hrt.1
              have HAL : Hid (seqZ (under g m ⟨(j : Int), q, 0, 0, p, 0⟩ 77) z 1 = (m : Int) + 1) := by show ((itr (under g m ⟨(j : Int), q, 0, 0, p, 0⟩ 77) z 1 : Nat) : Int) = _; rw [hrt.2]; rfl
              clear hrt
              have b1 : (0 : Int) ≤ (a : Int) := by omega
              have b2 : (a : Int) ≤ 15 := by omega
              go_wp2_with fail
              refine (iLeaf_yes _ _ (m + 2) k5 f dc (under g m ⟨(j : Int), q, 0, 0, p, 0⟩ 77) z _ htu5 hr5 (by omega) H1.out H2u.out).mono ?_
              rintro e w6 ⟨T', hE', rfl, hb6⟩
              obtain rfl := HEL.out.same hE'
              rw [HAL.out]
              have htu6 := htu5.to hb6 hb6.size
              have ht6 := ht5.to hb6 hb6.size
              have hw6 := hw5.trans (hb6.mono hw5.size)
              clear htu5 ht5 hr5 hw5 hb6 hE'
              go_wp2_with fail
              refine (iTreeOk_any _ (m + 2) k5 (under g m ⟨(j : Int), q, 0, 0, p, 0⟩ 77) f _ htu6 (by omega)).mono ?_
              rintro e w7 ⟨rfl, hb7⟩
              rw [H2u.out]
              have htu7 := htu6.to hb7 hb7.size
              have ht7 := ht6.to hb7 hb7.size
              have hw7 := hw6.trans (hb7.mono hw6.size)
              clear htu6 ht6 hw6 hb7
              go_wp2_with fail
              refine (iDepth_yes _ (m + 2) k5 (under g m ⟨(j : Int), q, 0, 0, p, 0⟩ 77) _ htu7 (by omega) H6u.out).mono ?_
              rintro e w8 ⟨rfl, hb8⟩
              rw [HDU.out]
              have ht8 := ht7.to hb8 hb8.size
              have hw8 := hw7.trans (hb8.mono hw7.size)
              clear htu7 ht7 hw7 hb8
              go_wp2_with fail
              refine (iDepth_yes _ m c g _ ht8 (by omega) H6.out).mono ?_
              rintro e w9 ⟨rfl, hb9⟩
              rw [HD.out]
              go_wp2_with fail
              go_ret
              exact ⟨by simp, hw8.trans (hb9.mono hw8.size)⟩
end Go.Proofs.Ytmlcpjcchgihfaa
