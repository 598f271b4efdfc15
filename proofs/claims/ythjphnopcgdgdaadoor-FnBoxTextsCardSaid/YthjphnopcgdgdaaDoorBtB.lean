/- The text of a box is that of its spans; unlike boxes have unlike texts: the law's walk. -/
import Derived.Test.YthjphnopcgdgdaaDoorSqA
import Derived.Test.YthjphnopcgdgdaaDoorBtA
namespace Go.Proofs.YthjphnopcgdgdaaDoor
open Go.RowKit Go.Deep

/-! ### pure -/
theorem spS_noC (d : Sp) : NoC 32 (spS d) := by
  have h1 : NoC 32 (spN d) := by
    unfold spN
    split
    · exact noC_app (noC_app (decS_noC _ (.inl (by decide))) (by unfold NoC; decide)) (decS_noC _ (.inl (by decide)))
    · unfold NoC; decide
  unfold spS
  split
  · exact noC_app h1 (by unfold NoC; decide)
  · exact h1
theorem spN_pos (d : Sp) : 0 < (spN d).size := by
  unfold spN
  split
  · rw [ByteArray.size_append, ByteArray.size_append]; show 0 < _ + 2 + _; omega
  · decide
theorem spS_pos (d : Sp) : 0 < (spS d).size := by
  have := spN_pos d
  unfold spS
  split
  · rw [ByteArray.size_append]; omega
  · exact this
theorem boxS_words {n : Nat} (g : Nat → Sp) (h : 0 < n) : allW 32 (boxS n g) = (List.range n).map fun i => spS (g i) := by
  obtain ⟨m, rfl⟩ : ∃ m, n = m + 1 := ⟨n - 1, by omega⟩
  have hge := join_size_ge (fun i => spS (g i)) (one1 32) rfl (m + 1)
  exact split_join m _ (fun i => spS (g i)) (fun i _ => spS_noC _) (by
    have e : boxS (m + 1) g = joinTo (fun i => spS (g i)) (one1 32) (m + 1) := rfl
    rw [e]; omega)
theorem boxS_inj {n m : Nat} {g h : Nat → Sp} (hg : boxB n g = true) (hh : boxB m h = true) (e : boxS n g = boxS m h) : n = m ∧ ∀ i, i < n → g i = h i := by
  have h1 := boxB_iff.1 hg
  have h2 := boxB_iff.1 hh
  have h3 := boxS_words g (n := n) (by omega)
  rw [e, boxS_words h (n := m) (by omega)] at h3
  have hl : m = n := by have := congrArg List.length h3; simpa using this
  subst hl
  refine ⟨rfl, fun i hi => ?_⟩
  have h4 := congrArg (fun l => l[i]?) h3
  simp only [List.getElem?_map, List.getElem?_range hi] at h4
  exact (spS_inj (h2.2.2 i hi) (h1.2.2 i hi) (Option.some.inj h4)).symm
theorem boxS_pos {n : Nat} {g : Nat → Sp} (h : 0 < n) : 0 < (boxS n g).size := by
  obtain ⟨m, rfl⟩ : ∃ m, n = m + 1 := ⟨n - 1, by omega⟩
  show 0 < ((if 0 < m then _ else _) ++ spS (g m)).size
  rw [ByteArray.size_append]
  have := spS_pos (g m)
  omega
theorem boxS_eq {n m : Nat} {g h : Nat → Sp} (hg : boxB n g = true) (hh : boxB m h = true) : ((boxS n g).toList == (boxS m h).toList) = eqBoxB n g m h := by
  cases hq : eqBoxB n g m h
  · refine ba_listT fun e => ?_
    have := eqBoxB_iff.2 (boxS_inj hg hh e)
    rw [hq] at this
    cases this
  · obtain ⟨rfl, h1⟩ := eqBoxB_iff.1 hq
    have : boxS n g = boxS n h := joinTo_congr n fun i hi => congrArg spS (h1 i hi)
    rw [this]
    simp

/-- Two boxes that are read. -/
def D2 (w0 : World) (A : Option Addr) (n : Nat) (g : Nat → Sp) (A' : Option Addr) (n' : Nat) (g' : Nat → Sp) (w : World) : Prop :=
  RdS w w.heap.size A n g ∧ RdS w w.heap.size A' n' g' ∧ Below w0.heap.size w0 w
theorem D2.below {w0 w w' : World} {A : Option Addr} {n : Nat} {g : Nat → Sp} {A' : Option Addr} {n' : Nat} {g' : Nat → Sp} (h : D2 w0 A n g A' n' g' w) (hb : Below w.heap.size w w') : D2 w0 A n g A' n' g' w' :=
  ⟨h.1.to hb hb.size, h.2.1.to hb hb.size, h.2.2.trans (hb.mono h.2.2.size)⟩

set_option maxRecDepth 100000 in
set_option maxHeartbeats 4000000 in
theorem lawBoxTexts (A : Option Addr) (n cap : Nat) (A' : Option Addr) (n' cap' : Nat) (w : World) (h : Bs w w.heap.size A n) (h' : Bs w w.heap.size A' n') (hp : Hid (Pow w w.heap.size)) :
    Calls Tryd.prog 5 #[.slice A n cap, .slice A' n' cap'] w fun e w' => e = .returned (.bool true) ∧ Below w.heap.size w w' := by
  by_cases hbig : (1048576 : Int) < (n : Int)
  · go_enter Tryd.func5, Tryd.ntmps5
    go_wp2_with fail
    refine (big_yes A n cap _ hbig).mono ?_
    rintro e w1 ⟨rfl, rfl⟩
    go_wp2_with fail
    go_ret
    exact ⟨rfl, Below.refl _ _⟩
  by_cases hbig' : (1048576 : Int) < (n' : Int)
  · go_enter Tryd.func5, Tryd.ntmps5
    go_wp2_with fail
    refine (big_no A n cap _ (by omega)).mono ?_
    rintro e w1 ⟨rfl, rfl⟩
    go_wp2_with fail
    refine (big_yes A' n' cap' _ hbig').mono ?_
    rintro e w1 ⟨rfl, rfl⟩
    go_wp2_with fail
    go_ret
    exact ⟨rfl, Below.refl _ _⟩
  go_enter Tryd.func5, Tryd.ntmps5
  go_wp2_with fail
  refine (big_no A n cap _ (by omega)).mono ?_
  rintro e w1 ⟨rfl, rfl⟩
  go_wp2_with fail
  refine (big_no A' n' cap' _ (by omega)).mono ?_
  rintro e w1 ⟨rfl, rfl⟩
  go_wp2_with fail
  refine (drawBoxText A n cap _ h (by omega)).mono ?_
  rintro e w1 ⟨m1, g1, A1, k1, hm1, rfl, hr1, hb1⟩
  go_wp2_with fail
  refine (drawBoxText A' n' cap' w1 (Bs.more (Bs.keep h' fun _ hp => hb1.cell hp) hb1.size) (by omega)).mono ?_
  rintro e w2 ⟨m2, g2, A2, k2, hm2, rfl, hr2, hb2⟩
  have D := D2.below (w0 := w) (A' := none) (n' := 0) (g' := fun _ => ⟨0, 0, false⟩) ⟨hr1, rds_none, hb1⟩ hb2
  have D0 : D2 w A1 m1 g1 A2 m2 g2 w2 := ⟨D.1, hr2, D.2.2⟩
  have HP : Hid (∀ W, Below w.heap.size w W → Pow W W.heap.size) := fun W hW W' hW' => hp.out W' (hW.trans (hW'.mono hW.size))
  clear D hr1 hr2 hb1 hb2 hp
  go_wp2_with fail
  refine (iBoxText_any A1 m1 k1 g1 _ D0.1 (by omega) (hid (HP.out _ D0.2.2))).mono ?_
  rintro e w3 ⟨rfl, hb3⟩
  have D3 := D0.below hb3
  clear D0 hb3
  go_wp2_with fail
  refine (iBoxText_any A2 m2 k2 g2 _ D3.2.1 (by omega) (hid (HP.out _ D3.2.2))).mono ?_
  rintro e w4 ⟨rfl, hb4⟩
  have D4 := D3.below hb4
  clear D3 hb4
  go_wp2_with fail
  refine (sBoxText_any A1 m1 k1 g1 _ D4.1 (by omega)).mono ?_
  rintro e w5 ⟨rfl, hb5⟩
  have D5 := D4.below hb5
  clear D4 hb5
  have q1 : ((boxT m1 g1).toList != (boxT m1 g1).toList) = false := by simp
  have q2 : ((boxT m2 g2).toList != (boxT m2 g2).toList) = false := by simp
  go_wp2_with fail
  refine (sBoxText_any A2 m2 k2 g2 _ D5.2.1 (by omega)).mono ?_
  rintro e w6 ⟨rfl, hb6⟩
  have D6 := D5.below hb6
  clear D5 hb6
  cases hA : boxB m1 g1
  · have e1 := boxT_no hA
    obtain ⟨u, hu⟩ : ∃ u, boxT m2 g2 = u := ⟨_, rfl⟩
    have S1 := hid fun W h => sBoxText_any A1 m1 k1 g1 W h (by omega)
    have S2 := hid fun W h => sBoxText_any A2 m2 k2 g2 W h (by omega)
    rw [e1] at S1 q1
    rw [hu] at S2 q2
    rw [e1, hu]
    have q3 : (u.toList == u.toList) = true := by simp
    clear hA e1 hu
    go_wp2_with fail
    refine (S1.out _ D6.1).mono ?_
    rintro e w7 ⟨rfl, hb7⟩
    have D7 := D6.below hb7
    go_wp2_with fail
    refine (S2.out _ D7.2.1).mono ?_
    rintro e w8 ⟨rfl, hb8⟩
    have D8 := D7.below hb8
    go_wp2_with fail
    go_ret
    exact ⟨rfl, D8.2.2⟩
  · have hp1 := (boxB_iff.1 hA).1
    have hx1 : boxT m1 g1 ≠ ⟨#[]⟩ := fun e => by have := boxS_pos (n := m1) (g := g1) hp1; rw [← boxT_yes hA, e] at this; exact absurd this (by decide)
    have l1 := ba_listT hx1
    rw [ByteArray.toList_eq (⟨#[]⟩ : ByteArray)] at l1
    have HA := hid hA
    clear hx1 hA
    cases hB : boxB m2 g2
    · have e1 := boxT_no hB
      obtain ⟨u, hu⟩ : ∃ u, boxT m1 g1 = u := ⟨_, rfl⟩
      have S1 := hid fun W h => sBoxText_any A1 m1 k1 g1 W h (by omega)
      have S2 := hid fun W h => sBoxText_any A2 m2 k2 g2 W h (by omega)
      rw [e1] at S2 q2
      rw [hu] at S1 q1 l1
      rw [e1, hu]
      have q3 : (u.toList == u.toList) = true := by simp
      clear hB e1 hu
      go_wp2_with fail
      refine (S1.out _ D6.1).mono ?_
      rintro e w7 ⟨rfl, hb7⟩
      have D7 := D6.below hb7
      go_wp2_with fail
      refine (S2.out _ D7.2.1).mono ?_
      rintro e w8 ⟨rfl, hb8⟩
      have D8 := D7.below hb8
      go_wp2_with fail
      go_ret
      exact ⟨rfl, D8.2.2⟩
    · have hp2 := (boxB_iff.1 hB).1
      have hx2 : boxT m2 g2 ≠ ⟨#[]⟩ := fun e => by have := boxS_pos (n := m2) (g := g2) hp2; rw [← boxT_yes hB, e] at this; exact absurd this (by decide)
      have l2 := ba_listT hx2
      rw [ByteArray.toList_eq (⟨#[]⟩ : ByteArray)] at l2
      have hEQ := boxS_eq HA.out hB
      rw [← boxT_yes HA.out, ← boxT_yes hB] at hEQ
      have HT := hid (boxT_yes HA.out)
      have HI := hid (box_in HA.out)
      have h6 := (boxB_iff.1 HA.out).2.1
      clear hx2 hB hp2
      obtain ⟨b, off, rfl, hb, c0, c1, c2⟩ := D6.1.at_ (show 0 < m1 by omega)
      rw [Nat.zero_mul, Nat.add_zero] at c0 c1 c2
      have hnn : (0 : Int) < (m1 : Int) := by omega
      obtain ⟨u, hu⟩ : ∃ u, boxT m1 g1 = u := ⟨_, rfl⟩
      obtain ⟨v, hv⟩ : ∃ v, boxT m2 g2 = v := ⟨_, rfl⟩
      rw [hu] at q1 l1 hEQ HT ⊢
      rw [hv] at q2 l2 hEQ ⊢
      clear hu hv
      go_wp2_with fail
      refine (iSpanText_any (g1 0) _ (HI.out 0 hp1) (hid (HP.out _ D6.2.2))).mono ?_
      rintro e w7 ⟨rfl, hb7⟩
      have D7 := D6.below hb7
      have hz0 : (spS (g1 0)).size ≤ 45 := spS_size (HI.out 0 hp1)
      clear c0 c1 c2 D6 hb7
      go_wp2_with fail
      go_loopw [9, 10] (fun s i wr => ∃ (k : Nat) (t : ByteArray), 1 ≤ k ∧ k ≤ m1 ∧ i = .int .i64 k ∧ s = .string t ∧ t.size ≤ k * 46 ∧ Hid (t = boxS k g1) ∧ Hid (D2 w (some ⟨b, off, none⟩) m1 g1 A2 m2 g2 wr))
        (fun _ i _ => m1 - (intOf i).toNat)
      case atStart => exact ⟨1, _, Nat.le_refl _, hp1, rfl, rfl, by omega, (join_one (fun i => spS (g1 i)) ⟨#[32]⟩).symm, D7⟩
      case round =>
        obtain ⟨k, t, hk1, hk, rfl, rfl, hts, HTX, hD⟩ := hrel
        by_cases hlt : k < m1
        · obtain ⟨b', off', he', hb', c0, c1, c2⟩ := hD.out.1.at_ hlt
          injection he' with he'
          injection he' with he1 he2
          subst he1 he2
          have hns := spS_size (HI.out k hlt)
          have i1 : (k : Int) < (m1 : Int) := by omega
          have i0 : (0 : Int) ≤ (k : Int) := by omega
          obtain ⟨t2, ht2, hs2, HT2⟩ := cat_ t ⟨#[32]⟩ hts (one_arr _)
          obtain ⟨t3, ht3, hs3, HT3⟩ := cat_ t2 (spS (g1 k)) hs2 hns
          have HE : Hid (t3 = boxS (k + 1) g1) := by
            show t3 = _
            rw [boxS_next (by omega), HT3.out, HT2.out, HTX.out]
          have z1 : ¬ 9223372036854775807 < t.size + 1 := by omega
          have z2 : ¬ 9223372036854775807 < t2.size + (spS (g1 k)).size := by omega
          have z3 : t3.size ≤ (k + 1) * 46 := by omega
          clear hs2 hs3 hns HT2 HT3 hts HTX
          go_wp2_with fail
          refine (iSpanText_any (g1 k) _ (HI.out k hlt) (hid (HP.out _ hD.out.2.2))).mono ?_
          rintro e w8 ⟨rfl, hb8⟩
          have hD8 := hid (hD.out.below hb8)
          clear hb8 c0 c1 c2 hD
          go_wp2_with fail
          go_roundw
          case rel => exact ⟨k + 1, _, by omega, by omega, by go_num, rfl, z3, HE, hD8⟩
          case measure => simp [intOf]; omega
        · obtain rfl : m1 = k := by omega
          have i1 : ¬ (m1 : Int) < (m1 : Int) := by omega
          obtain rfl : t = u := by rw [HTX.out, HT.out]
          have q3 : (t.toList == t.toList) = true := by simp
          go_wp2_with fail
          refine (sameBox_any _ A2 m1 m2 k1 k2 g1 g2 _ hD.out.1 hD.out.2.1 (by omega) (by omega)).mono ?_
          rintro e w8 ⟨rfl, hb8⟩
          have D8 := hD.out.below hb8
          have q4 : (eqBoxB m1 g1 m2 g2 == eqBoxB m1 g1 m2 g2) = true := by simp
          rw [← hEQ] at q4 ⊢
          go_wp2_with fail
          go_ret
          exact ⟨rfl, D8.2.2⟩
end Go.Proofs.YthjphnopcgdgdaaDoor
