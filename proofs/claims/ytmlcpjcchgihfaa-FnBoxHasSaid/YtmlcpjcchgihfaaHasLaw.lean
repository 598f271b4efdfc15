/- The walk of the law of what a box contains. -/
import Derived.Test.YtmlcpjcchgihfaaMeetFn
namespace Go.Proofs.Ytmlcpjcchgihfaa
open Go.RowKit Go.Deep

set_option maxRecDepth 100000 in
set_option maxHeartbeats 4000000 in
theorem lawHas (A : Option Addr) (n cap : Nat) (w : World) (h : Bs w w.heap.size A n) :
    Calls Try.prog 16 #[.slice A n cap] w fun e w' => e = .returned (.bool true) ∧ Below w.heap.size w w' := by
  by_cases hbig : (1048576 : Int) < (n : Int)
  · go_enter Try.func16, Try.ntmps16
    go_wp2_with fail
    refine (big_yes A n cap _ hbig).mono ?_
    rintro e w1 ⟨rfl, rfl⟩
    go_wp2_with fail
    go_ret
    exact ⟨rfl, Below.refl _ _⟩
  · have hn : n ≤ 4194304 := by omega
    go_enter Try.func16, Try.ntmps16
    go_wp2_with fail
    refine (big_no A n cap _ (by omega)).mono ?_
    rintro e w0 ⟨rfl, rfl⟩
    go_wp2_with fail
    refine (drawBoxHas A n cap _ h hn).mono ?_
    rintro e w1 ⟨m, g, AA, cc, f, z, D, dc, hm, hf, rfl, hr1, hd1, hb1⟩
    have hm' : m ≤ 4194304 := by omega
    have hf' : f ≤ 4194304 := by omega
    go_wp2_with fail
    refine (iBoxHas_any _ _ m cc f dc g z _ hr1 hd1 hm' hf').mono ?_
    rintro e w_1 ⟨rfl, hb_2⟩
    have r_3 : RdS w_1 w_1.heap.size AA m g := RdS.to (w := w1) hr1 hb_2 hb_2.size
    have r_4 : Rd w_1 w_1.heap.size D f z := Rd.to (w := w1) hd1 hb_2 hb_2.size
    have hw_5 := hb1.trans (hb_2.mono hb1.size)
    clear hr1 hd1 hb1 hb_2
    go_wp2_with fail
    refine (sBoxHas_any _ _ m cc f dc g z _ r_3 r_4 hm' hf').mono ?_
    rintro e w_6 ⟨rfl, hb_7⟩
    have r_8 : RdS w_6 w_6.heap.size AA m g := RdS.to (w := w_1) r_3 hb_7 hb_7.size
    have r_9 : Rd w_6 w_6.heap.size D f z := Rd.to (w := w_1) r_4 hb_7 hb_7.size
    have hw_10 := hw_5.trans (hb_7.mono hw_5.size)
    clear r_3 r_4 hw_5 hb_7
    have e1 : (boxHasB m g f z != boxHasB m g f z) = false := by simp
    have e2 : (boxB m g != boxB m g) = false := by simp
    go_wp2_with fail
    refine (iBoxOk_any _ m cc g _ r_8 hm').mono ?_
    rintro e w_11 ⟨rfl, hb_12⟩
    have r_13 : RdS w_11 w_11.heap.size AA m g := RdS.to (w := w_6) r_8 hb_12 hb_12.size
    have r_14 : Rd w_11 w_11.heap.size D f z := Rd.to (w := w_6) r_9 hb_12 hb_12.size
    have hw_15 := hw_10.trans (hb_12.mono hw_10.size)
    clear r_8 r_9 hw_10 hb_12
    go_wp2_with fail
    refine (sBoxOk_any _ m cc g _ r_13 hm').mono ?_
    rintro e w_16 ⟨rfl, hb_17⟩
    have r_18 : RdS w_16 w_16.heap.size AA m g := RdS.to (w := w_11) r_13 hb_17 hb_17.size
    have r_19 : Rd w_16 w_16.heap.size D f z := Rd.to (w := w_11) r_14 hb_17 hb_17.size
    have hw_20 := hw_15.trans (hb_17.mono hw_15.size)
    clear r_13 r_14 hw_15 hb_17
    go_wp2_with fail
    refine (sBoxOk_any _ m cc g _ r_18 hm').mono ?_
    rintro e w_21 ⟨rfl, hb_22⟩
    have r_23 : RdS w_21 w_21.heap.size AA m g := RdS.to (w := w_16) r_18 hb_22 hb_22.size
    have r_24 : Rd w_21 w_21.heap.size D f z := Rd.to (w := w_16) r_19 hb_22 hb_22.size
    have hw_25 := hw_20.trans (hb_22.mono hw_20.size)
    clear r_18 r_19 hw_20 hb_22
    cases hb : boxB m g with
    | false =>
      have e3 : Hid (boxB m g = false) := hb
      clear hb e2
      go_wp2_with fail
      refine (sBoxHas_any _ _ m cc f dc g z _ r_23 r_24 hm' hf').mono ?_
      rintro e w_26 ⟨rfl, hb_27⟩
      have r_28 : RdS w_26 w_26.heap.size AA m g := RdS.to (w := w_21) r_23 hb_27 hb_27.size
      have r_29 : Rd w_26 w_26.heap.size D f z := Rd.to (w := w_21) r_24 hb_27 hb_27.size
      have hw_30 := hw_25.trans (hb_27.mono hw_25.size)
      clear r_23 r_24 hw_25 hb_27
      go_wp2_with fail
      refine (iBoxOk_any _ m cc g _ r_28 hm').mono ?_
      rintro e w_31 ⟨rfl, hb_32⟩
      have r_33 : RdS w_31 w_31.heap.size AA m g := RdS.to (w := w_26) r_28 hb_32 hb_32.size
      have r_34 : Rd w_31 w_31.heap.size D f z := Rd.to (w := w_26) r_29 hb_32 hb_32.size
      have hw_35 := hw_30.trans (hb_32.mono hw_30.size)
      clear r_28 r_29 hw_30 hb_32
      go_wp2_with fail
      refine (sBoxOk_any _ m cc g _ r_33 hm').mono ?_
      rintro e w_36 ⟨rfl, hb_37⟩
      have r_38 : RdS w_36 w_36.heap.size AA m g := RdS.to (w := w_31) r_33 hb_37 hb_37.size
      have r_39 : Rd w_36 w_36.heap.size D f z := Rd.to (w := w_31) r_34 hb_37 hb_37.size
      have hw_40 := hw_35.trans (hb_37.mono hw_35.size)
      clear r_33 r_34 hw_35 hb_37
      rw [e3.out]
      go_wp2_with fail
      go_ret
      refine ⟨?_, hw_40⟩
      simp
    | true =>
      have HB := hid hb
      clear hb e2
      go_wp2_with fail
      refine (sDocOk_any _ f dc z _ r_24 hf').mono ?_
      rintro e w_26 ⟨rfl, rfl⟩
      cases hdc : docB f z with
      | false =>
        clear hdc
        go_wp2_with fail
        refine (sBoxHas_any _ _ m cc f dc g z _ r_23 r_24 hm' hf').mono ?_
        rintro e w_27 ⟨rfl, hb_28⟩
        have r_29 : RdS w_27 w_27.heap.size AA m g := RdS.to (w := w_21) r_23 hb_28 hb_28.size
        have r_30 : Rd w_27 w_27.heap.size D f z := Rd.to (w := w_21) r_24 hb_28 hb_28.size
        have hw_31 := hw_25.trans (hb_28.mono hw_25.size)
        clear r_23 r_24 hw_25 hb_28
        go_wp2_with fail
        refine (iBoxOk_any _ m cc g _ r_29 hm').mono ?_
        rintro e w_32 ⟨rfl, hb_33⟩
        have r_34 : RdS w_32 w_32.heap.size AA m g := RdS.to (w := w_27) r_29 hb_33 hb_33.size
        have r_35 : Rd w_32 w_32.heap.size D f z := Rd.to (w := w_27) r_30 hb_33 hb_33.size
        have hw_36 := hw_31.trans (hb_33.mono hw_31.size)
        clear r_29 r_30 hw_31 hb_33
        go_wp2_with fail
        refine (sBoxOk_any _ m cc g _ r_34 hm').mono ?_
        rintro e w_37 ⟨rfl, hb_38⟩
        have r_39 : RdS w_37 w_37.heap.size AA m g := RdS.to (w := w_32) r_34 hb_38 hb_38.size
        have r_40 : Rd w_37 w_37.heap.size D f z := Rd.to (w := w_32) r_35 hb_38 hb_38.size
        have hw_41 := hw_36.trans (hb_38.mono hw_36.size)
        clear r_34 r_35 hw_36 hb_38
        go_wp2_with fail
        go_ret
        refine ⟨?_, hw_41⟩
        simp
      | true =>
        by_cases hmf : m = f
        · subst hmf
          have HR := hid (boxHas_yes HB.out hdc)
          clear hdc
          go_wp2_with fail
          go_loopw [6, 7] (fun q i wr => ∃ k : Nat, k ≤ m ∧ i = .int .i64 k ∧ q = .bool (allP (fun i => hasS (g i) (z i)) k) ∧ Below w_21.heap.size w_21 wr) (fun _ i _ => m - (intOf i).toNat)
          case atStart => exact ⟨0, Nat.zero_le _, rfl, rfl, Below.refl _ _⟩
          case round =>
            obtain ⟨k, hk, rfl, rfl, hbl⟩ := hrel
            by_cases hlt : k < m
            · obtain ⟨b, off, rfl, hbb, c0, c1, c2⟩ := (r_23.below hbl).at_ hlt
              obtain ⟨b', off', rfl, hbb', c'⟩ := (r_24.below hbl).at_ hlt
              have hl : (k : Int) < (m : Int) := by omega
              have hl0 : (0 : Int) ≤ (k : Int) := by omega
              have hstep : Hid (allP (fun i => hasS (g i) (z i)) (k + 1) = (allP (fun i => hasS (g i) (z i)) k && hasS (g k) (z k))) := rfl
              by_cases hz : z k = 9999999
              · rw [hz] at c'
                cases hg : (g k).gone
                · rw [hg] at c2
                  have hq : Hid (hasS (g k) (z k) = false) := by show _ = _; rw [hz, hasS_gone]; exact hg
                  clear hz hg
                  go_wp2_with fail
                  go_quiet (fail)
                  cases hal : allP (fun i => hasS (g i) (z i)) k
                  all_goals
                    go_wp2_with fail
                    go_roundw
                    case rel => exact ⟨k + 1, by omega, by go_num, (by rw [hstep.out, hal, hq.out]; rfl), below_drewN hbl _⟩
                    case measure => simp [intOf]; omega
                · rw [hg] at c2
                  have hq : Hid (hasS (g k) (z k) = true) := by show _ = _; rw [hz, hasS_gone]; exact hg
                  clear hz hg
                  go_wp2_with fail
                  go_quiet (fail)
                  cases hal : allP (fun i => hasS (g i) (z i)) k
                  all_goals
                    go_wp2_with fail
                    go_roundw
                    case rel => exact ⟨k + 1, by omega, by go_num, (by rw [hstep.out, hal, hq.out]; rfl), below_drewN hbl _⟩
                    case measure => simp [intOf]; omega
              · have hz1 : decide (z k = 9999999) = false := decide_eq_false hz
                have hz2 : (z k == 9999999) = false := by simpa using hz
                have hz3 : (z k != 9999999) = true := by simpa using hz
                by_cases h1 : (g k).lo ≤ z k
                · by_cases h2 : z k ≤ (g k).hi
                  · have hq : Hid (hasS (g k) (z k) = true) := (hasS_iff hz).2 ⟨h1, h2⟩
                    clear hz hz1
                    go_wp2_with fail
                    go_quiet (fail)
                    cases hal : allP (fun i => hasS (g i) (z i)) k
                    all_goals
                      go_wp2_with fail
                      go_roundw
                      case rel => exact ⟨k + 1, by omega, by go_num, (by rw [hstep.out, hal, hq.out]; rfl), below_drewN hbl _⟩
                      case measure => simp [intOf]; omega
                  · have hq : Hid (hasS (g k) (z k) = false) := by show _ = _; unfold hasS; rw [if_neg hz, decide_eq_false h2, Bool.and_false]
                    have h2d : decide (z k ≤ (g k).hi) = false := decide_eq_false h2
                    clear h2 hz hz1
                    go_wp2_with fail
                    go_quiet (fail)
                    cases hal : allP (fun i => hasS (g i) (z i)) k
                    all_goals
                      go_wp2_with fail
                      go_roundw
                      case rel => exact ⟨k + 1, by omega, by go_num, (by rw [hstep.out, hal, hq.out]; rfl), below_drewN hbl _⟩
                      case measure => simp [intOf]; omega
                · have hq : Hid (hasS (g k) (z k) = false) := by show _ = _; unfold hasS; rw [if_neg hz, decide_eq_false h1, Bool.false_and]
                  have h1d : decide ((g k).lo ≤ z k) = false := decide_eq_false h1
                  clear h1 hz hz1
                  go_wp2_with fail
                  go_quiet (fail)
                  cases hal : allP (fun i => hasS (g i) (z i)) k
                  all_goals
                    go_wp2_with fail
                    go_roundw
                    case rel => exact ⟨k + 1, by omega, by go_num, (by rw [hstep.out, hal, hq.out]; rfl), below_drewN hbl _⟩
                    case measure => simp [intOf]; omega
            · have e : k = m := by omega
              subst e
              go_wp2_with fail
              go_ret
              refine ⟨?_, hw_25.trans (hbl.mono hw_25.size)⟩
              rw [HR.out]
              simp
        · skip
          have e4 : ¬ (m : Int) = (f : Int) := by omega
          clear hdc
          go_wp2_with fail
          refine (sBoxHas_any _ _ m cc f dc g z _ r_23 r_24 hm' hf').mono ?_
          rintro e w_27 ⟨rfl, hb_28⟩
          have r_29 : RdS w_27 w_27.heap.size AA m g := RdS.to (w := w_21) r_23 hb_28 hb_28.size
          have r_30 : Rd w_27 w_27.heap.size D f z := Rd.to (w := w_21) r_24 hb_28 hb_28.size
          have hw_31 := hw_25.trans (hb_28.mono hw_25.size)
          clear r_23 r_24 hw_25 hb_28
          go_wp2_with fail
          refine (iBoxOk_any _ m cc g _ r_29 hm').mono ?_
          rintro e w_32 ⟨rfl, hb_33⟩
          have r_34 : RdS w_32 w_32.heap.size AA m g := RdS.to (w := w_27) r_29 hb_33 hb_33.size
          have r_35 : Rd w_32 w_32.heap.size D f z := Rd.to (w := w_27) r_30 hb_33 hb_33.size
          have hw_36 := hw_31.trans (hb_33.mono hw_31.size)
          clear r_29 r_30 hw_31 hb_33
          go_wp2_with fail
          refine (sBoxOk_any _ m cc g _ r_34 hm').mono ?_
          rintro e w_37 ⟨rfl, hb_38⟩
          have r_39 : RdS w_37 w_37.heap.size AA m g := RdS.to (w := w_32) r_34 hb_38 hb_38.size
          have r_40 : Rd w_37 w_37.heap.size D f z := Rd.to (w := w_32) r_35 hb_38 hb_38.size
          have hw_41 := hw_36.trans (hb_38.mono hw_36.size)
          clear r_34 r_35 hw_36 hb_38
          go_wp2_with fail
          go_ret
          refine ⟨?_, hw_41⟩
          simp
end Go.Proofs.Ytmlcpjcchgihfaa
