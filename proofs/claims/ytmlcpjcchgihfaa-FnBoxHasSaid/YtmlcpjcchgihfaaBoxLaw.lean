/- The walks of the laws of picks and of meets of boxes. -/
import Derived.Test.YtmlcpjcchgihfaaBoxDrawB
import Derived.Test.YtmlcpjcchgihfaaMeetE
import Derived.Test.YtmlcpjcchgihfaaSame
namespace Go.Proofs.Ytmlcpjcchgihfaa
open Go.RowKit Go.Deep

set_option maxHeartbeats 1000000 in
theorem sameB_any (A A' : Option Addr) (n c c' : Nat) (g g' : Nat → Sp) (w : World) (h : RdS w w.heap.size A n g) (h' : RdS w w.heap.size A' n g') (hg : Hid (∀ k, k < n → g k = g' k)) (hn : n ≤ 4194304) :
    Calls Try.prog 72 #[.slice A n c, .slice A' n c'] w fun e w' => e = .returned (.bool true) ∧ Below w.heap.size w w' := by
  go_enter Try.func72, Try.ntmps72
  go_wp2_with fail
  go_loopw [5] (fun i wr => ∃ k : Nat, k ≤ n ∧ i = .int .i64 k ∧ Below w.heap.size w wr) (fun i _ => n - (intOf i).toNat)
  case atStart => exact ⟨0, Nat.zero_le _, rfl, Below.refl _ _⟩
  case round =>
    obtain ⟨k, hk, rfl, hbl⟩ := hrel
    by_cases hlt : k < n
    · obtain ⟨b, off, rfl, hb, c0, c1, c2⟩ := (h.below hbl).at_ hlt
      obtain ⟨b', off', rfl, hb', c0', c1', c2'⟩ := (h'.below hbl).at_ hlt
      rw [← hg.out k hlt] at c0' c1' c2'
      have he := fun wx => eqSp (g k) (g k) wx
      simp only [beq_self_eq_true, Bool.and_self] at he
      have hi : (k : Int) < (n : Int) := by omega
      have hi0 : (0 : Int) ≤ (k : Int) := by omega
      go_wp2_with fail
      go_region
      all_goals
        go_wp2_with fail
        go_roundw
        case rel => exact ⟨k + 1, by omega, by go_num, hbl.drew⟩
        case measure => simp [intOf]; omega
    · go_wp2_with fail
      go_ret
      exact ⟨rfl, hbl⟩

set_option maxHeartbeats 2000000 in
theorem lawPick (A : Option Addr) (n cap : Nat) (w : World) (h : Bs w w.heap.size A n) :
    Calls Try.prog 17 #[.slice A n cap] w fun e w' => e = .returned (.bool true) ∧ Below w.heap.size w w' := by
  by_cases hbig : (1048576 : Int) < (n : Int)
  · go_enter Try.func17, Try.ntmps17
    go_wp2_with fail
    refine (big_yes A n cap _ hbig).mono ?_
    rintro e w1 ⟨rfl, rfl⟩
    go_wp2_with fail
    go_ret
    exact ⟨rfl, Below.refl _ _⟩
  · have hn : n ≤ 4194304 := by omega
    go_enter Try.func17, Try.ntmps17
    go_wp2_with fail
    refine (big_no A n cap _ (by omega)).mono ?_
    rintro e w0 ⟨rfl, rfl⟩
    go_wp2_with fail
    refine (drawPickOf A n cap _ h hn).mono ?_
    rintro e w1 ⟨m, g, B, c, hm, rfl, hr1, hb1⟩
    have h1 : Bs w1 w1.heap.size A n := (h.keep fun p hp => hb1.cell hp).more hb1.size
    go_wp2_with fail
    refine (drawBoxOk A n cap _ h1 hn).mono ?_
    rintro e w2 ⟨k, g2, C, c2, hk, rfl, hr2, hb2⟩
    have hr1' := hr1.to hb2 hb2.size
    have hw2 := hb1.trans (hb2.mono hb1.size)
    have hm' : m ≤ 4194304 := by omega
    have hk' : k ≤ 4194304 := by omega
    clear h1 hb1 hb2 hr1
    cases hy : boxB m g with
    | false =>
      have HY := hid hy
      clear hy
      go_wp2_with fail
      refine (iPick_no B m c g _ hr1' hm' HY.out).mono ?_
      rintro e w3 ⟨rfl, hb3⟩
      have hr13 := hr1'.to hb3 hb3.size
      have hr23 := hr2.to hb3 hb3.size
      have hw3 := hw2.trans (hb3.mono hw2.size)
      clear hb3 hw2 hr1' hr2
      go_wp2_with fail
      refine (sPick_no B m c g _ hr13 hm' HY.out).mono ?_
      rintro e w4 ⟨s, cs, rfl, hb4⟩
      have hr14 := hr13.to hb4 hb4.size
      have hr24 := hr23.to hb4 hb4.size
      have hw4 := hw3.trans (hb4.mono hw3.size)
      clear hb4 hw3 hr13 hr23
      go_wp2_with fail
      refine (same_any none s 0 0 cs nul nul _ rd_none rd_none (fun _ _ => rfl) (by omega)).mono ?_
      rintro e w5 ⟨rfl, m5, rfl⟩
      have hw5 := below_drewN hw4 m5
      have hr15 : RdS (w4.drewN m5) (w4.drewN m5).heap.size B m g := hr14
      have hr25 : RdS (w4.drewN m5) (w4.drewN m5).heap.size C k g2 := hr24
      clear hw4 hr14 hr24
      go_wp2_with fail
      refine (iBoxOk_any C k c2 g2 _ hr25 hk').mono ?_
      rintro e w6 ⟨rfl, hb6⟩
      have hr16 := hr15.to hb6 hb6.size
      have hr26 := hr25.to hb6 hb6.size
      have hw6 := hw5.trans (hb6.mono hw5.size)
      clear hb6 hw5 hr15 hr25
      go_wp2_with fail
      refine (sBoxOk_any C k c2 g2 _ hr26 hk').mono ?_
      rintro e w7 ⟨rfl, hb7⟩
      have hr17 := hr16.to hb7 hb7.size
      have hr27 := hr26.to hb7 hb7.size
      have hw7 := hw6.trans (hb7.mono hw6.size)
      clear hb7 hw6 hr16 hr26
      go_wp2_with fail
      refine (sPick_no B m c g _ hr17 hm' HY.out).mono ?_
      rintro e w8 ⟨s8, cs8, rfl, hb8⟩
      have hr28 := hr27.to hb8 hb8.size
      have hw8 := hw7.trans (hb8.mono hw7.size)
      clear hb8 hw7 hr17 hr27
      go_wp2_with fail
      refine (same_any none s8 0 0 cs8 nul nul _ rd_none rd_none (fun _ _ => rfl) (by omega)).mono ?_
      rintro e w9 ⟨rfl, m9, rfl⟩
      have hw9 := below_drewN hw8 m9
      have hr29 : RdS (w8.drewN m9) (w8.drewN m9).heap.size C k g2 := hr28
      clear hw8 hr28
      go_wp2_with fail
      refine (iBoxOk_any C k c2 g2 _ hr29 hk').mono ?_
      rintro e w10 ⟨rfl, hb10⟩
      have hr210 := hr29.to hb10 hb10.size
      have hw10 := hw9.trans (hb10.mono hw9.size)
      clear hb10 hw9 hr29
      go_wp2_with fail
      refine (sBoxOk_any C k c2 g2 _ hr210 hk').mono ?_
      rintro e w11 ⟨rfl, hb11⟩
      go_wp2_with fail
      go_ret
      refine ⟨?_, hw10.trans (hb11.mono hw10.size)⟩
      simp
    | true =>
      have hm1 := (boxB_iff.1 hy).1
      have hm6 := (boxB_iff.1 hy).2.1
      have hdoc : Hid (docB m (fun i => pickS (g i)) = true) := by
        show _ = _
        unfold docB
        have e1 : decide (1 ≤ m) = true := decide_eq_true hm1
        have e2 : decide (m ≤ 6) = true := decide_eq_true hm6
        rw [e1, e2, allTo_of fun k hk => pick_may ((boxB_iff.1 hy).2.2 k hk)]
        rfl
      have hhas : Hid (boxHasB m g m (fun i => pickS (g i)) = true) := boxHasB_iff.2 ⟨hy, hdoc.out, rfl, fun i hi => pick_has ((boxB_iff.1 hy).2.2 i hi)⟩
      have HY := hid hy
      clear hy
      go_wp2_with fail
      refine (iPick_yes B m c g _ hr1' HY.out).mono ?_
      rintro e w3 ⟨p, rfl, _, hp3, hb3⟩
      have hr13 := hr1'.to hb3 hb3.size
      have hr23 := hr2.to hb3 hb3.size
      have hw3 := hw2.trans (hb3.mono hw2.size)
      clear hb3 hw2 hr1' hr2
      go_wp2_with fail
      refine (sPick_yes B m c g _ hr13 HY.out).mono ?_
      rintro e w4 ⟨s, cs, rfl, _, hs4, hb4⟩
      have hr14 := hr13.to hb4 hb4.size
      have hr24 := hr23.to hb4 hb4.size
      have hp4 := hp3.below hb4 hp3.lt
      have hw4 := hw3.trans (hb4.mono hw3.size)
      clear hb4 hw3 hr13 hr23 hp3
      go_wp2_with fail
      refine (same_any _ _ m m cs (fun i => pickS (g i)) (fun i => pickS (g i)) _ (rd_of hp4) (rd_of hs4) (fun _ _ => rfl) hm').mono ?_
      rintro e w5 ⟨rfl, m5, rfl⟩
      have hw5 := below_drewN hw4 m5
      have hr15 : RdS (w4.drewN m5) (w4.drewN m5).heap.size B m g := hr14
      have hr25 : RdS (w4.drewN m5) (w4.drewN m5).heap.size C k g2 := hr24
      have hp5 : Row (w4.drewN m5) 2 p m (fun i => pickS (g i)) := hp4
      clear hw4 hr14 hr24 hp4 hs4
      go_wp2_with fail
      refine (iBoxOk_any C k c2 g2 _ hr25 hk').mono ?_
      rintro e w6 ⟨rfl, hb6⟩
      have hr16 := hr15.to hb6 hb6.size
      have hr26 := hr25.to hb6 hb6.size
      have hp6 := hp5.below hb6 hp5.lt
      have hw6 := hw5.trans (hb6.mono hw5.size)
      clear hb6 hw5 hr15 hr25 hp5
      go_wp2_with fail
      refine (sBoxOk_any C k c2 g2 _ hr26 hk').mono ?_
      rintro e w7 ⟨rfl, hb7⟩
      have hr17 := hr16.to hb7 hb7.size
      have hp7 := hp6.below hb7 hp6.lt
      have hw7 := hw6.trans (hb7.mono hw6.size)
      clear hb7 hw6 hr16 hr26 hp6
      have s0 : ¬ (m : Int) = 0 := by omega
      have s1 : ((m : Int) == 0) = false := by simp; omega
      have s2 : (boxB k g2 != boxB k g2) = false := by simp
      go_wp2_with fail
      refine (iBoxHas_any B _ m c m m g (fun i => pickS (g i)) _ hr17 (rd_of hp7) hm' hm').mono ?_
      rintro e w8 ⟨rfl, hb8⟩
      have hp8 := hp7.below hb8 hp7.lt
      have hw8 := hw7.trans (hb8.mono hw7.size)
      rw [hhas.out]
      clear hb8 hw7 hr17 hp7
      go_wp2_with fail
      refine (iDocOk_any _ m m (fun i => pickS (g i)) _ (rd_of hp8) hm').mono ?_
      rintro e w9 ⟨rfl, hb9⟩
      rw [hdoc.out]
      go_wp2_with fail
      go_ret
      refine ⟨?_, hw8.trans (hb9.mono hw8.size)⟩
      simp
end Go.Proofs.Ytmlcpjcchgihfaa
