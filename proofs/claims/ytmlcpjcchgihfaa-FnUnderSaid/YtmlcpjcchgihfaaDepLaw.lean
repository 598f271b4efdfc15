/- The walk of the law of depths. -/
import Derived.Test.YtmlcpjcchgihfaaFeatsLaw
import Derived.Test.YtmlcpjcchgihfaaDeep
import Derived.Test.YtmlcpjcchgihfaaSame
import Derived.Test.YtmlcpjcchgihfaaLeafLaw
import Derived.Test.YtmlcpjcchgihfaaDepthLaw
namespace Go.Proofs.Ytmlcpjcchgihfaa
open Go.RowKit Go.Deep

set_option maxHeartbeats 1000000 in
theorem drawLeafOf (A : Option Addr) (n cap : Nat) (w : World) (h : Bs w w.heap.size A n) (hn : n ≤ 4194304) :
    Calls Try.prog 22 #[.slice A n cap] w (DrawnPath w) := by
  go_enter Try.func22, Try.ntmps22
  go_wp2_with fail
  refine (drawPathOf A n cap _ h hn).mono ?_
  rintro e w1 ⟨m, g, b, c, f, z, D, dc, hm1, hm2, hf, rfl, hrest⟩
  go_wp2_with fail
  go_ret2
  exact ⟨m, g, b, c, f, z, D, dc, hm1, hm2, hf, rfl, hrest⟩

/-- What DepthOf gives. -/
def depZ (g : Nat → Nd) (n : Nat) : Int := if treeB g n 6 = true then dep g 15 0 else -1
theorem iDepth_any (A : Option Addr) (n cap : Nat) (g : Nat → Nd) (w : World) (h : RdN w w.heap.size A n g) (hn : n ≤ 4194304) :
    Calls Try.prog 24 #[.slice A n cap] w fun e w' => e = .returned (.int .i64 (depZ g n)) ∧ Below w.heap.size w w' := by
  unfold depZ
  cases ht : treeB g n 6 with
  | false => rw [if_neg (by simp)]; exact iDepth_no A n cap g w h hn ht
  | true => rw [if_pos rfl]; exact iDepth_yes A n cap g w h hn ht
theorem sDepth_any (A : Option Addr) (n cap : Nat) (g : Nat → Nd) (w : World) (h : RdN w w.heap.size A n g) (hn : n ≤ 4194304) :
    Calls Try.prog 25 #[.slice A n cap] w fun e w' => e = .returned (.int .i64 (depZ g n)) ∧ Below w.heap.size w w' := by
  unfold depZ
  cases ht : treeB g n 6 with
  | false => rw [if_neg (by simp)]; exact sDepth_no A n cap g w h hn ht
  | true => rw [if_pos rfl]; exact sDepth_yes A n cap g w h hn ht

set_option maxHeartbeats 2000000 in
theorem lawDepth (A : Option Addr) (n cap : Nat) (w : World) (h : Bs w w.heap.size A n) :
    Calls Try.prog 3 #[.slice A n cap] w fun e w' => e = .returned (.bool true) ∧ Below w.heap.size w w' := by
  by_cases hbig : (1048576 : Int) < (n : Int)
  · go_enter Try.func3, Try.ntmps3
    go_wp2_with fail
    refine (big_yes A n cap _ hbig).mono ?_
    rintro e w1 ⟨rfl, rfl⟩
    go_wp2_with fail
    go_ret
    exact ⟨rfl, Below.refl _ _⟩
  · have hn : n ≤ 4194304 := by omega
    go_enter Try.func3, Try.ntmps3
    go_wp2_with fail
    refine (big_no A n cap _ (by omega)).mono ?_
    rintro e w0 ⟨rfl, rfl⟩
    go_wp2_with fail
    refine (drawLeafOf A n cap _ h hn).mono ?_
    rintro e w1 ⟨m, g, b, c, f, z, D, dc, hm1, hm2, hf, rfl, hwb, hbL, hrow, hmc, hrd, hb1⟩
    have ht1 := hrow.rdN hbL
    have hm' : m ≤ 4194304 := by omega
    have hf' : f ≤ 4194304 := by omega
    clear hwb hbL hrow hmc
    cases hy : (docB f z && treeB g m f) with
    | false =>
      have HY := hid hy
      clear hy
      go_wp2_with fail
      refine (iPath_no _ D m c f dc g z _ ht1 hrd hm' hf' HY.out).mono ?_
      rintro e w2 ⟨rfl, hb2⟩
      have ht2 := ht1.to hb2 hb2.size
      have hr2 := hrd.to hb2 hb2.size
      have hw2 := hb1.trans (hb2.mono hb1.size)
      clear hb2 hb1 ht1 hrd
      go_wp2_with fail
      refine (iDepth_any _ m c g _ ht2 hm').mono ?_
      rintro e w3 ⟨rfl, hb3⟩
      have ht3 := ht2.to hb3 hb3.size
      have hr3 := hr2.to hb3 hb3.size
      have hw3 := hw2.trans (hb3.mono hw2.size)
      clear hb3 hw2 ht2 hr2
      go_wp2_with fail
      refine (sDepth_any _ m c g _ ht3 hm').mono ?_
      rintro e w4 ⟨rfl, hb4⟩
      have ht4 := ht3.to hb4 hb4.size
      have hr4 := hr3.to hb4 hb4.size
      have hw4 := hw3.trans (hb4.mono hw3.size)
      clear hb4 hw3 ht3 hr3
      go_wp2_with fail
      refine (sPath_no _ D m c f dc g z _ ht4 hr4 hm' hf' HY.out).mono ?_
      rintro e w5 ⟨rfl, hb5⟩
      have ht5 := ht4.to hb5 hb5.size
      have hr5 := hr4.to hb5 hb5.size
      have hw5 := hw4.trans (hb5.mono hw4.size)
      clear hb5 hw4 ht4 hr4
      go_wp2_with fail
      refine (same_any none none 0 0 0 nul nul _ rd_none rd_none (fun _ _ => rfl) (by omega)).mono ?_
      rintro e w6 ⟨rfl, m6, rfl⟩
      have hw6 := below_drewN hw5 m6
      have ht6 : RdN (w5.drewN m6) w5.heap.size _ m g := ht5
      have hr6 : Rd (w5.drewN m6) w5.heap.size D f z := hr5
      go_wp2_with fail
      refine (sDepth_any _ m c g _ ht6 hm').mono ?_
      rintro e w7 ⟨rfl, hb7⟩
      have ht7 := ht6.to hb7 hb7.size
      have hr7 := hr6.to hb7 hb7.size
      have hw7 := hw6.trans (hb7.mono hw6.size)
      clear hb7 hw6 ht6 hr6
      go_wp2_with fail
      refine (sPath_no _ D m c f dc g z _ ht7 hr7 hm' hf' HY.out).mono ?_
      rintro e w8 ⟨rfl, hb8⟩
      have hw8 := hw7.trans (hb8.mono hw7.size)
      go_wp2_with fail
      refine (same_any none none 0 0 0 nul nul _ rd_none rd_none (fun _ _ => rfl) (by omega)).mono ?_
      rintro e w9 ⟨rfl, m9, rfl⟩
      go_wp2_with fail
      go_ret
      exact ⟨rfl, below_drewN hw8 m9⟩
    | true =>
      obtain ⟨h1, h2⟩ : docB f z = true ∧ treeB g m f = true := by simpa using hy
      have H1 := hid h1
      have H2 := hid h2
      have hf6 := (docB_true h1).2.1
      have hT := (treeB_iff g m f).1 h2
      have hm15 := hT.2.1.2
      have h6 := tree_more h2 (show (f : Int) ≤ 6 by omega) (Int.le_refl _)
      have hdz : depZ g m = dep g 15 0 := by unfold depZ; rw [if_pos h6]
      have HD := hid hdz
      have HU := hid hT.up
      have H6 := hid h6
      clear hT h6 hdz h1 h2 hy
      go_wp2_with fail
      refine (iPath_yes _ D m c f dc g z _ ht1 hrd hm' H1.out H2.out).mono ?_
      rintro e w2 ⟨T, b2, c2, hE, hT, rfl, hl2, hr2, hb2⟩
      have ht2 := ht1.to hb2 hb2.size
      have hd2 := hrd.to hb2 hb2.size
      have hw2 := hb1.trans (hb2.mono hb1.size)
      have HE := hid hE
      clear hb2 hb1 ht1 hrd hl2 hE
      go_wp2_with fail
      refine (iDepth_any _ m c g _ ht2 hm').mono ?_
      rintro e w3 ⟨rfl, hb3⟩
      have ht3 := ht2.to hb3 hb3.size
      have hd3 := hd2.to hb3 hb3.size
      have hr3 := hr2.below hb3 hr2.lt
      have hw3 := hw2.trans (hb3.mono hw2.size)
      clear hb3 hw2 ht2 hd2 hr2
      go_wp2_with fail
      refine (sDepth_any _ m c g _ ht3 hm').mono ?_
      rintro e w4 ⟨rfl, hb4⟩
      have ht4 := ht3.to hb4 hb4.size
      have hd4 := hd3.to hb4 hb4.size
      have hr4 := hr3.below hb4 hr3.lt
      have hw4 := hw3.trans (hb4.mono hw3.size)
      clear hb4 hw3 ht3 hd3 hr3
      go_wp2_with fail
      refine (sPath_yes _ D m c f dc g z _ ht4 hd4 hm' hf' H1.out H2.out).mono ?_
      rintro e w5 ⟨T', b5, c5, hE', _, rfl, hl5, hr5, hb5⟩
      obtain rfl := HE.out.same hE'
      have hr4' := hr4.below hb5 hr4.lt
      have hw5 := hw4.trans (hb5.mono hw4.size)
      clear hb5 hw4 ht4 hd4 hr4 hE' hl5
      go_wp2_with fail
      refine (same_any _ _ (T + 1) c2 c5 (seqZ g z) (seqZ g z) _ (rd_of hr4') (rd_of hr5) (fun _ _ => rfl) (by omega)).mono ?_
      rintro e w6 ⟨rfl, m6, rfl⟩
      have hw6 := below_drewN hw5 m6
      have s0 : ¬ ((T + 1 : Nat) : Int) = 0 := by omega
      have s1 : ((T + 1 : Nat) : Int) - 1 ≤ depZ g m := by
        rw [HD.out]
        have := path_dep HE.out T 0 15 (by omega) (by omega)
        have e : itr g z 0 = 0 := rfl
        rw [e] at this
        omega
      have s2 : depZ g m < 15 := by
        rw [HD.out]
        have := dep_lt HU.out 15 0 (by omega)
        omega
      have s3 : depZ g m = 0 ↔ m = 1 := by rw [HD.out]; exact dep_zero H6.out
      generalize depZ g m = v at s1 s2 s3
      have S3 := hid s3
      clear s3
      by_cases hm : m = 1
      · subst hm
        obtain rfl := S3.out.2 rfl
        go_wp2_with fail
        go_ret
        exact ⟨rfl, hw6⟩
      · have s4 : ¬ v = 0 := fun e => hm (S3.out.1 e)
        have s5 : ¬ (m : Int) = 1 := by omega
        go_wp2_with fail
        go_ret
        refine ⟨?_, hw6⟩
        have e1 : (v == 0) = false := beq_eq_false_iff_ne.2 s4
        have e2 : ((m : Int) == 1) = false := beq_eq_false_iff_ne.2 s5
        simp [e1, e2]
end Go.Proofs.Ytmlcpjcchgihfaa
