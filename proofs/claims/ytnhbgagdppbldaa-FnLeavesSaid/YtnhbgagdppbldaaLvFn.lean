/- The walks of the laws of leaves and of ranges. -/
import Derived.Test.YtnhbgagdppbldaaLvC
import Derived.Test.YtnhbgagdppbldaaDrawG
import Derived.Test.YtnhbgagdppbldaaSame
import Derived.Test.YtnhbgagdppbldaaRangeLaw
import Derived.BigQuiet
namespace Go.Proofs.Ytnhbgagdppbldaa
open Go.RowKit Go.Deep

/-- A drawn list of nodes. -/
def DrawnNodes (w : World) (e : Ending) (w' : World) : Prop :=
  ∃ (m : Nat) (g : Nat → Nd) (b c : Nat), 1 ≤ m ∧ m ≤ 16 ∧ e = .returned (.slice (some ⟨b, 0, none⟩) m c) ∧ RdN w' w'.heap.size (some ⟨b, 0, none⟩) m g ∧ Below w.heap.size w w'
theorem drawRangeOf (A : Option Addr) (n cap : Nat) (w : World) (h : Bs w w.heap.size A n) (hn : n ≤ 4194304) :
    Calls Try.prog 26 #[.slice A n cap] w (DrawnNodes w) := by
  go_enter Try.func26, Try.ntmps26
  go_wp2_with fail
  refine (drawTreeOk A n cap _ h hn).mono ?_
  rintro e w1 ⟨m, g, b, c, f, hm1, hm2, rfl, hwb, hbL, hrow, hmc, hb1⟩
  go_wp2_with fail
  go_ret
  exact ⟨m, g, b, c, hm1, hm2, rfl, hrow.rdN hbL, hb1⟩
theorem drawLeavesOf (A : Option Addr) (n cap : Nat) (w : World) (h : Bs w w.heap.size A n) (hn : n ≤ 4194304) :
    Calls Try.prog 19 #[.slice A n cap] w (DrawnNodes w) := by
  go_enter Try.func19, Try.ntmps19
  go_wp2_with fail
  refine (drawRangeOf A n cap _ h hn).mono ?_
  rintro e w1 ⟨m, g, b, c, hm1, hm2, rfl, hr⟩
  go_wp2_with fail
  go_ret
  exact ⟨m, g, b, c, hm1, hm2, rfl, hr⟩

theorem lvZ_at {g : Nat → Nd} {n k : Nat} (hk : k < (lfs g n).length) : ∃ a : Nat, lvZ g n k = a ∧ a < n ∧ (g a).left = 0 ∧ a ∈ lfs g n := by
  refine ⟨(lfs g n)[k], ?_, ?_⟩
  · show (((lfs g n).getD k 0 : Nat) : Int) = _
    simp [hk]
  · have := List.getElem_mem hk
    exact ⟨(lfs_mem.1 this).1, (lfs_mem.1 this).2, this⟩
theorem lvZ_lt {g : Nat → Nd} {n k : Nat} (hk : k + 1 < (lfs g n).length) : lvZ g n k < lvZ g n (k + 1) := by
  have := List.pairwise_iff_getElem.1 (lfs_sorted g n) k (k + 1) (by omega) hk (by omega)
  show (((lfs g n).getD k 0 : Nat) : Int) < (((lfs g n).getD (k + 1) 0 : Nat) : Int)
  have h1 : (lfs g n).getD k 0 = (lfs g n)[k] := by simp [show k < (lfs g n).length by omega]
  have h2 : (lfs g n).getD (k + 1) 0 = (lfs g n)[k + 1] := by simp [hk]
  rw [h1, h2]
  omega
theorem lvZ_has {g : Nat → Nd} {n a : Nat} (ha : a < n) (h0 : (g a).left = 0) : ∃ k, k < (lfs g n).length ∧ lvZ g n k = a := by
  obtain ⟨k, hk, e⟩ := List.getElem_of_mem (lfs_mem.2 ⟨ha, h0⟩)
  refine ⟨k, hk, ?_⟩
  show (((lfs g n).getD k 0 : Nat) : Int) = _
  simp [hk, e]
/-- Is there one below k? -/
def anyP (p : Nat → Bool) : Nat → Bool
  | 0 => false
  | k + 1 => anyP p k || p k
theorem anyP_yes {p : Nat → Bool} {j : Nat} (h : p j = true) : ∀ {k}, j < k → anyP p k = true := by
  intro k
  induction k with
  | zero => intro h; omega
  | succ k ih =>
    intro hj
    unfold anyP
    by_cases e : j = k
    · subst e; rw [h, Bool.or_true]
    · rw [ih (by omega), Bool.true_or]
theorem lf_bounds {g : Nat → Nd} {n : Nat} {a : Nat} (ha : a < n) (h0 : (g a).left = 0) : loTo g n ≤ (g a).value ∧ (g a).value ≤ hiTo g n := ⟨loTo_le g n a ha h0, hiTo_ge g n a ha h0⟩
theorem lf_both {g : Nat → Nd} {n : Nat} (ht : treeB g n 6 = true) : (∃ a, a < n ∧ (g a).left = 0 ∧ loTo g n = (g a).value) ∧ ∃ a, a < n ∧ (g a).left = 0 ∧ hiTo g n = (g a).value := by
  have hT := (treeB_iff g n 6).1 ht
  have hn := hT.2.1
  obtain ⟨a, h1, h2, h3⟩ := lo_leaf hT.up 15 0 (by omega) (by omega)
  obtain ⟨b, k1, k2, k3⟩ := hi_leaf hT.up 15 0 (by omega) (by omega)
  exact ⟨⟨a, h1, h2, by rw [← lo_is hT]; exact h3⟩, ⟨b, k1, k2, by rw [← hi_is hT]; exact k3⟩⟩
def valAt (g : Nat → Nd) (n : Nat) : Nat → Int := fun k => (g (lvZ g n k).toNat).value

set_option maxRecDepth 100000 in
set_option maxHeartbeats 4000000 in
theorem lawRanges (A : Option Addr) (n cap : Nat) (w : World) (h : Bs w w.heap.size A n) :
    Calls Try.prog 4 #[.slice A n cap] w fun e w' => e = .returned (.bool true) ∧ Below w.heap.size w w' := by
  by_cases hbig : (1048576 : Int) < (n : Int)
  · go_enter Try.func4, Try.ntmps4
    go_wp2_with fail
    refine (big_yes A n cap _ hbig).mono ?_
    rintro e w1 ⟨rfl, rfl⟩
    go_wp2_with fail
    go_ret
    exact ⟨rfl, Below.refl _ _⟩
  · have hn : n ≤ 4194304 := by omega
    go_enter Try.func4, Try.ntmps4
    go_wp2_with fail
    refine (big_no A n cap _ (by omega)).mono ?_
    rintro e w0 ⟨rfl, rfl⟩
    go_wp2_with fail
    refine (drawRangeOf A n cap _ h hn).mono ?_
    rintro e w1 ⟨m, g, b, c, hm1, hm2, rfl, ht1, hb1⟩
    have hm' : m ≤ 4194304 := by omega
    cases htr : treeB g m 6 with
    | false =>
      have HT := hid htr
      clear htr
      go_wp2_with fail
      refine (iRange_no _ m c g _ ht1 hm' HT.out).mono ?_
      rintro e w2 ⟨rfl, hb2⟩
      have ht2 := ht1.to hb2 hb2.size
      have hw2 := hb1.trans (hb2.mono hb1.size)
      clear hb2 hb1 ht1
      go_wp2_with fail
      refine (sRange_no _ m c g _ ht2 hm' HT.out).mono ?_
      rintro e w3 ⟨rfl, hb3⟩
      have ht3 := ht2.to hb3 hb3.size
      have hw3 := hw2.trans (hb3.mono hw2.size)
      clear hb3 hw2 ht2
      go_wp2_with fail
      refine (iLeaves_no _ m c g _ ht3 hm' HT.out).mono ?_
      rintro e w4 ⟨rfl, hb4⟩
      have hw4 := hw3.trans (hb4.mono hw3.size)
      clear hb4 hw3
      go_wp2_with fail
      go_ret
      exact ⟨rfl, hw4⟩
    | true =>
      have HT := hid htr
      have hL := lvs_len_le ((treeB_iff g m 6).1 htr)
      have hL1 := hL.2.1
      have hL2 := hL.2.2
      clear htr hL
      obtain ⟨lo, hlo⟩ : ∃ x, loTo g m = x := ⟨_, rfl⟩
      obtain ⟨hi, hhi⟩ : ∃ x, hiTo g m = x := ⟨_, rfl⟩
      have HLO := hid hlo
      have HHI := hid hhi
      clear hlo hhi
      obtain ⟨L, hLL⟩ : ∃ L, (lfs g m).length = L := ⟨_, rfl⟩
      have HL := hid hLL
      rw [hLL] at hL1 hL2
      clear hLL
      go_wp2_with fail
      refine (iRange_yes _ m c g _ ht1 hm' HT.out).mono ?_
      rintro e w2 ⟨rfl, hb2⟩
      rw [HLO.out, HHI.out]
      have ht2 := ht1.to hb2 hb2.size
      have hw2 := hb1.trans (hb2.mono hb1.size)
      clear hb2 hb1 ht1
      go_wp2_with fail
      refine (sRange_yes _ m c g _ ht2 hm' HT.out).mono ?_
      rintro e w3 ⟨rfl, hb3⟩
      rw [HLO.out, HHI.out]
      have ht3 := ht2.to hb3 hb3.size
      have hw3 := hw2.trans (hb3.mono hw2.size)
      clear hb3 hw2 ht2
      go_wp2_with fail
      refine (iLeaves_yes _ m c g _ ht3 hm' HT.out).mono ?_
      rintro e w4 ⟨lb, lc, rfl, _, hrow, hb4⟩
      rw [HL.out] at hrow ⊢
      have ht4 := ht3.to hb4 hb4.size
      have hw4 := hw3.trans (hb4.mono hw3.size)
      clear hb4 hw3 ht3
      have hl0 : ¬ (L : Int) = 0 := by omega
      have hl0' : ((L : Int) == 0) = false := by simpa using hl0
      go_wp2_with fail
      go_loopw [9, 10, 11] (fun p q i wr => ∃ k : Nat, k ≤ L ∧ i = .int .i64 k ∧ p = .bool (anyP (fun j => valAt g m j == lo) k) ∧ q = .bool (anyP (fun j => valAt g m j == hi) k) ∧ wr = w4) (fun _ _ i _ => L - (intOf i).toNat)
      case atStart => exact ⟨0, Nat.zero_le _, rfl, rfl, rfl, rfl⟩
      case round =>
        obtain ⟨k, hk, rfl, rfl, rfl, rfl⟩ := hrel
        by_cases hlt : k < L
        · have i1 : (k : Int) < (L : Int) := by omega
          have i2 : (0 : Int) ≤ (k : Int) := by omega
          obtain ⟨a, ha, han, ha0, _⟩ := lvZ_at (g := g) (n := m) (k := k) (by rw [HL.out]; exact hlt)
          have hcl := hrow.cell hlt
          rw [ha] at hcl
          obtain ⟨b', off, e1, _, d0, d1, d2, d3, d4, d5⟩ := ht4.at_ han
          injection e1 with e1
          injection e1 with e1 e2
          subst e1 e2
          simp only [Nat.zero_add] at d2 d5
          have j1 : (a : Int) < (m : Int) := by omega
          have j2 : (0 : Int) ≤ (a : Int) := by omega
          obtain ⟨q1, q2⟩ := lf_bounds han ha0
          rw [HLO.out] at q1
          rw [HHI.out] at q2
          have hv : valAt g m k = (g a).value := by unfold valAt; rw [ha]; rfl
          have s1 : anyP (fun j => valAt g m j == lo) (k + 1) = (anyP (fun j => valAt g m j == lo) k || ((g a).value == lo)) := by rw [← hv]; rfl
          have s2 : anyP (fun j => valAt g m j == hi) (k + 1) = (anyP (fun j => valAt g m j == hi) k || ((g a).value == hi)) := by rw [← hv]; rfl
          have S1 := hid s1
          have S2 := hid s2
          clear s1 s2 hv ha d0 d1 d2 d3 d4
          generalize (g a).value = v at *
          generalize anyP (fun j => valAt g m j == lo) k = P at *
          generalize anyP (fun j => valAt g m j == hi) k = Q at *
          have g1 : (v < lo) = False := by simp; omega
          have g2 : (hi < v) = False := by simp; omega
          cases hlo : (v == lo) <;> cases hhi : (v == hi) <;> cases P <;> cases Q
          all_goals
            go_wp2_with fail
            go_roundw
            case rel => exact ⟨k + 1, by omega, by go_num, by rw [S1.out, hlo]; rfl, by rw [S2.out, hhi]; rfl, trivial⟩
            case measure => simp [intOf]; omega
        · obtain rfl : k = L := by omega
          obtain ⟨⟨a, h1, h2, h3⟩, ⟨a', k1, k2, k3⟩⟩ := lf_both HT.out
          obtain ⟨x, hx, ex⟩ := lvZ_has h1 h2
          obtain ⟨y, hy, ey⟩ := lvZ_has k1 k2
          rw [HL.out] at hx hy
          rw [HLO.out] at h3
          rw [HHI.out] at k3
          have r1 : anyP (fun j => valAt g m j == lo) k = true := anyP_yes (j := x) (by unfold valAt; rw [ex]; simp [h3]) hx
          have r2 : anyP (fun j => valAt g m j == hi) k = true := anyP_yes (j := y) (by unfold valAt; rw [ey]; simp [k3]) hy
          rw [r1, r2]
          clear r1 r2 h1 h2 h3 k1 k2 k3 ex ey
          go_wp2_with fail
          go_ret
          exact ⟨rfl, hw4⟩

set_option maxRecDepth 100000 in
set_option maxHeartbeats 4000000 in
theorem lawLeavesFn (A : Option Addr) (n cap : Nat) (w : World) (h : Bs w w.heap.size A n) :
    Calls Try.prog 3 #[.slice A n cap] w fun e w' => e = .returned (.bool true) ∧ Below w.heap.size w w' := by
  by_cases hbig : (1048576 : Int) < (n : Int)
  · go_enter Try.func3, Try.ntmps3
    go_wp2_with fail
    refine (big_yes A n cap _ hbig).mono ?_
    rintro e w1 ⟨rfl, rfl⟩
    go_wp2_with fail
    go_ret
    exact ⟨rfl, Below.refl _ _⟩
  · have hn : n ≤ 4194304 := by omega
    go_enter Try.func3, Try.ntmps3
    go_wp2_with fail
    refine (big_no A n cap _ (by omega)).mono ?_
    rintro e w0 ⟨rfl, rfl⟩
    go_wp2_with fail
    refine (drawLeavesOf A n cap _ h hn).mono ?_
    rintro e w1 ⟨m, g, b, c, hm1, hm2, rfl, ht1, hb1⟩
    have hm' : m ≤ 4194304 := by omega
    have h1 : Bs w1 w1.heap.size A n := (h.keep fun _ hp => hb1.cell hp).more hb1.size
    go_wp2_with fail
    refine (drawTreeOk A n cap _ h1 hn).mono ?_
    rintro e w2 ⟨mu, gu, bu, cu, fu, hu1, hu2, rfl, _, hbuL, hrowu, _, hb2⟩
    have hu' : mu ≤ 4194304 := by omega
    have hu := hrowu.rdN hbuL
    have ht2 := ht1.to hb2 hb2.size
    have hw2 := hb1.trans (hb2.mono hb1.size)
    clear hb2 hb1 ht1 h1 hrowu hbuL
    obtain ⟨U, hU⟩ : ∃ U, treeB gu mu fu = U := ⟨_, rfl⟩
    have HU := hid hU
    clear hU
    have hUU : (U != U) = false := by simp
    have hUE : (U == U) = true := by simp
    cases htr : treeB g m 6 with
    | false =>
      have HT := hid htr
      clear htr
      go_wp2_with fail
      refine (iLeaves_no _ m c g _ ht2 hm' HT.out).mono ?_
      rintro e w3 ⟨rfl, hb3⟩
      have ht3 := ht2.to hb3 hb3.size
      have hu3 := hu.to hb3 hb3.size
      have hw3 := hw2.trans (hb3.mono hw2.size)
      clear hb3 hw2 ht2 hu
      go_wp2_with fail
      refine (sLeaves_no _ m c g _ ht3 hm' HT.out).mono ?_
      rintro e va ⟨rfl, hb⟩
      have hta1 := ht3.to hb hb.size
      have hua1 := hu3.to hb hb.size
      have hwa1 := hw3.trans (hb.mono hw3.size)
      clear hb ht3 hu3 hw3
      go_wp2_with fail
      refine (same_any none none 0 0 0 nul nul _ rd_none rd_none (fun _ _ => rfl) (by omega)).mono ?_
      rintro e vb ⟨rfl, m1, rfl⟩
      have htb1 : RdN (va.drewN m1) (va.drewN m1).heap.size (some ⟨b, 0, none⟩) m g := hta1
      have hub1 : RdN (va.drewN m1) (va.drewN m1).heap.size (some ⟨bu, 0, none⟩) mu gu := hua1
      have hwb1 := below_drewN hwa1 m1
      clear hta1 hua1 hwa1
      go_wp2_with fail
      refine (iTreeOk_any _ mu cu gu fu _ hub1 hu').mono ?_
      rintro e vc ⟨rfl, hb⟩
      rw [HU.out]
      have htc1 := htb1.to hb hb.size
      have huc1 := hub1.to hb hb.size
      have hwc1 := hwb1.trans (hb.mono hwb1.size)
      clear hb htb1 hub1 hwb1
      go_wp2_with fail
      refine (sTreeOk_any _ mu cu gu fu _ huc1 hu').mono ?_
      rintro e vd ⟨rfl, hb⟩
      rw [HU.out]
      have htd1 := htc1.to hb hb.size
      have hud1 := huc1.to hb hb.size
      have hwd1 := hwc1.trans (hb.mono hwc1.size)
      clear hb htc1 huc1 hwc1
      go_wp2_with fail
      refine (sLeaves_no _ m c g _ htd1 hm' HT.out).mono ?_
      rintro e ua ⟨rfl, hb⟩
      have hta2 := htd1.to hb hb.size
      have hua2 := hud1.to hb hb.size
      have hwa2 := hwd1.trans (hb.mono hwd1.size)
      clear hb htd1 hud1 hwd1
      go_wp2_with fail
      refine (same_any none none 0 0 0 nul nul _ rd_none rd_none (fun _ _ => rfl) (by omega)).mono ?_
      rintro e ub ⟨rfl, m2, rfl⟩
      have htb2 : RdN (ua.drewN m2) (ua.drewN m2).heap.size (some ⟨b, 0, none⟩) m g := hta2
      have hub2 : RdN (ua.drewN m2) (ua.drewN m2).heap.size (some ⟨bu, 0, none⟩) mu gu := hua2
      have hwb2 := below_drewN hwa2 m2
      clear hta2 hua2 hwa2
      go_wp2_with fail
      refine (iTreeOk_any _ mu cu gu fu _ hub2 hu').mono ?_
      rintro e uc ⟨rfl, hb⟩
      rw [HU.out]
      have htc2 := htb2.to hb hb.size
      have huc2 := hub2.to hb hb.size
      have hwc2 := hwb2.trans (hb.mono hwb2.size)
      clear hb htb2 hub2 hwb2
      go_wp2_with fail
      refine (sTreeOk_any _ mu cu gu fu _ huc2 hu').mono ?_
      rintro e ud ⟨rfl, hb⟩
      rw [HU.out]
      have htd2 := htc2.to hb hb.size
      have hud2 := huc2.to hb hb.size
      have hwd2 := hwc2.trans (hb.mono hwc2.size)
      clear hb htc2 huc2 hwc2
      go_wp2_with fail
      go_ret
      exact ⟨by simp, hwd2⟩
    | true =>
      have HT := hid htr
      have hL := lvs_len_le ((treeB_iff g m 6).1 htr)
      have hL1 := hL.2.1
      have hL2 := hL.2.2
      have hLn := lfs_len ((treeB_iff g m 6).1 htr)
      clear htr hL
      obtain ⟨L, hLL⟩ : ∃ L, (lfs g m).length = L := ⟨_, rfl⟩
      have HL := hid hLL
      rw [hLL] at hL1 hL2 hLn
      clear hLL
      go_wp2_with fail
      refine (iLeaves_yes _ m c g _ ht2 hm' HT.out).mono ?_
      rintro e w3 ⟨lb, lc, rfl, _, hri, hb3⟩
      rw [HL.out] at hri ⊢
      have ht3 := ht2.to hb3 hb3.size
      have hu3 := hu.to hb3 hb3.size
      have hw3 := hw2.trans (hb3.mono hw2.size)
      clear hb3 hw2 ht2 hu
      have hl0 : ¬ (L : Int) = 0 := by omega
      have hl0' : ((L : Int) == 0) = false := by simpa using hl0
      go_wp2_with fail
      refine (sLeaves_yes _ m c g _ ht3 hm' HT.out).mono ?_
      rintro e va ⟨sb1, sc1, rfl, _, hrs1, hb⟩
      rw [HL.out] at hrs1 ⊢
      have hta1 := ht3.to hb hb.size
      have hua1 := hu3.to hb hb.size
      have hwa1 := hw3.trans (hb.mono hw3.size)
      have hri1 := hri.below hb hri.lt
      clear hri
      clear hb ht3 hu3 hw3
      go_wp2_with fail
      refine (same_any _ _ L lc sc1 (lvZ g m) (lvZ g m) _ (rd_of hri1) (rd_of hrs1) (fun _ _ => rfl) (by omega)).mono ?_
      rintro e vb ⟨rfl, m1, rfl⟩
      have htb1 : RdN (va.drewN m1) (va.drewN m1).heap.size (some ⟨b, 0, none⟩) m g := hta1
      have hub1 : RdN (va.drewN m1) (va.drewN m1).heap.size (some ⟨bu, 0, none⟩) mu gu := hua1
      have hwb1 := below_drewN hwa1 m1
      have hrb1 : Row (va.drewN m1) 2 lb L (lvZ g m) := hri1
      clear hri1 hrs1
      clear hta1 hua1 hwa1
      go_wp2_with fail
      refine (iTreeOk_any _ mu cu gu fu _ hub1 hu').mono ?_
      rintro e vc ⟨rfl, hb⟩
      rw [HU.out]
      have htc1 := htb1.to hb hb.size
      have huc1 := hub1.to hb hb.size
      have hwc1 := hwb1.trans (hb.mono hwb1.size)
      have hrc1 := Row.below hrb1 hb hrb1.lt
      clear hrb1
      clear hb htb1 hub1 hwb1
      go_wp2_with fail
      refine (sTreeOk_any _ mu cu gu fu _ huc1 hu').mono ?_
      rintro e vd ⟨rfl, hb⟩
      rw [HU.out]
      have htd1 := htc1.to hb hb.size
      have hud1 := huc1.to hb hb.size
      have hwd1 := hwc1.trans (hb.mono hwc1.size)
      have hrd1 := Row.below hrc1 hb hrc1.lt
      clear hrc1
      clear hb htc1 huc1 hwc1
      go_wp2_with fail
      go_loopw [7] (fun i wr => ∃ k q : Nat, k ≤ L ∧ i = .int .i64 k ∧ wr = vd.drewN q) (fun i _ => L - (intOf i).toNat)
      case atStart => exact ⟨0, 0, Nat.zero_le _, rfl, rfl⟩
      case round =>
        obtain ⟨k, q, hk, rfl, rfl⟩ := hrel
        by_cases hlt : k < L
        · have i1 : (k : Int) < (L : Int) := by omega
          have i2 : (0 : Int) ≤ (k : Int) := by omega
          obtain ⟨a, ha, han, ha0, _⟩ := lvZ_at (g := g) (n := m) (k := k) (by rw [HL.out]; exact hlt)
          have hcl := hrd1.cell hlt
          rw [ha] at hcl
          obtain ⟨b', off, e1, _, d0, d1, d2, d3, d4, d5⟩ := htd1.at_ han
          injection e1 with e1
          injection e1 with e1 e2
          subst e1 e2
          simp only [Nat.zero_add] at d2 d5
          have j1 : (a : Int) < (m : Int) := by omega
          have j2 : (0 : Int) ≤ (a : Int) := by omega
          rw [ha0] at d2
          clear d0 d1 d3 d4 d5
          by_cases hk0 : k = 0
          · subst hk0
            clear ha0
            go_wp2_with fail
            go_quiet (fail)
            go_wp2_with fail
            go_roundw
            case rel => exact ⟨1, _, by omega, by go_num, rfl⟩
            case measure => simp [intOf]; omega
          · obtain ⟨s, hs⟩ : ∃ s, k = s + 1 := ⟨k - 1, by omega⟩
            have k1 : (k : Int) - 1 = s := by omega
            have k2 : (s : Int) < (L : Int) := by omega
            have k3 : (0 : Int) ≤ (s : Int) := by omega
            have k4 : (0 : Int) < (k : Int) := by omega
            have kd : decide (0 < k) = true := by simp; omega
            have kw : IntKind.i64.wrap (s : Int) = (s : Int) := IntWalk.i64_in _ (by omega)
            have hcs := hrd1.cell (i := s) (by omega)
            have hls := lvZ_lt (g := g) (n := m) (k := s) (by rw [HL.out]; omega)
            rw [← hs, ha] at hls
            have kf : decide ((a : Int) ≤ lvZ g m s) = false := by simp; omega
            generalize lvZ g m s = x at *
            clear ha0
            have HS := hid hs
            clear hs
            go_wp2_with fail
            go_quiet (fail)
            go_wp2_with fail
            go_roundw
            case rel => exact ⟨k + 1, _, by omega, by go_num, rfl⟩
            case measure => simp [intOf]; omega
        · obtain rfl : k = L := by omega
          go_wp2_with fail
          go_ret
          exact ⟨by simp; omega, below_drewN hwd1 q⟩
end Go.Proofs.Ytnhbgagdppbldaa
