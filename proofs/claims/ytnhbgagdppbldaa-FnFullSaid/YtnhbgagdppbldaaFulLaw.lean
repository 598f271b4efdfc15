/- The walk of the law of scores: the bias and what each tree gives. -/
import Derived.Test.YtnhbgagdppbldaaEnsDrawH
import Derived.Test.YtnhbgagdppbldaaEnsF
import Derived.Test.YtnhbgagdppbldaaEnsD
import Derived.Deep.RegionHeld3
namespace Go.Proofs.Ytnhbgagdppbldaa
open Go.RowKit Go.Deep

set_option maxRecDepth 100000 in
set_option maxHeartbeats 4000000 in
theorem lawFulls (A : Option Addr) (n cap : Nat) (w : World) (h : Bs w w.heap.size A n) :
    Calls Try.prog 7 #[.slice A n cap] w fun e w' => e = .returned (.bool true) ∧ Below w.heap.size w w' := by
  by_cases hbig : (1048576 : Int) < (n : Int)
  · go_enter Try.func7, Try.ntmps7
    go_wp2_with fail
    refine (big_yes A n cap _ hbig).mono ?_
    rintro e w1 ⟨rfl, rfl⟩
    go_wp2_with fail
    go_ret
    exact ⟨rfl, Below.refl _ _⟩
  · have hn : n ≤ 4194304 := by omega
    go_enter Try.func7, Try.ntmps7
    go_wp2_with fail
    refine (big_no A n cap _ (by omega)).mono ?_
    rintro e w0 ⟨rfl, rfl⟩
    go_wp2_with fail
    refine (drawFull A n cap _ h hn).mono ?_
    rintro e w1 ⟨f, b, k, A', c, len, g, m, z, D, dc, hk, hl, hm, rfl, hr1, hd1, hb1⟩
    have hl' : Hid (∀ i, i < k → len i ≤ 4194304) := fun i hi => by have := hl i hi; omega
    have hk' : k ≤ 4194304 := by omega
    have hm' : m ≤ 4194304 := by omega
    have hbx := (Below.refl w1.heap.size w1).alloc (Nat.le_refl _) (.cells #[.int .i64 f, .int .i64 b, .slice A' k c] 54)
    have hE2 := Blk.new w1 54 #[.int .i64 f, .int .i64 b, .slice A' k c]
    have hr2 := hr1.to hbx hbx.size
    have hd2 := hd1.to hbx hbx.size
    have hw2 := hb1.trans (hbx.mono hb1.size)
    clear hl hbx hr1 hd1 hb1
    cases hy : (ensB f b k len g && fitB f m z) with
    | false =>
      obtain ⟨B, hB⟩ : ∃ B, ensB f b k len g = B := ⟨_, rfl⟩
      have HB := hid hB
      have HY := hid hy
      clear hB hy
      have c0 : (w1.alloc (.cells #[.int .i64 f, .int .i64 b, .slice A' k c] 54)).cell? ⟨w1.heap.size, 0, none⟩ = some (.int .i64 f) := hE2.cell 0
      have c1 : (w1.alloc (.cells #[.int .i64 f, .int .i64 b, .slice A' k c] 54)).cell? ⟨w1.heap.size, 1, none⟩ = some (.int .i64 b) := hE2.cell 1
      have c2 : (w1.alloc (.cells #[.int .i64 f, .int .i64 b, .slice A' k c] 54)).cell? ⟨w1.heap.size, 2, none⟩ = some (.slice A' k c) := hE2.cell 2
      go_wp2_with fail
      refine (iFull_no f b A' k c len g D m dc z _ hr2 hd2 hk' hl' hm' HY.out).mono ?_
      rintro e v1 ⟨rfl, hbv1⟩
      have hE2_1 := hE2.below hbv1 hE2.lt
      have hr_1 := hr2.to hbv1 hbv1.size
      have hd_1 := hd2.to hbv1 hbv1.size
      have hw_1 := hw2.trans (hbv1.mono hw2.size)
      clear hE2 hr2 hd2 hw2 hbv1
      clear c0 c1 c2
      have c0 : v1.cell? ⟨w1.heap.size, 0, none⟩ = some (.int .i64 f) := hE2_1.cell 0
      have c1 : v1.cell? ⟨w1.heap.size, 1, none⟩ = some (.int .i64 b) := hE2_1.cell 1
      have c2 : v1.cell? ⟨w1.heap.size, 2, none⟩ = some (.slice A' k c) := hE2_1.cell 2
      go_wp2_with fail
      refine (sFull_no f b A' k c len g D m dc z _ hr_1 hd_1 hk' hl' hm' HY.out).mono ?_
      rintro e v2 ⟨rfl, hbv2⟩
      have hE2_2 := hE2_1.below hbv2 hE2_1.lt
      have hr_2 := hr_1.to hbv2 hbv2.size
      have hd_2 := hd_1.to hbv2 hbv2.size
      have hw_2 := hw_1.trans (hbv2.mono hw_1.size)
      clear hE2_1 hr_1 hd_1 hw_1 hbv2
      clear c0 c1 c2
      cases B
      all_goals
        have hdA : RdT v2.drew v2.drew.heap.size A' k len g := hr_2
        have c0A : v2.drew.cell? ⟨w1.heap.size, 0, none⟩ = some (.int .i64 f) := hE2_2.cell 0
        have c1A : v2.drew.cell? ⟨w1.heap.size, 1, none⟩ = some (.int .i64 b) := hE2_2.cell 1
        have c2A : v2.drew.cell? ⟨w1.heap.size, 2, none⟩ = some (.slice A' k c) := hE2_2.cell 2
        go_wp2_with fail
        go_region_held3 (fun w' => w'.cell? ⟨w1.heap.size, 0, none⟩ = some (.int .i64 f) ∧ w'.cell? ⟨w1.heap.size, 1, none⟩ = some (.int .i64 b) ∧ w'.cell? ⟨w1.heap.size, 2, none⟩ = some (.slice A' k c))
          (first | exact ⟨c0A, c1A, c2A⟩ | exact ⟨hEpA.cell 0, hEpA.cell 1, hEpA.cell 2⟩ | exact ⟨hEqA.cell 0, hEqA.cell 1, hEqA.cell 2⟩)
          (first
            | (go_at_call 44; refine (iEnsOk_any f b A' k c len g v2.drew hdA hk' hl').mono ?_; rintro e pA ⟨rfl, hbpA⟩; rw [HB.out]; have hEpA := (show Blk v2.drew _ _ _ from hE2_2).below hbpA hE2_2.lt; have hrpA := hdA.to hbpA hbpA.size)
            | (go_at_call 45; refine (sEnsOk_any f b A' k c len g pA hrpA hk' hl').mono ?_; rintro e qA ⟨rfl, hbqA⟩; rw [HB.out]; have hEqA := hEpA.below hbqA hEpA.lt; have hrqA := hrpA.to hbqA hbqA.size))
        have hddA : Rd v2.drew v2.drew.heap.size D m z := hd_2
        have hdqA := (hddA.to hbpA hbpA.size).to hbqA hbqA.size
        have hwwA : Below w.heap.size w v2.drew := below_drewN hw_2 1
        have hwqA := (hwwA.trans (hbpA.mono hwwA.size)).trans (hbqA.mono (Nat.le_trans hwwA.size hbpA.size))
        have hdB : RdT qA.drew qA.drew.heap.size A' k len g := hrqA
        have c0B : qA.drew.cell? ⟨w1.heap.size, 0, none⟩ = some (.int .i64 f) := hEqA.cell 0
        have c1B : qA.drew.cell? ⟨w1.heap.size, 1, none⟩ = some (.int .i64 b) := hEqA.cell 1
        have c2B : qA.drew.cell? ⟨w1.heap.size, 2, none⟩ = some (.slice A' k c) := hEqA.cell 2
        go_wp2_with fail
        go_region_held3 (fun w' => w'.cell? ⟨w1.heap.size, 0, none⟩ = some (.int .i64 f) ∧ w'.cell? ⟨w1.heap.size, 1, none⟩ = some (.int .i64 b) ∧ w'.cell? ⟨w1.heap.size, 2, none⟩ = some (.slice A' k c))
          (first | exact ⟨c0B, c1B, c2B⟩ | exact ⟨hEpB.cell 0, hEpB.cell 1, hEpB.cell 2⟩ | exact ⟨hEqB.cell 0, hEqB.cell 1, hEqB.cell 2⟩)
          (first
            | (go_at_call 44; refine (iEnsOk_any f b A' k c len g qA.drew hdB hk' hl').mono ?_; rintro e pB ⟨rfl, hbpB⟩; rw [HB.out]; have hEpB := (show Blk qA.drew _ _ _ from hEqA).below hbpB hEqA.lt; have hrpB := hdB.to hbpB hbpB.size)
            | (go_at_call 45; refine (sEnsOk_any f b A' k c len g pB hrpB hk' hl').mono ?_; rintro e qB ⟨rfl, hbqB⟩; rw [HB.out]; have hEqB := hEpB.below hbqB hEpB.lt; have hrqB := hrpB.to hbqB hbqB.size))
        have hddB : Rd qA.drew qA.drew.heap.size D m z := hdqA
        have hdqB := (hddB.to hbpB hbpB.size).to hbqB hbqB.size
        have hwwB : Below w.heap.size w qA.drew := below_drewN hwqA 1
        have hwqB := (hwwB.trans (hbpB.mono hwwB.size)).trans (hbqB.mono (Nat.le_trans hwwB.size hbpB.size))
        go_wp2_with fail
        go_ret
        exact ⟨rfl, hwqB⟩
    | true =>
      obtain ⟨he, hf⟩ : ensB f b k len g = true ∧ fitB f m z = true := by simpa using hy
      obtain ⟨_, qb, q12, qt⟩ := ensB_iff.1 he
      obtain ⟨hmf, hdoc⟩ : (m : Int) = f ∧ docB m z = true := by unfold fitB at hf; simpa using hf
      have bS := sumT_bound (p := scF g z) (n := k) (fun i hi => lvv_bound z (qt i hi))
      have HB := hid he
      have HF := hid hf
      have HT := hid qt
      have HD := hid hdoc
      have HMF := hid hmf
      have HSB := hid bS
      clear hy qt he hf hdoc hmf bS
      have c0 : (w1.alloc (.cells #[.int .i64 f, .int .i64 b, .slice A' k c] 54)).cell? ⟨w1.heap.size, 0, none⟩ = some (.int .i64 f) := hE2.cell 0
      have c1 : (w1.alloc (.cells #[.int .i64 f, .int .i64 b, .slice A' k c] 54)).cell? ⟨w1.heap.size, 1, none⟩ = some (.int .i64 b) := hE2.cell 1
      have c2 : (w1.alloc (.cells #[.int .i64 f, .int .i64 b, .slice A' k c] 54)).cell? ⟨w1.heap.size, 2, none⟩ = some (.slice A' k c) := hE2.cell 2
      go_wp2_with fail
      refine (iFull_yes f b A' k c len g D m dc z _ hr2 hd2 hk' hl' hm' HB.out HF.out).mono ?_
      rintro e v1 ⟨rfl, hbv1⟩
      have hE2_1 := hE2.below hbv1 hE2.lt
      have hr_1 := hr2.to hbv1 hbv1.size
      have hd_1 := hd2.to hbv1 hbv1.size
      have hw_1 := hw2.trans (hbv1.mono hw2.size)
      clear hE2 hr2 hd2 hw2 hbv1
      clear c0 c1 c2
      have c0 : v1.cell? ⟨w1.heap.size, 0, none⟩ = some (.int .i64 f) := hE2_1.cell 0
      have c1 : v1.cell? ⟨w1.heap.size, 1, none⟩ = some (.int .i64 b) := hE2_1.cell 1
      have c2 : v1.cell? ⟨w1.heap.size, 2, none⟩ = some (.slice A' k c) := hE2_1.cell 2
      go_wp2_with fail
      refine (sFull_yes f b A' k c len g D m dc z _ hr_1 hd_1 hk' hl' hm' HB.out HF.out).mono ?_
      rintro e v2 ⟨rfl, hbv2⟩
      have hE2_2 := hE2_1.below hbv2 hE2_1.lt
      have hr_2 := hr_1.to hbv2 hbv2.size
      have hd_2 := hd_1.to hbv2 hbv2.size
      have hw_2 := hw_1.trans (hbv2.mono hw_1.size)
      clear hE2_1 hr_1 hd_1 hw_1 hbv2
      clear c0 c1 c2
      obtain ⟨tot, htot⟩ : ∃ x, b + sumT (scF g z) k = x := ⟨_, rfl⟩
      rw [htot]
      have HTOT := hid htot
      clear htot
      have hdA : RdT v2.drew v2.drew.heap.size A' k len g := hr_2
      have c0A : v2.drew.cell? ⟨w1.heap.size, 0, none⟩ = some (.int .i64 f) := hE2_2.cell 0
      have c1A : v2.drew.cell? ⟨w1.heap.size, 1, none⟩ = some (.int .i64 b) := hE2_2.cell 1
      have c2A : v2.drew.cell? ⟨w1.heap.size, 2, none⟩ = some (.slice A' k c) := hE2_2.cell 2
      go_wp2_with fail
      go_region_held3 (fun w' => w'.cell? ⟨w1.heap.size, 0, none⟩ = some (.int .i64 f) ∧ w'.cell? ⟨w1.heap.size, 1, none⟩ = some (.int .i64 b) ∧ w'.cell? ⟨w1.heap.size, 2, none⟩ = some (.slice A' k c))
        (first | exact ⟨c0A, c1A, c2A⟩ | exact ⟨hEpA.cell 0, hEpA.cell 1, hEpA.cell 2⟩ | exact ⟨hEqA.cell 0, hEqA.cell 1, hEqA.cell 2⟩)
        (first
          | (go_at_call 44; refine (iEnsOk_any f b A' k c len g v2.drew hdA hk' hl').mono ?_; rintro e pA ⟨rfl, hbpA⟩; rw [HB.out]; have hEpA := (show Blk v2.drew _ _ _ from hE2_2).below hbpA hE2_2.lt; have hrpA := hdA.to hbpA hbpA.size)
          | (go_at_call 45; refine (sEnsOk_any f b A' k c len g pA hrpA hk' hl').mono ?_; rintro e qA ⟨rfl, hbqA⟩; rw [HB.out]; have hEqA := hEpA.below hbqA hEpA.lt; have hrqA := hrpA.to hbqA hbqA.size))
      have hddA : Rd v2.drew v2.drew.heap.size D m z := hd_2
      have hdqA := (hddA.to hbpA hbpA.size).to hbqA hbqA.size
      have hwwA : Below w.heap.size w v2.drew := below_drewN hw_2 1
      have hwqA := (hwwA.trans (hbpA.mono hwwA.size)).trans (hbqA.mono (Nat.le_trans hwwA.size hbpA.size))
      have c0 : qA.cell? ⟨w1.heap.size, 0, none⟩ = some (.int .i64 f) := hEqA.cell 0
      have c1 : qA.cell? ⟨w1.heap.size, 1, none⟩ = some (.int .i64 b) := hEqA.cell 1
      have c2 : qA.cell? ⟨w1.heap.size, 2, none⟩ = some (.slice A' k c) := hEqA.cell 2
      go_wp2_with fail
      have HWW := hid hwqA
      go_loopw [9, 10] (fun s i wr => ∃ j : Nat, j ≤ k ∧ i = .int .i64 j ∧ s = .int .i64 (b + sumT (scF g z) j) ∧ Blk wr w1.heap.size 54 #[.int .i64 f, .int .i64 b, .slice A' k c] ∧ RdT wr wr.heap.size A' k len g ∧ Rd wr wr.heap.size D m z ∧ Hid (Below w.heap.size w wr)) (fun _ i _ => k - (intOf i).toNat)
      case atStart => exact ⟨0, Nat.zero_le _, rfl, by simp [sumT], hEqA, hrqA, hdqA, HWW⟩
      case round =>
        clear c0 c1 c2
        obtain ⟨j, hj, rfl, rfl, hE, hr, hd, hw⟩ := hrel
        have c2 : wr.cell? ⟨w1.heap.size, 2, none⟩ = some (.slice A' k c) := hE.cell 2
        by_cases hlt : j < k
        · obtain ⟨tb, off, Ai, ci, rfl, htb, hcell, hrd⟩ := hr.at_ hlt
          have i1 : (j : Int) < (k : Int) := by omega
          have i2 : (0 : Int) ≤ (j : Int) := by omega
          have ht : treeB (g j) (len j) m = true := by rw [HMF.out]; exact HT.out j hlt
          have hlen := hl'.out j hlt
          have HTT := hid ht
          clear ht
          go_wp2_with fail
          refine (iLeaf_yes Ai D (len j) ci m dc (g j) z _ hrd hd hlen HD.out HTT.out).mono ?_
          rintro e w5 ⟨T, hEn, rfl, hb5⟩
          have hTr := (treeB_iff (g j) (len j) m).1 HTT.out
          have hin := (itr_up z hTr.up (by have := hTr.2.1; omega) T hEn.1).2
          have hT15 : T < 15 := by obtain ⟨T', hT', hE'⟩ := ends_some z hTr.up (by have := hTr.2.1; omega); rw [hEn.same hE']; have := hTr.2.1; omega
          have hv : lvv (g j) z = (g j (itr (g j) z T)).value := lvv_is hEn (by omega)
          obtain ⟨a, ha⟩ : ∃ a : Nat, itr (g j) z T = a := ⟨_, rfl⟩
          have hseq : seqZ (g j) z T = (a : Int) := by show ((itr (g j) z T : Nat) : Int) = _; rw [ha]
          rw [ha] at hin hv
          rw [hseq]
          have hb1 := HSB.out j (by omega)
          have hb2 := HSB.out (j + 1) (by omega)
          have hs : sumT (scF g z) (j + 1) = sumT (scF g z) j + (g j a).value := by simp only [sumT]; show _ + lvv (g j) z = _; rw [hv]
          rw [hs] at hb2
          have HS := hid hs
          clear hs hv hseq ha hTr hEn hT15
          obtain ⟨bi, off', rfl, hbi, hnd⟩ := hrd.at_ hin
          have hcell5 : w5.cell? ⟨tb, off + j, none⟩ = some (.slice (some ⟨bi, off', none⟩) (len j) ci) := (hb5.cell htb).trans hcell
          have hval5 : w5.cell? ⟨bi, off' + a * 6 + 5, none⟩ = some (.int .i64 (g j a).value) := (hb5.cell hbi).trans hnd.2.2.2.2.2
          have hE5 := hE.below hb5 hE.lt
          have c25 : w5.cell? ⟨w1.heap.size, 2, none⟩ = some (.slice (some ⟨tb, off, none⟩) k c) := hE5.cell 2
          have a1 : (a : Int) < (len j : Int) := by omega
          have a0 : ¬ (a : Int) < 0 := by omega
          have a2 : (0 : Int) ≤ (a : Int) := by omega
          have hr5 := hr.to hb5 hb5.size
          have hd5 := hd.to hb5 hb5.size
          have hw5 := hw.out.trans (hb5.mono hw.out.size)
          have HW5 := hid hw5
          clear hw5 hb5 hr hd hrd hnd
          generalize hvv : (g j a).value = v at *
          obtain ⟨sj, hsj⟩ : ∃ x, sumT (scF g z) j = x := ⟨_, rfl⟩
          rw [hsj] at hb1 hb2
          have HSJ := hid hsj
          rw [hsj]
          clear hsj hvv
          go_wp2_with fail
          go_roundw
          case rel => exact ⟨j + 1, by omega, by go_num, by rw [HS.out, HSJ.out, Int.add_assoc], hE5, hr5, hd5, HW5⟩
          case measure => simp [intOf]; omega
        · obtain rfl : j = k := by omega
          rw [HTOT.out]
          go_wp2_with fail
          go_ret
          exact ⟨by simp, hw.out⟩
end Go.Proofs.Ytnhbgagdppbldaa
