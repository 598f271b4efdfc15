/- The walk of the law of an ensemble's bias. -/
import Derived.Test.YtnhbgagdppbldaaEnsDrawH
import Derived.Test.YtnhbgagdppbldaaEnsF
import Derived.Test.YtnhbgagdppbldaaEnsD
namespace Go.Proofs.Ytnhbgagdppbldaa
open Go.RowKit Go.Deep

theorem ens_bias {f b : Int} {k : Nat} {len : Nat → Nat} {g : Nat → Nat → Nd} (h : ensB f b k len g = true) (hb : b ≠ 1000000000) : ensB f (b + 1) k len g = true := by
  obtain ⟨q1, q2, q3, q4⟩ := ensB_iff.1 h
  exact ensB_iff.2 ⟨q1, by omega, q3, q4⟩

set_option maxRecDepth 100000 in
set_option maxHeartbeats 4000000 in
theorem lawBias (A : Option Addr) (n cap : Nat) (w : World) (h : Bs w w.heap.size A n) :
    Calls Try.prog 12 #[.slice A n cap] w fun e w' => e = .returned (.bool true) ∧ Below w.heap.size w w' := by
  by_cases hbig : (1048576 : Int) < (n : Int)
  · go_enter Try.func12, Try.ntmps12
    go_wp2_with fail
    refine (big_yes A n cap _ hbig).mono ?_
    rintro e w1 ⟨rfl, rfl⟩
    go_wp2_with fail
    go_ret
    exact ⟨rfl, Below.refl _ _⟩
  · have hn : n ≤ 4194304 := by omega
    go_enter Try.func12, Try.ntmps12
    go_wp2_with fail
    refine (big_no A n cap _ (by omega)).mono ?_
    rintro e w0 ⟨rfl, rfl⟩
    go_wp2_with fail
    refine (drawFull A n cap _ h hn).mono ?_
    rintro e w1 ⟨f, b, k, A', c, len, g, m, z, D, dc, hk, hl, hm, rfl, hr1, hd1, hb1⟩
    have hl' : Hid (∀ i, i < k → len i ≤ 4194304) := fun i hi => by have := hl i hi; omega
    have hk' : k ≤ 4194304 := by omega
    have hm' : m ≤ 4194304 := by omega
    have hbx := (Below.refl w1.heap.size w1).alloc (Nat.le_refl _) (.cells #[.int .i64 f, .int .i64 b, .slice A' k c] 54)
    have hE2 := Blk.new w1 54 #[.int .i64 f, .int .i64 b, .slice A' k c]
    have hr2 := hr1.to hbx hbx.size
    have hd2 := hd1.to hbx hbx.size
    have hw2 := hb1.trans (hbx.mono hb1.size)
    clear hl hbx hr1 hd1 hb1
    cases hy : (ensB f b k len g && fitB f m z) with
    | false =>
      have HY := hid hy
      clear hy
      have c0 : (w1.alloc (.cells #[.int .i64 f, .int .i64 b, .slice A' k c] 54)).cell? ⟨w1.heap.size, 0, none⟩ = some (.int .i64 f) := hE2.cell 0
      have c1 : (w1.alloc (.cells #[.int .i64 f, .int .i64 b, .slice A' k c] 54)).cell? ⟨w1.heap.size, 1, none⟩ = some (.int .i64 b) := hE2.cell 1
      have c2 : (w1.alloc (.cells #[.int .i64 f, .int .i64 b, .slice A' k c] 54)).cell? ⟨w1.heap.size, 2, none⟩ = some (.slice A' k c) := hE2.cell 2
      go_wp2_with fail
      refine (iFull_no f b A' k c len g D m dc z _ hr2 hd2 hk' hl' hm' HY.out).mono ?_
      rintro e v1 ⟨rfl, hbv1⟩
      have hE2_1 := hE2.below hbv1 hE2.lt
      have hr_1 := hr2.to hbv1 hbv1.size
      have hd_1 := hd2.to hbv1 hbv1.size
      have hw_1 := hw2.trans (hbv1.mono hw2.size)
      clear hE2 hr2 hd2 hw2 hbv1
      clear c0 c1 c2
      have c0 : v1.cell? ⟨w1.heap.size, 0, none⟩ = some (.int .i64 f) := hE2_1.cell 0
      have c1 : v1.cell? ⟨w1.heap.size, 1, none⟩ = some (.int .i64 b) := hE2_1.cell 1
      have c2 : v1.cell? ⟨w1.heap.size, 2, none⟩ = some (.slice A' k c) := hE2_1.cell 2
      go_wp2_with fail
      refine (sFull_no f b A' k c len g D m dc z _ hr_1 hd_1 hk' hl' hm' HY.out).mono ?_
      rintro e v2 ⟨rfl, hbv2⟩
      have hE2_2 := hE2_1.below hbv2 hE2_1.lt
      have hr_2 := hr_1.to hbv2 hbv2.size
      have hd_2 := hd_1.to hbv2 hbv2.size
      have hw_2 := hw_1.trans (hbv2.mono hw_1.size)
      clear hE2_1 hr_1 hd_1 hw_1 hbv2
      clear c0 c1 c2
      have c0 : v2.cell? ⟨w1.heap.size, 0, none⟩ = some (.int .i64 f) := hE2_2.cell 0
      have c1 : v2.cell? ⟨w1.heap.size, 1, none⟩ = some (.int .i64 b) := hE2_2.cell 1
      have c2 : v2.cell? ⟨w1.heap.size, 2, none⟩ = some (.slice A' k c) := hE2_2.cell 2
      go_wp2_with fail
      go_ret
      exact ⟨rfl, hw_2⟩
    | true =>
      obtain ⟨he, hf⟩ : ensB f b k len g = true ∧ fitB f m z = true := by simpa using hy
      obtain ⟨_, qb, _, qt⟩ := ensB_iff.1 he
      have bS := sumT_bound (p := scF g z) (n := k) (fun i hi => lvv_bound z (qt i hi)) k (Nat.le_refl k)
      have bL := sumT_bound (p := loF len g) (n := k) (fun i hi => lo_bound (qt i hi)) k (Nat.le_refl k)
      have bH := sumT_bound (p := hiF len g) (n := k) (fun i hi => hi_bound (qt i hi)) k (Nat.le_refl k)
      have HE := hid he
      have HF := hid hf
      clear hy qt he hf
      obtain ⟨sS, hsS⟩ : ∃ x, sumT (scF g z) k = x := ⟨_, rfl⟩
      obtain ⟨sL, hsL⟩ : ∃ x, sumT (loF len g) k = x := ⟨_, rfl⟩
      obtain ⟨sH, hsH⟩ : ∃ x, sumT (hiF len g) k = x := ⟨_, rfl⟩
      rw [hsS] at bS
      rw [hsL] at bL
      rw [hsH] at bH
      have HS := hid hsS
      have HL := hid hsL
      have HH := hid hsH
      clear hsS hsL hsH
      have c0 : (w1.alloc (.cells #[.int .i64 f, .int .i64 b, .slice A' k c] 54)).cell? ⟨w1.heap.size, 0, none⟩ = some (.int .i64 f) := hE2.cell 0
      have c1 : (w1.alloc (.cells #[.int .i64 f, .int .i64 b, .slice A' k c] 54)).cell? ⟨w1.heap.size, 1, none⟩ = some (.int .i64 b) := hE2.cell 1
      have c2 : (w1.alloc (.cells #[.int .i64 f, .int .i64 b, .slice A' k c] 54)).cell? ⟨w1.heap.size, 2, none⟩ = some (.slice A' k c) := hE2.cell 2
      go_wp2_with fail
      refine (iFull_yes f b A' k c len g D m dc z _ hr2 hd2 hk' hl' hm' HE.out HF.out).mono ?_
      rintro e v1 ⟨rfl, hbv1⟩
      have hE2_1 := hE2.below hbv1 hE2.lt
      have hr_1 := hr2.to hbv1 hbv1.size
      have hd_1 := hd2.to hbv1 hbv1.size
      have hw_1 := hw2.trans (hbv1.mono hw2.size)
      clear hE2 hr2 hd2 hw2 hbv1
      rw [HS.out]
      clear c0 c1 c2
      have c0 : v1.cell? ⟨w1.heap.size, 0, none⟩ = some (.int .i64 f) := hE2_1.cell 0
      have c1 : v1.cell? ⟨w1.heap.size, 1, none⟩ = some (.int .i64 b) := hE2_1.cell 1
      have c2 : v1.cell? ⟨w1.heap.size, 2, none⟩ = some (.slice A' k c) := hE2_1.cell 2
      go_wp2_with fail
      refine (sFull_yes f b A' k c len g D m dc z _ hr_1 hd_1 hk' hl' hm' HE.out HF.out).mono ?_
      rintro e v2 ⟨rfl, hbv2⟩
      have hE2_2 := hE2_1.below hbv2 hE2_1.lt
      have hr_2 := hr_1.to hbv2 hbv2.size
      have hd_2 := hd_1.to hbv2 hbv2.size
      have hw_2 := hw_1.trans (hbv2.mono hw_1.size)
      clear hE2_1 hr_1 hd_1 hw_1 hbv2
      rw [HS.out]
      clear c0 c1 c2
      have c0 : v2.cell? ⟨w1.heap.size, 0, none⟩ = some (.int .i64 f) := hE2_2.cell 0
      have c1 : v2.cell? ⟨w1.heap.size, 1, none⟩ = some (.int .i64 b) := hE2_2.cell 1
      have c2 : v2.cell? ⟨w1.heap.size, 2, none⟩ = some (.slice A' k c) := hE2_2.cell 2
      by_cases hmx : b = 1000000000
      · have hmx' : (b == 1000000000) = true := by simpa using hmx
        clear hmx
        go_wp2_with fail
        go_ret
        exact ⟨rfl, hw_2⟩
      · have HB1 := hid (ens_bias HE.out hmx)
        have hmx' : (b == 1000000000) = false := by simpa using hmx
        have hb1 : b + 1 ≤ 1000000000 := by omega
        clear hmx
        obtain ⟨ge, hge⟩ : ∃ ge, ge = w1.heap.size := ⟨_, rfl⟩
        have hbF := (Below.refl v2.heap.size v2).alloc (Nat.le_refl _) (.cells #[.int .i64 f, .int .i64 (b + 1), .slice A' k c] 54)
        have hF := Blk.new v2 54 #[.int .i64 f, .int .i64 (b + 1), .slice A' k c]
        have hEF := hE2_2.below hbF hE2_2.lt
        have hrF := hr_2.to hbF hbF.size
        have hdF := hd_2.to hbF hbF.size
        have hwF := hw_2.trans (hbF.mono hw_2.size)
        clear hbF hr_2 hd_2 hw_2 hE2_2 hge ge
        go_wp2_with fail
        refine (iFull_yes f (b + 1) A' k c len g D m dc z _ hrF hdF hk' hl' hm' HB1.out HF.out).mono ?_
        rintro e v3 ⟨rfl, hbv3⟩
        have hEF_3 := hEF.below hbv3 hEF.lt
        have hF_3 := hF.below hbv3 hF.lt
        have hr_3 := hrF.to hbv3 hbv3.size
        have hd_3 := hdF.to hbv3 hbv3.size
        have hw_3 := hwF.trans (hbv3.mono hwF.size)
        clear hEF hF hrF hdF hwF hbv3
        rw [HS.out]
        clear c0 c1 c2
        have c0 : v3.cell? ⟨w1.heap.size, 0, none⟩ = some (.int .i64 f) := hEF_3.cell 0
        have c1 : v3.cell? ⟨w1.heap.size, 1, none⟩ = some (.int .i64 b) := hEF_3.cell 1
        have c2 : v3.cell? ⟨w1.heap.size, 2, none⟩ = some (.slice A' k c) := hEF_3.cell 2
        have d0 : v3.cell? ⟨v2.heap.size, 0, none⟩ = some (.int .i64 f) := hF_3.cell 0
        have d1 : v3.cell? ⟨v2.heap.size, 1, none⟩ = some (.int .i64 (b + 1)) := hF_3.cell 1
        have d2 : v3.cell? ⟨v2.heap.size, 2, none⟩ = some (.slice A' k c) := hF_3.cell 2
        go_wp2_with fail
        refine (iSpan_yes f b A' k c len g _ hr_3 hk' hl' HE.out).mono ?_
        rintro e v4 ⟨rfl, hbv4⟩
        have hEF_4 := hEF_3.below hbv4 hEF_3.lt
        have hF_4 := hF_3.below hbv4 hF_3.lt
        have hr_4 := hr_3.to hbv4 hbv4.size
        have hd_4 := hd_3.to hbv4 hbv4.size
        have hw_4 := hw_3.trans (hbv4.mono hw_3.size)
        clear hEF_3 hF_3 hr_3 hd_3 hw_3 hbv4
        rw [HL.out, HH.out]
        clear c0 c1 c2 d0 d1 d2
        have d0 : v4.cell? ⟨v2.heap.size, 0, none⟩ = some (.int .i64 f) := hF_4.cell 0
        have d1 : v4.cell? ⟨v2.heap.size, 1, none⟩ = some (.int .i64 (b + 1)) := hF_4.cell 1
        have d2 : v4.cell? ⟨v2.heap.size, 2, none⟩ = some (.slice A' k c) := hF_4.cell 2
        go_wp2_with fail
        refine (iSpan_yes f (b + 1) A' k c len g _ hr_4 hk' hl' HB1.out).mono ?_
        rintro e v5 ⟨rfl, hbv5⟩
        have hEF_5 := hEF_4.below hbv5 hEF_4.lt
        have hF_5 := hF_4.below hbv5 hF_4.lt
        have hr_5 := hr_4.to hbv5 hbv5.size
        have hd_5 := hd_4.to hbv5 hbv5.size
        have hw_5 := hw_4.trans (hbv5.mono hw_4.size)
        clear hEF_4 hF_4 hr_4 hd_4 hw_4 hbv5
        rw [HL.out, HH.out]
        clear d0 d1 d2
        have jS : b + 1 + sS = b + sS + 1 := by omega
        have jL : b + 1 + sL = b + sL + 1 := by omega
        have jH : b + 1 + sH = b + sH + 1 := by omega
        try rw [jS]
        try rw [jL, jH]
        clear jS jL jH
        go_wp2_with fail
        go_ret
        exact ⟨by simp, hw_5⟩
end Go.Proofs.Ytnhbgagdppbldaa
