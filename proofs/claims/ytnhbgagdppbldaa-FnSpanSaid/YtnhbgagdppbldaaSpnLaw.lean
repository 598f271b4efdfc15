/- The walk of the law of an ensemble's span. -/
import Derived.Test.YtnhbgagdppbldaaEnsDrawH
import Derived.Test.YtnhbgagdppbldaaEnsF
import Derived.Test.YtnhbgagdppbldaaEnsD
namespace Go.Proofs.Ytnhbgagdppbldaa
open Go.RowKit Go.Deep

theorem lvv_span {g : Nat → Nd} {n : Nat} {f : Int} (z : Nat → Int) (h : treeB g n f = true) : loTo g n ≤ lvv g z ∧ lvv g z ≤ hiTo g n := by
  have hT := (treeB_iff g n f).1 h
  have hn := hT.2.1
  obtain ⟨T, hlt, hE⟩ := ends_some z hT.up (by omega)
  rw [lvv_is hE (by omega)]
  have hi := (itr_up z hT.up (by omega) T hE.1).2
  exact ⟨loTo_le g n _ hi hE.2, hiTo_ge g n _ hi hE.2⟩
theorem sumT_mono {p q : Nat → Int} : ∀ n, (∀ i, i < n → p i ≤ q i) → sumT p n ≤ sumT q n := by
  intro n
  induction n with
  | zero => intro _; exact Int.le_refl _
  | succ n ih =>
    intro h
    have h1 := ih fun i hi => h i (by omega)
    have h2 := h n (by omega)
    simp only [sumT]
    omega

set_option maxRecDepth 100000 in
set_option maxHeartbeats 4000000 in
theorem lawSpan (A : Option Addr) (n cap : Nat) (w : World) (h : Bs w w.heap.size A n) :
    Calls Try.prog 8 #[.slice A n cap] w fun e w' => e = .returned (.bool true) ∧ Below w.heap.size w w' := by
  by_cases hbig : (1048576 : Int) < (n : Int)
  · go_enter Try.func8, Try.ntmps8
    go_wp2_with fail
    refine (big_yes A n cap _ hbig).mono ?_
    rintro e w1 ⟨rfl, rfl⟩
    go_wp2_with fail
    go_ret
    exact ⟨rfl, Below.refl _ _⟩
  · have hn : n ≤ 4194304 := by omega
    go_enter Try.func8, Try.ntmps8
    go_wp2_with fail
    refine (big_no A n cap _ (by omega)).mono ?_
    rintro e w0 ⟨rfl, rfl⟩
    go_wp2_with fail
    refine (drawFull A n cap _ h hn).mono ?_
    rintro e w1 ⟨f, b, k, A', c, len, g, m, z, D, dc, hk, hl, hm, rfl, hr1, hd1, hb1⟩
    have hl' : Hid (∀ i, i < k → len i ≤ 4194304) := fun i hi => by have := hl i hi; omega
    have hk' : k ≤ 4194304 := by omega
    have hm' : m ≤ 4194304 := by omega
    have hbx := (Below.refl w1.heap.size w1).alloc (Nat.le_refl _) (.cells #[.int .i64 f, .int .i64 b, .slice A' k c] 54)
    have hE2 := Blk.new w1 54 #[.int .i64 f, .int .i64 b, .slice A' k c]
    have hr2 := hr1.to hbx hbx.size
    have hd2 := hd1.to hbx hbx.size
    have hw2 := hb1.trans (hbx.mono hb1.size)
    clear hl hbx hr1 hd1 hb1
    cases hy : ensB f b k len g with
    | false =>
      have HY := hid hy
      have HN : Hid ((ensB f b k len g && fitB f m z) = false) := by have := HY.out; show (ensB f b k len g && fitB f m z) = false; rw [this]; rfl
      clear hy
      have c0 : (w1.alloc (.cells #[.int .i64 f, .int .i64 b, .slice A' k c] 54)).cell? ⟨w1.heap.size, 0, none⟩ = some (.int .i64 f) := hE2.cell 0
      have c1 : (w1.alloc (.cells #[.int .i64 f, .int .i64 b, .slice A' k c] 54)).cell? ⟨w1.heap.size, 1, none⟩ = some (.int .i64 b) := hE2.cell 1
      have c2 : (w1.alloc (.cells #[.int .i64 f, .int .i64 b, .slice A' k c] 54)).cell? ⟨w1.heap.size, 2, none⟩ = some (.slice A' k c) := hE2.cell 2
      go_wp2_with fail
      refine (iSpan_no f b A' k c len g _ hr2 hk' hl' HY.out).mono ?_
      rintro e v1 ⟨rfl, hbv1⟩
      have hE2_1 := hE2.below hbv1 hE2.lt
      have hr_1 := hr2.to hbv1 hbv1.size
      have hd_1 := hd2.to hbv1 hbv1.size
      have hw_1 := hw2.trans (hbv1.mono hw2.size)
      clear hE2 hr2 hd2 hw2 hbv1
      clear c0 c1 c2
      have c0 : v1.cell? ⟨w1.heap.size, 0, none⟩ = some (.int .i64 f) := hE2_1.cell 0
      have c1 : v1.cell? ⟨w1.heap.size, 1, none⟩ = some (.int .i64 b) := hE2_1.cell 1
      have c2 : v1.cell? ⟨w1.heap.size, 2, none⟩ = some (.slice A' k c) := hE2_1.cell 2
      go_wp2_with fail
      refine (sSpan_no f b A' k c len g _ hr_1 hk' hl' HY.out).mono ?_
      rintro e v2 ⟨rfl, hbv2⟩
      have hE2_2 := hE2_1.below hbv2 hE2_1.lt
      have hr_2 := hr_1.to hbv2 hbv2.size
      have hd_2 := hd_1.to hbv2 hbv2.size
      have hw_2 := hw_1.trans (hbv2.mono hw_1.size)
      clear hE2_1 hr_1 hd_1 hw_1 hbv2
      clear c0 c1 c2
      have c0 : v2.cell? ⟨w1.heap.size, 0, none⟩ = some (.int .i64 f) := hE2_2.cell 0
      have c1 : v2.cell? ⟨w1.heap.size, 1, none⟩ = some (.int .i64 b) := hE2_2.cell 1
      have c2 : v2.cell? ⟨w1.heap.size, 2, none⟩ = some (.slice A' k c) := hE2_2.cell 2
      go_wp2_with fail
      refine (iFull_no f b A' k c len g D m dc z _ hr_2 hd_2 hk' hl' hm' HN.out).mono ?_
      rintro e v3 ⟨rfl, hbv3⟩
      have hE2_3 := hE2_2.below hbv3 hE2_2.lt
      have hr_3 := hr_2.to hbv3 hbv3.size
      have hd_3 := hd_2.to hbv3 hbv3.size
      have hw_3 := hw_2.trans (hbv3.mono hw_2.size)
      clear hE2_2 hr_2 hd_2 hw_2 hbv3
      clear c0 c1 c2
      go_wp2_with fail
      go_ret
      exact ⟨rfl, hw_3⟩
    | true =>
      obtain ⟨_, qb, _, qt⟩ := ensB_iff.1 hy
      have bS := sumT_bound (p := scF g z) (n := k) (fun i hi => lvv_bound z (qt i hi)) k (Nat.le_refl k)
      have bL := sumT_bound (p := loF len g) (n := k) (fun i hi => lo_bound (qt i hi)) k (Nat.le_refl k)
      have bH := sumT_bound (p := hiF len g) (n := k) (fun i hi => hi_bound (qt i hi)) k (Nat.le_refl k)
      have m1 := sumT_mono (p := loF len g) (q := scF g z) k (fun i hi => (lvv_span z (qt i hi)).1)
      have m2 := sumT_mono (p := scF g z) (q := hiF len g) k (fun i hi => (lvv_span z (qt i hi)).2)
      have HE := hid hy
      clear hy qt
      obtain ⟨sS, hsS⟩ : ∃ x, sumT (scF g z) k = x := ⟨_, rfl⟩
      obtain ⟨sL, hsL⟩ : ∃ x, sumT (loF len g) k = x := ⟨_, rfl⟩
      obtain ⟨sH, hsH⟩ : ∃ x, sumT (hiF len g) k = x := ⟨_, rfl⟩
      rw [hsS] at bS m1 m2
      rw [hsL] at bL m1
      rw [hsH] at bH m2
      have HS := hid hsS
      have HL := hid hsL
      have HH := hid hsH
      clear hsS hsL hsH
      cases hf : fitB f m z with
      | false =>
        have HN : Hid ((ensB f b k len g && fitB f m z) = false) := by show (ensB f b k len g && fitB f m z) = false; rw [hf, Bool.and_false]
        clear hf
        have c0 : (w1.alloc (.cells #[.int .i64 f, .int .i64 b, .slice A' k c] 54)).cell? ⟨w1.heap.size, 0, none⟩ = some (.int .i64 f) := hE2.cell 0
        have c1 : (w1.alloc (.cells #[.int .i64 f, .int .i64 b, .slice A' k c] 54)).cell? ⟨w1.heap.size, 1, none⟩ = some (.int .i64 b) := hE2.cell 1
        have c2 : (w1.alloc (.cells #[.int .i64 f, .int .i64 b, .slice A' k c] 54)).cell? ⟨w1.heap.size, 2, none⟩ = some (.slice A' k c) := hE2.cell 2
        go_wp2_with fail
        refine (iSpan_yes f b A' k c len g _ hr2 hk' hl' HE.out).mono ?_
        rintro e v1 ⟨rfl, hbv1⟩
        have hE2_1 := hE2.below hbv1 hE2.lt
        have hr_1 := hr2.to hbv1 hbv1.size
        have hd_1 := hd2.to hbv1 hbv1.size
        have hw_1 := hw2.trans (hbv1.mono hw2.size)
        clear hE2 hr2 hd2 hw2 hbv1
        rw [HL.out, HH.out]
        clear c0 c1 c2
        have c0 : v1.cell? ⟨w1.heap.size, 0, none⟩ = some (.int .i64 f) := hE2_1.cell 0
        have c1 : v1.cell? ⟨w1.heap.size, 1, none⟩ = some (.int .i64 b) := hE2_1.cell 1
        have c2 : v1.cell? ⟨w1.heap.size, 2, none⟩ = some (.slice A' k c) := hE2_1.cell 2
        go_wp2_with fail
        refine (sSpan_yes f b A' k c len g _ hr_1 hk' hl' HE.out).mono ?_
        rintro e v2 ⟨rfl, hbv2⟩
        have hE2_2 := hE2_1.below hbv2 hE2_1.lt
        have hr_2 := hr_1.to hbv2 hbv2.size
        have hd_2 := hd_1.to hbv2 hbv2.size
        have hw_2 := hw_1.trans (hbv2.mono hw_1.size)
        clear hE2_1 hr_1 hd_1 hw_1 hbv2
        rw [HL.out, HH.out]
        clear c0 c1 c2
        have c0 : v2.cell? ⟨w1.heap.size, 0, none⟩ = some (.int .i64 f) := hE2_2.cell 0
        have c1 : v2.cell? ⟨w1.heap.size, 1, none⟩ = some (.int .i64 b) := hE2_2.cell 1
        have c2 : v2.cell? ⟨w1.heap.size, 2, none⟩ = some (.slice A' k c) := hE2_2.cell 2
        go_wp2_with fail
        refine (iFull_no f b A' k c len g D m dc z _ hr_2 hd_2 hk' hl' hm' HN.out).mono ?_
        rintro e v3 ⟨rfl, hbv3⟩
        have hE2_3 := hE2_2.below hbv3 hE2_2.lt
        have hr_3 := hr_2.to hbv3 hbv3.size
        have hd_3 := hd_2.to hbv3 hbv3.size
        have hw_3 := hw_2.trans (hbv3.mono hw_2.size)
        clear hE2_2 hr_2 hd_2 hw_2 hbv3
        clear c0 c1 c2
        go_wp2_with fail
        go_ret
        exact ⟨rfl, hw_3⟩
      | true =>
        have HF := hid hf
        clear hf
        have p1 : b + sL ≤ b + sS := by omega
        have p2 : b + sS ≤ b + sH := by omega
        have p3 : b + sS ≤ 100000000000 := by omega
        have p4 : -100000000000 ≤ b + sS := by omega
        have c0 : (w1.alloc (.cells #[.int .i64 f, .int .i64 b, .slice A' k c] 54)).cell? ⟨w1.heap.size, 0, none⟩ = some (.int .i64 f) := hE2.cell 0
        have c1 : (w1.alloc (.cells #[.int .i64 f, .int .i64 b, .slice A' k c] 54)).cell? ⟨w1.heap.size, 1, none⟩ = some (.int .i64 b) := hE2.cell 1
        have c2 : (w1.alloc (.cells #[.int .i64 f, .int .i64 b, .slice A' k c] 54)).cell? ⟨w1.heap.size, 2, none⟩ = some (.slice A' k c) := hE2.cell 2
        go_wp2_with fail
        refine (iSpan_yes f b A' k c len g _ hr2 hk' hl' HE.out).mono ?_
        rintro e v1 ⟨rfl, hbv1⟩
        have hE2_1 := hE2.below hbv1 hE2.lt
        have hr_1 := hr2.to hbv1 hbv1.size
        have hd_1 := hd2.to hbv1 hbv1.size
        have hw_1 := hw2.trans (hbv1.mono hw2.size)
        clear hE2 hr2 hd2 hw2 hbv1
        rw [HL.out, HH.out]
        clear c0 c1 c2
        have c0 : v1.cell? ⟨w1.heap.size, 0, none⟩ = some (.int .i64 f) := hE2_1.cell 0
        have c1 : v1.cell? ⟨w1.heap.size, 1, none⟩ = some (.int .i64 b) := hE2_1.cell 1
        have c2 : v1.cell? ⟨w1.heap.size, 2, none⟩ = some (.slice A' k c) := hE2_1.cell 2
        go_wp2_with fail
        refine (sSpan_yes f b A' k c len g _ hr_1 hk' hl' HE.out).mono ?_
        rintro e v2 ⟨rfl, hbv2⟩
        have hE2_2 := hE2_1.below hbv2 hE2_1.lt
        have hr_2 := hr_1.to hbv2 hbv2.size
        have hd_2 := hd_1.to hbv2 hbv2.size
        have hw_2 := hw_1.trans (hbv2.mono hw_1.size)
        clear hE2_1 hr_1 hd_1 hw_1 hbv2
        rw [HL.out, HH.out]
        clear c0 c1 c2
        have c0 : v2.cell? ⟨w1.heap.size, 0, none⟩ = some (.int .i64 f) := hE2_2.cell 0
        have c1 : v2.cell? ⟨w1.heap.size, 1, none⟩ = some (.int .i64 b) := hE2_2.cell 1
        have c2 : v2.cell? ⟨w1.heap.size, 2, none⟩ = some (.slice A' k c) := hE2_2.cell 2
        go_wp2_with fail
        refine (iFull_yes f b A' k c len g D m dc z _ hr_2 hd_2 hk' hl' hm' HE.out HF.out).mono ?_
        rintro e v3 ⟨rfl, hbv3⟩
        have hE2_3 := hE2_2.below hbv3 hE2_2.lt
        have hr_3 := hr_2.to hbv3 hbv3.size
        have hd_3 := hd_2.to hbv3 hbv3.size
        have hw_3 := hw_2.trans (hbv3.mono hw_2.size)
        clear hE2_2 hr_2 hd_2 hw_2 hbv3
        rw [HS.out]
        clear c0 c1 c2
        go_wp2_with fail
        go_ret
        exact ⟨rfl, hw_3⟩
end Go.Proofs.Ytnhbgagdppbldaa
