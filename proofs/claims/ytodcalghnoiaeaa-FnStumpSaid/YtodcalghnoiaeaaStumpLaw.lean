/- The walk of the law of a split with two leaves. -/
import Derived.Test.YtodcalghnoiaeaaGoneLaw
import Derived.Test.YtodcalghnoiaeaaLeafLaw
import Derived.Test.YtodcalghnoiaeaaStump
namespace Go.Proofs.Ytodcalghnoiaeaa
open Go.RowKit Go.Deep

theorem stump_rd {w : World} {b : Nat} {t : TypeId} {c : Int} {q : Bool}
    (h : Blk w b t #[.int .i64 0, .int .i64 c, .int .i64 1, .int .i64 2, .bool q, .int .i64 0, .int .i64 0, .int .i64 0, .int .i64 0, .int .i64 0, .bool false, .int .i64 3, .int .i64 0, .int .i64 0, .int .i64 0, .int .i64 0, .bool false, .int .i64 4]) :
    RdN w w.heap.size (some ⟨b, 0, none⟩) 3 (stump c q) := fun _ => by
  refine ⟨b, 0, rfl, h.lt, fun i hi => ?_⟩
  match i, hi with
  | 0, _ => exact ⟨h.cell 0, h.cell 1, h.cell 2, h.cell 3, h.cell 4, h.cell 5⟩
  | 1, _ => exact ⟨h.cell 6, h.cell 7, h.cell 8, h.cell 9, h.cell 10, h.cell 11⟩
  | 2, _ => exact ⟨h.cell 12, h.cell 13, h.cell 14, h.cell 15, h.cell 16, h.cell 17⟩

set_option maxHeartbeats 2000000 in
theorem lawStump (A : Option Addr) (n cap : Nat) (w : World) (h : Bs w w.heap.size A n) :
    Calls Try.prog 19 #[.slice A n cap] w fun e w' => e = .returned (.bool true) ∧ Below w.heap.size w w' := by
  by_cases hbig : (1048576 : Int) < (n : Int)
  · go_enter Try.func19, Try.ntmps19
    go_wp2_with fail
    refine (big_yes A n cap _ hbig).mono ?_
    rintro e w1 ⟨rfl, rfl⟩
    go_wp2_with fail
    go_ret
    exact ⟨rfl, Below.refl _ _⟩
  · have hn : n ≤ 4194304 := by omega
    go_enter Try.func19, Try.ntmps19
    go_wp2_with fail
    refine (big_no A n cap _ (by omega)).mono ?_
    rintro e w0 ⟨rfl, rfl⟩
    go_wp2_with fail
    refine (drawDocOk A n cap _ h hn).mono ?_
    rintro e w1 ⟨m, z, D, c, hm, rfl, hr1, hb1⟩
    have hm' : m ≤ 4194304 := by omega
    have h1 : Bs w1 w1.heap.size A n := (h.keep fun p hp => hb1.cell hp).more hb1.size
    go_wp2_with fail
    refine (byte_at A n cap 4 _ h1 hn (by omega)).mono ?_
    rintro e w2 ⟨x, rfl, hx0, hx1, rfl⟩
    have hq0 : 0 ≤ x % 24 := Int.emod_nonneg _ (by omega)
    have hq1 : x % 24 < 24 := Int.emod_lt_of_pos _ (by omega)
    go_wp2_with fail
    refine (byte_at A n cap 5 _ h1 hn (by omega)).mono ?_
    rintro e w2 ⟨y, rfl, hy0, hy1, rfl⟩
    go_wp2_with fail
    have hw2 := hb1.alloc hb1.size (.cells #[.int .i64 0, .int .i64 (x % 24 - 12), .int .i64 1, .int .i64 2, .bool (y % 2 == 0), .int .i64 0, .int .i64 0, .int .i64 0, .int .i64 0, .int .i64 0, .bool false, .int .i64 3, .int .i64 0, .int .i64 0, .int .i64 0, .int .i64 0, .bool false, .int .i64 4] 56)
    have ht2 := stump_rd (Blk.new w1 56 _ : Blk (w1.alloc (.cells #[.int .i64 0, .int .i64 (x % 24 - 12), .int .i64 1, .int .i64 2, .bool (y % 2 == 0), .int .i64 0, .int .i64 0, .int .i64 0, .int .i64 0, .int .i64 0, .bool false, .int .i64 3, .int .i64 0, .int .i64 0, .int .i64 0, .int .i64 0, .bool false, .int .i64 4] 56)) w1.heap.size 56 _)
    have hba := (Below.refl w1.heap.size w1).alloc (Nat.le_refl _) (.cells #[.int .i64 0, .int .i64 (x % 24 - 12), .int .i64 1, .int .i64 2, .bool (y % 2 == 0), .int .i64 0, .int .i64 0, .int .i64 0, .int .i64 0, .int .i64 0, .bool false, .int .i64 3, .int .i64 0, .int .i64 0, .int .i64 0, .int .i64 0, .bool false, .int .i64 4] 56)
    have hr2 := hr1.to hba hba.size
    clear hba
    generalize hq : x % 24 - 12 = q at hw2 ht2 hr2
    generalize hp : (y % 2 == 0) = p at hw2 ht2 hr2
    generalize hW2 : w1.alloc (.cells #[.int .i64 0, .int .i64 q, .int .i64 1, .int .i64 2, .bool p, .int .i64 0, .int .i64 0, .int .i64 0, .int .i64 0, .int .i64 0, .bool false, .int .i64 3, .int .i64 0, .int .i64 0, .int .i64 0, .int .i64 0, .bool false, .int .i64 4] 56) = w2 at hw2 ht2 hr2
    cases hd : docB m z with
    | false =>
      have hno : (docB m z && treeB (stump q p) 3 m) = false := by rw [hd]; rfl
      refine (iLeaf_no _ D 3 3 m c (stump q p) z _ ht2 hr2 (by omega) hm' hno).mono ?_
      rintro e w3 ⟨rfl, hb3⟩
      have ht3 := ht2.to hb3 hb3.size
      have hr3 := hr2.to hb3 hb3.size
      have hw3 := hw2.trans (hb3.mono hw2.size)
      clear ht2 hr2 hb3 hw2 hr1 hb1 h1
      go_wp2_with fail
      refine (sLeaf_no _ D 3 3 m c (stump q p) z _ ht3 hr3 (by omega) hm' hno).mono ?_
      rintro e w4 ⟨rfl, hb4⟩
      have ht4 := ht3.to hb4 hb4.size
      have hr4 := hr3.to hb4 hb4.size
      have hw4 := hw3.trans (hb4.mono hw3.size)
      clear ht3 hr3 hb4 hw3
      go_wp2_with fail
      refine (sLeaf_no _ D 3 3 m c (stump q p) z _ ht4 hr4 (by omega) hm' hno).mono ?_
      rintro e w5 ⟨rfl, hb5⟩
      go_wp2_with fail
      go_ret
      exact ⟨rfl, hw4.trans (hb5.mono hw4.size)⟩
    | true =>
      have hm1 := (docB_true hd).1
      have hm6 := (docB_true hd).2.1
      have htr : treeB (stump q p) 3 m = true := stump_tree hm1 hm6 (by omega) (by omega)
      refine (iLeaf_yes _ D 3 3 m c (stump q p) z _ ht2 hr2 (by omega) hd htr).mono ?_
      rintro e w3 ⟨T, hT, rfl, hb3⟩
      obtain rfl := stump_ends hT
      have ht3 := ht2.to hb3 hb3.size
      have hr3 := hr2.to hb3 hb3.size
      have hw3 := hw2.trans (hb3.mono hw2.size)
      clear ht2 hr2 hb3 hw2 hr1 hb1 h1
      have hv := stump_at q p z
      generalize hV : seqZ (stump q p) z 1 = v at hv
      have hv0 : ¬ v < 0 := by rw [hv]; split <;> split <;> omega
      have HV := hid hv
      clear hv
      go_wp2_with fail
      refine (sLeaf_yes _ D 3 3 m c (stump q p) z _ ht3 hr3 (by omega) hm' hd htr).mono ?_
      rintro e w4 ⟨T, hT', rfl, hb4⟩
      obtain rfl := stump_ends hT'
      rw [hV]
      have hr4 := hr3.to hb4 hb4.size
      have hw4 := hw3.trans (hb4.mono hw3.size)
      clear ht3 hr3 hb4 hw3
      obtain ⟨b', off, rfl, hb', hc'⟩ := hr4.at_ (show 0 < m by omega)
      have hlt : (0 : Int) < (m : Int) := by omega
      replace hc' : w4.cell? ⟨b', off, none⟩ = some (.int .i64 (z 0)) := hc'
      by_cases e9 : z 0 = 9999999
      · rw [e9] at hc'
        go_wp2_with fail
        go_ret
        refine ⟨?_, hw4⟩
        have hv := HV.out
        rw [if_pos e9] at hv
        subst hv
        cases p <;> rfl
      · go_wp2_with fail
        go_ret
        refine ⟨?_, hw4⟩
        have hv := HV.out
        rw [if_neg e9] at hv
        subst hv
        by_cases hle : z 0 ≤ q <;> simp [hle]
end Go.Proofs.Ytodcalghnoiaeaa
