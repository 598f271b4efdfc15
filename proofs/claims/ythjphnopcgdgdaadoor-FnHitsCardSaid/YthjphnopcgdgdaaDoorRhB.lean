/- A Hit read: the other side, and the law's walk. -/
import Derived.Test.YthjphnopcgdgdaaDoorRhA
import Derived.Test.YthjphnopcgdgdaaDoorHtB
namespace Go.Proofs.YthjphnopcgdgdaaDoor
open Go.RowKit Go.Deep

set_option maxRecDepth 100000 in
set_option maxHeartbeats 4000000 in
theorem sReadHit_any (s : ByteArray) (w : World) (hs : s.size ≤ 4194304) :
    Calls Tryd.prog 12 #[.string s] w (HtAns s w) := by
  have hw0 := (Below.refl w.heap.size w).alloc (Nat.le_refl _) (.cells #[.int .i64 0, .int .i64 0] 25)
  have hB0 := Blk.new w 25 #[.int .i64 0, .int .i64 0]
  by_cases h40 : (40 : Int) < (s.size : Int)
  · have d0 := hB0.cell 0; have d1 := hB0.cell 1; have f0 := hB0.frozen 0; have f1 := hB0.frozen 1
    go_enter Tryd.func12, Tryd.ntmps12
    go_wp2_with fail
    refine bodyPost_ret (results_ht rfl _ _ w.heap.size 25 #[.int .i64 0, .int .i64 0] (0, 0) _ rfl hB0 Tryd.underlying25 rfl size_hit) rfl ?_
    refine ⟨.inr ⟨fun i u hiu e => ?_, rfl⟩, hw0⟩
    have := htS_40 hiu
    rw [← e] at this
    omega
  · obtain ⟨t, r, m, ht, hr, huq, hcut⟩ := cut_gen 58 58 rfl s hs
    have HUQ := hid huq
    have HCUT := hid hcut
    clear huq hcut
    go_enter Tryd.func12, Tryd.ntmps12
    go_wp2_with fail
    generalize w.alloc (.cells #[.int .i64 0, .int .i64 0] 25) = W0 at hw0 hB0 ⊢
    refine (HCUT.out _).mono ?_
    rintro e w1 ⟨rfl, j, rfl⟩
    have hw1 := below_drewN hw0 j
    have hB1 : Blk (W0.drewN j) w.heap.size 25 #[.int .i64 0, .int .i64 0] := hB0
    clear HCUT hw0 hB0
    generalize W0.drewN j = W1 at hw1 hB1 ⊢
    have hw2 := hw1.alloc hw1.size (.cells #[.int .i64 0, .int .i64 0] 25)
    have hB2 := hB1.alloc (.cells #[.int .i64 0, .int .i64 0] 25)
    have hD2 := Blk.new W1 25 #[.int .i64 0, .int .i64 0]
    have hlt := hB1.lt
    clear hw1 hB1
    go_wp2_with fail
    generalize W1.alloc (.cells #[.int .i64 0, .int .i64 0] 25) = W2 at hw2 hB2 hD2 ⊢
    generalize W1.heap.size = Q at hD2 hlt ⊢
    refine (num_gen t _ (by omega)).mono ?_
    rintro e w3 ⟨x, bx, hx, hxy, rfl, rfl⟩
    have HX := hid (And.intro hx hxy)
    clear hx hxy
    have c0 := hD2.cell 0
    have f0 := hD2.frozen 0
    have hw3 := hw2.setCell (p := ⟨Q, 0, none⟩) (by show w.heap.size ≤ Q; omega) (.int .i64 x)
    have hB3 := hB2.far (p := ⟨Q, 0, none⟩) (by show w.heap.size ≠ Q; omega) (.int .i64 x)
    have hD3 := hD2.set_ 0 (.int .i64 x)
    go_wp2_with fail
    clear hw2 hB2 hD2 c0 f0
    generalize w3.setCell ⟨Q, 0, none⟩ (.int .i64 x) = W3 at hw3 hB3 hD3 ⊢
    refine (num_gen r _ (by omega)).mono ?_
    rintro e w4 ⟨y, by_, hy, hyy, rfl, rfl⟩
    have HY := hid (And.intro hy hyy)
    clear hy hyy
    have c1 := hD3.cell 1
    have f1 := hD3.frozen 1
    have hw4 := hw3.setCell (p := ⟨Q, 1, none⟩) (by show w.heap.size ≤ Q; omega) (.int .i64 y)
    have hB4 := hB3.far (p := ⟨Q, 1, none⟩) (by show w.heap.size ≠ Q; omega) (.int .i64 y)
    have hD4 := hD3.set_ 1 (.int .i64 y)
    by_cases hz : s.size = 0
    · obtain rfl : s = ⟨#[]⟩ := by
        apply ba_ext
        have : s.data.toList.length = 0 := by rw [size_len]; exact hz
        exact List.length_eq_zero_iff.1 this
      have d0 := hB4.cell 0; have d1 := hB4.cell 1; have g0 := hB4.frozen 0; have g1 := hB4.frozen 1
      go_wp2_with fail
      refine bodyPost_ret (results_ht rfl _ _ w.heap.size 25 #[.int .i64 0, .int .i64 0] (0, 0) _ rfl ((hB4.set_ 0 (.int .i64 0)).set_ 1 (.int .i64 0)) Tryd.underlying25 rfl size_hit) rfl ?_
      refine ⟨.inr ⟨fun i u hiu e => ?_, rfl⟩, (hw4.setCell (Nat.le_refl _) _).setCell (Nat.le_refl _) _⟩
      have := htS_pos i u
      rw [← e] at this
      exact absurd this (by decide)
    · have hne : s ≠ ⟨#[]⟩ := fun e => hz (by rw [e]; rfl)
      have hl := ba_listT hne
      rw [ByteArray.toList_eq (⟨#[]⟩ : ByteArray)] at hl
      have q0 := hD4.cell 0; have q1 := hD4.cell 1
      go_wp2_with fail
      clear hB3 hD3 hw3 f1 c1
      generalize w4.setCell ⟨Q, 1, none⟩ (.int .i64 y) = W4 at hw4 hB4 hD4 q0 q1 ⊢
      refine (sHitText_any x y _).mono ?_
      rintro e w5 ⟨rfl, hb5⟩
      have hw5 := hw4.trans (hb5.mono hw4.size)
      have hB5 := hB4.below hb5 hB4.lt
      have hD5 := hD4.below hb5 hD4.lt
      clear hb5 hw4 hB4 hD4 q0 q1
      have q0 : w5.cell? ⟨Q, 0, none⟩ = some (.int .i64 x) := hD5.cell 0
      have q1 : w5.cell? ⟨Q, 1, none⟩ = some (.int .i64 y) := hD5.cell 1
      have d0 : w5.cell? ⟨w.heap.size, 0, none⟩ = some (.int .i64 0) := hB5.cell 0
      have d1 : w5.cell? ⟨w.heap.size, 1, none⟩ = some (.int .i64 0) := hB5.cell 1
      have g0 := hB5.frozen 0; have g1 := hB5.frozen 1
      have HNE := hid hne
      clear hne hz
      by_cases he : htT x y = s
      · have he2 : ((htT x y).toList == s.toList) = true := by rw [he]; simp
        have hok : htB x y = true := by
          cases hq : htB x y
          · rw [htT_no hq] at he
            exact absurd he.symm HNE.out
          · rfl
        have HO : Hid (s = htS x y) := by show _ = _; rw [← he, htT_yes hok]
        have HOK := hid hok
        have HEE := hid he
        clear he hok
        go_wp2_with fail
        refine bodyPost_ret (results_ht rfl _ _ w.heap.size 25 #[.int .i64 x, .int .i64 y] (0, 0) _ rfl ((hB5.set_ 0 (.int .i64 x)).set_ 1 (.int .i64 y)) Tryd.underlying25 rfl size_hit) rfl ?_
        exact ⟨.inl ⟨x, y, HOK.out, HO.out, rfl⟩, (hw5.setCell (Nat.le_refl _) _).setCell (Nat.le_refl _) _⟩
      · have he2 := ba_listT he
        have HEE := hid he
        clear he
        go_wp2_with fail
        refine bodyPost_ret (results_ht rfl _ _ w.heap.size 25 #[.int .i64 0, .int .i64 0] (0, 0) _ rfl ((hB5.set_ 0 (.int .i64 0)).set_ 1 (.int .i64 0)) Tryd.underlying25 rfl size_hit) rfl ?_
        refine ⟨.inr ⟨fun i u hiu e => HEE.out ?_, rfl⟩, (hw5.setCell (Nat.le_refl _) _).setCell (Nat.le_refl _) _⟩
        obtain ⟨p1, p2⟩ := HUQ.out (decS i) (decS u) (decS_noC _ (.inr (by decide))) e
        rw [HX.out.2 i (htB_in hiu).1 p1, HY.out.2 u (htB_in hiu).2 p2, htT_yes hiu]
        exact e.symm

end Go.Proofs.YthjphnopcgdgdaaDoor
