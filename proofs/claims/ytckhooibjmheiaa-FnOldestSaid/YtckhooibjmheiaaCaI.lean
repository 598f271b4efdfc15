/- CacheGet of the other side: the walk. -/
import Derived.Test.YtckhooibjmheiaaCaH
namespace Go.Proofs.Ytckhooibjmheiaa
open Go.RowKit Go.Deep
set_option linter.unusedVariables false
set_option linter.unusedSimpArgs false

set_option maxRecDepth 100000 in
set_option maxHeartbeats 4000000 in
theorem sGet_any (cap clock : Int) (A : Option Addr) (k c : Nat) (s : Nat → Slt) (D : Option Addr) (f dc : Nat) (z : Nat → Int) (w : World) (h : RdC w w.heap.size A k s) (hd : Rd w w.heap.size D f z) (hn : k ≤ 4194304) (hlen : Hid (∀ i, i < k → (s i).n ≤ 4194304)) (hf : f ≤ 4194304) :
    Calls Try.prog 23 #[caV cap clock A k c, .slice D f dc] w (GetAns cap clock k s f z w) := by
  have hb3 := ((Below.refl w.heap.size w).alloc (Nat.le_refl _) (.cells #[.int .i64 cap, .int .i64 clock, .slice A k c] 26)).alloc (by simp) (.cells #[.int .i64 0, .int .i64 0, .slice none 0 0] 26)
  have h3 := h.to hb3 hb3.size
  have hE3 := (Blk.new w 26 #[.int .i64 cap, .int .i64 clock, .slice A k c]).alloc (.cells #[.int .i64 0, .int .i64 0, .slice none 0 0] 26)
  have hZ3 := Blk.new2 w (.cells #[.int .i64 cap, .int .i64 clock, .slice A k c] 26) 26 #[.int .i64 0, .int .i64 0, .slice none 0 0]
  go_enter Try.func23, Try.ntmps23
  go_wp2_with fail
  refine (l9Copy_any cap clock A k c s _ h3 hn hlen).mono ?_
  rintro e w4 ⟨A3, c3, rfl, hO4, hb4⟩
  have hw4 := hb3.trans (hb4.mono hb3.size)
  have hsz4 : w.heap.size + 2 ≤ w4.heap.size := by have := hb4.size; simpa using this
  have hP : GetPk w cap clock A k c (w.heap.size + 1) w4.heap.size #[.int .i64 cap, .int .i64 clock, .slice A3 k c3] A3 c3 s (w4.alloc (.cells #[.int .i64 cap, .int .i64 clock, .slice A3 k c3] 26)) :=
    ⟨(hE3.below hb4 hE3.lt).alloc _, (hZ3.below hb4 hZ3.lt).alloc _, Blk.new w4 _ _, (hO4.less (by simp; omega)).below ((Below.refl _ _).alloc (Nat.le_refl _) _), hw4.alloc hw4.size _, by omega, by omega⟩
  obtain ⟨e0, e1, e2, _, _, _⟩ := blk_cells3 hP.1
  have hA := h.to hP.2.2.2.2.1 hP.2.2.2.2.1.size
  have HP := hid hP
  clear hE3 hZ3 hb4 hw4 hO4 h3 hP hb3
  go_wp2_with fail
  refine (sCacheOk_any cap clock A k c s _ hA hn hlen).mono ?_
  rintro e w5 ⟨rfl, hb5⟩
  have hP5 := HP.out.below hb5
  obtain ⟨nb, hnb⟩ : ∃ nb, w4.heap.size = nb := ⟨_, rfl⟩
  rw [hnb] at hP5 hsz4 ⊢
  clear hA HP hb5 e0 e1 e2 hnb
  obtain ⟨n0, n1, n2, n3, n4, n5⟩ := blk_cells3 hP5.2.2.1
  obtain ⟨r0, r1, r2, r3, r4, r5⟩ := blk_cells3 hP5.2.1
  obtain ⟨x0, x1, x2, _, _, _⟩ := blk_cells3 hP5.1
  have HP5 := hid hP5
  cases hc : cacheB cap clock k s
  · have hI : ¬ getI cap clock k s f z < k := by unfold getI canB; rw [hc]; simp
    have HI := hid hI
    clear hI hc hP5
    go_wp2_with fail
    have hfin := HP5.out.fin (.int .i64 cap) (.int .i64 clock) (.slice A3 k c3)
    refine bodyPost_ret (results_cell_row_tmp2C rfl _ _ (w.heap.size + 1) 26 _ (0, 0) _ rfl hfin.1 Try.underlying26 rfl size_cache) rfl ?_
    exact getAns_no HI.out hfin.2.1 hfin.2.2
  · have hck0 := (cacheB_iff.1 hc).2.1
    by_cases hcl : clock = 1000000000
    · subst hcl
      have hI : ¬ getI cap 1000000000 k s f z < k := by unfold getI canB; simp
      have HI := hid hI
      clear hI hc hP5
      go_wp2_with fail
      have hfin := HP5.out.fin (.int .i64 cap) (.int .i64 1000000000) (.slice A3 k c3)
      refine bodyPost_ret (results_cell_row_tmp2C rfl _ _ (w.heap.size + 1) 26 _ (0, 0) _ rfl hfin.1 Try.underlying26 rfl size_cache) rfl ?_
      exact getAns_no HI.out hfin.2.1 hfin.2.2
    · have hge : Hid (getI cap clock k s f z = idxP (fun i => hitP f z (s i)) k) := by show _ = _; unfold getI canB; rw [hc, decide_eq_true (show clock < 1000000000 by omega)]; rfl
      have hck : clock < 1000000000 ∧ 0 ≤ clock := ⟨by omega, by omega⟩
      have hcq : (clock == 1000000000) = false := by simpa using hcl
      clear hc hP5 hck0 hcl
      go_wp2_with fail
      clear n0 n1 n2 n3 n4 n5 r0 r1 r2 r3 r4 r5 x0 x1 x2
      go_loopw [8] (fun i wr => ∃ j : Nat, j ≤ k ∧ i = .int .i64 j ∧ Hid (∀ i, i < j → hitP f z (s i) = false) ∧ Hid (GetPk w cap clock A k c (w.heap.size + 1) nb #[.int .i64 cap, .int .i64 clock, .slice A3 k c3] A3 c3 s wr)) (fun i _ => k - (intOf i).toNat)
      case atStart => exact ⟨0, Nat.zero_le _, rfl, fun i hi => by omega, HP5⟩
      case round =>
        clear HP5
        obtain ⟨i, hi', rfl, hall, hP⟩ := hrel
        obtain ⟨x0, x1, x2, _, _, _⟩ := blk_cells3 hP.out.1
        have hbl := hP.out.2.2.2.2.1
        by_cases hi : i < k
        · obtain ⟨bb, off, Ai, ci, rfl, hbb, c0, c1, c2, hrd⟩ := (h.below hbl).at_ hi
          have i1 : (i : Int) < (k : Int) := by omega
          have i0 : (0 : Int) ≤ (i : Int) := by omega
          have hlk := hlen.out i hi
          have hr1 := hrd.more hbl.size
          have hd1 := hd.to hbl hbl.size
          have hbbl := Nat.lt_of_lt_of_le hbb hbl.size
          go_wp2_with fail
          refine (sBoxHas_any Ai D (s i).n ci f dc (s i).g z _ hr1 hd1 hlk hf).mono ?_
          rintro e w6 ⟨rfl, hb6⟩
          have hP6 := hP.out.below hb6
          have c1' : w6.cell? ⟨bb, off + i * 3 + 1, none⟩ = some (.int .i64 (s i).score) := (hb6.cell (p := ⟨bb, off + i * 3 + 1, none⟩) hbbl).trans c1
          clear hP hrd hr1 hd1 c0 c1 c2 x0 x1 x2 hbl
          have HP6 := hid hP6
          cases hp : hitP f z (s i)
          · have hp' : boxHasB (s i).n (s i).g f z = false := hp
            rw [hp']
            clear hP6
            go_wp2_with fail
            go_roundw
            case rel =>
              refine ⟨i + 1, by omega, by go_num, fun j hj => ?_, HP6⟩
              by_cases e : j = i
              · subst e; exact hp
              · exact hall.out j (by omega)
            case measure => simp [intOf]; omega
          · have hp' : boxHasB (s i).n (s i).g f z = true := hp
            rw [hp']
            have HIE : Hid (getI cap clock k s f z = i) := by show _ = _; rw [hge.out]; exact idxP_at hi hp hall.out
            clear hp hp' hge hall
            obtain ⟨n0, n1, n2, n3, n4, n5⟩ := blk_cells3 hP6.2.2.1
            obtain ⟨x0, x1, x2, _, _, _⟩ := blk_cells3 hP6.1
            obtain ⟨hv, hrow, hbx⟩ := hP6.2.2.2.1
            obtain ⟨gb, cs, rfl, hL, hB, _, hcl⟩ := own_slots hrow (by omega)
            obtain ⟨c0, c1, c2⟩ := hcl i hi
            have f2 := hB.frozen (i * 3 + 2)
            have hng : nb ≠ gb := hP6.2.2.1.ne_ hB (by decide)
            have hgn : gb ≠ nb := fun e => hng e.symm
            have hbb2 : bb < w.heap.size := by omega
            have hbg : bb ≠ gb := by omega
            have hbn : bb ≠ nb := by omega
            clear hrow hbx hcl hP6 c0 c1 hbb hbbl
            go_wp2_with fail
            have hP7 := (HP6.out.setN 1 (.int .i64 (clock + 1))).setU hi (clock + 1)
            have d1 : ((w6.setCell ⟨nb, 1, none⟩ (.int .i64 (clock + 1))).setCell ⟨gb, i * 3 + 2, none⟩ (.int .i64 (clock + 1))).cell? ⟨bb, off + i * 3 + 1, none⟩ = some (.int .i64 (s i).score) := by
              rw [World.cell?_setCell_far _ _ _ _ (fun e => hbg e.symm), World.cell?_setCell_far _ _ _ _ (fun e => hbn e.symm)]
              exact c1'
            obtain ⟨W7, hW7⟩ : ∃ W, (w6.setCell ⟨nb, 1, none⟩ (.int .i64 (clock + 1))).setCell ⟨gb, i * 3 + 2, none⟩ (.int .i64 (clock + 1)) = W := ⟨_, rfl⟩
            rw [hW7] at hP7 d1 ⊢
            clear hW7 n0 n1 n2 n3 n4 n5 c1' c2 f2 HP6 hB x0 x1 x2
            have hX : (#[.int .i64 cap, .int .i64 clock, .slice (some ⟨gb, 0, none⟩) k c3] : Array Value).setIfInBounds 1 (.int .i64 (clock + 1)) = #[.int .i64 cap, .int .i64 (clock + 1), .slice (some ⟨gb, 0, none⟩) k c3] := rfl
            rw [hX] at hP7
            clear hX
            obtain ⟨n0, n1, n2, n3, n4, n5⟩ := blk_cells3 hP7.2.2.1.drew
            obtain ⟨r0, r1, r2, r3, r4, r5⟩ := blk_cells3 hP7.2.1.drew
            obtain ⟨q0, q1, q2, q3, q4, q5⟩ := blk_cells3 hP7.2.1
            obtain ⟨p0, p1, p2, p3, p4, p5⟩ := blk_cells3 hP7.2.2.1
            obtain ⟨x0, x1, x2, _, _, _⟩ := blk_cells3 hP7.1
            obtain ⟨y0, y1, y2, _, _, _⟩ := blk_cells3 hP7.1.drew
            have c1 : W7.drew.cell? ⟨bb, off + i * 3 + 1, none⟩ = some (.int .i64 (s i).score) := d1
            have HP7 := hid hP7
            have hbr : bb ≠ w.heap.size + 1 := by omega
            have hnr : nb ≠ w.heap.size + 1 := by have := hP7.2.2.2.2.2.2; omega
            have hrn : w.heap.size + 1 ≠ nb := fun e => hnr e.symm
            have hxr : w.heap.size ≠ w.heap.size + 1 := by omega
            clear hP7
            go_region
            all_goals
              go_wp2_with fail
              have hfin := HP7.out.fin (.int .i64 cap) (.int .i64 (clock + 1)) (.slice (some ⟨gb, 0, none⟩) k c3)
              refine bodyPost_ret (results_cell_row_tmp2C rfl _ _ (w.heap.size + 1) 26 _ (0, 0) _ rfl hfin.1.drew Try.underlying26 rfl size_cache) rfl ?_
              exact getAns_yes HIE.out hi (hfin.2.1.below (Below.refl _ _).drew) hfin.2.2.drew
        · obtain rfl : i = k := by omega
          have hI : ¬ getI cap clock i s f z < i := by rw [hge.out, idxP_none hall.out]; omega
          have HI := hid hI
          obtain ⟨n0, n1, n2, n3, n4, n5⟩ := blk_cells3 hP.out.2.2.1
          obtain ⟨r0, r1, r2, r3, r4, r5⟩ := blk_cells3 hP.out.2.1
          clear hI hge hall hbl
          go_wp2_with fail
          have hfin := hP.out.fin (.int .i64 cap) (.int .i64 clock) (.slice A3 i c3)
          refine bodyPost_ret (results_cell_row_tmp2C rfl _ _ (w.heap.size + 1) 26 _ (0, 0) _ rfl hfin.1 Try.underlying26 rfl size_cache) rfl ?_
          exact getAns_no HI.out hfin.2.1 hfin.2.2
end Go.Proofs.Ytckhooibjmheiaa
