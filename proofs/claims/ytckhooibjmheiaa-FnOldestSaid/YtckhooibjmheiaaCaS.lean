/- CachePut of the program: the walk. -/
import Derived.Test.YtckhooibjmheiaaCaR
import Derived.Deep.AppendLies
import Derived.Deep.DeepCutAuto
namespace Go.Proofs.Ytckhooibjmheiaa
open Go.RowKit Go.Deep
set_option linter.unusedVariables false
set_option linter.unusedSimpArgs false

theorem slot_src (w : World) (t : TypeId) (x y z : Value) : ∀ j u, [x, y, z][j]? = some u → (w.alloc (.cells #[x, y, z] t)).cell? (Addr.add ⟨w.heap.size, 0, none⟩ j) = some u := World.news_of_block (cs := #[x, y, z]) (t := t) (fr := (0, 0)) (heap_alloc_new w _)

set_option maxRecDepth 100000 in
set_option maxHeartbeats 8000000 in
theorem iPut_any (cap clock : Int) (A : Option Addr) (k c : Nat) (s : Nat → Slt) (D : Option Addr) (n dc : Nat) (g : Nat → Sp) (x : Int) (w : World) (h : RdC w w.heap.size A k s) (hd : RdS w w.heap.size D n g) (hn : k ≤ 4194304) (hlen : Hid (∀ i, i < k → (s i).n ≤ 4194304)) (hf : n ≤ 4194304) :
    Calls Try.prog 29 #[caV cap clock A k c, .slice D n dc, .int .i64 x] w (PutAns cap clock k s n g x w) := by
  obtain ⟨j0, hj0, jz0, jz1, jz2⟩ := info_parts info_slot
  have hb3 := ((Below.refl w.heap.size w).alloc (Nat.le_refl _) (.cells #[.int .i64 cap, .int .i64 clock, .slice A k c] 26)).alloc (by simp) (.cells #[.int .i64 0, .int .i64 0, .slice none 0 0] 26)
  have h3 := h.to hb3 hb3.size
  have hE3 := (Blk.new w 26 #[.int .i64 cap, .int .i64 clock, .slice A k c]).alloc (.cells #[.int .i64 0, .int .i64 0, .slice none 0 0] 26)
  have hZ3 := Blk.new2 w (.cells #[.int .i64 cap, .int .i64 clock, .slice A k c] 26) 26 #[.int .i64 0, .int .i64 0, .slice none 0 0]
  go_enter Try.func29, Try.ntmps29
  go_wp2_with fail
  refine (copied_any cap clock A k c s _ h3 hn hlen).mono ?_
  rintro e w4 ⟨A3, c3, rfl, hO4, hb4⟩
  have hw4 := hb3.trans (hb4.mono hb3.size)
  have hsz4 : w.heap.size + 2 ≤ w4.heap.size := by have := hb4.size; simpa using this
  have hP : GetPk w cap clock A k c (w.heap.size + 1) w4.heap.size #[.int .i64 cap, .int .i64 clock, .slice A3 k c3] A3 c3 s (w4.alloc (.cells #[.int .i64 cap, .int .i64 clock, .slice A3 k c3] 26)) :=
    ⟨(hE3.below hb4 hE3.lt).alloc _, (hZ3.below hb4 hZ3.lt).alloc _, Blk.new w4 _ _, (hO4.less (by simp; omega)).below ((Below.refl _ _).alloc (Nat.le_refl _) _), hw4.alloc hw4.size _, by omega, by omega⟩
  obtain ⟨e0, e1, e2, _, _, _⟩ := blk_cells3 hP.1
  have hA := h.to hP.2.2.2.2.1 hP.2.2.2.2.1.size
  have HP := hid hP
  clear hE3 hZ3 hb4 hw4 hO4 h3 hP hb3
  go_wp2_with fail
  refine (canTick_any cap clock A k c s _ hA hn hlen).mono ?_
  rintro e w5 ⟨rfl, hb5⟩
  have hP5 := HP.out.below hb5
  obtain ⟨nb, hnb⟩ : ∃ nb, w4.heap.size = nb := ⟨_, rfl⟩
  rw [hnb] at hP5 hsz4 ⊢
  clear hA HP hb5 e0 e1 e2 hnb
  obtain ⟨n0, n1, n2, n3, n4, n5⟩ := blk_cells3 hP5.2.2.1
  obtain ⟨r0, r1, r2, r3, r4, r5⟩ := blk_cells3 hP5.2.1
  have HP5 := hid hP5.put
  cases hc : canB cap clock k s
  · have hY : Hid (putY cap clock k s n g = false) := by show _ = _; unfold putY; rw [hc]; rfl
    clear hc hP5
    go_wp2_with fail
    have hfin := HP5.out.fin (.int .i64 cap) (.int .i64 clock) (.slice A3 k c3)
    refine bodyPost_ret (results_cell_row_tmpC rfl _ _ (w.heap.size + 1) 26 _ (0, 0) _ rfl hfin.1 Try.underlying26 rfl size_cache) rfl ?_
    exact putAns_no hY.out hfin.2.1 hfin.2.2
  · have hck : clock < 1000000000 ∧ 0 ≤ clock := by
      unfold canB at hc
      rw [Bool.and_eq_true, decide_eq_true_eq] at hc
      exact ⟨hc.2, (cacheB_iff.1 hc.1).2.1.1⟩
    have hcap : 1 ≤ cap ∧ cap ≤ 8 ∧ (k : Int) ≤ cap := by
      unfold canB at hc
      rw [Bool.and_eq_true, decide_eq_true_eq] at hc
      have := cacheB_iff.1 hc.1
      exact ⟨this.1.1, this.1.2, this.2.2.1⟩
    have hd5 := hd.to hP5.2.2.2.2.1 hP5.2.2.2.2.1.size
    have HC := hid hc
    clear hc hP5
    go_wp2_with fail
    refine (iBoxOk_any D n dc g _ hd5 hf).mono ?_
    rintro e w6 ⟨rfl, hb6⟩
    have hP6 := HP5.out.below hb6
    clear HP5 hd5 hb6 n0 n1 n2 n3 n4 n5 r0 r1 r2 r3 r4 r5
    obtain ⟨n0, n1, n2, n3, n4, n5⟩ := blk_cells3 hP6.2.1
    obtain ⟨r0, r1, r2, r3, r4, r5⟩ := blk_cells3 hP6.1
    have HP6 := hid hP6
    cases hq : boxB n g
    · have hY : Hid (putY cap clock k s n g = false) := by show _ = _; unfold putY; rw [hq, Bool.and_false]
      clear hq hP6
      go_wp2_with fail
      have hfin := HP6.out.fin (.int .i64 cap) (.int .i64 clock) (.slice A3 k c3)
      refine bodyPost_ret (results_cell_row_tmpC rfl _ _ (w.heap.size + 1) 26 _ (0, 0) _ rfl hfin.1 Try.underlying26 rfl size_cache) rfl ?_
      exact putAns_no hY.out hfin.2.1 hfin.2.2
    · have hY : Hid (putY cap clock k s n g = true) := by show _ = _; unfold putY; rw [HC.out, hq]; rfl
      have hn6 : n ≤ 6 := (boxB_iff.1 hq).2.1
      clear hq hP6 HC
      by_cases hkc : (k : Int) = cap
      · have HK : Hid (putK cap k = (k - 1) + 1) := by show _ = _; unfold putK; rw [if_pos hkc]; omega
        have HS : Hid (putS cap k s ⟨n, g, x, clock + 1⟩ = addS (cutS s (oldI (fun i => (s i).used) k)) (k - 1) ⟨n, g, x, clock + 1⟩) := by show _ = _; unfold putS; rw [if_pos hkc]
        have hk0 : 0 < k := by omega
        have hk8 : k ≤ 8 := by omega
        have hkq : ((k : Int) == cap) = true := by simpa using hkc
        have hold := oldI_lt (fun i => (s i).used) k hk0
        have hrd := HP6.out.2.2.1.rdC
        clear hkc
        go_wp2_with fail
        refine (oldestSlot_any cap clock A3 k c3 s _ hrd hk0 (by omega)).mono ?_
        rintro e w7 ⟨rfl, hb7⟩
        have hP7 := HP6.out.below hb7
        obtain ⟨at_, hat⟩ : ∃ a, oldI (fun i => (s i).used) k = a := ⟨_, rfl⟩
        rw [hat] at hold HS ⊢
        clear hrd hb7 HP6 n0 n1 n2 n3 n4 n5 r0 r1 r2 r3 r4 r5 hat
        obtain ⟨n0, n1, n2, n3, n4, n5⟩ := blk_cells3 hP7.2.1
        obtain ⟨hv, hrow, hbx⟩ := hP7.2.2.1
        obtain ⟨gb, cs, rfl, hL, hB, _, _⟩ := own_slots hrow hk0
        have hone : Hid (∀ i, i < k → (hv i).oneCell' = true) := fun i hi => by
          obtain ⟨Ai, ci, e, _⟩ := rds_ownC (hbx i hi).1
          rw [e]; rfl
        have HP7 := hid hP7
        have HROW := hid hrow
        have HBX := hid hbx
        have i1 : (at_ : Int) < 8 := by omega
        have i0 : (0 : Int) ≤ (at_ : Int) := by omega
        clear hP7 hrow hbx hB
        go_wp2_with fail
        refine (delete_any w.heap.size gb k c3 at_ hv s _ HROW.out hone.out hold (by omega)).mono ?_
        rintro e w8 ⟨rfl, hrow8, hg8⟩
        have hP8 := HP7.out.delete HROW.out HBX.out hold hrow8 hg8
        obtain ⟨m, hm⟩ : ∃ m, k - 1 = m := ⟨_, rfl⟩
        rw [hm] at hP8 HK HS ⊢
        have hm8 : m ≤ 7 := by omega
        clear hrow8 hg8 HROW HBX HP7 hone n0 n1 n2 n3 n4 n5 hm
        obtain ⟨n0, n1, n2, n3, n4, n5⟩ := blk_cells3 hP8.2.1
        have HP8 := hid (hP8.setN 2 (.slice (some ⟨gb, 0, none⟩) m c3))
        clear hP8
        go_wp2_with fail
        have hP9 := HP8.out.setN 1 (.int .i64 (clock + 1))
        obtain ⟨W9, hW9⟩ : ∃ W, (w8.setCell ⟨nb, 2, none⟩ (.slice (some ⟨gb, 0, none⟩) m c3)).setCell ⟨nb, 1, none⟩ (.int .i64 (clock + 1)) = W := ⟨_, rfl⟩
        rw [hW9] at hP9 ⊢
        have hP9 : PutPk w (w.heap.size + 1) nb #[.int .i64 cap, .int .i64 (clock + 1), .slice (some ⟨gb, 0, none⟩) m c3] (some ⟨gb, 0, none⟩) m c3 (cutS s at_) W9 := hP9
        clear hW9 HP8 n0 n1 n2 n3 n4 n5
        obtain ⟨hv2, hrow2, hbx2⟩ := hP9.2.2.1
        have HP9 := hid (hP9.below (Below.refl _ W9).drew)
        have HROW := hid (own_below hrow2 (Below.refl _ W9).drew)
        have HBX := hid (hbx2.below (Below.refl _ W9).drew)
        have hdX : RdS W9.drew W9.drew.heap.size D n g := (hd.to hP9.2.2.2.1.drew hP9.2.2.2.1.drew.size)
        have hNb : Blk W9.drew nb 26 #[.int .i64 cap, .int .i64 (clock + 1), .slice (some ⟨gb, 0, none⟩) m c3] := hP9.2.1
        have x1 : W9.drew.cell? ⟨nb, 1, none⟩ = some (.int .i64 (clock + 1)) := hNb.cell 1
        have x2 : W9.drew.cell? ⟨nb, 2, none⟩ = some (.slice (some ⟨gb, 0, none⟩) m c3) := hNb.cell 2
        have hsW := hP9.2.2.2.1.size
        have hsW' : w.heap.size ≤ W9.drew.heap.size := hsW
        clear hrow2 hbx2 hP9
        go_cut [] (fun wx => ∃ (A5 : Option Addr) (c5 : Nat), Hid (PutPk w (w.heap.size + 1) nb #[.int .i64 cap, .int .i64 (clock + 1), .slice A5 (m + 1) c5] A5 (m + 1) c5 (addS (cutS s at_) m ⟨n, g, x, clock + 1⟩) wx))
        case first =>
         go_region_law
          (first
            | (refine step_append_lies _ (by rfl) _ _ _ (by rfl) w.heap.size 37 j0 _ 3 40 Try.underlying24 hj0 jz0 jz1 jz2 rfl (by omega) (.slice (some ⟨gb, 0, none⟩) m c3) m _ (by rfl) (hrow4.out.alloc _) ⟨wc.heap.size, 0, none⟩ 1 1 [.slice A4 n c4, .int .i64 x, .int .i64 (clock + 1)] (by rfl) (by rfl) (slot_src _ _ _ _ _) (by simp [Value.oneCell']) (by omega) (by unfold maxLen; omega) (by omega) (by simp; omega) (wc.heap.size + 1) (by simp) ?_; intro g6 c6 w9 hown6 hgrow6 _ _; have hE6 : Blk w9 nb 26 #[.int .i64 cap, .int .i64 (clock + 1), .slice (some ⟨gb, 0, none⟩) m c3] := (hNb4.alloc _).grown hgrow6 hneA; have y2 : w9.cell? ⟨nb, 2, none⟩ = some (.slice (some ⟨gb, 0, none⟩) m c3) := hE6.cell 2; have f2 := hE6.frozen 2)
            | (go_simp; go_at_call 97; refine (cloneS_any D n dc g W9.drew hdX hf).mono ?_; rintro e wc ⟨A4, c4, rfl, hown4, hb4⟩; have hNb4 := hNb.below hb4 hNb.lt; have x1c : wc.cell? ⟨nb, 1, none⟩ = some (.int .i64 (clock + 1)) := hNb4.cell 1; have x2c : wc.cell? ⟨nb, 2, none⟩ = some (.slice (some ⟨gb, 0, none⟩) m c3) := hNb4.cell 2; have x2d : (wc.alloc (.cells #[.slice A4 n c4, .int .i64 x, .int .i64 (clock + 1)] 37)).cell? ⟨nb, 2, none⟩ = some (.slice (some ⟨gb, 0, none⟩) m c3) := (hNb4.alloc _).cell 2; have hrow4 := hid (own_below HROW.out hb4); have hneA := own_blk_ne hrow4.out hNb4 (by decide); have hs4 : w.heap.size ≤ wc.heap.size := Nat.le_trans hsW' hb4.size))
         all_goals
          have hP10 := HP9.out.add HROW.out HBX.out hb4 hown4 hown6 hgrow6
          have HP11 : Hid (PutPk w (w.heap.size + 1) nb #[.int .i64 cap, .int .i64 (clock + 1), .slice (some ⟨g6, 0, none⟩) (m + 1) c6] (some ⟨g6, 0, none⟩) (m + 1) c6 (addS (cutS s at_) m ⟨n, g, x, clock + 1⟩) (w9.setCell ⟨nb, 2, none⟩ (.slice (some ⟨g6, 0, none⟩) (m + 1) c6))) := hP10.setN 2 (.slice (some ⟨g6, 0, none⟩) (m + 1) c6)
          clear hP10 HP9 HROW HBX hb4 hown4 hown6 hgrow6 hE6 hNb4 x1c x2c x2d hrow4 hs4 hNb x1 x2 hdX
          go_wp2_with fail
          go_meet
          exact ⟨_, _, HP11⟩
        case rest =>
          clear HP9 HROW HBX hdX hNb x1 x2
          obtain ⟨A5, c5, HP11⟩ := hcut
          obtain ⟨n0, n1, n2, n3, n4, n5⟩ := blk_cells3 HP11.out.2.1
          obtain ⟨r0, r1, r2, r3, r4, r5⟩ := blk_cells3 HP11.out.1
          go_wp2_with fail
          have hfin := HP11.out.fin (.int .i64 cap) (.int .i64 (clock + 1)) (.slice A5 (m + 1) c5)
          refine bodyPost_ret (results_cell_row_tmpC rfl _ _ (w.heap.size + 1) 26 _ (0, 0) _ rfl hfin.1 Try.underlying26 rfl size_cache) rfl ?_
          exact putAns_yes hY.out HK.out (by rw [HS.out]; exact hfin.2.1) hfin.2.2
      · have HK : Hid (putK cap k = k + 1) := by show _ = _; unfold putK; rw [if_neg hkc]
        have HS : Hid (putS cap k s ⟨n, g, x, clock + 1⟩ = addS s k ⟨n, g, x, clock + 1⟩) := by show _ = _; unfold putS; rw [if_neg hkc]
        have hm8 : k ≤ 7 := by omega
        have hkq : ((k : Int) == cap) = false := by simpa using hkc
        have HP8 := HP6
        clear hkc HP6 r0 r1 r2 r3 r4 r5
        go_wp2_with fail
        have hP9 := HP8.out.setN 1 (.int .i64 (clock + 1))
        obtain ⟨W9, hW9⟩ : ∃ W, w6.setCell ⟨nb, 1, none⟩ (.int .i64 (clock + 1)) = W := ⟨_, rfl⟩
        rw [hW9] at hP9 ⊢
        have hP9 : PutPk w (w.heap.size + 1) nb #[.int .i64 cap, .int .i64 (clock + 1), .slice A3 k c3] A3 k c3 (s) W9 := hP9
        clear hW9 HP8 n0 n1 n2 n3 n4 n5
        obtain ⟨hv2, hrow2, hbx2⟩ := hP9.2.2.1
        have HP9 := hid (hP9.below (Below.refl _ W9).drew)
        have HROW := hid (own_below hrow2 (Below.refl _ W9).drew)
        have HBX := hid (hbx2.below (Below.refl _ W9).drew)
        have hdX : RdS W9.drew W9.drew.heap.size D n g := (hd.to hP9.2.2.2.1.drew hP9.2.2.2.1.drew.size)
        have hNb : Blk W9.drew nb 26 #[.int .i64 cap, .int .i64 (clock + 1), .slice A3 k c3] := hP9.2.1
        have x1 : W9.drew.cell? ⟨nb, 1, none⟩ = some (.int .i64 (clock + 1)) := hNb.cell 1
        have x2 : W9.drew.cell? ⟨nb, 2, none⟩ = some (.slice A3 k c3) := hNb.cell 2
        have hsW := hP9.2.2.2.1.size
        have hsW' : w.heap.size ≤ W9.drew.heap.size := hsW
        clear hrow2 hbx2 hP9
        go_cut [] (fun wx => ∃ (A5 : Option Addr) (c5 : Nat), Hid (PutPk w (w.heap.size + 1) nb #[.int .i64 cap, .int .i64 (clock + 1), .slice A5 (k + 1) c5] A5 (k + 1) c5 (addS (s) k ⟨n, g, x, clock + 1⟩) wx))
        case first =>
         go_region_law
          (first
            | (refine step_append_lies _ (by rfl) _ _ _ (by rfl) w.heap.size 37 j0 _ 3 40 Try.underlying24 hj0 jz0 jz1 jz2 rfl (by omega) (.slice A3 k c3) k _ (by rfl) (hrow4.out.alloc _) ⟨wc.heap.size, 0, none⟩ 1 1 [.slice A4 n c4, .int .i64 x, .int .i64 (clock + 1)] (by rfl) (by rfl) (slot_src _ _ _ _ _) (by simp [Value.oneCell']) (by omega) (by unfold maxLen; omega) (by omega) (by simp; omega) (wc.heap.size + 1) (by simp) ?_; intro g6 c6 w9 hown6 hgrow6 _ _; have hE6 : Blk w9 nb 26 #[.int .i64 cap, .int .i64 (clock + 1), .slice A3 k c3] := (hNb4.alloc _).grown hgrow6 hneA; have y2 : w9.cell? ⟨nb, 2, none⟩ = some (.slice A3 k c3) := hE6.cell 2; have f2 := hE6.frozen 2)
            | (go_simp; go_at_call 97; refine (cloneS_any D n dc g W9.drew hdX hf).mono ?_; rintro e wc ⟨A4, c4, rfl, hown4, hb4⟩; have hNb4 := hNb.below hb4 hNb.lt; have x1c : wc.cell? ⟨nb, 1, none⟩ = some (.int .i64 (clock + 1)) := hNb4.cell 1; have x2c : wc.cell? ⟨nb, 2, none⟩ = some (.slice A3 k c3) := hNb4.cell 2; have x2d : (wc.alloc (.cells #[.slice A4 n c4, .int .i64 x, .int .i64 (clock + 1)] 37)).cell? ⟨nb, 2, none⟩ = some (.slice A3 k c3) := (hNb4.alloc _).cell 2; have hrow4 := hid (own_below HROW.out hb4); have hneA := own_blk_ne hrow4.out hNb4 (by decide); have hs4 : w.heap.size ≤ wc.heap.size := Nat.le_trans hsW' hb4.size))
         all_goals
          have hP10 := HP9.out.add HROW.out HBX.out hb4 hown4 hown6 hgrow6
          have HP11 : Hid (PutPk w (w.heap.size + 1) nb #[.int .i64 cap, .int .i64 (clock + 1), .slice (some ⟨g6, 0, none⟩) (k + 1) c6] (some ⟨g6, 0, none⟩) (k + 1) c6 (addS (s) k ⟨n, g, x, clock + 1⟩) (w9.setCell ⟨nb, 2, none⟩ (.slice (some ⟨g6, 0, none⟩) (k + 1) c6))) := hP10.setN 2 (.slice (some ⟨g6, 0, none⟩) (k + 1) c6)
          clear hP10 HP9 HROW HBX hb4 hown4 hown6 hgrow6 hE6 hNb4 x1c x2c x2d hrow4 hs4 hNb x1 x2 hdX
          go_wp2_with fail
          go_meet
          exact ⟨_, _, HP11⟩
        case rest =>
          clear HP9 HROW HBX hdX hNb x1 x2
          obtain ⟨A5, c5, HP11⟩ := hcut
          obtain ⟨n0, n1, n2, n3, n4, n5⟩ := blk_cells3 HP11.out.2.1
          obtain ⟨r0, r1, r2, r3, r4, r5⟩ := blk_cells3 HP11.out.1
          go_wp2_with fail
          have hfin := HP11.out.fin (.int .i64 cap) (.int .i64 (clock + 1)) (.slice A5 (k + 1) c5)
          refine bodyPost_ret (results_cell_row_tmpC rfl _ _ (w.heap.size + 1) 26 _ (0, 0) _ rfl hfin.1 Try.underlying26 rfl size_cache) rfl ?_
          exact putAns_yes hY.out HK.out (by rw [HS.out]; exact hfin.2.1) hfin.2.2
end Go.Proofs.Ytckhooibjmheiaa
