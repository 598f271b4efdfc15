/- Commands drawn and compared; their law. -/
import Derived.Test.YtmkipdhappikhaaGreatDoorHcX
import Derived.Test.YtmkipdhappikhaaGreatDoorCmV
import Derived.Test.YtmkipdhappikhaaGreatDoorCmT
import Derived.Deep.RegionHeld3
namespace Go.Proofs.YtmkipdhappikhaaGreatDoor

/-! ### CmY -/
section
set_option linter.unusedVariables false
set_option linter.unusedSimpArgs false
open Go.RowKit Go.Deep
set_option linter.unusedVariables false
set_option linter.unusedSimpArgs false

theorem same_anyD (A A' : Option Addr) (n c c' : Nat) (z y : Nat → Int) (w : World) (h : Rd w w.heap.size A n z) (h' : Rd w w.heap.size A' n y) (hzy : Hid (∀ k, k < n → z k = y k)) (hn : n ≤ 4194304) :
    Calls Tryz.prog 87 #[.slice A n c, .slice A' n c'] w fun e w' => e = .returned (.bool true) ∧ ∃ m, w' = w.drewN m := by
  go_enter Tryz.func87, Tryz.ntmps87
  go_wp2_with fail
  go_loopw [5] (fun i wr => ∃ k m : Nat, k ≤ n ∧ i = .int .i64 k ∧ wr = w.drewN m) (fun i _ => n - (intOf i).toNat)
  case atStart => exact ⟨0, 0, Nat.zero_le _, rfl, rfl⟩
  case round =>
    obtain ⟨k, m, hk, rfl, rfl⟩ := hrel
    by_cases hlt : k < n
    · obtain ⟨b, off, rfl, hb, hc⟩ := h.at_ hlt
      obtain ⟨b', off', rfl, hb', hc'⟩ := h'.at_ hlt
      rw [← hzy.out k hlt] at hc'
      have hi : (k : Int) < (n : Int) := by omega
      have hi0 : (0 : Int) ≤ (k : Int) := by omega
      go_wp2_with fail
      go_quiet (fail)
      go_wp2_with fail
      go_roundw
      case rel => exact ⟨k + 1, _, by omega, by go_num, rfl⟩
      case measure => simp [intOf]; omega
    · go_wp2_with fail
      go_ret
      exact ⟨rfl, m, rfl⟩
set_option maxHeartbeats 2000000 in
theorem sameQ_any (A A' : Option Addr) (n c c' : Nat) (len : Nat → Nat) (z : Nat → Nat → Int) (w : World) (h : RdQ w w.heap.size A n len z) (h' : RdQ w w.heap.size A' n len z) (hn : n ≤ 4194304) (hlen : Hid (∀ i, i < n → len i ≤ 4194304)) :
    Calls Tryz.prog 49 #[.slice A n c, .slice A' n c'] w fun e w' => e = .returned (.bool true) ∧ Below w.heap.size w w' := by
  go_enter Tryz.func49, Tryz.ntmps49
  go_wp2_with fail
  go_loopw [5] (fun i wr => ∃ k : Nat, k ≤ n ∧ i = .int .i64 k ∧ Below w.heap.size w wr) (fun i _ => n - (intOf i).toNat)
  case atStart => exact ⟨0, Nat.zero_le _, rfl, Below.refl _ _⟩
  case round =>
    obtain ⟨k, hk, rfl, hbl⟩ := hrel
    by_cases hlt : k < n
    · obtain ⟨b, off, Ai, ci, rfl, hb, hc, hrd⟩ := (h.below hbl).at_ hlt
      obtain ⟨b', off', Ai', ci', rfl, hb', hc', hrd'⟩ := (h'.below hbl).at_ hlt
      have hi : (k : Int) < (n : Int) := by omega
      have hi0 : (0 : Int) ≤ (k : Int) := by omega
      have hlb : b < wr.heap.size := Nat.lt_of_lt_of_le hb hbl.size
      have hlb' : b' < wr.heap.size := Nat.lt_of_lt_of_le hb' hbl.size
      have hr1 : Rd wr.drew wr.drew.heap.size Ai (len k) (z k) := hrd.more hbl.size
      have hr2 : Rd wr.drew wr.drew.heap.size Ai' (len k) (z k) := hrd'.more hbl.size
      have hlk := hlen.out k hlt
      clear hrd hrd'
      go_wp2_with fail
      go_region_held3 (fun w' => w'.cell? ⟨b, off + k, none⟩ = some (.slice Ai (len k) ci) ∧ w'.cell? ⟨b', off' + k, none⟩ = some (.slice Ai' (len k) ci'))
        (first | (simp [go_sem]; done) | exact ⟨e0, e0'⟩ | (simp [go_sem, *]; done))
        (first
          | (go_at_call 87; refine (same_anyD Ai Ai' (len k) ci ci' (z k) (z k) wr.drew hr1 hr2 (hid fun _ _ => rfl) hlk).mono ?_; rintro e w1 ⟨rfl, m1, rfl⟩; have hb1 := below_drewN (Below.refl wr.drew.heap.size wr.drew) m1; obtain ⟨hc1, hf1⟩ := bcell hb1; have e0 := (hc1 b _ hlb).trans hc; have e0' := (hc1 b' _ hlb').trans hc'))
      clear hb1 hc1 hf1 e0 e0' hc hc' hr1 hr2
      go_wp2_with fail
      go_roundw
      case rel => exact ⟨k + 1, by omega, by go_num, below_drewN hbl _⟩
      case measure => simp [intOf]; omega
    · go_wp2_with fail
      go_ret
      exact ⟨rfl, hbl⟩

theorem sameC_any (k a b t : Int) (D D' : Option Addr) (n dc dc' : Nat) (len : Nat → Nat) (z : Nat → Nat → Int) (s : ByteArray) (w : World) (h : RdQ w w.heap.size D n len z) (h' : RdQ w w.heap.size D' n len z) (hn : n ≤ 4194304) (hlen : Hid (∀ i, i < n → len i ≤ 4194304)) :
    Calls Tryz.prog 19 #[cmV k a b t D n dc s, cmV k a b t D' n dc' s] w fun e w' => e = .returned (.bool true) ∧ Below w.heap.size w w' := by
  have hb2 := ((Below.refl w.heap.size w).alloc (Nat.le_refl _) (.cells (cmC k a b t D n dc s) 35)).alloc (by simp) (.cells (cmC k a b t D' n dc' s) 35)
  have h2 := h.to hb2
  have h2' := h'.to hb2
  have hA := (Blk.new w 35 (cmC k a b t D n dc s)).alloc (.cells (cmC k a b t D' n dc' s) 35)
  have hB := Blk.new2 w (.cells (cmC k a b t D n dc s) 35) 35 (cmC k a b t D' n dc' s)
  have q1 : (s.toList != s.toList) = false := by simp
  obtain ⟨c0, c1, c2, c3, c4, c5⟩ := blk_cells6 hA
  obtain ⟨e0, e1, e2, e3, e4, e5⟩ := blk_cells6 hB
  go_enter Tryz.func19, Tryz.ntmps19
  go_wp2_with fail
  clear c0 c1 c2 c3 c4 c5 e0 e1 e2 e3 e4 e5
  refine (sameQ_any D D' n dc dc' len z _ h2 h2' hn hlen).mono ?_
  rintro e w3 ⟨rfl, hb3⟩
  have hA3 := hA.below hb3 hA.lt
  have hB3 := hB.below hb3 hB.lt
  obtain ⟨c0, c1, c2, c3, c4, c5⟩ := blk_cells6 hA3
  obtain ⟨e0, e1, e2, e3, e4, e5⟩ := blk_cells6 hB3
  have hw3 := hb2.trans (hb3.mono hb2.size)
  clear hA hB hA3 hB3 h2 h2' hb2 hb3
  go_wp2_with fail
  go_ret
  exact ⟨rfl, hw3⟩

def DrawnCmd (w : World) (e : Ending) (w' : World) : Prop :=
  ∃ (k a b t : Int) (D : Option Addr) (m c : Nat) (x : ByteArray), e = .returned (cmV k a b t D m c x) ∧ x.size ≤ 7841 ∧ DH w' D m ∧ Below w.heap.size w w'
theorem set6_below2 {w0 W : World} {g : Nat} (h : Below w0.heap.size w0 W) (hg : w0.heap.size ≤ g) (v0 v1 v2 v3 v4 v5 : Value) : Below w0.heap.size w0 (set6 W g v0 v1 v2 v3 v4 v5) :=
  (((((h.setCell (p := ⟨g, 0, none⟩) hg v0).setCell (p := ⟨g, 1, none⟩) hg v1).setCell (p := ⟨g, 2, none⟩) hg v2).setCell (p := ⟨g, 3, none⟩) hg v3).setCell (p := ⟨g, 4, none⟩) hg v4).setCell (p := ⟨g, 5, none⟩) hg v5
set_option maxRecDepth 100000 in
set_option maxHeartbeats 4000000 in
theorem drawCmdOk (A : Option Addr) (n cap : Nat) (w : World) (h : Bs w w.heap.size A n) (hn : n ≤ 4194304) :
    Calls Tryz.prog 39 #[.slice A n cap] w (DrawnCmd w) := by
  go_enter Tryz.func39, Tryz.ntmps39
  go_wp2_with fail
  have hbz := (Below.refl w.heap.size w).alloc (Nat.le_refl _) (.cells zC 35)
  have h1 : Bs (w.alloc (.cells zC 35)) (w.alloc (.cells zC 35)).heap.size A n := (h.keep fun _ hp => hbz.cell hp).more hbz.size
  have hsz : (w.alloc (.cells zC 35)).heap.size = w.heap.size + 1 := by simp
  refine (open_draw A n cap _ h1 hn).mono ?_
  rintro e w1 ⟨rfl, hR1, hb1⟩
  have hZ1 : Blk w1 w.heap.size 35 zC := (Blk.new w 35 _).below hb1 (by omega)
  have hw1 : Below w.heap.size w w1 := hbz.trans (hb1.mono hbz.size)
  rw [hsz] at hR1 ⊢
  generalize hRR : w.heap.size + 1 = R at *
  clear hb1 hbz h1 hsz
  have hRw := hR1.lt
  have hwR : w.heap.size < R := by omega
  clear hRR
  go_wp2_with fail
  refine (below_draw R n cap A 3 _ hR1 (by omega) (by omega)).mono ?_
  rintro e w2 ⟨x, rfl, hx0, hx1, hR2, hg2⟩
  have hZ2 := hZ1.grown hg2 (by intro e; injection e with e; omega)
  have hw2 := hw1.trans ((below_grown hg2 hRw).mono (show w.heap.size ≤ R by omega))
  clear hg2 hZ1 hw1 hR1
  go_wp2_with fail
  refine (cmd_draw R n cap A (1 + x) (by omega) (by omega) _ hR2).mono ?_
  rintro e w3 ⟨k, a, b, t, D, m, c, y, rfl, hy, hdq, hR3, hg3⟩
  have hZ3 := hZ2.grown hg3 (by intro e; injection e with e; omega)
  have hw3 := hw2.trans ((below_grown hg3 hR2.lt).mono (show w.heap.size ≤ R by omega))
  clear hg3 hZ2 hw2 hR2
  go_wp2_with fail
  refine (hurtCmd_draw R n cap A k a b t D m c y _ hR3 hdq hy).mono ?_
  rintro e w4 ⟨k', a', b', t', D', m', c', y', rfl, hy', hdh, hR4, hb4⟩
  have hZ4 := hZ3.below hb4 hwR
  have hw4 := hw3.trans (hb4.mono (show w.heap.size ≤ R by omega))
  clear hZ3 hw3 hR3 hb4 hdq
  have d0 := hZ4.cell 0; have d1 := hZ4.cell 1; have d2 := hZ4.cell 2; have d3 := hZ4.cell 3; have d4 := hZ4.cell 4; have d5 := hZ4.cell 5
  have f0 := hZ4.frozen 0; have f1 := hZ4.frozen 1; have f2 := hZ4.frozen 2; have f3 := hZ4.frozen 3; have f4 := hZ4.frozen 4; have f5 := hZ4.frozen 5
  go_wp2_with fail
  (try simp only [Exit.inBlock, Exit.then])
  refine bodyPost_ret (results_cell_row rfl _ _ w.heap.size 35 (cmC k' a' b' t' D' m' c' y') (0, 0) _ rfl (set6_blk hZ4 _ _ _ _ _ _) Tryz.underlying35 rfl size_cmd) rfl ?_
  exact ⟨k', a', b', t', D', m', c', y', rfl, hy', hdh.far hZ4 fun x hx => set6_far hx, set6_below hw4 _ _ _ _ _ _⟩
set_option maxRecDepth 100000 in
set_option maxHeartbeats 4000000 in
theorem drawCmdText (A : Option Addr) (n cap : Nat) (w : World) (h : Bs w w.heap.size A n) (hn : n ≤ 4194304) :
    Calls Tryz.prog 13 #[.slice A n cap] w (DrawnCmd w) := by
  go_enter Tryz.func13, Tryz.ntmps13
  go_wp2_with fail
  have hbz := (Below.refl w.heap.size w).alloc (Nat.le_refl _) (.cells zC 35)
  have h1 : Bs (w.alloc (.cells zC 35)) (w.alloc (.cells zC 35)).heap.size A n := (h.keep fun _ hp => hbz.cell hp).more hbz.size
  refine (drawCmdOk A n cap _ h1 hn).mono ?_
  rintro e w1 ⟨k', a', b', t', D', m', c', y', rfl, hy', hdh, hb1⟩
  have hZ4 : Blk w1 w.heap.size 35 zC := (Blk.new w 35 _).below hb1 (by simp)
  have hw4 : Below w.heap.size w w1 := hbz.trans (hb1.mono hbz.size)
  clear hb1 hbz h1
  have d0 := hZ4.cell 0; have d1 := hZ4.cell 1; have d2 := hZ4.cell 2; have d3 := hZ4.cell 3; have d4 := hZ4.cell 4; have d5 := hZ4.cell 5
  have f0 := hZ4.frozen 0; have f1 := hZ4.frozen 1; have f2 := hZ4.frozen 2; have f3 := hZ4.frozen 3; have f4 := hZ4.frozen 4; have f5 := hZ4.frozen 5
  go_wp2_with fail
  (try simp only [Exit.inBlock, Exit.then])
  refine bodyPost_ret (results_cell_row rfl _ _ w.heap.size 35 (cmC k' a' b' t' D' m' c' y') (0, 0) _ rfl (set6_blk hZ4 _ _ _ _ _ _) Tryz.underlying35 rfl size_cmd) rfl ?_
  exact ⟨k', a', b', t', D', m', c', y', rfl, hy', hdh.far hZ4 fun x hx => set6_far hx, set6_below hw4 _ _ _ _ _ _⟩
theorem cmdS_any {k a b t : Int} {n : Nat} {len : Nat → Nat} {z : Nat → Nat → Int} {x : ByteArray} : (cmdS k a b t n len z x).size ≤ 5000 := by
  cases h : cmdB k a b t n len z x
  · have : cmdS k a b t n len z x = ⟨#[]⟩ := by unfold cmdS; rw [h]; rfl
    rw [this]; decide
  · exact cmd_5000 h
set_option maxRecDepth 100000 in
set_option maxHeartbeats 4000000 in
theorem drawReadCmd (A : Option Addr) (n cap : Nat) (w : World) (h : Bs w w.heap.size A n) (hn : n ≤ 4194304) :
    Calls Tryz.prog 15 #[.slice A n cap] w fun e w' => ∃ s : ByteArray, e = .returned (.string s) ∧ s.size ≤ 5002 ∧ Below w.heap.size w w' := by
  go_enter Tryz.func15, Tryz.ntmps15
  go_wp2_with fail
  refine (open_draw A n cap w h hn).mono ?_
  rintro e w1 ⟨rfl, hR1, hb1⟩
  have hRw : w.heap.size < w1.heap.size := hR1.lt
  go_wp2_with fail
  refine (below_draw w.heap.size n cap A 3 _ hR1 (by omega) (by omega)).mono ?_
  rintro e w2 ⟨x, rfl, hx0, hx1, hR2, hg2⟩
  have hw2 := hb1.grown hg2 hb1.size (fun k e => by injection e with e; omega)
  clear hg2 hR1 hb1
  go_wp2_with fail
  refine (cmd_draw w.heap.size n cap A (1 + x) (by omega) (by omega) _ hR2).mono ?_
  rintro e w3 ⟨k, a, b, t, D, m, c, y, rfl, hy, hdq, hR3, hg3⟩
  have hw3 := hw2.grown hg3 hw2.size (fun k e => by injection e with e; omega)
  obtain ⟨len, z, hrd, hl⟩ := hdq.rdq
  have hm21 := hdq.le.1
  have HL : Hid (∀ i, i < m → len i ≤ 4194304) := fun i hi => by have := hl i hi; omega
  clear hg3 hR2 hw2 hdq hl
  go_wp2_with fail
  refine (sCmdText_any k a b t D m c len z y _ hrd (by omega) HL (by omega)).mono ?_
  rintro e w4 ⟨rfl, hb4⟩
  have hsz : (cmdS k a b t m len z y).size ≤ 5000 := cmdS_any
  have hw4 := hw3.trans (hb4.mono hw3.size)
  have hR4 := hR3.below hb4
  clear hb4 hw3 hR3 hrd
  generalize cmdS k a b t m len z y = u at hsz ⊢
  go_wp2_with fail
  refine (below_draw w.heap.size n cap A 6 _ hR4 (by omega) (by omega)).mono ?_
  rintro e w5 ⟨k, rfl, hk0, hk1, hR5, hg5⟩
  have hw5 := hw4.grown hg5 hw4.size (fun k e => by injection e with e; omega)
  clear hg5 hR4 hw4
  by_cases e0 : k = 0
  · subst e0
    go_wp2_with fail
    refine (hurtM_draw 5000 (by omega) w.heap.size n cap A u _ hR5 hsz).mono ?_
    rintro e w6 ⟨v, rfl, hv, hR6, hg6⟩
    have hw6 := hw5.grown hg6 hw5.size (fun k e => by injection e with e; omega)
    go_wp2_with fail
    go_ret
    exact ⟨v, rfl, hv, hw6⟩
  by_cases e1 : k = 1
  · subst e1
    have hRlt := hR5.lt
    go_wp2_with fail
    refine (below_draw w.heap.size n cap A 14 _ (hR5.alloc _) (by omega) (by omega)).mono ?_
    rintro e w6 ⟨j, rfl, hj0, hj1, hR6, hg6⟩
    have hB := Blk.grown (Blk.new w5 _ _) hg6 (by simp; omega)
    have c0 := hB.cell 0; have c1 := hB.cell 1; have c2 := hB.cell 2; have c3 := hB.cell 3; have c4 := hB.cell 4; have c5 := hB.cell 5; have c6 := hB.cell 6; have c7 := hB.cell 7; have c8 := hB.cell 8; have c9 := hB.cell 9; have c10 := hB.cell 10; have c11 := hB.cell 11; have c12 := hB.cell 12; have c13 := hB.cell 13
    simp at c0 c1 c2 c3 c4 c5 c6 c7 c8 c9 c10 c11 c12 c13
    have hw6 := (hw5.alloc hw5.size _).grown hg6 (hw5.alloc hw5.size _).size (fun k e => by injection e with e; omega)
    have HW := hid hw6
    clear hB hg6 hw6
    obtain rfl | rfl | rfl | rfl | rfl | rfl | rfl | rfl | rfl | rfl | rfl | rfl | rfl | rfl : j = 0 ∨ j = 1 ∨ j = 2 ∨ j = 3 ∨ j = 4 ∨ j = 5 ∨ j = 6 ∨ j = 7 ∨ j = 8 ∨ j = 9 ∨ j = 10 ∨ j = 11 ∨ j = 12 ∨ j = 13 := by omega
    all_goals
      go_wp2_with fail
      go_ret
      exact ⟨_, rfl, by decide, HW.out⟩
  go_wp2_with fail
  go_ret
  exact ⟨u, rfl, by omega, hw5⟩
end

/-! ### CmZ -/
section
set_option linter.unusedVariables false
set_option linter.unusedSimpArgs false
open Go.RowKit Go.Deep
set_option linter.unusedVariables false
set_option linter.unusedSimpArgs false

theorem cmd_some {k a b t : Int} {n : Nat} {len : Nat → Nat} {z : Nat → Nat → Int} {x : ByteArray} (h : cmdB k a b t n len z x = true) : cmdS k a b t n len z x ≠ ⟨#[]⟩ := by
  intro e
  rw [cmdS_yes h] at e
  obtain ⟨L, hL⟩ := words_head (form_of h)
  rw [e] at hL
  have h2 : allW 32 ⟨#[]⟩ = [⟨#[]⟩] := rfl
  rw [h2] at hL
  exact fName_some (cmd_in h).1 (List.cons.inj hL).1.symm
def CmIs (s : ByteArray) (k a b t : Int) (n : Nat) (len : Nat → Nat) (z : Nat → Nat → Int) (x : ByteArray) (m : Bool) : Prop :=
  (m = true ∧ cmdB k a b t n len z x = true ∧ s = cmdS k a b t n len z x) ∨ (m = false ∧ (k = 0 ∧ a = 0 ∧ b = 0 ∧ t = 0 ∧ n = 0 ∧ x = ⟨#[]⟩) ∧ NoCmd s)
theorem cm_formL {s : ByteArray} {w : World} {e : Ending} {w' : World} (h : CmAns s w e w') : ∃ k a b t n len z x D c m, CmIs s k a b t n len z x m ∧ n ≤ 20 ∧ (∀ i, i < n → 0 < len i ∧ len i ≤ 6) ∧ e = .returned (.tuple #[cmV k a b t D n c x, .bool m]) ∧ LaidQ w' w.heap.size w'.heap.size D n len z ∧ Below w.heap.size w w' := by
  rcases h with ⟨⟨k, a, b, t, n, len, z, x, D, c, h1, h2, rfl, h3⟩ | ⟨h1, rfl⟩, hb⟩
  · obtain ⟨_, _, ⟨h4, h5⟩, _, _⟩ := cmd_in h1
    have := f_low k
    exact ⟨k, a, b, t, n, len, z, x, D, c, true, .inl ⟨rfl, h1, h2⟩, by omega, fun i hi => ⟨(docB_true (h5 i hi)).1, (docB_true (h5 i hi)).2.1⟩, rfl, h3, hb⟩
  · exact ⟨0, 0, 0, 0, 0, fun _ => 0, fun _ _ => 0, ⟨#[]⟩, none, 0, false, .inr ⟨rfl, ⟨rfl, rfl, rfl, rfl, rfl, rfl⟩, h1⟩, by omega, fun i hi => absurd hi (Nat.not_lt_zero i), rfl, laidQ_none, hb⟩
theorem cm_sameL {s : ByteArray} {k a b t : Int} {n : Nat} {len : Nat → Nat} {z : Nat → Nat → Int} {x : ByteArray} {m : Bool} (HA : CmIs s k a b t n len z x m) {w : World} {e : Ending} {w' : World} (h : CmAns s w e w') :
    ∃ D c, e = .returned (.tuple #[cmV k a b t D n c x, .bool m]) ∧ LaidQ w' w.heap.size w'.heap.size D n len z ∧ Below w.heap.size w w' := by
  rcases h with ⟨⟨k', a', b', t', n', len', z', x', D, c, h1, h2, rfl, h3⟩ | ⟨h1, rfl⟩, hb⟩
  · rcases HA with ⟨rfl, k1, k2⟩ | ⟨rfl, _, hno⟩
    · have e2 : joinL (wordsC k' a' b' t' n' len' z' x') = joinL (wordsC k a b t n len z x) := by rw [← cmdS_yes h1, ← cmdS_yes k1, ← h2, ← k2]
      obtain ⟨rfl, rfl, rfl, rfl, hn, rfl, he⟩ := cmd_uniq (form_of h1) (form_of k1) e2
      subst hn
      exact ⟨D, c, rfl, h3.congr he, hb⟩
    · exact absurd h2 (hno _ _ _ _ _ _ _ _ h1)
  · rcases HA with ⟨rfl, k1, k2⟩ | ⟨rfl, ⟨rfl, rfl, rfl, rfl, rfl, rfl⟩, hno⟩
    · exact absurd k2 (h1 _ _ _ _ _ _ _ _ k1)
    · exact ⟨none, 0, rfl, laidQ_none, hb⟩
theorem cm_of {k a b t : Int} {n : Nat} {len : Nat → Nat} {z : Nat → Nat → Int} {x : ByteArray} {w : World} {e : Ending} {w' : World} (ha : CmAns (cmdS k a b t n len z x) w e w') :
    (cmdB k a b t n len z x = true → ∃ A c, e = .returned (.tuple #[cmV k a b t A n c x, .bool true]) ∧ RdQ w' w'.heap.size A n len z ∧ Below w.heap.size w w') ∧ (cmdB k a b t n len z x = false → ∃ A c, e = .returned (.tuple #[cmV 0 0 0 0 A 0 c ⟨#[]⟩, .bool false]) ∧ Below w.heap.size w w') := by
  constructor
  · intro h
    obtain ⟨A, c, h1, h2, h3⟩ := cm_sameL (.inl ⟨rfl, h, rfl⟩) ha
    exact ⟨A, c, h1, h2.rdq, h3⟩
  · intro h
    obtain ⟨A, c, h1, _, h2⟩ := cm_sameL (k := 0) (a := 0) (b := 0) (t := 0) (n := 0) (len := fun _ => 0) (z := fun _ _ => 0) (x := ⟨#[]⟩) (m := false) (.inr ⟨rfl, ⟨rfl, rfl, rfl, rfl, rfl, rfl⟩, fun k' a' b' t' n' len' z' x' hy e => by
      have hu : cmdS k a b t n len z x = ⟨#[]⟩ := by unfold cmdS; rw [h]; rfl
      exact cmd_some hy (by rw [← e, hu])⟩) ha
    exact ⟨A, c, h1, h2⟩
/-- The three commands of the law, each in its box. -/
structure C3 (w0 : World) (eb xb yb : Nat) (k a b t : Int) (A : Option Addr) (n c : Nat) (x : ByteArray) (len : Nat → Nat) (z : Nat → Nat → Int) (k' a' b' t' : Int) (X : Option Addr) (n' cx : Nat) (Y : Option Addr) (cy : Nat) (x' : ByteArray) (len' : Nat → Nat) (z' : Nat → Nat → Int) (W : World) : Prop where
  he : Blk W eb 35 (cmC k a b t A n c x)
  hx : Blk W xb 35 (cmC k' a' b' t' X n' cx x')
  hy : Blk W yb 35 (cmC k' a' b' t' Y n' cy x')
  re : RdQ W W.heap.size A n len z
  rx : RdQ W W.heap.size X n' len' z'
  ry : RdQ W W.heap.size Y n' len' z'
  bel : Below w0.heap.size w0 W
theorem C3.below {w0 : World} {eb xb yb : Nat} {k a b t : Int} {A : Option Addr} {n c : Nat} {x : ByteArray} {len : Nat → Nat} {z : Nat → Nat → Int} {k' a' b' t' : Int} {X : Option Addr} {n' cx : Nat} {Y : Option Addr} {cy : Nat} {x' : ByteArray} {len' : Nat → Nat} {z' : Nat → Nat → Int} {W W' : World}
    (h : C3 w0 eb xb yb k a b t A n c x len z k' a' b' t' X n' cx Y cy x' len' z' W) (hb : Below W.heap.size W W') : C3 w0 eb xb yb k a b t A n c x len z k' a' b' t' X n' cx Y cy x' len' z' W' :=
  ⟨h.he.below hb h.he.lt, h.hx.below hb h.hx.lt, h.hy.below hb h.hy.lt, h.re.to hb, h.rx.to hb, h.ry.to hb, h.bel.trans (hb.mono h.bel.size)⟩

set_option maxRecDepth 100000 in
set_option maxHeartbeats 4000000 in
theorem lawCmds (A : Option Addr) (n cap : Nat) (w : World) (h : Bs w w.heap.size A n) (hE : ErrOk w) (hM : LenOk w) (hp : Hid (Pow w w.heap.size)) :
    Calls Tryz.prog 4 #[.slice A n cap] w fun e w' => e = .returned (.bool true) ∧ Below w.heap.size w w' := by
  by_cases hbig : (1048576 : Int) < (n : Int)
  · go_enter Tryz.func4, Tryz.ntmps4
    go_wp2_with fail
    refine (big_yes A n cap _ hbig).mono ?_
    rintro e w1 ⟨rfl, rfl⟩
    go_wp2_with fail
    go_ret
    exact ⟨rfl, Below.refl _ _⟩
  have HE : Hid (∀ W, Below w.heap.size w W → ErrOk W) := fun W hW => hE.below hW
  have HM : Hid (∀ W, Below w.heap.size w W → LenOk W) := fun W hW => hM.below hW
  have HP : Hid (∀ W, Below w.heap.size w W → Pow W W.heap.size) := fun W hW W' hW' => hp.out W' (hW.trans (hW'.mono hW.size))
  clear hE hM hp
  go_enter Tryz.func4, Tryz.ntmps4
  go_wp2_with fail
  refine (big_no A n cap _ (by omega)).mono ?_
  rintro e w1 ⟨rfl, rfl⟩
  go_wp2_with fail
  refine (drawCmdText A n cap _ h (by omega)).mono ?_
  rintro e w1 ⟨k, a, b, t, T, m, c, y, rfl, hy, hdh, hb1⟩
  obtain ⟨len, z, hr1, hm, hl⟩ := hdh.rdq
  have HL : Hid (∀ i, i < m → len i ≤ 4194304) := fun i hi => by have := hl i hi; omega
  have hm4 : m ≤ 4194304 := by omega
  have hy4 : y.size ≤ 4194304 := by omega
  have hbx := (Below.refl w1.heap.size w1).alloc (Nat.le_refl _) (.cells (cmC k a b t T m c y) 35)
  have hE2 := Blk.new w1 35 (cmC k a b t T m c y)
  have hr2 := hr1.to hbx
  have hw2 := hb1.trans (hbx.mono hb1.size)
  clear hl hbx hr1 hb1 hdh hy hm
  obtain ⟨c0, c1, c2, c3, c4, c5⟩ := blk_cells6 hE2
  go_wp2_with fail
  generalize hW2 : w1.alloc (.cells (cmC k a b t T m c y) 35) = W2 at hE2 hr2 hw2 c0 c1 c2 c3 c4 c5 ⊢
  generalize w1.heap.size = eb at hE2 c0 c1 c2 c3 c4 c5 ⊢
  clear hW2
  refine (iCmdText_any k a b t T m c len z y _ hr2 hm4 HL (hid (HP.out _ hw2))).mono ?_
  rintro e w3 ⟨rfl, hb3⟩
  have hw3 := hw2.trans (hb3.mono hw2.size)
  have hr3 := hr2.to hb3
  have hE3 := hE2.below hb3 hE2.lt
  have hne : (cmdS k a b t m len z y).size ≤ 4194304 := by have := @cmdS_any k a b t m len z y; omega
  clear hw2 hr2 hE2 hb3 c0 c1 c2 c3 c4 c5
  go_wp2_with fail
  refine (drawReadCmd A n cap _ (Bs.more (Bs.keep h fun _ hp => hw3.cell hp) hw3.size) (by omega)).mono ?_
  rintro e w4 ⟨u, rfl, hu, hb4⟩
  have hw4 := hw3.trans (hb4.mono hw3.size)
  have hr4 := hr3.to hb4
  have hE4 := hE3.below hb4 hE3.lt
  clear hw3 hr3 hE3 hb4
  go_wp2_with fail
  refine (iReadCmd_any u _ (by omega) (HE.out _ hw4) (HM.out _ hw4) (hid (HP.out _ hw4))).mono ?_
  rintro e w5 ha
  obtain ⟨k', a', b', t', n', len', z', x', X, cx, is, hA, hk, hl, rfl, hL5, hb5⟩ := cm_formL ha
  have HA := hid hA
  have hrx5 := hL5.rdq
  have hw5 := hw4.trans (hb5.mono hw4.size)
  have hr5 := hr4.to hb5
  have hE5 := hE4.below hb5 hE4.lt
  have HL' : Hid (∀ i, i < n' → len' i ≤ 4194304) := fun i hi => by have := hl i hi; omega
  have hk4 : n' ≤ 4194304 := by omega
  clear ha hA hw4 hr4 hE4 hL5 hb5 hl
  have hbx := (Below.refl w5.heap.size w5).alloc (Nat.le_refl _) (.cells (cmC k' a' b' t' X n' cx x') 35)
  have hX6 := Blk.new w5 35 (cmC k' a' b' t' X n' cx x')
  have hrx6 := hrx5.to hbx
  have hr6 := hr5.to hbx
  have hE6 := hE5.below hbx hE5.lt
  have hw6 := hw5.trans (hbx.mono hw5.size)
  clear hbx hrx5 hr5 hE5 hw5
  go_wp2_with fail
  generalize w5.alloc (.cells (cmC k' a' b' t' X n' cx x') 35) = W6 at hX6 hrx6 hr6 hE6 hw6 ⊢
  generalize w5.heap.size = xb at hX6 ⊢
  refine (sReadCmd_any u _ (by omega)).mono ?_
  rintro e w7 ha
  obtain ⟨Y, cy, rfl, hL7, hb7⟩ := cm_sameL HA.out ha
  have hry7 := hL7.rdq
  have hX7 := hX6.below hb7 hX6.lt
  have hrx7 := hrx6.to hb7
  have hr7 := hr6.to hb7
  have hE7 := hE6.below hb7 hE6.lt
  have hw7 := hw6.trans (hb7.mono hw6.size)
  clear ha hX6 hrx6 hr6 hE6 hw6 hb7 hL7
  have hbx := (Below.refl w7.heap.size w7).alloc (Nat.le_refl _) (.cells (cmC k' a' b' t' Y n' cy x') 35)
  have D8 : C3 w eb xb w7.heap.size k a b t T m c y len z k' a' b' t' X n' cx Y cy x' len' z' (w7.alloc (.cells (cmC k' a' b' t' Y n' cy x') 35)) :=
    ⟨hE7.below hbx hE7.lt, hX7.below hbx hX7.lt, Blk.new w7 _ _, hr7.to hbx, hrx7.to hbx, hry7.to hbx, hw7.trans (hbx.mono hw7.size)⟩
  clear hbx hE7 hX7 hr7 hrx7 hry7 hw7
  obtain ⟨c0, c1, c2, c3, c4, c5⟩ := blk_cells6 D8.he
  go_wp2_with fail
  clear c0 c1 c2 c3 c4 c5
  generalize w7.alloc (.cells (cmC k' a' b' t' Y n' cy x') 35) = W8 at D8 ⊢
  generalize w7.heap.size = yb at D8 ⊢
  refine (sCmdText_any k a b t T m c len z y _ D8.re hm4 HL hy4).mono ?_
  rintro e w9 ⟨rfl, hb9⟩
  have D9 := D8.below hb9
  clear D8 hb9
  have q1 : ((cmdS k a b t m len z y).toList != (cmdS k a b t m len z y).toList) = false := by simp
  have q3 : (is != is) = false := by simp
  obtain ⟨x0, x1, x2, x3, x4, x5⟩ := blk_cells6 D9.hx
  obtain ⟨y0, y1, y2, y3, y4, y5⟩ := blk_cells6 D9.hy
  go_wp2_with fail
  clear x0 x1 x2 x3 x4 x5 y0 y1 y2 y3 y4 y5
  refine (sameC_any k' a' b' t' X Y n' cx cy len' z' x' _ D9.rx D9.ry hk4 HL').mono ?_
  rintro e wA ⟨rfl, hbA⟩
  have DA := D9.below hbA
  clear D9 hbA
  cases is
  · clear HA
    go_wp2_with fail
    refine (iReadCmd_any (cmdS k a b t m len z y) _ hne (HE.out _ DA.bel) (HM.out _ DA.bel) (hid (HP.out _ DA.bel))).mono ?_
    rintro e wC ha
    cases hq : cmdB k a b t m len z y
    · obtain ⟨Z, cz, rfl, hbC⟩ := (cm_of ha).2 hq
      have DC := DA.below hbC
      have hu : cmdS k a b t m len z y = ⟨#[]⟩ := by unfold cmdS; rw [hq]; rfl
      have HQ : Hid (cmdB k a b t m len z y = false) := hq
      clear ha hbC hu hq DA
      have hbx := (Below.refl wC.heap.size wC).alloc (Nat.le_refl _) (.cells (cmC 0 0 0 0 Z 0 cz ⟨#[]⟩) 35)
      have DD := DC.below hbx
      clear DC hbx
      obtain ⟨c0, c1, c2, c3, c4, c5⟩ := blk_cells6 DD.he
      go_wp2_with fail
      generalize wC.alloc (.cells (cmC 0 0 0 0 Z 0 cz ⟨#[]⟩) 35) = WD at DD c0 c1 c2 c3 c4 c5 ⊢
      clear c0 c1 c2 c3 c4 c5
      refine (sCmdOk_any k a b t T m c len z y _ DD.re hm4 HL hy4).mono ?_
      rintro e wE ⟨rfl, hbE⟩
      rw [HQ.out]
      have DE := DD.below hbE
      clear DD hbE
      obtain ⟨c0, c1, c2, c3, c4, c5⟩ := blk_cells6 DE.he
      go_wp2_with fail
      clear c0 c1 c2 c3 c4 c5
      refine (iCmdOk_any k a b t T m c len z y _ DE.re hm4 HL).mono ?_
      rintro e wF ⟨rfl, hbF⟩
      rw [HQ.out]
      have DF := DE.below hbF
      go_wp2_with fail
      go_ret
      exact ⟨rfl, DF.bel⟩
    · obtain ⟨Z, cz, rfl, hrz, hbC⟩ := (cm_of ha).1 hq
      have DC := DA.below hbC
      have HQ : Hid (cmdB k a b t m len z y = true) := hq
      clear ha hbC hq DA
      have hbx := (Below.refl wC.heap.size wC).alloc (Nat.le_refl _) (.cells (cmC k a b t Z m cz y) 35)
      have hZ := Blk.new wC 35 (cmC k a b t Z m cz y)
      have DD := DC.below hbx
      have hrz2 := hrz.to hbx
      clear DC hrz hbx
      obtain ⟨c0, c1, c2, c3, c4, c5⟩ := blk_cells6 DD.he
      go_wp2_with fail
      generalize wC.alloc (.cells (cmC k a b t Z m cz y) 35) = WD at DD hZ hrz2 c0 c1 c2 c3 c4 c5 ⊢
      generalize wC.heap.size = zb at hZ ⊢
      clear c0 c1 c2 c3 c4 c5
      refine (sCmdOk_any k a b t T m c len z y _ DD.re hm4 HL hy4).mono ?_
      rintro e wE ⟨rfl, hbE⟩
      rw [HQ.out]
      have DE := DD.below hbE
      have hZE := hZ.below hbE hZ.lt
      have hrzE := hrz2.to hbE
      clear DD hbE hZ hrz2
      obtain ⟨c0, c1, c2, c3, c4, c5⟩ := blk_cells6 DE.he
      go_wp2_with fail
      clear c0 c1 c2 c3 c4 c5
      refine (iCmdOk_any k a b t T m c len z y _ DE.re hm4 HL).mono ?_
      rintro e wF ⟨rfl, hbF⟩
      rw [HQ.out]
      have DF := DE.below hbF
      have hZF := hZE.below hbF hZE.lt
      have hrzF := hrzE.to hbF
      clear DE hbF hZE hrzE
      obtain ⟨c0, c1, c2, c3, c4, c5⟩ := blk_cells6 DF.he
      obtain ⟨z0, z1, z2, z3, z4, z5⟩ := blk_cells6 hZF
      go_wp2_with fail
      clear c0 c1 c2 c3 c4 c5 z0 z1 z2 z3 z4 z5
      refine (sameC_any k a b t Z T m cz c len z y _ hrzF DF.re hm4 HL).mono ?_
      rintro e wG ⟨rfl, hbG⟩
      go_wp2_with fail
      go_ret
      exact ⟨rfl, DF.bel.trans (hbG.mono DF.bel.size)⟩
  · have HXY : Hid (cmdS k' a' b' t' n' len' z' x' = u) := by
      rcases HA.out with ⟨_, _, k2⟩ | ⟨h, _⟩
      · exact k2.symm
      · cases h
    clear HA
    obtain ⟨x0, x1, x2, x3, x4, x5⟩ := blk_cells6 DA.hx
    go_wp2_with fail
    clear x0 x1 x2 x3 x4 x5
    refine (iCmdText_any k' a' b' t' X n' cx len' z' x' _ DA.rx hk4 HL' (hid (HP.out _ DA.bel))).mono ?_
    rintro e wB ⟨rfl, hbB⟩
    have DB := DA.below hbB
    clear DA hbB
    rw [HXY.out]
    have q5 : (u.toList != u.toList) = false := by simp
    go_wp2_with fail
    refine (iReadCmd_any (cmdS k a b t m len z y) _ hne (HE.out _ DB.bel) (HM.out _ DB.bel) (hid (HP.out _ DB.bel))).mono ?_
    rintro e wC ha
    cases hq : cmdB k a b t m len z y
    · obtain ⟨Z, cz, rfl, hbC⟩ := (cm_of ha).2 hq
      have DC := DB.below hbC
      have hu : cmdS k a b t m len z y = ⟨#[]⟩ := by unfold cmdS; rw [hq]; rfl
      have HQ : Hid (cmdB k a b t m len z y = false) := hq
      clear ha hbC hu hq DB
      have hbx := (Below.refl wC.heap.size wC).alloc (Nat.le_refl _) (.cells (cmC 0 0 0 0 Z 0 cz ⟨#[]⟩) 35)
      have DD := DC.below hbx
      clear DC hbx
      obtain ⟨c0, c1, c2, c3, c4, c5⟩ := blk_cells6 DD.he
      go_wp2_with fail
      generalize wC.alloc (.cells (cmC 0 0 0 0 Z 0 cz ⟨#[]⟩) 35) = WD at DD c0 c1 c2 c3 c4 c5 ⊢
      clear c0 c1 c2 c3 c4 c5
      refine (sCmdOk_any k a b t T m c len z y _ DD.re hm4 HL hy4).mono ?_
      rintro e wE ⟨rfl, hbE⟩
      rw [HQ.out]
      have DE := DD.below hbE
      clear DD hbE
      obtain ⟨c0, c1, c2, c3, c4, c5⟩ := blk_cells6 DE.he
      go_wp2_with fail
      clear c0 c1 c2 c3 c4 c5
      refine (iCmdOk_any k a b t T m c len z y _ DE.re hm4 HL).mono ?_
      rintro e wF ⟨rfl, hbF⟩
      rw [HQ.out]
      have DF := DE.below hbF
      go_wp2_with fail
      go_ret
      exact ⟨rfl, DF.bel⟩
    · obtain ⟨Z, cz, rfl, hrz, hbC⟩ := (cm_of ha).1 hq
      have DC := DB.below hbC
      have HQ : Hid (cmdB k a b t m len z y = true) := hq
      clear ha hbC hq DB
      have hbx := (Below.refl wC.heap.size wC).alloc (Nat.le_refl _) (.cells (cmC k a b t Z m cz y) 35)
      have hZ := Blk.new wC 35 (cmC k a b t Z m cz y)
      have DD := DC.below hbx
      have hrz2 := hrz.to hbx
      clear DC hrz hbx
      obtain ⟨c0, c1, c2, c3, c4, c5⟩ := blk_cells6 DD.he
      go_wp2_with fail
      generalize wC.alloc (.cells (cmC k a b t Z m cz y) 35) = WD at DD hZ hrz2 c0 c1 c2 c3 c4 c5 ⊢
      generalize wC.heap.size = zb at hZ ⊢
      clear c0 c1 c2 c3 c4 c5
      refine (sCmdOk_any k a b t T m c len z y _ DD.re hm4 HL hy4).mono ?_
      rintro e wE ⟨rfl, hbE⟩
      rw [HQ.out]
      have DE := DD.below hbE
      have hZE := hZ.below hbE hZ.lt
      have hrzE := hrz2.to hbE
      clear DD hbE hZ hrz2
      obtain ⟨c0, c1, c2, c3, c4, c5⟩ := blk_cells6 DE.he
      go_wp2_with fail
      clear c0 c1 c2 c3 c4 c5
      refine (iCmdOk_any k a b t T m c len z y _ DE.re hm4 HL).mono ?_
      rintro e wF ⟨rfl, hbF⟩
      rw [HQ.out]
      have DF := DE.below hbF
      have hZF := hZE.below hbF hZE.lt
      have hrzF := hrzE.to hbF
      clear DE hbF hZE hrzE
      obtain ⟨c0, c1, c2, c3, c4, c5⟩ := blk_cells6 DF.he
      obtain ⟨z0, z1, z2, z3, z4, z5⟩ := blk_cells6 hZF
      go_wp2_with fail
      clear c0 c1 c2 c3 c4 c5 z0 z1 z2 z3 z4 z5
      refine (sameC_any k a b t Z T m cz c len z y _ hrzF DF.re hm4 HL).mono ?_
      rintro e wG ⟨rfl, hbG⟩
      go_wp2_with fail
      go_ret
      exact ⟨rfl, DF.bel.trans (hbG.mono DF.bel.size)⟩
end
end Go.Proofs.YtmkipdhappikhaaGreatDoor
