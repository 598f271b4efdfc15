/- A command's text read by the other side. -/
import Derived.Test.YtmkipdhappikhaaGreatDoorCmU
import Derived.Test.YtmkipdhappikhaaGreatDoorCmT
import Derived.Deep.RegionWith
import Derived.Deep.DeepCutAuto
import Derived.Deep.CutBlock
namespace Go.Proofs.YtmkipdhappikhaaGreatDoor
open Go.RowKit Go.Deep
set_option linter.unusedVariables false
set_option linter.unusedSimpArgs false

/-- The kind found among the first j names. -/
def KnTo (nm : ByteArray) (j : Nat) (k : Int) : Prop := ((1 ≤ k ∧ k ≤ j) ∧ fName k = nm) ∨ (k = 0 ∧ ∀ i : Int, 1 ≤ i → i ≤ j → fName i ≠ nm)
theorem knTo_hit {nm : ByteArray} {j : Nat} {k : Int} (h : fName ((j : Int) + 1) = nm) : KnTo nm (j + 1) ((j : Int) + 1) := .inl ⟨⟨by omega, by omega⟩, h⟩
theorem knTo_miss {nm : ByteArray} {j : Nat} {k : Int} (h : KnTo nm j k) (h' : fName ((j : Int) + 1) ≠ nm) : KnTo nm (j + 1) k := by
  rcases h with ⟨h1, h2⟩ | ⟨h1, h2⟩
  · exact .inl ⟨⟨h1.1, by omega⟩, h2⟩
  · refine .inr ⟨h1, fun i hi hi2 => ?_⟩
    by_cases e : i = (j : Int) + 1
    · rw [e]; exact h'
    · exact h2 i hi (by omega)
/-- A good command's text is short. -/
theorem cmd_5000 {k a b t : Int} {n : Nat} {len : Nat → Nat} {z : Nat → Nat → Int} {x : ByteArray} (h : cmdB k a b t n len z x = true) : (cmdS k a b t n len z x).size ≤ 5000 := by
  have hf := form_of h
  obtain ⟨hk, hnum, ⟨h3, h4⟩, h5, _⟩ := cmd_in h
  rw [cmdS_yes h]
  by_cases hk1 : k = 1
  · subst hk1
    rw [(words_load hf).2.2.2.2, size_app3]
    have : (fName 1).size = 4 := rfl
    have e : fX 1 = 4000 := rfl
    omega
  · rw [(words_no hf hk1).1]
    have hl : (fName k :: ((numsL k a b t).map decS ++ docsL n len z)).length ≤ 26 := by
      have := cwords_len h
      rw [(words_no hf hk1).1] at this
      omega
    have hz : (joinL (fName k :: ((numsL k a b t).map decS ++ docsL n len z))).size ≤ (fName k :: ((numsL k a b t).map decS ++ docsL n len z)).length * (54 + 1) := joinL_size fun y hy => by
      rcases List.mem_cons.1 hy with rfl | hy
      · have := fName_size k; omega
      · rcases List.mem_append.1 hy with hy | hy
        · obtain ⟨q, hq, rfl⟩ := List.mem_map.1 hy
          have := (nums_I64 hnum q hq).size
          omega
        · unfold docsL at hy
          obtain ⟨i, hi, rfl⟩ := List.mem_map.1 hy
          have := docS_sz (h4 i (List.mem_range.1 hi))
          omega
    omega
theorem nums_2 (a b t : Int) : numsL 2 a b t = [a, b] := by simp [numsL, fA, fB, fT]
theorem nums_3 (a b t : Int) : numsL 3 a b t = [] := by simp [numsL, fA, fB, fT]
theorem nums_4 (a b t : Int) : numsL 4 a b t = [t] := by simp [numsL, fA, fB, fT]
theorem nums_5 (a b t : Int) : numsL 5 a b t = [a] := by simp [numsL, fA, fB, fT]

set_option maxRecDepth 100000 in
set_option maxHeartbeats 4000000 in
theorem sReadCmd_any (s : ByteArray) (w : World) (hs : s.size ≤ 4194304) :
    Calls Tryz.prog 17 #[.string s] w (CmAns s w) := by
  have hb0 := (Below.refl w.heap.size w).alloc (Nat.le_refl _) (.cells zD 35)
  have hB0 := Blk.new w 35 zD
  by_cases hbig : (5000 : Int) < (s.size : Int)
  · have HX : Hid (NoCmd s) := fun k a b t n len z x h e => by
      have h1 := cmd_5000 h
      rw [← e] at h1
      omega
    go_enter Tryz.func17, Tryz.ntmps17
    go_wp2_with fail
    refine bodyPost_ret (results_en rfl _ _ w.heap.size 35 #[.int .i64 0, .int .i64 0, .int .i64 0, .int .i64 0, .slice none 0 0, .string ⟨#[]⟩] (0, 0) _ rfl hB0 Tryz.underlying35 rfl size_cmd) rfl ?_
    exact ⟨.inr ⟨HX.out, rfl⟩, hb0⟩
  obtain ⟨t, r, m, ht, hr, hcut, hcall⟩ := cut_any s hs
  have HCUT := hid hcut
  have HC := hid hcall
  clear hcut hcall
  go_enter Tryz.func17, Tryz.ntmps17
  go_wp2_with fail
  refine (HC.out _).mono ?_
  rintro e w2 ⟨rfl, j, rfl⟩
  have hw2 := below_drewN hb0 j
  have hB2 : Blk ((w.alloc (.cells zD 35)).drewN j) w.heap.size 35 zD := hB0
  clear HC hb0 hB0
  generalize (w.alloc (.cells zD 35)).drewN j = W2 at hw2 hB2 ⊢
  have HG3 : Hid (GS6 w W2.heap.size (cmC 0 0 0 0 none 0 0 ⟨#[]⟩) (W2.alloc (.cells (cmC 0 0 0 0 none 0 0 ⟨#[]⟩) 35))) := ⟨hB2.alloc _, Blk.new W2 _ _, hB2.lt, hw2.alloc hw2.size _⟩
  clear hw2 hB2
  go_wp2_with fail
  generalize W2.alloc (.cells (cmC 0 0 0 0 none 0 0 ⟨#[]⟩) 35) = W3 at HG3 ⊢
  generalize W2.heap.size = q at HG3 ⊢
  go_loopw [8] (fun i wr => ∃ (j : Nat) (k : Int), j ≤ 5 ∧ i = .int .i64 j ∧ Hid (KnTo t j k) ∧ Hid (GS6 w q (cmC k 0 0 0 none 0 0 ⟨#[]⟩) wr)) (fun i _ => 5 - (intOf i).toNat)
  case atStart => exact ⟨0, 0, by omega, rfl, .inr ⟨rfl, fun i h1 h2 => by omega⟩, HG3⟩
  case round =>
    clear HG3
    obtain ⟨j, k, hj, rfl, hK, hG⟩ := hrel
    by_cases hlt : j < 5
    · have j1 : (j : Int) < 5 := by omega
      have i0' : (0 : Int) ≤ (j : Int) := by omega
      go_wp2_with fail
      refine (names_any _).mono ?_
      rintro e w4 ⟨g, rfl, hg, hcell, hb4⟩
      have hG4 := hid (hG.out.below hb4)
      have cn : w4.cell? ⟨g, j, none⟩ = some (.string (fName ((j : Int) + 1))) := hcell j hlt
      clear hG hcell hb4
      by_cases he : fName ((j : Int) + 1) = t
      · have HK5 := hid (knTo_hit (k := k) he)
        have c0 := hG4.out.cmd.cell 0
        have f0 := hG4.out.cmd.frozen 0
        have HG5 : Hid (GS6 w q (cmC ((j : Int) + 1) 0 0 0 none 0 0 ⟨#[]⟩) (w4.setCell ⟨q, 0, none⟩ (.int .i64 ((j : Int) + 1)))) := hG4.out.set 0 _
        rw [he] at cn
        clear he hG4
        go_wp2_with fail
        go_roundw
        case rel => exact ⟨j + 1, (j : Int) + 1, by omega, by go_num, HK5, HG5⟩
        case measure => simp [intOf]; omega
      · have HK5 := hid (knTo_miss hK.out he)
        have hl := ba_listT he
        clear he
        go_wp2_with fail
        go_roundw
        case rel => exact ⟨j + 1, k, by omega, by go_num, HK5, hG4⟩
        case measure => simp [intOf]; omega
    · obtain rfl : j = 5 := by omega
      have j1 : ¬ ((5 : Nat) : Int) < 5 := by omega
      have HGD : Hid (∀ (k' a' b' u' : Int) (n' : Nat) (len' : Nat → Nat) (z' : Nat → Nat → Int) (x' : ByteArray), cmdB k' a' b' u' n' len' z' x' = true → s = cmdS k' a' b' u' n' len' z' x' → k' = k ∧ (k = 1 → x' = r) ∧ (k ≠ 1 → restW m r = (numsL k a' b' u').map decS ++ docsL n' len' z') ∧ (∀ y ∈ numsL k a' b' u', I64 y) ∧ FormC k a' b' u' n' len' z' x') := fun k' a' b' u' n' len' z' x' h e => by
        obtain ⟨p1, p2, _⟩ := parts_cmd HCUT.out h e
        have hk' := (cmd_in h).1
        have : k' = k := by
          rcases hK.out with ⟨h1, h2⟩ | ⟨_, h2⟩
          · exact fName_inj (by omega) hk' (h2.trans p1) |>.symm
          · exact absurd p1.symm (h2 k' hk'.1 (by omega))
        subst this
        exact ⟨rfl, fun h1 => ((p2 h1).2).symm, fun h1 => rest_cmd HCUT.out h e h1, nums_I64 (cmd_in h).2.1, form_of h⟩
      have hk05 : 0 ≤ k ∧ k ≤ 5 := by
        rcases hK.out with ⟨h1, _⟩ | ⟨h1, _⟩ <;> omega
      have hrl : (restW m r).length ≤ 5001 := by
        unfold restW
        split
        · have := allW_len 32 r; omega
        · simp
      have HRM : Hid (∀ y, y ∈ restW m r → y.size ≤ 4194304) := fun y hy => by
        unfold restW at hy
        split at hy
        · exact Nat.le_trans (split_mem _ r y hy) (by omega)
        · cases hy
      clear hK HCUT
      go_upto_if 40 with fail
      clear j1
      obtain ⟨w5, hwc⟩ : ∃ w5, w5 = wr := ⟨_, rfl⟩
      rw [← hwc] at hG ⊢
      clear hwc
      obtain ⟨L, HLE⟩ : ∃ L, Hid (L = restW m r) := ⟨_, hid rfl⟩
      rw [← HLE.out] at HGD hrl HRM
      have HG5 := hid (hG.out.below ((Below.refl w5.heap.size w5).alloc (Nat.le_refl _) (.cells #[] 9)))
      have hq5 : q < w5.heap.size := hG.out.cmd.lt
      clear hG
      go_cut [9] (fun s9 wx => ∃ (A : Option Addr) (c H n : Nat), s9 = .slice A n c ∧ Hid (L.length = n) ∧ n ≤ c ∧ q < H ∧ Hid (GS6 w q (cmC k 0 0 0 none 0 0 ⟨#[]⟩) wx) ∧ Hid (RwS wx q H A L))
      case first =>
        cases m
        · have HL0 : Hid (L = []) := HLE
          go_wp2_with fail
          go_meet
          exact ⟨_, 0, w5.heap.size, 0, rfl, (by show _ = _; rw [HL0.out]; rfl), Nat.le_refl _, hq5, HG5, (by show RwS _ _ _ _ _; rw [HL0.out]; exact rwS_nil (by simp))⟩
        · have HL0 : Hid (L = allW 32 r) := HLE
          have HSP := hid (split_any r (w5.alloc (.cells #[] 9)) (by omega))
          rw [← HL0.out] at HSP
          go_wp2_with fail
          refine HSP.out.mono ?_
          rintro e w6 ⟨A, c, rfl, ho, hb6⟩
          have HG6 := hid (HG5.out.below hb6)
          have HO := hid ho
          have hc : L.length ≤ c := by
            rcases Nat.eq_zero_or_pos L.length with h | h
            · omega
            · obtain ⟨_, _, _, h2, _⟩ := own_strT ho h
              exact h2
          clear ho hb6 HSP
          go_wp2_with fail
          go_meet
          exact ⟨A, c, w6.heap.size, L.length, rfl, rfl, hc, HG6.out.cmd.lt, HG6, rwS_own HO.out (by simp; omega)⟩
      case rest =>
      clear HG5 HLE hq5
      obtain ⟨A, c, H, n, rfl, hLn, hnc, hqH, hG, hR⟩ := hcut
      obtain ⟨w6, hwc⟩ : ∃ w6, w6 = wc := ⟨_, rfl⟩
      rw [← hwc] at hG hR ⊢
      clear hwc
      have c0 := hG.out.cmd.cell 0
      go_upto_block 2 with fail
      go_cut [9, 10, 11] (fun s9 s10 s11 wx => ∃ (A : Option Addr) (c n : Nat) (k a b u : Int) (x : ByteArray) (L : List ByteArray), s9 = .slice A n c ∧ Hid (L.length = n) ∧ n ≤ 5001 ∧ x.size ≤ 4194304 ∧ Hid (∀ y, y ∈ L → y.size ≤ 4194304) ∧ Hid (GS6 w q (cmC k a b u none 0 0 x) wx) ∧ Hid (RwS wx q H A L) ∧
        Hid (∀ (k' a' b' u' : Int) (n' : Nat) (len' : Nat → Nat) (z' : Nat → Nat → Int) (x' : ByteArray), cmdB k' a' b' u' n' len' z' x' = true → s = cmdS k' a' b' u' n' len' z' x' → k' = k ∧ a' = a ∧ b' = b ∧ u' = u ∧ x' = x ∧ L = docsL n' len' z' ∧ ∀ i, i < n' → docB (len' i) (z' i) = true))
      case first =>
        have hn4 : n ≤ 5001 := by have := hLn.out; omega
        clear c0
        obtain ⟨hk0, hk5⟩ := hk05
        obtain rfl | rfl | rfl | rfl | rfl | rfl : k = 0 ∨ k = 1 ∨ k = 2 ∨ k = 3 ∨ k = 4 ∨ k = 5 := by omega
        · go_wp2_with fail
          go_meet
          exact ⟨A, c, n, 0, 0, 0, 0, ⟨#[]⟩, L, rfl, hLn, hn4, (by show (0 : Nat) ≤ _; omega), HRM, hG, hR, fun k' a' b' u' n' len' z' x' h e => by
            have h1 := (HGD.out _ _ _ _ _ _ _ _ h e).1
            have h2 := (cmd_in h).1
            omega⟩
        · have c5 := hG.out.cmd.cell 5
          have f5 := hG.out.cmd.frozen 5
          have HG1 : Hid (GS6 w q (cmC 1 0 0 0 none 0 0 r) (w6.setCell ⟨q, 5, none⟩ (.string r))) := hG.out.set 5 _
          have HR1 := hid (hR.out.set 5 (.string r)).1
          go_wp2_with fail
          go_meet
          exact ⟨none, 0, 0, 1, 0, 0, 0, r, [], rfl, rfl, by omega, by omega, fun y hy => absurd hy (by simp), HG1, rwS_nil HR1.out, fun k' a' b' u' n' len' z' x' h e => by
            obtain ⟨h1, h2, _, _, h4⟩ := HGD.out _ _ _ _ _ _ _ _ h e
            obtain ⟨rfl, p1, p2, p3, _⟩ := words_load h4
            exact ⟨h1, p1, p2, p3, h2 (by trivial), rfl, fun i hi => absurd hi (Nat.not_lt_zero i)⟩⟩
        · rcases L with _ | ⟨y0, L1⟩
          · obtain rfl : 0 = n := hLn.out
            have HX : Hid (NoCmd s) := fun k' a' b' u' n' len' z' x' h e => by
              obtain ⟨h1, _, h2, _, h4⟩ := HGD.out _ _ _ _ _ _ _ _ h e
              have h3 := h2 (by decide)
              rw [nums_2] at h3
              cases h3
            have c0 := hG.out.cmd.cell 0
            have d0 := hG.out.res.cell 0; have d1 := hG.out.res.cell 1; have d2 := hG.out.res.cell 2; have d3 := hG.out.res.cell 3; have d4 := hG.out.res.cell 4; have d5 := hG.out.res.cell 5
            have f0 := hG.out.res.frozen 0; have f1 := hG.out.res.frozen 1; have f2 := hG.out.res.frozen 2; have f3 := hG.out.res.frozen 3; have f4 := hG.out.res.frozen 4; have f5 := hG.out.res.frozen 5
            go_wp2_with fail
            refine bodyPost_ret (results_en rfl _ _ w.heap.size 35 #[.int .i64 0, .int .i64 0, .int .i64 0, .int .i64 0, .slice none 0 0, .string ⟨#[]⟩] (0, 0) _ rfl (set6_blk hG.out.res _ _ _ _ _ _) Tryz.underlying35 rfl size_cmd) rfl ?_
            exact ⟨.inr ⟨HX.out, rfl⟩, set6_below hG.out.bel _ _ _ _ _ _⟩
          · obtain ⟨n1, rfl⟩ : ∃ n1, n = n1 + 1 := ⟨L1.length, hLn.out.symm⟩
            have HL1 : Hid (L1.length = n1) := Nat.succ.inj hLn.out
            obtain ⟨b, off, hA, _, _, hcell⟩ := hR.out.2 (Nat.succ_pos _)
            subst hA
            have cw : w6.cell? ⟨b, off, none⟩ = some (.string y0) := by have := hcell 0 y0 rfl; simpa using this
            have hy0 : y0.size ≤ 4194304 := HRM.out y0 List.mem_cons_self
            have HN0 := hid (num_gen y0 w6 hy0)
            have c0 := hG.out.cmd.cell 0
            have c3 := hG.out.cmd.cell 1
            have f3 := hG.out.cmd.frozen 1
            have HR1 := hid (hR.out.tail)
            have HRM1 : Hid (∀ y, y ∈ L1 → y.size ≤ 4194304) := fun y hy => HRM.out y (List.mem_cons_of_mem _ hy)
            clear hcell
            go_wp2_with fail
            refine HN0.out.mono ?_
            rintro e w7 ⟨x, bb, hx, hxu, rfl, hw7⟩
            subst hw7
            have HG1 : Hid (GS6 w q (cmC 2 x 0 0 none 0 0 ⟨#[]⟩) (w7.setCell ⟨q, 1, none⟩ (.int .i64 x))) := hG.out.set 1 _
            have HR2 := hid (HR1.out.set 1 (.int .i64 x))
            have c0' := HG1.out.cmd.cell 0
            have HF : Hid (∀ (k' a' b' u' : Int) (n' : Nat) (len' : Nat → Nat) (z' : Nat → Nat → Int) (x' : ByteArray), cmdB k' a' b' u' n' len' z' x' = true → s = cmdS k' a' b' u' n' len' z' x' →  k' = 2 ∧ a' = x ∧ u' = 0 ∧ x' = ⟨#[]⟩ ∧ L1 = decS b' :: docsL n' len' z' ∧ I64 b' ∧ ∀ i, i < n' → docB (len' i) (z' i) = true) := fun k' a' b' u' n' len' z' x' h e => by
              obtain ⟨h1, _, h2, h3, h4⟩ := HGD.out _ _ _ _ _ _ _ _ h e
              have h5 := h2 (by decide)
              rw [nums_2] at h5 h3
              obtain ⟨h6, h7⟩ := List.cons.inj h5
              have h8 := (hxu _ (h3 _ List.mem_cons_self) h6).symm
              exact ⟨h1, h8, h4.2.2.2.2.2.1 (by simp [fT]), h4.2.2.2.2.2.2.2 (by decide), h7, h3 _ (List.mem_cons_of_mem _ List.mem_cons_self), h4.2.2.1⟩
            clear HN0 cw hxu HR1
            rcases L1 with _ | ⟨y1, L2⟩
            · obtain rfl : 0 = n1 := HL1.out
              have HF2 : Hid (∀ (k' a' b' u' : Int) (n' : Nat) (len' : Nat → Nat) (z' : Nat → Nat → Int) (x' : ByteArray), cmdB k' a' b' u' n' len' z' x' = true → s = cmdS k' a' b' u' n' len' z' x' →  k' = 2 ∧ a' = x ∧ b' = 0 ∧ u' = 0 ∧ x' = ⟨#[]⟩ ∧ [] = docsL n' len' z' ∧ ∀ i, i < n' → docB (len' i) (z' i) = true) := fun k' a' b' u' n' len' z' x' h e => by
                have h5 := (HF.out _ _ _ _ _ _ _ _ h e).2.2.2.2.1
                cases h5
              by_cases hc1 : c = 1
              · subst hc1
                go_wp2_with fail
                go_meet
                exact ⟨_, _, 0, 2, x, 0, 0, ⟨#[]⟩, [], rfl, rfl, by omega, (by show (0 : Nat) ≤ _; omega), HRM1, HG1, rwS_nil HR2.out.1, HF2⟩
              · go_wp2_with fail
                go_meet
                exact ⟨_, _, 0, 2, x, 0, 0, ⟨#[]⟩, [], rfl, rfl, by omega, (by show (0 : Nat) ≤ _; omega), HRM1, HG1, rwS_nil HR2.out.1, HF2⟩
            · obtain ⟨n2, rfl⟩ : ∃ n2, n1 = n2 + 1 := ⟨L2.length, HL1.out.symm⟩
              have HL2 : Hid (L2.length = n2) := Nat.succ.inj HL1.out
              have hc1 : ¬ c = 1 := by omega
              obtain ⟨b', off', hA', _, _, hcell⟩ := HR2.out.2 (Nat.succ_pos _)
              obtain ⟨rfl, rfl⟩ : b = b' ∧ off + 1 = off' := by injection hA' with hA'; injection hA' with h1 h2; exact ⟨h1, h2⟩
              have cw : (w7.setCell ⟨q, 1, none⟩ (.int .i64 x)).cell? ⟨b, off + 1, none⟩ = some (.string y1) := by have := hcell 0 y1 rfl; simpa using this
              have hy1 : y1.size ≤ 4194304 := HRM1.out y1 List.mem_cons_self
              have HN1 := hid (num_gen y1 (w7.setCell ⟨q, 1, none⟩ (.int .i64 x)) hy1)
              have HR3 := hid (HR2.out.tail)
              have HRM2 : Hid (∀ y, y ∈ L2 → y.size ≤ 4194304) := fun y hy => HRM1.out y (List.mem_cons_of_mem _ hy)
              have c2 := HG1.out.cmd.cell 2
              have f2 := HG1.out.cmd.frozen 2
              clear hcell hA'
              go_wp2_with fail
              refine HN1.out.mono ?_
              rintro e w8 ⟨y, bb', hy, hyu, rfl, hw8⟩
              subst hw8
              have HG2 : Hid (GS6 w q (cmC 2 x y 0 none 0 0 ⟨#[]⟩) ((w7.setCell ⟨q, 1, none⟩ (.int .i64 x)).setCell ⟨q, 2, none⟩ (.int .i64 y))) := HG1.out.set 2 _
              have HR4 := hid (HR3.out.set 2 (.int .i64 y))
              have HF2 : Hid (∀ (k' a' b' u' : Int) (n' : Nat) (len' : Nat → Nat) (z' : Nat → Nat → Int) (x' : ByteArray), cmdB k' a' b' u' n' len' z' x' = true → s = cmdS k' a' b' u' n' len' z' x' →  k' = 2 ∧ a' = x ∧ b' = y ∧ u' = 0 ∧ x' = ⟨#[]⟩ ∧ L2 = docsL n' len' z' ∧ ∀ i, i < n' → docB (len' i) (z' i) = true) := fun k' a' b' u' n' len' z' x' h e => by
                obtain ⟨p1, p2, p3, p4, p5, p6, p7⟩ := HF.out _ _ _ _ _ _ _ _ h e
                obtain ⟨p8, p9⟩ := List.cons.inj p5
                exact ⟨p1, p2, (hyu _ p6 p8).symm, p3, p4, p9, p7⟩
              clear HN1 cw hyu HR3 HF HR2
              by_cases hc2 : c = 2
              · subst hc2
                obtain rfl : n2 = 0 := by omega
                have hL0 : L2 = [] := List.length_eq_zero_iff.1 HL2.out
                subst hL0
                go_wp2_with fail
                go_meet
                exact ⟨_, _, 0, 2, x, y, 0, ⟨#[]⟩, [], rfl, rfl, by omega, (by show (0 : Nat) ≤ _; omega), HRM2, HG2, rwS_nil HR4.out.1, HF2⟩
              · have hc3 : ¬ c - 1 = 1 := by omega
                go_wp2_with fail
                go_meet
                exact ⟨_, _, n2, 2, x, y, 0, ⟨#[]⟩, L2, rfl, HL2, by omega, (by show (0 : Nat) ≤ _; omega), HRM2, HG2, HR4, HF2⟩
        · go_wp2_with fail
          go_meet
          exact ⟨A, c, n, 3, 0, 0, 0, ⟨#[]⟩, L, rfl, hLn, hn4, (by show (0 : Nat) ≤ _; omega), HRM, hG, hR, fun k' a' b' u' n' len' z' x' h e => by
            obtain ⟨h1, _, h2, _, h4⟩ := HGD.out _ _ _ _ _ _ _ _ h e
            have h3 := h2 (by decide)
            rw [nums_3] at h3
            exact ⟨h1, h4.2.2.2.1 (by simp [fA]), h4.2.2.2.2.1 (by simp [fB]), h4.2.2.2.2.2.1 (by simp [fT]), h4.2.2.2.2.2.2.2 (by decide), h3, h4.2.2.1⟩⟩
        · rcases L with _ | ⟨y0, L1⟩
          · obtain rfl : 0 = n := hLn.out
            have HX : Hid (NoCmd s) := fun k' a' b' u' n' len' z' x' h e => by
              obtain ⟨h1, _, h2, _, h4⟩ := HGD.out _ _ _ _ _ _ _ _ h e
              have h3 := h2 (by decide)
              rw [nums_4] at h3
              cases h3
            have c0 := hG.out.cmd.cell 0
            have d0 := hG.out.res.cell 0; have d1 := hG.out.res.cell 1; have d2 := hG.out.res.cell 2; have d3 := hG.out.res.cell 3; have d4 := hG.out.res.cell 4; have d5 := hG.out.res.cell 5
            have f0 := hG.out.res.frozen 0; have f1 := hG.out.res.frozen 1; have f2 := hG.out.res.frozen 2; have f3 := hG.out.res.frozen 3; have f4 := hG.out.res.frozen 4; have f5 := hG.out.res.frozen 5
            go_wp2_with fail
            refine bodyPost_ret (results_en rfl _ _ w.heap.size 35 #[.int .i64 0, .int .i64 0, .int .i64 0, .int .i64 0, .slice none 0 0, .string ⟨#[]⟩] (0, 0) _ rfl (set6_blk hG.out.res _ _ _ _ _ _) Tryz.underlying35 rfl size_cmd) rfl ?_
            exact ⟨.inr ⟨HX.out, rfl⟩, set6_below hG.out.bel _ _ _ _ _ _⟩
          · obtain ⟨n1, rfl⟩ : ∃ n1, n = n1 + 1 := ⟨L1.length, hLn.out.symm⟩
            have HL1 : Hid (L1.length = n1) := Nat.succ.inj hLn.out
            obtain ⟨b, off, hA, _, _, hcell⟩ := hR.out.2 (Nat.succ_pos _)
            subst hA
            have cw : w6.cell? ⟨b, off, none⟩ = some (.string y0) := by have := hcell 0 y0 rfl; simpa using this
            have hy0 : y0.size ≤ 4194304 := HRM.out y0 List.mem_cons_self
            have HN0 := hid (num_gen y0 w6 hy0)
            have c0 := hG.out.cmd.cell 0
            have c3 := hG.out.cmd.cell 3
            have f3 := hG.out.cmd.frozen 3
            have HR1 := hid (hR.out.tail)
            have HRM1 : Hid (∀ y, y ∈ L1 → y.size ≤ 4194304) := fun y hy => HRM.out y (List.mem_cons_of_mem _ hy)
            clear hcell
            go_wp2_with fail
            refine HN0.out.mono ?_
            rintro e w7 ⟨x, bb, hx, hxu, rfl, hw7⟩
            subst hw7
            have HG1 : Hid (GS6 w q (cmC 4 0 0 x none 0 0 ⟨#[]⟩) (w7.setCell ⟨q, 3, none⟩ (.int .i64 x))) := hG.out.set 3 _
            have HR2 := hid (HR1.out.set 3 (.int .i64 x))
            have c0' := HG1.out.cmd.cell 0
            have HF : Hid (∀ (k' a' b' u' : Int) (n' : Nat) (len' : Nat → Nat) (z' : Nat → Nat → Int) (x' : ByteArray), cmdB k' a' b' u' n' len' z' x' = true → s = cmdS k' a' b' u' n' len' z' x' →  k' = 4 ∧ a' = 0 ∧ b' = 0 ∧ u' = x ∧ x' = ⟨#[]⟩ ∧ L1 = docsL n' len' z' ∧ ∀ i, i < n' → docB (len' i) (z' i) = true) := fun k' a' b' u' n' len' z' x' h e => by
              obtain ⟨h1, _, h2, h3, h4⟩ := HGD.out _ _ _ _ _ _ _ _ h e
              have h5 := h2 (by decide)
              rw [nums_4] at h5 h3
              obtain ⟨h6, h7⟩ := List.cons.inj h5
              have h8 := (hxu _ (h3 _ List.mem_cons_self) h6).symm
              exact ⟨h1, h4.2.2.2.1 (by simp [fA]), h4.2.2.2.2.1 (by simp [fB]), h8, h4.2.2.2.2.2.2.2 (by decide), h7, h4.2.2.1⟩
            clear HN0 cw hxu HR1
            by_cases hc1 : c = 1
            · subst hc1
              obtain rfl : n1 = 0 := by omega
              have hL0 : L1 = [] := List.length_eq_zero_iff.1 HL1.out
              subst hL0
              go_wp2_with fail
              go_meet
              exact ⟨_, _, 0, 4, 0, 0, x, ⟨#[]⟩, [], rfl, rfl, by omega, (by show (0 : Nat) ≤ _; omega), HRM1, HG1, rwS_nil HR2.out.1, HF⟩
            · go_wp2_with fail
              go_meet
              exact ⟨_, _, n1, 4, 0, 0, x, ⟨#[]⟩, L1, rfl, HL1, by omega, (by show (0 : Nat) ≤ _; omega), HRM1, HG1, HR2, HF⟩
        · rcases L with _ | ⟨y0, L1⟩
          · obtain rfl : 0 = n := hLn.out
            have HX : Hid (NoCmd s) := fun k' a' b' u' n' len' z' x' h e => by
              obtain ⟨h1, _, h2, _, h4⟩ := HGD.out _ _ _ _ _ _ _ _ h e
              have h3 := h2 (by decide)
              rw [nums_5] at h3
              cases h3
            have c0 := hG.out.cmd.cell 0
            have d0 := hG.out.res.cell 0; have d1 := hG.out.res.cell 1; have d2 := hG.out.res.cell 2; have d3 := hG.out.res.cell 3; have d4 := hG.out.res.cell 4; have d5 := hG.out.res.cell 5
            have f0 := hG.out.res.frozen 0; have f1 := hG.out.res.frozen 1; have f2 := hG.out.res.frozen 2; have f3 := hG.out.res.frozen 3; have f4 := hG.out.res.frozen 4; have f5 := hG.out.res.frozen 5
            go_wp2_with fail
            refine bodyPost_ret (results_en rfl _ _ w.heap.size 35 #[.int .i64 0, .int .i64 0, .int .i64 0, .int .i64 0, .slice none 0 0, .string ⟨#[]⟩] (0, 0) _ rfl (set6_blk hG.out.res _ _ _ _ _ _) Tryz.underlying35 rfl size_cmd) rfl ?_
            exact ⟨.inr ⟨HX.out, rfl⟩, set6_below hG.out.bel _ _ _ _ _ _⟩
          · obtain ⟨n1, rfl⟩ : ∃ n1, n = n1 + 1 := ⟨L1.length, hLn.out.symm⟩
            have HL1 : Hid (L1.length = n1) := Nat.succ.inj hLn.out
            obtain ⟨b, off, hA, _, _, hcell⟩ := hR.out.2 (Nat.succ_pos _)
            subst hA
            have cw : w6.cell? ⟨b, off, none⟩ = some (.string y0) := by have := hcell 0 y0 rfl; simpa using this
            have hy0 : y0.size ≤ 4194304 := HRM.out y0 List.mem_cons_self
            have HN0 := hid (num_gen y0 w6 hy0)
            have c0 := hG.out.cmd.cell 0
            have c3 := hG.out.cmd.cell 1
            have f3 := hG.out.cmd.frozen 1
            have HR1 := hid (hR.out.tail)
            have HRM1 : Hid (∀ y, y ∈ L1 → y.size ≤ 4194304) := fun y hy => HRM.out y (List.mem_cons_of_mem _ hy)
            clear hcell
            go_wp2_with fail
            refine HN0.out.mono ?_
            rintro e w7 ⟨x, bb, hx, hxu, rfl, hw7⟩
            subst hw7
            have HG1 : Hid (GS6 w q (cmC 5 x 0 0 none 0 0 ⟨#[]⟩) (w7.setCell ⟨q, 1, none⟩ (.int .i64 x))) := hG.out.set 1 _
            have HR2 := hid (HR1.out.set 1 (.int .i64 x))
            have c0' := HG1.out.cmd.cell 0
            have HF : Hid (∀ (k' a' b' u' : Int) (n' : Nat) (len' : Nat → Nat) (z' : Nat → Nat → Int) (x' : ByteArray), cmdB k' a' b' u' n' len' z' x' = true → s = cmdS k' a' b' u' n' len' z' x' →  k' = 5 ∧ a' = x ∧ b' = 0 ∧ u' = 0 ∧ x' = ⟨#[]⟩ ∧ L1 = docsL n' len' z' ∧ ∀ i, i < n' → docB (len' i) (z' i) = true) := fun k' a' b' u' n' len' z' x' h e => by
              obtain ⟨h1, _, h2, h3, h4⟩ := HGD.out _ _ _ _ _ _ _ _ h e
              have h5 := h2 (by decide)
              rw [nums_5] at h5 h3
              obtain ⟨h6, h7⟩ := List.cons.inj h5
              have h8 := (hxu _ (h3 _ List.mem_cons_self) h6).symm
              exact ⟨h1, h8, h4.2.2.2.2.1 (by simp [fB]), h4.2.2.2.2.2.1 (by simp [fT]), h4.2.2.2.2.2.2.2 (by decide), h7, h4.2.2.1⟩
            clear HN0 cw hxu HR1
            by_cases hc1 : c = 1
            · subst hc1
              obtain rfl : n1 = 0 := by omega
              have hL0 : L1 = [] := List.length_eq_zero_iff.1 HL1.out
              subst hL0
              go_wp2_with fail
              go_meet
              exact ⟨_, _, 0, 5, x, 0, 0, ⟨#[]⟩, [], rfl, rfl, by omega, (by show (0 : Nat) ≤ _; omega), HRM1, HG1, rwS_nil HR2.out.1, HF⟩
            · go_wp2_with fail
              go_meet
              exact ⟨_, _, n1, 5, x, 0, 0, ⟨#[]⟩, L1, rfl, HL1, by omega, (by show (0 : Nat) ≤ _; omega), HRM1, HG1, HR2, HF⟩
      case rest =>
      clear c0 HGD hrl HRM hLn hnc hG hR hk05
      obtain ⟨A, c9, n9, k, a, b, u, x, L, rfl, hLn, hn9, hxs, HLM, hG, hR, HF⟩ := hcut
      have HD0 : Hid (GD6 w q H k a b u x none 0 0 (fun _ => none) (fun _ => 0) (fun _ => 0) (fun _ => 0) (fun _ _ => 0) A L wc) := ⟨hG.out, own_nil _ _ _, rowsQ_nil, hR.out, hqH⟩
      clear hG hR
      obtain ⟨i0, hi0, hz0, hz1, hz2⟩ := info_intsQ
      go_wp2_with fail
      go_loopw [12] (fun i wr => ∃ (n : Nat) (D : Option Addr) (dc : Nat) (Ad : Nat → Option Addr) (bl len cp : Nat → Nat) (z : Nat → Nat → Int), n ≤ n9 ∧ i = .int .i64 n ∧ Hid (GD6 w q H k a b u x D n dc Ad bl len cp z A L wr) ∧ Hid (∀ i, i < n → len i ≤ 6 ∧ ∀ n' y', docB n' y' = true → L[i]? = some (docS n' y') → docB (len i) (z i) = true ∧ docS (len i) (z i) = docS n' y'))
        (fun i _ => n9 - (intOf i).toNat)
      case atStart => exact ⟨0, _, _, _, _, _, _, _, Nat.zero_le _, rfl, HD0, fun i hi => absurd hi (Nat.not_lt_zero i)⟩
      case round =>
        clear HD0
        obtain ⟨n, D, dc, Ad, bl, len, cp, z, hn, rfl, hD, hT⟩ := hrel
        by_cases hlt : n < n9
        · obtain ⟨wb, off, y, rfl, hy, cw⟩ := hD.out.wds.at_ (i := n) (by rw [hLn.out]; exact hlt)
          have hys : y.size ≤ 4194304 := HLM.out y (List.mem_of_getElem? hy)
          have HY := hid hy
          have i1 : (n : Int) < (n9 : Int) := by omega
          have i0' : (0 : Int) ≤ (n : Int) := by omega
          have HRD := hid (sRead_all y wr hys)
          clear hy
          go_wp2_with fail
          refine HRD.out.mono ?_
          rintro e w8 ⟨A4, m4, c4, b4, z4, fl, rfl, hm4, hr4, hz4, hb8⟩
          have hD8 := hid (hD.out.below hb8)
          have hs8 : wr.heap.size ≤ w8.heap.size := hb8.size
          have hHw : H ≤ w8.heap.size := Nat.le_trans hD.out.wds.1 hs8
          have HR4 : Hid (0 < m4 → A4 = some ⟨b4, 0, none⟩ ∧ H ≤ b4 ∧ Row w8 2 b4 m4 z4) := fun h0 => by
            obtain ⟨h1, h2, h3⟩ := hr4 h0
            exact ⟨h1, Nat.le_trans hD.out.wds.1 h2, h3⟩
          have HNE : Hid (0 < m4 → ∀ i, i < n → 0 < len i → bl i ≠ b4) := fun h0 => hD.out.apart (hr4 h0).2.1
          have HZ4 := hid hz4
          have c4' : w8.cell? ⟨q, 4, none⟩ = some (.slice D n dc) := hD8.out.ge.cmd.cell 4
          clear HRD hb8 cw hr4 hz4 hD
          go_wp2_with (at_builtin; refine wpList_append_own _ rfl (.tmp 106) (.tmp 108) 33 rfl H 67 i0 (.slice none 0 0) 1 24 Tryz.underlying33 hi0 hz0 hz1 hz2 rfl (by decide) _ n _ rfl (hD8.out.rows.alloc _) ⟨w8.heap.size, 0, none⟩ 1 1 [.slice A4 m4 c4] rfl rfl (cell_one_newT _ _ _) (by intro u hu; simp at hu; subst hu; rfl) (by unfold maxLen; omega) (by omega) (by simp; omega) ?_)
          intro v' w10 hown10 hg10 _
          obtain ⟨A10, cp10, rfl⟩ := own_formT hown10
          have hq8 := hD8.out.lt1
          have hC10 : GS6 w q (cmC k a b u D n dc x) w10 := (hD8.out.ge.below ((Below.refl _ w8).alloc (Nat.le_refl _) _)).grown hg10 fun x hx => by have := (hD8.out.rows.lt x hx).1; omega
          have c10 : w10.cell? ⟨q, 4, none⟩ = some (.slice D n dc) := hC10.cmd.cell 4
          have f10 := hC10.cmd.frozen 4
          have HD10 := hid (hD8.out.next HR4.out HNE.out _ hown10 hg10)
          have HT10 : Hid (∀ i, i < n + 1 → updQ len n m4 i ≤ 6 ∧ ∀ n' y', docB n' y' = true → L[i]? = some (docS n' y') → docB (updQ len n m4 i) (updQ z n z4 i) = true ∧ docS (updQ len n m4 i) (updQ z n z4 i) = docS n' y') := fun i hi => by
            by_cases e : i = n
            · subst e
              rw [updQ_same, updQ_same]
              refine ⟨hm4, fun n' y' h1 h2 => ?_⟩
              have h3 : y = docS n' y' := Option.some.inj (HY.out.symm.trans h2)
              rw [← h3]
              exact HZ4.out n' y' h1 h3
            · rw [updQ_other e, updQ_other e]
              exact hT.out i (by omega)
          clear hown10 hg10 hC10 c4' hD8 hT
          go_wp2_with fail
          go_roundw
          case rel => exact ⟨n + 1, _, _, _, _, _, _, _, by omega, by go_num, HD10, HT10⟩
          case measure => simp [intOf]; omega
        · obtain rfl : n = n9 := by omega
          have j1 : ¬ (n : Int) < (n : Int) := by omega
          obtain ⟨g0, g1, g2, g3, g4, g5⟩ := blk_cells6 hD.out.ge.cmd
          have hrd := hD.out.docs.rdq hD.out.rows
          have HLN : Hid (∀ i, i < n → len i ≤ 4194304) := fun i hi => by have := (hT.out i hi).1; omega
          have HSM : Hid (∀ (k' a' b' u' : Int) (n' : Nat) (len' : Nat → Nat) (z' : Nat → Nat → Int) (x' : ByteArray), cmdB k' a' b' u' n' len' z' x' = true → s = cmdS k' a' b' u' n' len' z' x' →  cmdB k a b u n len z x = true ∧ cmdS k a b u n len z x = s) := fun k' a' b' u' n' len' z' x' h e => by
            obtain ⟨rfl, rfl, rfl, rfl, rfl, p6, p7⟩ := HF.out _ _ _ _ _ _ _ _ h e
            have hnn : n = n' := by have := hLn.out; rw [p6, docsL_len] at this; exact this.symm
            have hq := same_cmd h hnn fun i hi => (hT.out i hi).2 _ _ (p7 i (by omega)) (by rw [p6]; exact docsL_at (by omega))
            exact ⟨hq.1, hq.2.trans e.symm⟩
          clear HF
          go_wp2_with fail
          clear g0 g1 g2 g3 g4 g5
          refine (sCmdOk_any k a b u D n dc len z x _ hrd (by omega) HLN hxs).mono ?_
          rintro e w7 ⟨rfl, hb7⟩
          have hD7 := hid (hD.out.below hb7)
          clear hrd hb7 hD
          cases hok : cmdB k a b u n len z x
          · have HX : Hid (NoCmd s) := fun k' a' b' u' n' len' z' x' h e => by
              have := (HSM.out _ _ _ _ _ _ _ _ h e).1
              rw [hok] at this
              cases this
            clear hok
            have d0 := hD7.out.ge.res.cell 0; have d1 := hD7.out.ge.res.cell 1; have d2 := hD7.out.ge.res.cell 2; have d3 := hD7.out.ge.res.cell 3; have d4 := hD7.out.ge.res.cell 4; have d5 := hD7.out.ge.res.cell 5
            have f0 := hD7.out.ge.res.frozen 0; have f1 := hD7.out.ge.res.frozen 1; have f2 := hD7.out.ge.res.frozen 2; have f3 := hD7.out.ge.res.frozen 3; have f4 := hD7.out.ge.res.frozen 4; have f5 := hD7.out.ge.res.frozen 5
            go_wp2_with fail
            refine bodyPost_ret (results_en rfl _ _ w.heap.size 35 #[.int .i64 0, .int .i64 0, .int .i64 0, .int .i64 0, .slice none 0 0, .string ⟨#[]⟩] (0, 0) _ rfl (set6_blk hD7.out.ge.res _ _ _ _ _ _) Tryz.underlying35 rfl size_cmd) rfl ?_
            exact ⟨.inr ⟨HX.out, rfl⟩, set6_below hD7.out.ge.bel _ _ _ _ _ _⟩
          · have HOK := hid hok
            clear hok
            obtain ⟨g0, g1, g2, g3, g4, g5⟩ := blk_cells6 hD7.out.ge.cmd
            have hrd := hD7.out.docs.rdq hD7.out.rows
            go_wp2_with fail
            clear g0 g1 g2 g3 g4 g5
            refine (sCmdText_any k a b u D n dc len z x _ hrd (by omega) HLN hxs).mono ?_
            rintro e w9 ⟨rfl, hb9⟩
            have hD9 := hid (hD7.out.below hb9)
            clear hrd hb9 hD7
            by_cases he : cmdS k a b u n len z x = s
            · have HE := hid he
              rw [he]
              clear he
              obtain ⟨g0, g1, g2, g3, g4, g5⟩ := blk_cells6 hD9.out.ge.cmd
              have d0 := hD9.out.ge.res.cell 0; have d1 := hD9.out.ge.res.cell 1; have d2 := hD9.out.ge.res.cell 2; have d3 := hD9.out.ge.res.cell 3; have d4 := hD9.out.ge.res.cell 4; have d5 := hD9.out.ge.res.cell 5
              have f0 := hD9.out.ge.res.frozen 0; have f1 := hD9.out.ge.res.frozen 1; have f2 := hD9.out.ge.res.frozen 2; have f3 := hD9.out.ge.res.frozen 3; have f4 := hD9.out.ge.res.frozen 4; have f5 := hD9.out.ge.res.frozen 5
              go_wp2_with fail
              refine bodyPost_ret (results_en rfl _ _ w.heap.size 35 #[.int .i64 k, .int .i64 a, .int .i64 b, .int .i64 u, .slice D n dc, .string x] (0, 0) _ rfl (set6_blk hD9.out.ge.res _ _ _ _ _ _) Tryz.underlying35 rfl size_cmd) rfl ?_
              refine ⟨.inl ⟨k, a, b, u, n, len, z, x, D, dc, HOK.out, HE.out.symm, rfl, ?_⟩, set6_below hD9.out.ge.bel _ _ _ _ _ _⟩
              have hL9 : LaidQ w9 H w9.heap.size D n len z := laidQ_own hD9.out.rows hD9.out.docs fun i hi => (docB_true ((cmd_in HOK.out).2.2.1.2 i hi)).1
              have h0 := hD9.out.ge.lt0
              have h1 := hD9.out.lt1
              exact (hL9.keep fun y hy _ => set6_far (by omega)).less (by omega) (Nat.le_of_eq set6_size.symm)
            · have hl := ba_listT he
              have HX : Hid (NoCmd s) := fun k' a' b' u' n' len' z' x' h e => he (HSM.out _ _ _ _ _ _ _ _ h e).2
              clear he
              have d0 := hD9.out.ge.res.cell 0; have d1 := hD9.out.ge.res.cell 1; have d2 := hD9.out.ge.res.cell 2; have d3 := hD9.out.ge.res.cell 3; have d4 := hD9.out.ge.res.cell 4; have d5 := hD9.out.ge.res.cell 5
              have f0 := hD9.out.ge.res.frozen 0; have f1 := hD9.out.ge.res.frozen 1; have f2 := hD9.out.ge.res.frozen 2; have f3 := hD9.out.ge.res.frozen 3; have f4 := hD9.out.ge.res.frozen 4; have f5 := hD9.out.ge.res.frozen 5
              go_wp2_with fail
              refine bodyPost_ret (results_en rfl _ _ w.heap.size 35 #[.int .i64 0, .int .i64 0, .int .i64 0, .int .i64 0, .slice none 0 0, .string ⟨#[]⟩] (0, 0) _ rfl (set6_blk hD9.out.ge.res _ _ _ _ _ _) Tryz.underlying35 rfl size_cmd) rfl ?_
              exact ⟨.inr ⟨HX.out, rfl⟩, set6_below hD9.out.ge.bel _ _ _ _ _ _⟩
end Go.Proofs.YtmkipdhappikhaaGreatDoor
