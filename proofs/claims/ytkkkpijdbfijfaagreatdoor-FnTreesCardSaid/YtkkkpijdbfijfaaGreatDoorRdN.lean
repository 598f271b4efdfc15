/- A split read, of the other side: the walk. -/
import Derived.Test.YtkkkpijdbfijfaaGreatDoorRdM
namespace Go.Proofs.YtkkkpijdbfijfaaGreatDoor
open Go.RowKit Go.Deep

theorem means_rest {s u : ByteArray} (hsp : 0 < s.size) (hne : (s[0].toNat : Int) ≠ 108) (hcut : s.extract 1 s.size = u) : ∀ d0, NdIn d0 → GoodN d0 → s = ndS d0 → d0.left ≠ 0 ∧ u = leftP d0 0 := by
  intro d0 hin hg e
  unfold ndS at e
  split at e
  · exfalso
    apply hne
    have h2 := byte_at s hsp
    have h3 : s.data.toList = 108 :: (decS d0.value).data.toList := by rw [e, data_app]; rfl
    rw [h3] at h2
    have : (108 : UInt8) = s[0] := Option.some.inj h2
    rw [← this]; rfl
  · rename_i h0
    refine ⟨h0, ?_⟩
    have h4 : leftP d0 0 = joinTo (ndP d0) (one1 58) 5 := by unfold leftP; simp only [Nat.zero_add, Nat.sub_zero]
    rw [← hcut, h4]
    apply ba_ext
    rw [Lib.extract_data, ← size_len, e, data_app]
    have h5 : (⟨#[115]⟩ : ByteArray).data.toList = [115] := rfl
    rw [h5]
    simp only [List.singleton_append, List.drop_succ_cons, List.drop_zero]
    exact List.take_of_length_le (by rw [List.length_cons]; omega)
def NowS (s : ByteArray) (z : Nat → Int) (t : ByteArray) (k : Nat) : Prop := ∀ d0, NdIn d0 → GoodN d0 → s = ndS d0 → d0.left ≠ 0 ∧ (∀ j, j < k → z j = fldN d0 j) ∧ t = leftP d0 k

set_option maxRecDepth 100000 in
set_option maxHeartbeats 4000000 in
theorem sNode_rest (s : ByteArray) (w : World) (hs : s.size ≤ 4194304) (hsp : 0 < s.size) (hne : (s[0].toNat : Int) ≠ 108) :
    Calls Tryz.prog 31 #[.string s] w fun e w' => ∃ d, e = .returned (ndV d) ∧ Means s d ∧ Below w.heap.size w w' := by
  obtain ⟨i0, hi0, hz0, hz1, hz2⟩ := info_parts info_int
  obtain ⟨u, hcut, hu⟩ : ∃ u, s.extract 1 s.size = u ∧ u.size ≤ 4194304 := ⟨_, rfl, by rw [ByteArray.size_extract]; omega⟩
  have HQ := hid (means_rest hsp hne hcut)
  have hem : s.toList.isEmpty = false := list_full (by intro e; rw [e] at hsp; exact absurd hsp (by decide))
  obtain ⟨b0, hb0, hb8⟩ : ∃ b0 : Int, (s[0].toNat : Int) = b0 ∧ ¬ b0 = 108 := ⟨_, rfl, hne⟩
  have hb9 : (b0 == 108) = false := by simpa using hb8
  have j1 : (1 : Int) ≤ (s.size : Int) := by omega
  have j0 : (0 : Int) < (s.size : Int) := by omega
  clear hne
  have hown0 : Hid (((w.alloc (.cells #[.int .i64 0, .int .i64 0, .int .i64 0, .int .i64 0, .bool false, .int .i64 0] 42)).alloc (.cells #[] 2)).ownsRow (w.heap.size + 1) 2 1 (.slice (some ⟨w.heap.size + 1, 0, none⟩) 0 0) 0 (numsOf 0 (fun _ => 0))) := by
    show World.ownsRow _ _ _ _ _ _ _
    have h := World.ownsRow_made (base := w.heap.size + 1) (e := 2) (size := 1) (w.alloc (.cells #[.int .i64 0, .int .i64 0, .int .i64 0, .int .i64 0, .bool false, .int .i64 0] 42)) #[] 0 (by rw [World.size_alloc]; exact Nat.le_refl _) (by unfold maxLen; omega) rfl
    rw [World.size_alloc] at h
    exact h
  go_enter Tryz.func31, Tryz.ntmps31
  go_wp2_with fail
  go_loopw [5, 6, 7] (fun o r i wr => ∃ (k : Nat) (z : Nat → Int) (R : Option Addr) (c : Nat) (t : ByteArray), k ≤ 4 ∧ o = .slice R k c ∧ r = .string t ∧ i = .int .i64 k ∧ t.size ≤ 4194304 ∧ Hid (wr.ownsRow (w.heap.size + 1) 2 1 (.slice R k c) k (numsOf k z)) ∧ Hid (Below w.heap.size w wr) ∧ Hid (NowS s z t k) ∧ Blk wr w.heap.size 42 #[.int .i64 0, .int .i64 0, .int .i64 0, .int .i64 0, .bool false, .int .i64 0])
    (fun _ _ i _ => 4 - (intOf i).toNat)
  case atStart => exact ⟨0, fun _ => 0, _, _, _, by omega, rfl, rfl, rfl, hu, hown0, ((Below.refl w.heap.size w).alloc (Nat.le_refl _) _).alloc (by simp) _, fun d0 h1 h2 h3 => ⟨(HQ.out d0 h1 h2 h3).1, fun j hj => by omega, (HQ.out d0 h1 h2 h3).2⟩, (Blk.new w _ _).alloc _⟩
  case round =>
    obtain ⟨k, z, R, c, t, hk, rfl, rfl, rfl, hts, hown, hbl, hnow, hB⟩ := hrel
    by_cases hlt : k < 4
    · have i1 : (k : Int) < 4 := by omega
      obtain ⟨hd, r, m, hhd, hrt, hcs, hct⟩ := cut_gen 58 58 rfl t hts
      have HCUT := hid hct
      have HCS := hid hcs
      have hsz2 : w.heap.size + 1 ≤ wr.heap.size := hB.lt
      clear hct hcs
      go_wp2_with fail
      refine (HCUT.out _).mono ?_
      rintro e' w2 ⟨rfl, j, rfl⟩
      have hbl2 := below_drewN hbl.out j
      have hown2 : (wr.drewN j).ownsRow (w.heap.size + 1) 2 1 (.slice R k c) k (numsOf k z) := own_below hown.out (below_drewN (Below.refl _ _) j)
      have hB2 : Blk (wr.drewN j) w.heap.size 42 #[.int .i64 0, .int .i64 0, .int .i64 0, .int .i64 0, .bool false, .int .i64 0] := hB
      go_wp2_with fail
      refine (num_gen hd _ (by omega)).mono ?_
      rintro e' w4 ⟨x, b, hx, hxy, rfl, rfl⟩
      have HN : Hid (NowS s (extT z k x) r (k + 1)) := fun d0 h1 h2 h3 => by
        obtain ⟨p1, p2, p3⟩ := hnow.out d0 h1 h2 h3
        rw [leftP_next d0 hlt] at p3
        obtain ⟨q1, q2⟩ := HCS.out _ _ (decS_noC _ (.inr (by decide))) p3
        refine ⟨p1, fun i hi => ?_, q2⟩
        unfold extT
        by_cases e : i = k
        · subst e; rw [if_pos rfl]; exact hxy _ (fld_i64 h1 hlt) q1
        · rw [if_neg e]; exact p2 i (by omega)
      clear hxy
      go_wp2_with (at_builtin; refine wpList_append_own _ rfl (.tmp 45) (.tmp 47) 83 rfl (w.heap.size + 1) 2 i0 (.int .i64 0) 1 8 Tryz.underlying83 hi0 hz0 hz1 hz2 rfl (by decide) _ k _ rfl (hown2.alloc _) ⟨wr.heap.size, 0, none⟩ 1 1 [.int .i64 x] rfl rfl (cell_one_new (wr.drewN j) _ _) (by intro u hu; simp at hu; subst hu; rfl) (by unfold maxLen; omega) (by omega) (by simp; omega) ?_)
      intro v' w6 hown6 hg6 _
      have hbl6 : Below w.heap.size w w6 := (hbl2.alloc hbl2.size _).grown hg6 (by simp; omega) (fun x hx => by have := (hown2.lt x hx).1; omega)
      have hB6 : Blk w6 w.heap.size 42 #[.int .i64 0, .int .i64 0, .int .i64 0, .int .i64 0, .bool false, .int .i64 0] := (hB2.alloc _).grown hg6 (fun h => by have := (hown2.lt _ h.symm).1; omega)
      obtain ⟨A6, c6, rfl⟩ := own_form hown6
      have HO6 : Hid (w6.ownsRow (w.heap.size + 1) 2 1 (.slice A6 (k + 1) c6) (k + 1) (numsOf (k + 1) (extT z k x))) := by
        show World.ownsRow _ _ _ _ _ _ _
        rw [numsOf_extT]
        exact hown6
      have hr4 : r.size ≤ 4194304 := by omega
      clear hg6 hown2 hown6 hbl2 hB hB2
      go_wp2_with fail
      go_roundw
      case rel => exact ⟨k + 1, _, A6, c6, r, by omega, rfl, rfl, by go_num, hr4, HO6, hbl6, HN.out, hB6⟩
      case measure => simp [intOf]; omega
    · obtain rfl : k = 4 := by omega
      obtain ⟨gb, cc, hR, hgb, hrow⟩ := own_row hown.out (by omega)
      injection hR with hR1 _ hR2
      subst hR1 hR2
      have r0 := hrow.cell (i := 0) (by omega); have r1 := hrow.cell (i := 1) (by omega); have r2 := hrow.cell (i := 2) (by omega); have r3 := hrow.cell (i := 3) (by omega)
      obtain ⟨q, hq, HQ2⟩ : ∃ q : Bool, (t.toList == [108]) = q ∧ Hid (q = true ↔ t = ⟨#[108]⟩) := by
        refine ⟨_, rfl, ?_⟩
        show _ ↔ _
        constructor
        · intro h
          by_cases e : t = ⟨#[108]⟩
          · exact e
          · have := ba_listT e
            rw [ByteArray.toList_eq (⟨#[108]⟩ : ByteArray)] at this
            exact absurd (h.symm.trans this) (by decide)
        · intro h; rw [h]; simp [ByteArray.toList_eq]
      have HM : Hid (Means s ⟨z 0, z 1, z 2, z 3, q, 0⟩) := fun d0 h1 h2 h3 => by
        obtain ⟨p1, p2, p3⟩ := hnow.out d0 h1 h2 h3
        rw [leftP_four] at p3
        have hm : q = d0.miss := by
          cases hm : d0.miss
          · cases hq2 : q
            · rfl
            · have := HQ2.out.1 hq2
              rw [p3, side_l, hm] at this
              cases this
          · exact HQ2.out.2 (by rw [p3, side_l, hm])
        have hv := h2.2 p1
        have a0 := p2 0 (by omega); have a1 := p2 1 (by omega); have a2 := p2 2 (by omega); have a3 := p2 3 (by omega)
        obtain ⟨f, c, l, r, m, v⟩ := d0
        simp only [fldN] at a0 a1 a2 a3 hv hm
        rw [a0, a1, a2, a3, hm, hv]
      clear hnow hown
      go_wp2_with fail
      go_still_tail 15, (by kernel_rfl)
      change wpList _ _ _ _ _ wr.drew
      have hBd : Blk wr.drew w.heap.size 42 #[.int .i64 0, .int .i64 0, .int .i64 0, .int .i64 0, .bool false, .int .i64 0] := hB
      have hbd := Below.drew hbl.out
      clear r0 r1 r2 r3
      generalize wr.drew = wd at hBd hbd ⊢
      have c0 := hBd.cell 0; have c1 := hBd.cell 1; have c2 := hBd.cell 2; have c3 := hBd.cell 3; have c4 := hBd.cell 4; have c5 := hBd.cell 5
      have f0 := hBd.frozen 0; have f1 := hBd.frozen 1; have f2 := hBd.frozen 2; have f3 := hBd.frozen 3; have f4 := hBd.frozen 4; have f5 := hBd.frozen 5
      go_wp2_with fail
      (try simp only [Exit.inBlock, Exit.then])
      refine bodyPost_ret (results_cell_row rfl _ _ w.heap.size 42 #[.int .i64 (z 0), .int .i64 (z 1), .int .i64 (z 2), .int .i64 (z 3), .bool q, .int .i64 0] (0, 0) _ rfl ((((((hBd.set_ 0 (.int .i64 (z 0))).set_ 1 (.int .i64 (z 1))).set_ 2 (.int .i64 (z 2))).set_ 3 (.int .i64 (z 3))).set_ 4 (.bool q)).set_ 5 (.int .i64 0)) Tryz.underlying42 rfl size_nodeT) rfl ?_
      exact ⟨⟨z 0, z 1, z 2, z 3, q, 0⟩, rfl, HM.out, (((((hbd.setCell (Nat.le_refl _) _).setCell (Nat.le_refl _) _).setCell (Nat.le_refl _) _).setCell (Nat.le_refl _) _).setCell (Nat.le_refl _) _).setCell (Nat.le_refl _) _⟩
theorem sNode_any (s : ByteArray) (w : World) (hs : s.size ≤ 4194304) :
    Calls Tryz.prog 31 #[.string s] w fun e w' => ∃ d, e = .returned (ndV d) ∧ Means s d ∧ Below w.heap.size w w' := by
  by_cases h0 : s.size = 0
  · obtain rfl : s = ⟨#[]⟩ := by
      apply ba_ext
      have : s.data.toList.length = 0 := by rw [size_len]; exact h0
      exact List.length_eq_zero_iff.1 this
    exact sNode_empty w
  · have hsp : 0 < s.size := by omega
    by_cases h1 : (s[0].toNat : Int) = 108
    · refine sNode_leaf (s.extract 1 s.size) s w hs ?_
      apply ba_ext
      rw [data_app, Lib.extract_data, ← size_len]
      have h2 := byte_at s hsp
      have h3 : s[0] = 108 := UInt8.toNat_inj.1 (by have : (108 : UInt8).toNat = 108 := rfl; omega)
      rw [h3] at h2
      cases hl : s.data.toList with
      | nil => rw [hl] at h2; cases h2
      | cons x l =>
        rw [hl] at h2
        obtain rfl : x = 108 := Option.some.inj h2
        simp only [List.drop_succ_cons, List.drop_zero]
        rw [List.take_of_length_le (by rw [List.length_cons]; omega)]
        rfl
    · exact sNode_rest s w hs hsp h1
end Go.Proofs.YtkkkpijdbfijfaaGreatDoor
