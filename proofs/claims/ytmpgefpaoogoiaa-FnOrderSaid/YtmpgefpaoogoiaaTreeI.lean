/- DepthOf on both sides, and the walk of its exact law. -/
import Derived.Test.YtmpgefpaoogoiaaTreeH
import Derived.Deep.RegionHeld3
import Derived.Deep.RegionWith
namespace Go.Proofs.Ytmpgefpaoogoiaa
open Go.RowKit Go.Deep

theorem dep_bd (g : Nat → Nd) : ∀ f i, 0 ≤ dep g f i ∧ dep g f i ≤ f := by
  intro f
  induction f with
  | zero => intro i; simp [dep]
  | succ f ih =>
    intro i
    unfold dep
    have h1 := ih (g i).left.toNat
    have h2 := ih (g i).right.toNat
    split <;> omega

set_option maxHeartbeats 1000000 in
theorem dp_any (g : Nat → Nd) (n : Nat) (P : Nat → Nat) (hu : Up g n) : ∀ (fuel i : Nat) (w : World), i < n → n - i ≤ fuel → fuel ≤ 15 → Twigs w g n 0 P →
    Calls Try.prog 105 #[.pointer (some ⟨P i, 0, none⟩)] w fun e w' => e = .returned (.int .i64 (dep g fuel i)) ∧ Below w.heap.size w w' := by
  intro fuel
  induction fuel with
  | zero => intro i w h1 h2; omega
  | succ fuel ih =>
    intro i w hi hf hf15 htw
    obtain ⟨c0, c1, c2, c3, c4, c5, c6, c7, c8⟩ := tw_cells (htw i (Nat.zero_le _) hi)
    have IH := hid ih
    have HT := hid htw
    clear ih htw
    cases h0 : ((g i).left == 0)
    · have h0' : ¬ (g i).left = 0 := by simpa using h0
      have hk := hu i hi h0'
      have hdp : dep g (fuel + 1) i = 1 + max (dep g fuel (g i).left.toNat) (dep g fuel (g i).right.toNat) := by rw [dep, if_neg h0']
      have HD := hid hdp
      have eL : kidL (g i) P = some ⟨P (g i).left.toNat, 0, none⟩ := if_neg h0'
      have eR : kidR (g i) P = some ⟨P (g i).right.toNat, 0, none⟩ := if_neg h0'
      have b1 : (g i).left.toNat < n := by omega
      have b2 : (g i).right.toNat < n := by omega
      have b3 : n - (g i).left.toNat ≤ fuel := by omega
      have b4 : n - (g i).right.toNat ≤ fuel := by omega
      have b5 : fuel ≤ 15 := by omega
      have d1 := dep_bd g fuel (g i).left.toNat
      have d2 := dep_bd g fuel (g i).right.toNat
      clear hdp h0' hk
      go_enter Try.func105, Try.ntmps105
      go_wp2_with fail
      refine (isLeaf_any (g i) _).mono ?_
      rintro e w1 ⟨rfl, hb1⟩
      rw [h0]
      have tw1 := HT.out.below hb1
      clear c0 c1 c2 c3 c4 c5 c6 c7 c8
      obtain ⟨c0, c1, c2, c3, c4, c5, c6, c7, c8⟩ := tw_cells (tw1 i (Nat.zero_le _) hi)
      have hPi : P i < w1.heap.size := Blk.lt (tw1 i (Nat.zero_le _) hi)
      rw [eL] at c7
      rw [eR] at c8
      have EL := hid eL
      have ER := hid eR
      clear c0 c1 c2 c3 c4 c5 c6 eL eR
      go_wp2_with fail
      go_region_held3 (fun w' => w'.cell? ⟨P i, 7, none⟩ = some (.pointer (some ⟨P (g i).left.toNat, 0, none⟩)) ∧ w'.cell? ⟨P i, 8, none⟩ = some (.pointer (some ⟨P (g i).right.toNat, 0, none⟩)))
        (first | (simp [go_sem]; done) | exact ⟨e7, e8⟩ | (simp [go_sem, *]; done))
        (first
          | (go_at_call_of 105 (Value.pointer (some (⟨P (g i).left.toNat, 0, none⟩ : Addr))); refine (IH.out _ _ b1 b3 b5 (by first | exact tw1 | exact twR)).mono ?_; rintro e wl ⟨rfl, hbl⟩; have twL := Twigs.below (by first | exact tw1 | exact twR) hbl; obtain ⟨_, _, _, _, _, _, _, e7, e8⟩ := tw_cells (twL i (Nat.zero_le _) hi); rw [EL.out] at e7; rw [ER.out] at e8)
          | (go_at_call_of 105 (Value.pointer (some (⟨P (g i).right.toNat, 0, none⟩ : Addr))); refine (IH.out _ _ b2 b4 b5 (by first | exact tw1 | exact twL)).mono ?_; rintro e wr ⟨rfl, hbr⟩; have twR := Twigs.below (by first | exact tw1 | exact twL) hbr; obtain ⟨_, _, _, _, _, _, _, e7, e8⟩ := tw_cells (twR i (Nat.zero_le _) hi); rw [EL.out] at e7; rw [ER.out] at e8))
      all_goals
        first
          | have hW := (hb1.drew.trans (hbl.mono hb1.size)).trans (hbr.mono (Nat.le_trans hb1.size hbl.size))
          | have hW := (hb1.drew.trans (hbr.mono hb1.size)).trans (hbl.mono (Nat.le_trans hb1.size hbr.size))
        clear hb1 hbl hbr tw1 twL twR c7 c8
        go_wp2_with fail
        all_goals
          go_ret
          exact ⟨ret_int (by rw [HD.out, IntWalk.i64_in _ (by omega)]; first | done | omega), hW⟩
    · have h0' : (g i).left = 0 := by simpa using h0
      have hdp : dep g (fuel + 1) i = 0 := by rw [dep, if_pos h0']
      have HD := hid hdp
      clear hdp h0'
      go_enter Try.func105, Try.ntmps105
      go_wp2_with fail
      refine (isLeaf_any (g i) _).mono ?_
      rintro e w1 ⟨rfl, hb1⟩
      rw [h0]
      go_wp2_with fail
      go_ret
      exact ⟨ret_int HD.out.symm, hb1⟩

theorem iDepth_yes (A : Option Addr) (n cap : Nat) (g : Nat → Nd) (w : World) (h : RdN w w.heap.size A n g) (hn : n ≤ 4194304) (ht : treeB g n 6 = true) :
    Calls Try.prog 55 #[.slice A n cap] w fun e w' => e = .returned (.int .i64 (dep g 15 0)) ∧ Below w.heap.size w w' := by
  have hT := (treeB_iff g n 6).1 ht
  have hn1 : 0 < n ∧ n - 0 ≤ 15 := by have := hT.2.1; omega
  have HT := hid ht
  have HU := hid hT.up
  clear hT ht
  go_enter Try.func55, Try.ntmps55
  go_wp2_with fail
  refine (treeOf_any A n cap g 6 _ h hn).mono ?_
  rintro e w1 ⟨q, rfl, hb, hy, _⟩
  obtain ⟨P, rfl, htw⟩ := hy HT.out
  go_wp2_with fail
  refine (dp_any g n P HU.out 15 0 _ hn1.1 hn1.2 (by omega) htw).mono ?_
  rintro e w2 ⟨rfl, hb2⟩
  go_wp2_with fail
  go_ret
  exact ⟨rfl, hb.trans (hb2.mono hb.size)⟩
theorem iDepth_no (A : Option Addr) (n cap : Nat) (g : Nat → Nd) (w : World) (h : RdN w w.heap.size A n g) (hn : n ≤ 4194304) (ht : treeB g n 6 = false) :
    Calls Try.prog 55 #[.slice A n cap] w fun e w' => e = .returned (.int .i64 (-1)) ∧ Below w.heap.size w w' := by
  have HT := hid ht
  clear ht
  go_enter Try.func55, Try.ntmps55
  go_wp2_with fail
  refine (treeOf_any A n cap g 6 _ h hn).mono ?_
  rintro e w1 ⟨q, rfl, hb, _, hno⟩
  obtain rfl := hno HT.out
  go_wp2_with fail
  go_ret
  exact ⟨rfl, hb⟩

set_option maxHeartbeats 1000000 in
theorem l2Depth_any (A : Option Addr) (n cap : Nat) (g : Nat → Nd) (hu : Up g n) (_hn : n ≤ 15) : ∀ (fuel i : Nat) (w : World), i < n → n - i ≤ fuel → fuel ≤ 15 → RdN w w.heap.size A n g →
    Calls Try.prog 125 #[.slice A n cap, .int .i64 i] w fun e w' => e = .returned (.int .i64 (dep g fuel i)) ∧ ∃ m, w' = w.drewN m := by
  intro fuel
  induction fuel with
  | zero => intro i w h1 h2; omega
  | succ fuel ih =>
    intro i w hi hf hf15 h
    obtain ⟨b, off, rfl, hb, c0, c1, c2, c3, c4, c5⟩ := h.at_ hi
    have IH := hid ih
    clear ih
    have hl : (i : Int) < (n : Int) := by omega
    have hl0 : (0 : Int) ≤ (i : Int) := by omega
    cases h0 : ((g i).left == 0)
    · have h0' : ¬ (g i).left = 0 := by simpa using h0
      have hk := hu i hi h0'
      have hdp : dep g (fuel + 1) i = 1 + max (dep g fuel (g i).left.toNat) (dep g fuel (g i).right.toNat) := by rw [dep, if_neg h0']
      have HD := hid hdp
      have b1 : (g i).left.toNat < n := by omega
      have b2 : (g i).right.toNat < n := by omega
      have b3 : n - (g i).left.toNat ≤ fuel := by omega
      have b4 : n - (g i).right.toNat ≤ fuel := by omega
      have b5 : fuel ≤ 15 := by omega
      have d1 := dep_bd g fuel (g i).left.toNat
      have d2 := dep_bd g fuel (g i).right.toNat
      have hL : (g i).left = (((g i).left.toNat : Nat) : Int) := by omega
      have hR : (g i).right = (((g i).right.toNat : Nat) : Int) := by omega
      generalize (g i).left.toNat = l at *
      generalize (g i).right.toNat = r at *
      rw [hL] at c2
      rw [hR] at c3
      have i1 : ((l : Int) == 0) = false := by rw [← hL]; exact h0
      clear hdp h0' hk hL hR h0
      go_enter Try.func125, Try.ntmps125
      go_wp2_with fail
      go_quiet ((first | (go_at_call_of 125 (Value.int IntKind.i64 (l : Int)); exact Calls.quiet_of (IH.out l _ b1 b3 b5 h)) | (go_at_call_of 125 (Value.int IntKind.i64 (r : Int)); exact Calls.quiet_of (IH.out r _ b2 b4 b5 h))))
      go_wp2_with fail
      all_goals
        go_ret
        exact ⟨ret_int (by rw [HD.out]; omega), _, rfl⟩
    · have h0' : (g i).left = 0 := by simpa using h0
      have hdp : dep g (fuel + 1) i = 0 := by rw [dep, if_pos h0']
      have HD := hid hdp
      clear hdp h0'
      go_enter Try.func125, Try.ntmps125
      go_wp2_with fail
      go_ret
      exact ⟨ret_int HD.out.symm, 0, rfl⟩

end Go.Proofs.Ytmpgefpaoogoiaa
