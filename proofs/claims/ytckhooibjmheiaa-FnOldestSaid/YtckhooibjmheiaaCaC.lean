/- What is a cache, on both sides. -/
import Derived.Test.YtckhooibjmheiaaCaB
import Derived.Deep.RegionHeld3
namespace Go.Proofs.Ytckhooibjmheiaa
open Go.RowKit Go.Deep
set_option linter.unusedVariables false
set_option linter.unusedSimpArgs false

/-- A region that draws its order, walked once, its operations quiet in a class of worlds. -/
theorem region_classC {P : Program} {C : World → Prop} {id : Nat} {Q : Exit → Act → World → Prop} {a : Act} {w : World} {l : List Oper} (hm : P.follows .mixedOrders = true) (hB : Region.lexB .any l.toArray = true) (hC : C w.drew)
    (h : wpQuiet P l.toArray C (fun a' => ∀ w', C w' → Q .normal a' w') l a) : (Code.region id l.toArray true).wp P Q a w :=
  wp_region_quiet (C := C) hm hB hC (by simpa using h)

set_option maxRecDepth 100000 in
set_option maxHeartbeats 4000000 in
theorem iCacheOk_any (cap clock : Int) (A : Option Addr) (k c : Nat) (s : Nat → Slt) (w : World) (h : RdC w w.heap.size A k s) (hn : k ≤ 4194304) (hlen : Hid (∀ i, i < k → (s i).n ≤ 4194304)) :
    Calls Try.prog 25 #[caV cap clock A k c] w fun e w' => e = .returned (.bool (cacheB cap clock k s)) ∧ Below w.heap.size w w' := by
  have hb1 := (Below.refl w.heap.size w).alloc (Nat.le_refl _) (.cells #[.int .i64 cap, .int .i64 clock, .slice A k c] 26)
  by_cases q1 : cap < 1
  · have e0 : cacheB cap clock k s = false := by unfold cacheB; rw [decide_eq_false (show ¬ 1 ≤ cap by omega)]; rfl
    rw [e0]
    go_enter Try.func25, Try.ntmps25
    go_wp2_with fail
    go_ret
    exact ⟨rfl, hb1⟩
  by_cases q2 : 8 < cap
  · have e0 : cacheB cap clock k s = false := by unfold cacheB; rw [decide_eq_false (show ¬ cap ≤ 8 by omega), Bool.and_false]; rfl
    rw [e0]
    go_enter Try.func25, Try.ntmps25
    go_wp2_with fail
    go_ret
    exact ⟨rfl, hb1⟩
  by_cases q3 : clock < 0
  · have e0 : cacheB cap clock k s = false := by unfold cacheB; rw [decide_eq_false (show ¬ 0 ≤ clock by omega), Bool.false_and, Bool.and_false]; rfl
    rw [e0]
    go_enter Try.func25, Try.ntmps25
    go_wp2_with fail
    go_ret
    exact ⟨rfl, hb1⟩
  by_cases q4 : 1000000000 < clock
  · have e0 : cacheB cap clock k s = false := by unfold cacheB; rw [decide_eq_false (show ¬ clock ≤ 1000000000 by omega), Bool.and_false, Bool.and_false]; rfl
    rw [e0]
    go_enter Try.func25, Try.ntmps25
    go_wp2_with fail
    go_ret
    exact ⟨rfl, hb1⟩
  by_cases q5 : cap < (k : Int)
  · have e0 : cacheB cap clock k s = false := by unfold cacheB; rw [decide_eq_false (show ¬ (k : Int) ≤ cap by omega), Bool.false_and, Bool.and_false]
    rw [e0]
    go_enter Try.func25, Try.ntmps25
    go_wp2_with fail
    go_ret
    exact ⟨rfl, hb1⟩
  have e0 : Hid (cacheB cap clock k s = allP (fun i => slotB clock (s i)) k) := by
    show _ = _
    unfold cacheB
    rw [decide_eq_true (show 1 ≤ cap by omega), decide_eq_true (show cap ≤ 8 by omega), decide_eq_true (show 0 ≤ clock by omega), decide_eq_true (show clock ≤ 1000000000 by omega), decide_eq_true (show (k : Int) ≤ cap by omega)]
    rfl
  have hE := Blk.new w 26 #[.int .i64 cap, .int .i64 clock, .slice A k c]
  have h1 := h.to hb1 hb1.size
  go_enter Try.func25, Try.ntmps25
  go_wp2_with fail
  generalize hW : w.alloc (.cells #[.int .i64 cap, .int .i64 clock, .slice A k c] 26) = W1 at hb1 hE h1 ⊢
  clear hW
  go_loopw [34] (fun i wr => ∃ j : Nat, j ≤ k ∧ i = .int .i64 j ∧ Hid (allP (fun i => slotB clock (s i)) j = true) ∧ Below W1.heap.size W1 wr) (fun i _ => k - (intOf i).toNat)
  case atStart => exact ⟨0, Nat.zero_le _, rfl, rfl, Below.refl _ _⟩
  case round =>
    obtain ⟨j, hj, rfl, hall, hbl⟩ := hrel
    have hwr := hb1.trans (hbl.mono hb1.size)
    by_cases hlt : j < k
    · obtain ⟨bb, off, Ai, ci, rfl, hbb, c0, c1, c2, hrd⟩ := (h1.below hbl).at_ hlt
      have hl : (j : Int) < (k : Int) := by omega
      have hl0 : (0 : Int) ≤ (j : Int) := by omega
      have hS := Blk.new wr 37 #[.slice Ai (s j).n ci, .int .i64 (s j).score, .int .i64 (s j).used]
      have hbx := (Below.refl wr.heap.size wr).alloc (Nat.le_refl _) (.cells #[.slice Ai (s j).n ci, .int .i64 (s j).score, .int .i64 (s j).used] 37)
      have hr2 := (hrd.more hbl.size).to hbx hbx.size
      have hE2 := ((hE.below hbl hE.lt).alloc (.cells #[.slice Ai (s j).n ci, .int .i64 (s j).score, .int .i64 (s j).used] 37))
      have hbl2 := hbl.trans (hbx.mono hbl.size)
      go_wp2_with fail
      refine (iBoxOk_any Ai (s j).n ci (s j).g _ hr2 (hlen.out j hlt)).mono ?_
      rintro e w3 ⟨rfl, hb3⟩
      have hbl3 := hbl2.trans (hb3.mono hbl2.size)
      have hS3 := hS.below hb3 hS.lt
      have hE3 := hE2.below hb3 hE2.lt
      have hw3 := hb1.trans (hbl3.mono hb1.size)
      have s2 : w3.cell? ⟨wr.heap.size, 2, none⟩ = some (.int .i64 (s j).used) := hS3.cell 2
      have x1 : w3.cell? ⟨w.heap.size, 1, none⟩ = some (.int .i64 clock) := hE3.cell 1
      clear hb3 hbl hwr hrd c0 c1 c2 hS hE2 hS3 hE3 hbx hr2 hbl2
      cases hq : boxB (s j).n (s j).g
      · go_wp2_with fail
        go_ret
        refine ⟨?_, hw3⟩
        rw [e0.out, allP_false (p := fun i => slotB clock (s i)) hlt (by unfold slotB; rw [hq]; rfl)]
        rfl
      · by_cases u0 : (s j).used < 0
        · go_wp2_with fail
          go_ret
          refine ⟨?_, hw3⟩
          rw [e0.out, allP_false (p := fun i => slotB clock (s i)) hlt (by unfold slotB; rw [decide_eq_false (show ¬ 0 ≤ (s j).used by omega), Bool.false_and, Bool.and_false])]
          rfl
        · by_cases u1 : clock < (s j).used
          · go_wp2_with fail
            go_ret
            refine ⟨?_, hw3⟩
            rw [e0.out, allP_false (p := fun i => slotB clock (s i)) hlt (by unfold slotB; rw [decide_eq_false (show ¬ (s j).used ≤ clock by omega), Bool.and_false, Bool.and_false])]
            rfl
          · have hsl : slotB clock (s j) = true := slotB_iff.2 ⟨hq, by omega, by omega⟩
            have HSL := hid hsl
            clear hsl hq
            go_wp2_with fail
            go_roundw
            case rel => exact ⟨j + 1, by omega, by go_num, (by show allP _ (j + 1) = true; simp only [allP, HSL.out, hall.out]; rfl), hbl3⟩
            case measure => simp [intOf]; omega
    · have e : j = k := by omega
      go_wp2_with fail
      go_ret
      subst e
      refine ⟨?_, hwr⟩
      rw [e0.out, hall.out]
      rfl

set_option maxRecDepth 100000 in
set_option maxHeartbeats 4000000 in
theorem sCacheOk_any (cap clock : Int) (A : Option Addr) (k c : Nat) (s : Nat → Slt) (w : World) (h : RdC w w.heap.size A k s) (hn : k ≤ 4194304) (hlen : Hid (∀ i, i < k → (s i).n ≤ 4194304)) :
    Calls Try.prog 26 #[caV cap clock A k c] w fun e w' => e = .returned (.bool (cacheB cap clock k s)) ∧ Below w.heap.size w w' := by
  have hb1 := (Below.refl w.heap.size w).alloc (Nat.le_refl _) (.cells #[.int .i64 cap, .int .i64 clock, .slice A k c] 26)
  have hE := Blk.new w 26 #[.int .i64 cap, .int .i64 clock, .slice A k c]
  have h1 := h.to hb1 hb1.size
  go_enter Try.func26, Try.ntmps26
  go_wp2_with fail
  generalize hW : w.alloc (.cells #[.int .i64 cap, .int .i64 clock, .slice A k c] 26) = W1 at hb1 hE h1 ⊢
  clear hW
  go_loopw [3] (fun i wr => ∃ j : Nat, j ≤ k ∧ i = .int .i64 j ∧ Hid (allP (fun i => slotB clock (s i)) j = true) ∧ Below W1.heap.size W1 wr) (fun i _ => k - (intOf i).toNat)
  case atStart => exact ⟨0, Nat.zero_le _, rfl, rfl, Below.refl _ _⟩
  case round =>
    obtain ⟨j, hj, rfl, hall, hbl⟩ := hrel
    have hwr := hb1.trans (hbl.mono hb1.size)
    have hEr := hE.below hbl hE.lt
    have hElt : w.heap.size < wr.heap.size := hEr.lt
    have x0 : wr.cell? ⟨w.heap.size, 0, none⟩ = some (.int .i64 cap) := hEr.cell 0
    have x1 : wr.cell? ⟨w.heap.size, 1, none⟩ = some (.int .i64 clock) := hEr.cell 1
    have x2 : wr.cell? ⟨w.heap.size, 2, none⟩ = some (.slice A k c) := hEr.cell 2
    by_cases hlt : j < k
    · obtain ⟨bb, off, Ai, ci, rfl, hbb, c0, c1, c2, hrd⟩ := (h1.below hbl).at_ hlt
      have hl : (j : Int) < (k : Int) := by omega
      have hl0 : (0 : Int) ≤ (j : Int) := by omega
      have hlb : bb < wr.heap.size := Nat.lt_of_lt_of_le hbb hbl.size
      have HR : Hid (∀ W, Below wr.heap.size wr W → RdS W W.heap.size Ai (s j).n (s j).g) := fun W hW => (hrd.more hbl.size).to hW hW.size
      have hlk := hlen.out j hlt
      have HC : Hid (∀ W, Below wr.heap.size wr W → W.cell? ⟨w.heap.size, 1, none⟩ = some (.int .i64 clock) ∧ W.cell? ⟨w.heap.size, 2, none⟩ = some (.slice (some ⟨bb, off, none⟩) k c) ∧ W.cell? ⟨bb, off + j * 3, none⟩ = some (.slice Ai (s j).n ci) ∧ W.cell? ⟨bb, off + j * 3 + 2, none⟩ = some (.int .i64 (s j).used)) := fun W hW =>
        ⟨(hW.cell (p := ⟨w.heap.size, 1, none⟩) hElt).trans x1, (hW.cell (p := ⟨w.heap.size, 2, none⟩) hElt).trans x2, (hW.cell (p := ⟨bb, off + j * 3, none⟩) hlb).trans c0, (hW.cell (p := ⟨bb, off + j * 3 + 2, none⟩) hlb).trans c2⟩
      have D0 := hid ((Below.refl wr.heap.size wr).drew)
      have HBL := hid hbl
      have HWR := hid hwr
      clear hrd x0 c1 hbl hwr x1 c0 c2 hEr
      cases hq : boxB (s j).n (s j).g
      · have HQ := hid hq
        clear hq
        go_wp2_with fail
        refine region_classC (C := fun W => Below wr.heap.size wr W) (by kernel_rfl) (by kernel_rfl) D0.out ?_
        repeat
          with_reducible refine wpQuiet_step (fun K hK => ?_)
          first
            | (rw [if_pos (by rfl)]; apply Exists.intro; refine ⟨fun W hW => ?_, hK _ ?_⟩; (first
                | (obtain ⟨u1, u2, u3, u4⟩ := HC.out W hW; go_simp <;> with_reducible rfl)
                | (go_simp; go_at_call 90; with_reducible refine Calls.mono (sBoxOk_any Ai (s j).n ci (s j).g W (HR.out W hW) hlk) ?_; rintro e w5 ⟨rfl, hb5⟩; rw [HQ.out]; exact ⟨rfl, hW.trans (hb5.mono hW.size)⟩)
                | (go_simp; go_at_call 91; with_reducible refine Calls.mono (In_any _ _ _ W) ?_; rintro e w5 ⟨rfl, rfl⟩; rw [HU.out]; exact ⟨rfl, hW⟩)); clear hK K; (try simp only [Act.put, List.setIfInBounds_toArray, List.set_cons_zero, List.set_cons_succ]))
            | (refine Eq.mpr (if_neg ?_) (hK _ ?_); exact (fun h => Bool.false_ne_true h); clear hK K; (try simp only [Act.put, List.setIfInBounds_toArray, List.set_cons_zero, List.set_cons_succ]))
        refine wpQuiet_nil ?_
        intro WZ hZ'
        have hZ : Below wr.heap.size wr WZ := hZ'
        clear hZ'
        have hw3 := HWR.out.trans (hZ.mono HWR.out.size)
        clear hZ
        go_wp2_with fail
        go_ret
        refine ⟨?_, hw3⟩
        unfold cacheB
        rw [allP_false (p := fun i => slotB clock (s i)) hlt (by unfold slotB; rw [HQ.out]; rfl), Bool.and_false, Bool.and_false]
        rfl
      · have HQ := hid hq
        clear hq
        cases hu : (decide (0 ≤ (s j).used) && decide ((s j).used ≤ clock))
        · have hsl : Hid (slotB clock (s j) = false) := by show _ = _; unfold slotB; rw [hu, Bool.and_false]
          have HU := hid hu
          clear hu
          go_wp2_with fail
          refine region_classC (C := fun W => Below wr.heap.size wr W) (by kernel_rfl) (by kernel_rfl) D0.out ?_
          repeat
            with_reducible refine wpQuiet_step (fun K hK => ?_)
            first
              | (rw [if_pos (by rfl)]; apply Exists.intro; refine ⟨fun W hW => ?_, hK _ ?_⟩; (first
                  | (obtain ⟨u1, u2, u3, u4⟩ := HC.out W hW; go_simp <;> with_reducible rfl)
                  | (go_simp; go_at_call 90; with_reducible refine Calls.mono (sBoxOk_any Ai (s j).n ci (s j).g W (HR.out W hW) hlk) ?_; rintro e w5 ⟨rfl, hb5⟩; rw [HQ.out]; exact ⟨rfl, hW.trans (hb5.mono hW.size)⟩)
                  | (go_simp; go_at_call 91; with_reducible refine Calls.mono (In_any _ _ _ W) ?_; rintro e w5 ⟨rfl, rfl⟩; rw [HU.out]; exact ⟨rfl, hW⟩)); clear hK K; (try simp only [Act.put, List.setIfInBounds_toArray, List.set_cons_zero, List.set_cons_succ]))
              | (refine Eq.mpr (if_neg ?_) (hK _ ?_); exact (fun h => Bool.false_ne_true h); clear hK K; (try simp only [Act.put, List.setIfInBounds_toArray, List.set_cons_zero, List.set_cons_succ]))
          refine wpQuiet_nil ?_
          intro WZ hZ'
          have hZ : Below wr.heap.size wr WZ := hZ'
          clear hZ'
          have hw3 := HWR.out.trans (hZ.mono HWR.out.size)
          clear hZ
          go_wp2_with fail
          go_ret
          refine ⟨?_, hw3⟩
          unfold cacheB
          rw [allP_false (p := fun i => slotB clock (s i)) hlt hsl.out, Bool.and_false, Bool.and_false]
          rfl
        · have hsl : Hid (slotB clock (s j) = true) := by show _ = _; unfold slotB; rw [hu, HQ.out]; rfl
          have HU := hid hu
          clear hu
          go_wp2_with fail
          refine region_classC (C := fun W => Below wr.heap.size wr W) (by kernel_rfl) (by kernel_rfl) D0.out ?_
          repeat
            with_reducible refine wpQuiet_step (fun K hK => ?_)
            first
              | (rw [if_pos (by rfl)]; apply Exists.intro; refine ⟨fun W hW => ?_, hK _ ?_⟩; (first
                  | (obtain ⟨u1, u2, u3, u4⟩ := HC.out W hW; go_simp <;> with_reducible rfl)
                  | (go_simp; go_at_call 90; with_reducible refine Calls.mono (sBoxOk_any Ai (s j).n ci (s j).g W (HR.out W hW) hlk) ?_; rintro e w5 ⟨rfl, hb5⟩; rw [HQ.out]; exact ⟨rfl, hW.trans (hb5.mono hW.size)⟩)
                  | (go_simp; go_at_call 91; with_reducible refine Calls.mono (In_any _ _ _ W) ?_; rintro e w5 ⟨rfl, rfl⟩; rw [HU.out]; exact ⟨rfl, hW⟩)); clear hK K; (try simp only [Act.put, List.setIfInBounds_toArray, List.set_cons_zero, List.set_cons_succ]))
              | (refine Eq.mpr (if_neg ?_) (hK _ ?_); exact (fun h => Bool.false_ne_true h); clear hK K; (try simp only [Act.put, List.setIfInBounds_toArray, List.set_cons_zero, List.set_cons_succ]))
          refine wpQuiet_nil ?_
          intro WZ hZ'
          have hZ : Below wr.heap.size wr WZ := hZ'
          clear hZ'
          have hbl3 := HBL.out.trans (hZ.mono HBL.out.size)
          clear hZ
          go_wp2_with fail
          go_roundw
          case rel => exact ⟨j + 1, by omega, by go_num, (by show allP _ (j + 1) = true; simp only [allP, hsl.out, hall.out]; rfl), hbl3⟩
          case measure => simp [intOf]; omega
    · have e : j = k := by omega
      subst e
      have e0 : Hid (cacheB cap clock j s = (((decide (1 ≤ cap) && decide (cap ≤ 8)) && (decide (0 ≤ clock) && decide (clock ≤ 1000000000))) && decide ((j : Int) ≤ cap))) := by
        show _ = _
        unfold cacheB
        rw [hall.out, Bool.and_true]
      go_wp2_with fail
      refine (In_any _ _ _ _).mono ?_
      rintro e w3 ⟨rfl, rfl⟩
      cases hq1 : (decide (1 ≤ cap) && decide (cap ≤ 8))
      · go_wp2_with fail
        go_ret
        refine ⟨?_, hwr⟩
        rw [e0.out, hq1]
        rfl
      · go_wp2_with fail
        refine (In_any _ _ _ _).mono ?_
        rintro e w3 ⟨rfl, rfl⟩
        cases hq2 : (decide (0 ≤ clock) && decide (clock ≤ 1000000000))
        · go_wp2_with fail
          go_ret
          refine ⟨?_, hwr⟩
          rw [e0.out, hq1, hq2]
          rfl
        · go_wp2_with fail
          go_ret
          refine ⟨?_, hwr⟩
          rw [e0.out, hq1, hq2]
          rfl
end Go.Proofs.Ytckhooibjmheiaa
