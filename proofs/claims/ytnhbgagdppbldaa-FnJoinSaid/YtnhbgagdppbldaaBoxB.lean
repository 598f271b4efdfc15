/- Contracts of BoxHas and PickOf, on both sides; the walks of the exact laws of BoxOk, BoxHas and PickOf. -/
import Derived.Test.YtnhbgagdppbldaaBoxA
import Derived.Test.YtnhbgagdppbldaaPathLaw
namespace Go.Proofs.Ytnhbgagdppbldaa
open Go.RowKit Go.Deep

set_option maxHeartbeats 1000000 in
theorem markS_any (n cap b : Nat) (g : Nat → Sp) (k0 : Int) (w : World) (h : RowS w 44 b n g) (hn : n ≤ 4194304) (h0 : 0 ≤ k0) (h1 : k0 ≤ 100000000) :
    Calls Try.prog 64 #[.slice (some ⟨b, 0, none⟩) n cap, .int .i64 k0] w fun e w' =>
      ∃ k1 : Int, e = .returned (.int .i64 k1) ∧ 0 ≤ k1 ∧ k1 ≤ k0 + 3 * n ∧ w.grownBy w' (some b) := by
  obtain ⟨cs, hB, hsz, _⟩ := h
  go_enter Try.func64, Try.ntmps64
  go_wp2_with fail
  go_loopw [1, 5] (fun k i wr => ∃ (m : Nat) (cs : Array Value) (y : Int), m ≤ n ∧ i = .int .i64 m ∧ k = .int .i64 y ∧ k0 + 3 * (m : Int) ≤ y ∧ y ≤ k0 + 3 * (m : Int) ∧ Blk wr b 44 cs ∧ n * 3 ≤ cs.size ∧ Hid (w.grownBy wr (some b)))
    (fun _ i _ => n - (intOf i).toNat)
  case atStart => exact ⟨0, cs, k0, Nat.zero_le _, rfl, rfl, by omega, by omega, hB, hsz, World.grownBy.refl _ _⟩
  case round =>
    obtain ⟨m, cs, y, hm, rfl, rfl, hy1, hy2, hB, hsz, hg⟩ := hrel
    by_cases hlt : m < n
    · have hl : (m : Int) < (n : Int) := by omega
      have s0 : wr.cell? ⟨b, m * 3, none⟩ = some (cs[m * 3]'(by omega)) := by rw [hB.cell, Array.getElem?_eq_getElem]
      have s1 : wr.cell? ⟨b, m * 3 + 1, none⟩ = some (cs[m * 3 + 1]'(by omega)) := by rw [hB.cell, Array.getElem?_eq_getElem]
      have s2 : wr.cell? ⟨b, m * 3 + 2, none⟩ = some (cs[m * 3 + 2]'(by omega)) := by rw [hB.cell, Array.getElem?_eq_getElem]
      have f0 := hB.frozen (m * 3); have f1 := hB.frozen (m * 3 + 1); have f2 := hB.frozen (m * 3 + 2)
      go_wp2_with fail
      go_roundw
      case rel =>
        refine ⟨m + 1, _, _, by omega, by go_num, rfl, by omega, by omega, ((hB.set_ (m * 3) _).set_ (m * 3 + 1) _).set_ (m * 3 + 2) _, by simp only [Array.size_setIfInBounds]; exact hsz, ?_⟩
        exact grown_trans (grown_trans (grown_trans hg.out (grown_set _)) (grown_set _)) (grown_set _)
      case measure => simp [intOf]; omega
    · have e : m = n := by omega
      go_wp2_with fail
      go_ret
      exact ⟨y, rfl, by omega, by omega, hg.out⟩

set_option maxHeartbeats 1000000 in
theorem iPick_no (A : Option Addr) (n cap : Nat) (g : Nat → Sp) (w : World) (h : RdS w w.heap.size A n g) (hn : n ≤ 4194304) (hno : boxB n g = false) :
    Calls Try.prog 33 #[.slice A n cap] w fun e w' => e = .returned (.slice none 0 0) ∧ Below w.heap.size w w' := by
  have HN := hid hno
  clear hno
  go_enter Try.func33, Try.ntmps33
  go_wp2_with fail
  refine (iBoxOk_any A n cap g _ h hn).mono ?_
  rintro e w1 ⟨rfl, hb1⟩
  rw [HN.out]
  go_wp2_with fail
  go_ret
  exact ⟨rfl, hb1⟩

set_option maxHeartbeats 2000000 in
theorem iPick_yes (A : Option Addr) (n cap : Nat) (g : Nat → Sp) (w : World) (h : RdS w w.heap.size A n g) (hyes : boxB n g = true) :
    Calls Try.prog 33 #[.slice A n cap] w fun e w' =>
      ∃ b, e = .returned (.slice (some ⟨b, 0, none⟩) n n) ∧ w.heap.size ≤ b ∧ Row w' 2 b n (fun i => pickS (g i)) ∧ Below w.heap.size w w' := by
  have hn6 := (boxB_iff.1 hyes).2.1
  have hn : n ≤ 4194304 := by omega
  have HY := hid hyes
  clear hyes
  have hmk := run_make_row' (P := Try.prog) 28 2 (.int .i64 0) 8 Try.underlying28 info_int rfl .i64 .i64 n (by omega) (by omega)
  go_enter Try.func33, Try.ntmps33
  go_wp2_with fail
  refine (iBoxOk_any A n cap g _ h hn).mono ?_
  rintro e w1 ⟨rfl, hb1⟩
  rw [HY.out]
  have hs1 := hb1.size
  go_wp2_with fail
  go_loopw [14] (fun i wr => ∃ (k : Nat) (cs : Array Value), k ≤ n ∧ i = .int .i64 k ∧ Blk wr w1.heap.size 2 cs ∧ n ≤ cs.size ∧ Hid (∀ j, j < k → cs[j]? = some (.int .i64 (pickS (g j)))) ∧ Below w.heap.size w wr)
    (fun i _ => n - (intOf i).toNat)
  case atStart => exact ⟨0, _, Nat.zero_le _, rfl, Blk.new _ _ _, by simp [madeCells], fun j hj => by omega, hb1.alloc hs1 _⟩
  case round =>
    obtain ⟨k, cs, hk, rfl, hB, hsz, hcs, hbl⟩ := hrel
    by_cases hlt : k < n
    · obtain ⟨b, off, rfl, hb, c0, c1, c2⟩ := (h.below hbl).at_ hlt
      have hl : (k : Int) < (n : Int) := by omega
      have hne : w1.heap.size ≠ wr.heap.size := Nat.ne_of_lt hB.lt
      have hS := Blk.new wr 44 #[.int .i64 (g k).lo, .int .i64 (g k).hi, .bool (g k).gone]
      have hB1 := hB.alloc (.cells #[.int .i64 (g k).lo, .int .i64 (g k).hi, .bool (g k).gone] 44)
      have hbl1 := hbl.alloc hbl.size (.cells #[.int .i64 (g k).lo, .int .i64 (g k).hi, .bool (g k).gone] 44)
      have hc2 : (wr.alloc (.cells #[.int .i64 (g k).lo, .int .i64 (g k).hi, .bool (g k).gone] 44)).cell? ⟨w1.heap.size, k, none⟩ = some (cs[k]'(by omega)) := by rw [hB1.cell, Array.getElem?_eq_getElem]
      have hf2 := hB1.frozen k
      have hS2 := hS.far (p := ⟨w1.heap.size, k, none⟩) (Ne.symm hne) (.int .i64 9999999)
      have hB2 := hB1.set_ k (.int .i64 9999999)
      have hbl2 := hbl1.setCell (p := ⟨w1.heap.size, k, none⟩) hs1 (.int .i64 9999999)
      go_wp2_with fail
      refine (numbers_any (g k) _).mono ?_
      rintro e w2 ⟨rfl, hb2⟩
      have hS3 := hS2.below hb2 hS2.lt
      have hB3 := hB2.below hb2 hB2.lt
      have hbl3 := hbl2.trans (hb2.mono hbl2.size)
      clear hS hB1 hbl1 hc2 hf2 hS2 hB2 hbl2 hb2 c0 c1 c2
      have d0 : w2.cell? ⟨wr.heap.size, 0, none⟩ = some (.int .i64 (g k).lo) := hS3.cell 0
      have hf3 := hB3.frozen k
      have hc3 : w2.cell? ⟨w1.heap.size, k, none⟩ = some (.int .i64 9999999) := by rw [hB3.cell, Array.getElem?_setIfInBounds_self_of_lt (by omega)]
      by_cases hq : (g k).lo ≤ (g k).hi
      · have HP : Hid (pickS (g k) = (g k).lo) := by show _ = _; unfold pickS; rw [if_pos hq]
        have HQ := hid (decide_eq_true hq)
        rw [HQ.out]
        clear hq
        go_wp2_with fail
        go_roundw
        case rel =>
          refine ⟨k + 1, _, by omega, by go_num, hB3.set_ k _, by simpa using hsz, fun j hj => ?_, hbl3.setCell (p := ⟨w1.heap.size, k, none⟩) hs1 _⟩
          by_cases e : j = k
          · subst e; rw [Array.getElem?_setIfInBounds_self_of_lt (by simp; omega), HP.out]
          · rw [Array.getElem?_setIfInBounds_ne (by omega), Array.getElem?_setIfInBounds_ne (by omega)]; exact hcs.out j (by omega)
        case measure => simp [intOf]; omega
      · have HP : Hid (pickS (g k) = 9999999) := by show _ = _; unfold pickS; rw [if_neg hq]
        have HQ := hid (decide_eq_false hq)
        rw [HQ.out]
        clear hq
        go_wp2_with fail
        go_roundw
        case rel =>
          refine ⟨k + 1, _, by omega, by go_num, hB3, by simpa using hsz, fun j hj => ?_, hbl3⟩
          by_cases e : j = k
          · subst e; rw [Array.getElem?_setIfInBounds_self_of_lt (by omega), HP.out]
          · rw [Array.getElem?_setIfInBounds_ne (by omega)]; exact hcs.out j (by omega)
        case measure => simp [intOf]; omega
    · have e : k = n := by omega
      go_wp2_with fail
      go_ret
      exact ⟨_, rfl, hs1, ⟨cs, hB, hsz, fun j hj => hcs.out j (by omega)⟩, hbl⟩

end Go.Proofs.Ytnhbgagdppbldaa
