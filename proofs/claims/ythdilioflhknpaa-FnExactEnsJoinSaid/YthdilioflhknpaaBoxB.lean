/- Contracts of BoxHas and PickOf, on both sides; the walks of the exact laws of BoxOk, BoxHas and PickOf. -/
import Derived.Test.YthdilioflhknpaaBoxA
import Derived.Test.YthdilioflhknpaaPathLaw
namespace Go.Proofs.Ythdilioflhknpaa
open Go.RowKit Go.Deep

set_option maxHeartbeats 1000000 in
theorem lawBoxOk (A : Option Addr) (n cap : Nat) (g : Nat → Sp) (w : World) (h : RdS w w.heap.size A n g) (hn : n ≤ 9223372036854775807) :
    Calls Try.prog 13 #[.slice A n cap] w fun e w' => e = .returned (.bool true) ∧ Below w.heap.size w w' := by
  by_cases hbig : (1048576 : Int) - (n : Int) < 0
  · go_enter Try.func13, Try.ntmps13
    go_wp2_with fail
    refine (szS_big A n cap 1048576 _ hn (by omega) (by omega) hbig).mono ?_
    rintro e w1 ⟨rfl, rfl⟩
    go_wp2_with fail
    go_ret
    exact ⟨rfl, Below.refl _ _⟩
  · have hm : n ≤ 4194304 := by omega
    go_enter Try.func13, Try.ntmps13
    go_wp2_with fail
    refine (szS_ok A n cap 1048576 _ hn (by omega) (by omega) (by omega)).mono ?_
    rintro e w1 ⟨rfl, rfl⟩
    go_wp2_with fail
    refine (toS_any A n cap g _ h hm).mono ?_
    rintro e w1 ⟨b1, rfl, _, hr1, hb1⟩
    go_wp2_with fail
    refine (sBoxOk_any _ n n g _ (rds_of hr1) hm).mono ?_
    rintro e w2 ⟨rfl, hb2⟩
    have hw2 := hb1.trans (hb2.mono hb1.size)
    clear hb1 hb2 hr1
    go_wp2_with fail
    refine (toS_any A n cap g _ (h.to hw2 hw2.size) hm).mono ?_
    rintro e w3 ⟨b3, rfl, _, hr3, hb3⟩
    have hw3 := hw2.trans (hb3.mono hw2.size)
    clear hb3 hw2
    go_wp2_with fail
    refine (iBoxOk_any _ n n g _ (rds_of hr3) hm).mono ?_
    rintro e w4 ⟨rfl, hb4⟩
    have hr4 := hr3.below hb4 hr3.lt
    have hw4 := hw3.trans (hb4.mono hw3.size)
    clear hr3 hb4 hw3
    go_wp2_with fail
    refine (toS_any A n cap g _ (h.to hw4 hw4.size) hm).mono ?_
    rintro e w5 ⟨b5, rfl, _, hr5, hb5⟩
    have hr6 := hr4.below hb5 hr4.lt
    have hw5 := hw4.trans (hb5.mono hw4.size)
    clear hr4 hb5 hw4
    go_wp2_with fail
    refine (eqS_any _ _ n n n g _ (rds_of hr6) (rds_of hr5) hm).mono ?_
    rintro e w6 ⟨rfl, hb6⟩
    go_wp2_with fail
    go_ret
    exact ⟨rfl, hw5.trans (hb6.mono hw5.size)⟩

set_option maxHeartbeats 1000000 in
theorem markS_any (n cap b : Nat) (g : Nat → Sp) (k0 : Int) (w : World) (h : RowS w 46 b n g) (hn : n ≤ 4194304) (h0 : 0 ≤ k0) (h1 : k0 ≤ 100000000) :
    Calls Try.prog 56 #[.slice (some ⟨b, 0, none⟩) n cap, .int .i64 k0] w fun e w' =>
      ∃ k1 : Int, e = .returned (.int .i64 k1) ∧ 0 ≤ k1 ∧ k1 ≤ k0 + 3 * n ∧ w.grownBy w' (some b) := by
  obtain ⟨cs, hB, hsz, _⟩ := h
  go_enter Try.func56, Try.ntmps56
  go_wp2_with fail
  go_loopw [1, 5] (fun k i wr => ∃ (m : Nat) (cs : Array Value) (y : Int), m ≤ n ∧ i = .int .i64 m ∧ k = .int .i64 y ∧ k0 + 3 * (m : Int) ≤ y ∧ y ≤ k0 + 3 * (m : Int) ∧ Blk wr b 46 cs ∧ n * 3 ≤ cs.size ∧ Hid (w.grownBy wr (some b)))
    (fun _ i _ => n - (intOf i).toNat)
  case atStart => exact ⟨0, cs, k0, Nat.zero_le _, rfl, rfl, by omega, by omega, hB, hsz, World.grownBy.refl _ _⟩
  case round =>
    obtain ⟨m, cs, y, hm, rfl, rfl, hy1, hy2, hB, hsz, hg⟩ := hrel
    by_cases hlt : m < n
    · have hl : (m : Int) < (n : Int) := by omega
      have s0 : wr.cell? ⟨b, m * 3, none⟩ = some (cs[m * 3]'(by omega)) := by rw [hB.cell, Array.getElem?_eq_getElem]
      have s1 : wr.cell? ⟨b, m * 3 + 1, none⟩ = some (cs[m * 3 + 1]'(by omega)) := by rw [hB.cell, Array.getElem?_eq_getElem]
      have s2 : wr.cell? ⟨b, m * 3 + 2, none⟩ = some (cs[m * 3 + 2]'(by omega)) := by rw [hB.cell, Array.getElem?_eq_getElem]
      have f0 := hB.frozen (m * 3); have f1 := hB.frozen (m * 3 + 1); have f2 := hB.frozen (m * 3 + 2)
      go_wp2_with fail
      go_roundw
      case rel =>
        refine ⟨m + 1, _, _, by omega, by go_num, rfl, by omega, by omega, ((hB.set_ (m * 3) _).set_ (m * 3 + 1) _).set_ (m * 3 + 2) _, by simp only [Array.size_setIfInBounds]; exact hsz, ?_⟩
        exact grown_trans (grown_trans (grown_trans hg.out (grown_set _)) (grown_set _)) (grown_set _)
      case measure => simp [intOf]; omega
    · have e : m = n := by omega
      go_wp2_with fail
      go_ret
      exact ⟨y, rfl, by omega, by omega, hg.out⟩

set_option maxHeartbeats 1000000 in
theorem iPick_no (A : Option Addr) (n cap : Nat) (g : Nat → Sp) (w : World) (h : RdS w w.heap.size A n g) (hn : n ≤ 4194304) (hno : boxB n g = false) :
    Calls Try.prog 45 #[.slice A n cap] w fun e w' => e = .returned (.slice none 0 0) ∧ Below w.heap.size w w' := by
  have HN := hid hno
  clear hno
  go_enter Try.func45, Try.ntmps45
  go_wp2_with fail
  refine (iBoxOk_any A n cap g _ h hn).mono ?_
  rintro e w1 ⟨rfl, hb1⟩
  rw [HN.out]
  go_wp2_with fail
  go_ret
  exact ⟨rfl, hb1⟩

set_option maxHeartbeats 2000000 in
theorem iPick_yes (A : Option Addr) (n cap : Nat) (g : Nat → Sp) (w : World) (h : RdS w w.heap.size A n g) (hyes : boxB n g = true) :
    Calls Try.prog 45 #[.slice A n cap] w fun e w' =>
      ∃ b, e = .returned (.slice (some ⟨b, 0, none⟩) n n) ∧ w.heap.size ≤ b ∧ Row w' 2 b n (fun i => pickS (g i)) ∧ Below w.heap.size w w' := by
  have hn6 := (boxB_iff.1 hyes).2.1
  have hn : n ≤ 4194304 := by omega
  have HY := hid hyes
  clear hyes
  have hmk := run_make_row' (P := Try.prog) 25 2 (.int .i64 0) 8 Try.underlying25 info_int rfl .i64 .i64 n (by omega) (by omega)
  go_enter Try.func45, Try.ntmps45
  go_wp2_with fail
  refine (iBoxOk_any A n cap g _ h hn).mono ?_
  rintro e w1 ⟨rfl, hb1⟩
  rw [HY.out]
  have hs1 := hb1.size
  go_wp2_with fail
  go_loopw [14] (fun i wr => ∃ (k : Nat) (cs : Array Value), k ≤ n ∧ i = .int .i64 k ∧ Blk wr w1.heap.size 2 cs ∧ n ≤ cs.size ∧ Hid (∀ j, j < k → cs[j]? = some (.int .i64 (pickS (g j)))) ∧ Below w.heap.size w wr)
    (fun i _ => n - (intOf i).toNat)
  case atStart => exact ⟨0, _, Nat.zero_le _, rfl, Blk.new _ _ _, by simp [madeCells], fun j hj => by omega, hb1.alloc hs1 _⟩
  case round =>
    obtain ⟨k, cs, hk, rfl, hB, hsz, hcs, hbl⟩ := hrel
    by_cases hlt : k < n
    · obtain ⟨b, off, rfl, hb, c0, c1, c2⟩ := (h.below hbl).at_ hlt
      have hl : (k : Int) < (n : Int) := by omega
      have hne : w1.heap.size ≠ wr.heap.size := Nat.ne_of_lt hB.lt
      have hS := Blk.new wr 46 #[.int .i64 (g k).lo, .int .i64 (g k).hi, .bool (g k).gone]
      have hB1 := hB.alloc (.cells #[.int .i64 (g k).lo, .int .i64 (g k).hi, .bool (g k).gone] 46)
      have hbl1 := hbl.alloc hbl.size (.cells #[.int .i64 (g k).lo, .int .i64 (g k).hi, .bool (g k).gone] 46)
      have hc2 : (wr.alloc (.cells #[.int .i64 (g k).lo, .int .i64 (g k).hi, .bool (g k).gone] 46)).cell? ⟨w1.heap.size, k, none⟩ = some (cs[k]'(by omega)) := by rw [hB1.cell, Array.getElem?_eq_getElem]
      have hf2 := hB1.frozen k
      have hS2 := hS.far (p := ⟨w1.heap.size, k, none⟩) (Ne.symm hne) (.int .i64 9999999)
      have hB2 := hB1.set_ k (.int .i64 9999999)
      have hbl2 := hbl1.setCell (p := ⟨w1.heap.size, k, none⟩) hs1 (.int .i64 9999999)
      go_wp2_with fail
      refine (numbers_any (g k) _).mono ?_
      rintro e w2 ⟨rfl, hb2⟩
      have hS3 := hS2.below hb2 hS2.lt
      have hB3 := hB2.below hb2 hB2.lt
      have hbl3 := hbl2.trans (hb2.mono hbl2.size)
      clear hS hB1 hbl1 hc2 hf2 hS2 hB2 hbl2 hb2 c0 c1 c2
      have d0 : w2.cell? ⟨wr.heap.size, 0, none⟩ = some (.int .i64 (g k).lo) := hS3.cell 0
      have hf3 := hB3.frozen k
      have hc3 : w2.cell? ⟨w1.heap.size, k, none⟩ = some (.int .i64 9999999) := by rw [hB3.cell, Array.getElem?_setIfInBounds_self_of_lt (by omega)]
      by_cases hq : (g k).lo ≤ (g k).hi
      · have HP : Hid (pickS (g k) = (g k).lo) := by show _ = _; unfold pickS; rw [if_pos hq]
        have HQ := hid (decide_eq_true hq)
        rw [HQ.out]
        clear hq
        go_wp2_with fail
        go_roundw
        case rel =>
          refine ⟨k + 1, _, by omega, by go_num, hB3.set_ k _, by simpa using hsz, fun j hj => ?_, hbl3.setCell (p := ⟨w1.heap.size, k, none⟩) hs1 _⟩
          by_cases e : j = k
          · subst e; rw [Array.getElem?_setIfInBounds_self_of_lt (by simp; omega), HP.out]
          · rw [Array.getElem?_setIfInBounds_ne (by omega), Array.getElem?_setIfInBounds_ne (by omega)]; exact hcs.out j (by omega)
        case measure => simp [intOf]; omega
      · have HP : Hid (pickS (g k) = 9999999) := by show _ = _; unfold pickS; rw [if_neg hq]
        have HQ := hid (decide_eq_false hq)
        rw [HQ.out]
        clear hq
        go_wp2_with fail
        go_roundw
        case rel =>
          refine ⟨k + 1, _, by omega, by go_num, hB3, by simpa using hsz, fun j hj => ?_, hbl3⟩
          by_cases e : j = k
          · subst e; rw [Array.getElem?_setIfInBounds_self_of_lt (by omega), HP.out]
          · rw [Array.getElem?_setIfInBounds_ne (by omega)]; exact hcs.out j (by omega)
        case measure => simp [intOf]; omega
    · have e : k = n := by omega
      go_wp2_with fail
      go_ret
      exact ⟨_, rfl, hs1, ⟨cs, hB, hsz, fun j hj => hcs.out j (by omega)⟩, hbl⟩

set_option maxHeartbeats 2000000 in
theorem sPick_yes (A : Option Addr) (n cap : Nat) (g : Nat → Sp) (w : World) (h : RdS w w.heap.size A n g) (hyes : boxB n g = true) :
    Calls Try.prog 48 #[.slice A n cap] w fun e w' =>
      ∃ b c, e = .returned (.slice (some ⟨b, 0, none⟩) n c) ∧ w.heap.size ≤ b ∧ Row w' 2 b n (fun i => pickS (g i)) ∧ Below w.heap.size w w' := by
  obtain ⟨i0, hi0, hz0, hz1, hz2⟩ := info_parts info_int
  have hn6 := (boxB_iff.1 hyes).2.1
  have hn1 := (boxB_iff.1 hyes).1
  have hn : n ≤ 4194304 := by omega
  have HY := hid hyes
  clear hyes
  go_enter Try.func48, Try.ntmps48
  go_wp2_with fail
  go_loopw [3, 4] (fun o i wr => ∃ (k : Nat) (A' : Option Addr) (c : Nat), k ≤ n ∧ i = .int .i64 k ∧ o = .slice A' k c ∧ wr.ownsRow w.heap.size 2 1 (.slice A' k c) k (numsOf k (fun i => pickS (g i))) ∧ Below w.heap.size w wr)
    (fun _ i _ => n - (intOf i).toNat)
  case atStart => exact ⟨0, _, _, Nat.zero_le _, rfl, rfl, World.ownsRow_made w #[] 0 (Nat.le_refl _) (by unfold maxLen; omega) rfl, (Below.refl _ _).alloc (Nat.le_refl _) _⟩
  case round =>
    obtain ⟨k, A', c, hk, rfl, rfl, hown, hbl⟩ := hrel
    by_cases hlt : k < n
    · have hl : (k : Int) < (n : Int) := by omega
      go_wp2_with fail
      refine (sBoxOk_any A n cap g _ (h.to hbl hbl.size) hn).mono ?_
      rintro e w2 ⟨rfl, hb2⟩
      rw [HY.out]
      have hown2 := own_below hown hb2
      have hbl2 := hbl.trans (hb2.mono hbl.size)
      clear hown hbl hb2
      obtain ⟨b, off, rfl, hb, c0, c1, c2⟩ := (h.below hbl2).at_ hlt
      go_wp2_with fail
      refine (some_any (g k) _).mono ?_
      rintro e w3 ⟨rfl, hb3⟩
      have hown3 := own_below hown2 hb3
      have hbl3 := hbl2.trans (hb3.mono hbl2.size)
      have hs3 := hbl3.size
      clear hown2 hbl2 hb3 c0 c1 c2
      by_cases hq : (g k).lo ≤ (g k).hi
      · have HP : Hid (pickS (g k) = (g k).lo) := by show _ = _; unfold pickS; rw [if_pos hq]
        have HQ := hid (decide_eq_true hq)
        rw [HQ.out]
        clear hq
        go_wp2_with (at_builtin; refine wpList_append_own _ rfl (.tmp 28) (.tmp 30) 25 rfl w.heap.size 2 i0 (.int .i64 0) 1 8 Try.underlying25 hi0 hz0 hz1 hz2 rfl (by decide) _ k _ rfl (hown3.alloc _) ⟨w3.heap.size, 0, none⟩ 1 1 [.int .i64 (g k).lo] rfl rfl (cell_one_new _ _ _) (by intro u hu; simp at hu; subst hu; rfl) (by unfold maxLen; omega) (by omega) (by simp; omega) ?_)
        intro v' w4 hown4 hg4 _
        have hbl4 : Below w.heap.size w w4 := (hbl3.alloc hs3 _).grown hg4 (by simp; omega) (fun x hx => (hown3.lt x hx).1)
        obtain ⟨A4, c4, rfl⟩ := own_form hown4
        clear hg4 hown3 hbl3
        go_wp2_with fail
        go_roundw
        case rel => exact ⟨k + 1, A4, c4, by omega, by go_num, rfl, by rw [numsOf_succ k, HP.out]; exact hown4, hbl4⟩
        case measure => simp [intOf]; omega
      · have HP : Hid (pickS (g k) = 9999999) := by show _ = _; unfold pickS; rw [if_neg hq]
        have HQ := hid (decide_eq_false hq)
        rw [HQ.out]
        clear hq
        go_wp2_with (at_builtin; refine wpList_append_own _ rfl (.tmp 28) (.tmp 30) 25 rfl w.heap.size 2 i0 (.int .i64 0) 1 8 Try.underlying25 hi0 hz0 hz1 hz2 rfl (by decide) _ k _ rfl (hown3.alloc _) ⟨w3.heap.size, 0, none⟩ 1 1 [.int .i64 9999999] rfl rfl (cell_one_new _ _ _) (by intro u hu; simp at hu; subst hu; rfl) (by unfold maxLen; omega) (by omega) (by simp; omega) ?_)
        intro v' w4 hown4 hg4 _
        have hbl4 : Below w.heap.size w w4 := (hbl3.alloc hs3 _).grown hg4 (by simp; omega) (fun x hx => (hown3.lt x hx).1)
        obtain ⟨A4, c4, rfl⟩ := own_form hown4
        clear hg4 hown3 hbl3
        go_wp2_with fail
        go_roundw
        case rel => exact ⟨k + 1, A4, c4, by omega, by go_num, rfl, by rw [numsOf_succ k, HP.out]; exact hown4, hbl4⟩
        case measure => simp [intOf]; omega
    · have e : k = n := by omega
      subst e
      go_wp2_with fail
      go_ret
      obtain ⟨gb, cp, hv, hgb, hrow⟩ := own_row hown (by omega)
      injection hv with e1 _ e3
      subst e1
      exact ⟨gb, c, rfl, hgb, hrow, hbl⟩

set_option maxHeartbeats 1000000 in
theorem sPick_no (A : Option Addr) (n cap : Nat) (g : Nat → Sp) (w : World) (h : RdS w w.heap.size A n g) (hn : n ≤ 4194304) (hno : boxB n g = false) :
    Calls Try.prog 48 #[.slice A n cap] w fun e w' => ∃ A' c, e = .returned (.slice A' 0 c) ∧ Below w.heap.size w w' := by
  have HN := hid hno
  clear hno
  go_enter Try.func48, Try.ntmps48
  go_wp2_with fail
  go_loopw [3, 4] (fun o i wr => i = .int .i64 0 ∧ o = .slice (some ⟨w.heap.size, 0, none⟩) 0 0 ∧ Below w.heap.size w wr) (fun _ _ _ => 0)
  case atStart => exact ⟨rfl, rfl, (Below.refl _ _).alloc (Nat.le_refl _) _⟩
  case round =>
    obtain ⟨rfl, rfl, hbl⟩ := hrel
    by_cases hlt : 0 < n
    · have hl : (0 : Int) < (n : Int) := by omega
      go_wp2_with fail
      refine (sBoxOk_any A n cap g _ (h.to hbl hbl.size) hn).mono ?_
      rintro e w2 ⟨rfl, hb2⟩
      rw [HN.out]
      go_wp2_with fail
      go_ret
      exact ⟨_, _, rfl, hbl.trans (hb2.mono hbl.size)⟩
    · obtain rfl : n = 0 := by omega
      go_wp2_with fail
      go_ret
      exact ⟨_, _, rfl, hbl⟩
end Go.Proofs.Ythdilioflhknpaa
