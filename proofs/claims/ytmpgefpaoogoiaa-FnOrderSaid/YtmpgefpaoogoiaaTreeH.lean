/- RangeOf on both sides. -/
import Derived.Test.YtmpgefpaoogoiaaTreeG
import Derived.Test.YtmpgefpaoogoiaaPureB
namespace Go.Proofs.Ytmpgefpaoogoiaa
open Go.RowKit Go.Deep

theorem Twigs.below {w w' : World} {g : Nat → Nd} {n m : Nat} {P : Nat → Nat} (h : Twigs w g n m P) (hb : Below w.heap.size w w') : Twigs w' g n m P :=
  fun j h1 h2 => Blk.below (h j h1 h2) hb (Blk.lt (h j h1 h2))
theorem tw_cells {w : World} {b i : Nat} {d : Nd} {p q : Option Addr} (h : Tw w b d i p q) :
    w.cell? ⟨b, 0, none⟩ = some (.int .i64 d.feat) ∧ w.cell? ⟨b, 1, none⟩ = some (.int .i64 d.cut) ∧ w.cell? ⟨b, 2, none⟩ = some (.int .i64 d.left) ∧ w.cell? ⟨b, 3, none⟩ = some (.int .i64 d.right) ∧
    w.cell? ⟨b, 4, none⟩ = some (.bool d.miss) ∧ w.cell? ⟨b, 5, none⟩ = some (.int .i64 d.value) ∧ w.cell? ⟨b, 6, none⟩ = some (.int .i64 i) ∧ w.cell? ⟨b, 7, none⟩ = some (.pointer p) ∧ w.cell? ⟨b, 8, none⟩ = some (.pointer q) :=
  ⟨h.cell 0, h.cell 1, h.cell 2, h.cell 3, h.cell 4, h.cell 5, h.cell 6, h.cell 7, h.cell 8⟩
theorem go_min (a b : Int) : (if b < a then b else a) = min a b := by split <;> omega
theorem go_max (a b : Int) : (if a < b then b else a) = max a b := by split <;> omega

theorem ret_two {a b c d : Int} (h1 : a = c) (h2 : b = d) : Ending.returned (.tuple #[.int .i64 a, .int .i64 b]) = .returned (.tuple #[.int .i64 c, .int .i64 d]) := by rw [h1, h2]
theorem ret_int {k : IntKind} {a b : Int} (h : a = b) : Ending.returned (.int k a) = .returned (.int k b) := by rw [h]

set_option maxHeartbeats 1000000 in
theorem vr_any (g : Nat → Nd) (n : Nat) (P : Nat → Nat) (hu : Up g n) : ∀ (fuel i : Nat) (w : World), i < n → n - i ≤ fuel → Twigs w g n 0 P →
    Calls Try.prog 104 #[.pointer (some ⟨P i, 0, none⟩)] w fun e w' => e = .returned (.tuple #[.int .i64 (loV g fuel i), .int .i64 (hiV g fuel i)]) ∧ Below w.heap.size w w' := by
  intro fuel
  induction fuel with
  | zero => intro i w h1 h2; omega
  | succ fuel ih =>
    intro i w hi hf htw
    have ht := htw i (Nat.zero_le _) hi
    obtain ⟨c0, c1, c2, c3, c4, c5, c6, c7, c8⟩ := tw_cells ht
    have IH := hid ih
    have HT := hid htw
    clear ih htw
    cases h0 : ((g i).left == 0)
    · have h0' : ¬ (g i).left = 0 := by simpa using h0
      have hk := hu i hi h0'
      have hlo : loV g (fuel + 1) i = min (loV g fuel (g i).left.toNat) (loV g fuel (g i).right.toNat) := by rw [loV, if_neg h0']
      have hhi : hiV g (fuel + 1) i = max (hiV g fuel (g i).left.toNat) (hiV g fuel (g i).right.toNat) := by rw [hiV, if_neg h0']
      have HL := hid hlo
      have HH := hid hhi
      have eL : kidL (g i) P = some ⟨P (g i).left.toNat, 0, none⟩ := if_neg h0'
      have eR : kidR (g i) P = some ⟨P (g i).right.toNat, 0, none⟩ := if_neg h0'
      have b1 : (g i).left.toNat < n := by omega
      have b2 : (g i).right.toNat < n := by omega
      have b3 : n - (g i).left.toNat ≤ fuel := by omega
      have b4 : n - (g i).right.toNat ≤ fuel := by omega
      rw [eL] at c7
      clear hlo hhi h0' hk
      go_enter Try.func104, Try.ntmps104
      go_wp2_with fail
      refine (isLeaf_any (g i) _).mono ?_
      rintro e w1 ⟨rfl, hb1⟩
      rw [h0]
      have tw1 := HT.out.below hb1
      have hW1 := hb1
      clear hb1 c0 c1 c2 c3 c4 c5 c6 c7 c8
      obtain ⟨c0, c1, c2, c3, c4, c5, c6, c7, c8⟩ := tw_cells (tw1 i (Nat.zero_le _) hi)
      rw [eL] at c7
      go_wp2_with fail
      refine (IH.out _ _ b1 b3 tw1).mono ?_
      rintro e w2 ⟨rfl, hb2⟩
      have tw2 := tw1.below hb2
      have hW2 := hW1.trans (hb2.mono hW1.size)
      clear hb2 hW1 c0 c1 c2 c3 c4 c5 c6 c7 c8
      obtain ⟨c0, c1, c2, c3, c4, c5, c6, c7, c8⟩ := tw_cells (tw2 i (Nat.zero_le _) hi)
      rw [eR] at c8
      go_wp2_with fail
      refine (IH.out _ _ b2 b4 tw2).mono ?_
      rintro e w3 ⟨rfl, hb3⟩
      have hW3 := hW2.trans (hb3.mono hW2.size)
      clear hb3 hW2 c0 c1 c2 c3 c4 c5 c6 c7 c8 tw1 tw2
      go_wp2_with fail
      all_goals
        go_ret2
        exact ⟨ret_two (by rw [HL.out]; omega) (by rw [HH.out]; omega), hW3⟩
    · have h0' : (g i).left = 0 := by simpa using h0
      have hlo : loV g (fuel + 1) i = (g i).value := by rw [loV, if_pos h0']
      have hhi : hiV g (fuel + 1) i = (g i).value := by rw [hiV, if_pos h0']
      have HL := hid hlo
      have HH := hid hhi
      clear hlo hhi h0'
      go_enter Try.func104, Try.ntmps104
      go_wp2_with fail
      refine (isLeaf_any (g i) _).mono ?_
      rintro e w1 ⟨rfl, hb1⟩
      rw [h0]
      have tw1 := HT.out.below hb1
      clear c0 c1 c2 c3 c4 c5 c6 c7 c8
      obtain ⟨c0, c1, c2, c3, c4, c5, c6, c7, c8⟩ := tw_cells (tw1 i (Nat.zero_le _) hi)
      go_wp2_with fail
      go_quiet (fail)
      go_wp2_with fail
      go_ret2
      exact ⟨by rw [HL.out, HH.out]; rfl, below_drewN hb1 _⟩

theorem iRange_yes (A : Option Addr) (n cap : Nat) (g : Nat → Nd) (w : World) (h : RdN w w.heap.size A n g) (hn : n ≤ 4194304) (ht : treeB g n 6 = true) :
    Calls Try.prog 52 #[.slice A n cap] w fun e w' => e = .returned (.tuple #[.int .i64 (loTo g n), .int .i64 (hiTo g n)]) ∧ Below w.heap.size w w' := by
  have hT := (treeB_iff g n 6).1 ht
  have hlo := hid (lo_is hT)
  have hhi := hid (hi_is hT)
  have hn1 : 0 < n ∧ n - 0 ≤ 15 := by have := hT.2.1; omega
  have HT := hid ht
  have HU := hid hT.up
  clear hT ht
  go_enter Try.func52, Try.ntmps52
  go_wp2_with fail
  refine (treeOf_any A n cap g 6 _ h hn).mono ?_
  rintro e w1 ⟨q, rfl, hb, hy, _⟩
  obtain ⟨P, rfl, htw⟩ := hy HT.out
  go_wp2_with fail
  refine (vr_any g n P HU.out 15 0 _ hn1.1 hn1.2 htw).mono ?_
  rintro e w2 ⟨rfl, hb2⟩
  go_wp2_with fail
  go_ret2
  exact ⟨by rw [← hlo.out, ← hhi.out]; rfl, hb.trans (hb2.mono hb.size)⟩
theorem iRange_no (A : Option Addr) (n cap : Nat) (g : Nat → Nd) (w : World) (h : RdN w w.heap.size A n g) (hn : n ≤ 4194304) (ht : treeB g n 6 = false) :
    Calls Try.prog 52 #[.slice A n cap] w fun e w' => e = .returned (.tuple #[.int .i64 0, .int .i64 0]) ∧ Below w.heap.size w w' := by
  have HT := hid ht
  clear ht
  go_enter Try.func52, Try.ntmps52
  go_wp2_with fail
  refine (treeOf_any A n cap g 6 _ h hn).mono ?_
  rintro e w1 ⟨q, rfl, hb, _, hno⟩
  obtain rfl := hno HT.out
  go_wp2_with fail
  go_ret2
  exact ⟨rfl, hb⟩

set_option maxHeartbeats 1000000 in
theorem l2Range_any (A : Option Addr) (n cap : Nat) (g : Nat → Nd) (w : World) (h : RdN w w.heap.size A n g) (hn : n ≤ 4194304) :
    Calls Try.prog 119 #[.slice A n cap] w fun e w' => e = .returned (.tuple #[.int .i64 (loTo g n), .int .i64 (hiTo g n)]) ∧ w = w' := by
  go_enter Try.func119, Try.ntmps119
  go_wp2_with fail
  go_loop [4, 5, 6] (fun a b i => ∃ k : Nat, k ≤ n ∧ i = .int .i64 k ∧ a = .int .i64 (loTo g k) ∧ b = .int .i64 (hiTo g k)) (fun _ _ i => n - (intOf i).toNat)
  case atStart => exact ⟨0, Nat.zero_le _, rfl, rfl, rfl⟩
  case round =>
    obtain ⟨k, hk, rfl, rfl, rfl⟩ := hrel
    by_cases hlt : k < n
    · obtain ⟨b, off, rfl, hb, c0, c1, c2, c3, c4, c5⟩ := h.at_ hlt
      have hl : (k : Int) < (n : Int) := by omega
      cases h0 : ((g k).left == 0)
      · have h0' : ¬ (g k).left = 0 := by simpa using h0
        have e1 : loTo g (k + 1) = loTo g k := by rw [loTo, if_neg h0']
        have e2 : hiTo g (k + 1) = hiTo g k := by rw [hiTo, if_neg h0']
        have E1 := hid e1
        have E2 := hid e2
        clear e1 e2 h0'
        go_wp2_with fail
        go_round
        case rel => exact ⟨k + 1, by omega, by go_num, by rw [E1.out], by rw [E2.out]⟩
        case measure => simp [intOf]; omega
      · have h0' : (g k).left = 0 := by simpa using h0
        have e1 : loTo g (k + 1) = min (loTo g k) (g k).value := by rw [loTo, if_pos h0']
        have e2 : hiTo g (k + 1) = max (hiTo g k) (g k).value := by rw [hiTo, if_pos h0']
        have E1 := hid e1
        have E2 := hid e2
        clear e1 e2 h0'
        go_wp2_with fail
        go_round
        case rel => exact ⟨k + 1, by omega, by go_num, by rw [E1.out, ← go_min], by rw [E2.out, ← go_max]⟩
        case measure => simp [intOf]; omega
    · have e : k = n := by omega
      go_wp2_with fail
      go_ret2
      subst e
      exact ⟨rfl, rfl⟩

end Go.Proofs.Ytmpgefpaoogoiaa
