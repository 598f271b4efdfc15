/- Marks in rows of nodes. -/
import Derived.Test.YtmkipdhappikhaaDoorK2
import Derived.Test.YtmkipdhappikhaaDoorK5
import Derived.Test.YtmkipdhappikhaaDoorK4
namespace Go.Proofs.YtmkipdhappikhaaDoor
open Go.RowKit Go.Deep
set_option linter.unusedVariables false
set_option linter.unusedSimpArgs false

/-! ### marks -/
def markN (k0 : Int) : Nat → Nd := fun i => ⟨k0 + 6 * i, k0 + 6 * i + 1, k0 + 6 * i + 1 + 1, k0 + 6 * i + 1 + 1 + 1, (k0 + 6 * i + 1 + 1 + 1 + 1) % 3 == 0, k0 + 6 * i + 1 + 1 + 1 + 1 + 1⟩

set_option maxHeartbeats 1000000 in
theorem markN_all (A : Option Addr) (n cap b : Nat) (g : Nat → Nd) (k0 : Int) (w : World) (h : 0 < n → A = some ⟨b, 0, none⟩ ∧ RowN w 48 b n g) (hn : n ≤ 4194304) (h0 : 0 ≤ k0) (h1 : k0 ≤ 100000000) :
    Calls Tryd.prog 57 #[.slice A n cap, .int .i64 k0] w fun e w' =>
      e = .returned (.int .i64 (k0 + 6 * n)) ∧ w.grownBy w' (some b) ∧ (0 < n → RowN w' 48 b n (markN k0)) := by
  have H := hid h
  clear h
  go_enter Tryd.func57, Tryd.ntmps57
  go_wp2_with fail
  go_loopw [1, 5] (fun k i wr => ∃ m : Nat, m ≤ n ∧ i = .int .i64 m ∧ k = .int .i64 (k0 + 6 * m) ∧ Hid (w.grownBy wr (some b)) ∧ Hid (0 < n → A = some ⟨b, 0, none⟩ ∧ RowN wr 48 b n (fun j => if j < m then markN k0 j else g j))) (fun _ i _ => n - (intOf i).toNat)
  case atStart => exact ⟨0, Nat.zero_le _, rfl, by go_num, World.grownBy.refl _ _, fun hp => ⟨(H.out hp).1, by
    obtain ⟨cs, hB, hsz, hc⟩ := (H.out hp).2
    exact ⟨cs, hB, hsz, fun i hi j hj => by show _ = (ndC (if i < 0 then markN k0 i else g i))[j]?; rw [if_neg (by omega)]; exact hc i hi j hj⟩⟩⟩
  case round =>
    obtain ⟨m, hm, rfl, rfl, hg, hr⟩ := hrel
    by_cases hlt : m < n
    · obtain ⟨rfl, cs, hB, hsz, hc⟩ := hr.out (by omega)
      have HC := hid hc
      clear hc
      have s0 : wr.cell? ⟨b, m * 6, none⟩ = some (cs[m * 6]'(by omega)) := by rw [hB.cell, Array.getElem?_eq_getElem]
      have s1 : wr.cell? ⟨b, m * 6 + 1, none⟩ = some (cs[m * 6 + 1]'(by omega)) := by rw [hB.cell, Array.getElem?_eq_getElem]
      have s2 : wr.cell? ⟨b, m * 6 + 2, none⟩ = some (cs[m * 6 + 2]'(by omega)) := by rw [hB.cell, Array.getElem?_eq_getElem]
      have s3 : wr.cell? ⟨b, m * 6 + 3, none⟩ = some (cs[m * 6 + 3]'(by omega)) := by rw [hB.cell, Array.getElem?_eq_getElem]
      have s4 : wr.cell? ⟨b, m * 6 + 4, none⟩ = some (cs[m * 6 + 4]'(by omega)) := by rw [hB.cell, Array.getElem?_eq_getElem]
      have s5 : wr.cell? ⟨b, m * 6 + 5, none⟩ = some (cs[m * 6 + 5]'(by omega)) := by rw [hB.cell, Array.getElem?_eq_getElem]
      have f0 := hB.frozen (m * 6); have f1 := hB.frozen (m * 6 + 1); have f2 := hB.frozen (m * 6 + 2); have f3 := hB.frozen (m * 6 + 3); have f4 := hB.frozen (m * 6 + 4); have f5 := hB.frozen (m * 6 + 5)
      have hi1 : (m : Int) < (n : Int) := by omega
      go_wp2_with fail
      go_roundw
      case rel =>
        refine ⟨m + 1, by omega, by go_num, by go_num, grown_trans (grown_trans (grown_trans (grown_trans (grown_trans (grown_trans hg.out (grown_set _)) (grown_set _)) (grown_set _)) (grown_set _)) (grown_set _)) (grown_set _), fun _ => ⟨by first | trivial | rfl, _, blk_put6 hB m (markN k0 m), by rw [put6_size]; exact hsz, fun i hi j hj => ?_⟩⟩
        show _ = (ndC (if i < m + 1 then markN k0 i else g i))[j]?
        by_cases e : i = m
        · subst e; rw [if_pos (by omega)]; exact put6_in (markN k0 i) (by omega) j hj
        · rw [put6_out (markN k0 m) (i * 6 + j) (by omega)]
          have := HC.out i hi j hj
          rw [this]
          show (ndC (if i < m then markN k0 i else g i))[j]? = _
          by_cases e' : i < m
          · rw [if_pos e', if_pos (by omega)]
          · rw [if_neg e', if_neg (by omega)]
      case measure => simp [intOf]; omega
    · have e : m = n := by omega
      go_wp2_with fail
      go_ret
      subst e
      refine ⟨rfl, hg.out, fun hp => ?_⟩
      obtain ⟨cs, hB, hsz, hc⟩ := (hr.out hp).2
      exact ⟨cs, hB, hsz, fun i hi j hj => by have := hc i hi j hj; rw [this]; show (ndC (if i < m then markN k0 i else g i))[j]? = _; rw [if_pos hi]⟩

set_option maxHeartbeats 1000000 in
theorem heldN_all (A : Option Addr) (n cap b : Nat) (k0 : Int) (w : World) (h : 0 < n → A = some ⟨b, 0, none⟩ ∧ RowN w 48 b n (markN k0)) (hn : n ≤ 4194304) (h0 : 0 ≤ k0) (h1 : k0 ≤ 100000000) :
    Calls Tryd.prog 58 #[.slice A n cap, .int .i64 k0] w fun e w' =>
      e = .returned (.int .i64 (k0 + 6 * n)) ∧ w = w' := by
  have H := hid h
  clear h
  go_enter Tryd.func58, Tryd.ntmps58
  go_wp2_with fail
  go_loop [1, 5] (fun k i => ∃ m : Nat, m ≤ n ∧ i = .int .i64 m ∧ k = .int .i64 (k0 + 6 * m)) (fun _ i => n - (intOf i).toNat)
  case atStart => exact ⟨0, Nat.zero_le _, rfl, by go_num⟩
  case round =>
    obtain ⟨m, hm, rfl, rfl⟩ := hrel
    by_cases hlt : m < n
    · obtain ⟨rfl, hrow⟩ := H.out (by omega)
      obtain ⟨c0, c1, c2, c3, c4, c5⟩ := hrow.ndAt hlt
      have c0' : w.cell? ⟨b, m * 6, none⟩ = some (.int .i64 (k0 + 6 * (m : Int))) := c0
      have c1' : w.cell? ⟨b, m * 6 + 1, none⟩ = some (.int .i64 (k0 + 6 * (m : Int) + 1)) := c1
      have c2' : w.cell? ⟨b, m * 6 + 2, none⟩ = some (.int .i64 (k0 + 6 * (m : Int) + 1 + 1)) := c2
      have c3' : w.cell? ⟨b, m * 6 + 3, none⟩ = some (.int .i64 (k0 + 6 * (m : Int) + 1 + 1 + 1)) := c3
      have c4' : w.cell? ⟨b, m * 6 + 4, none⟩ = some (.bool ((k0 + 6 * (m : Int) + 1 + 1 + 1 + 1) % 3 == 0)) := c4
      have c5' : w.cell? ⟨b, m * 6 + 5, none⟩ = some (.int .i64 (k0 + 6 * (m : Int) + 1 + 1 + 1 + 1 + 1)) := c5
      clear c0 c1 c2 c3 c4 c5
      have hi1 : (m : Int) < (n : Int) := by omega
      go_wp2_with fail
      go_round
      case rel => exact ⟨m + 1, by omega, by go_num, by go_num⟩
      case measure => simp [intOf]; omega
    · have e : m = n := by omega
      go_wp2_with fail
      go_ret
      subst e
      exact ⟨rfl, rfl⟩
end Go.Proofs.YtmkipdhappikhaaDoor
