/- Contracts of the small functions on documents: what each returns, and that no old memory is written. -/
import Derived.Test.YthcnjabilakndaaDoorRows
import Derived.Test.YthcnjabilakndaaDoorK0
import Derived.Test.YthcnjabilakndaaDoorK1
import Derived.WalkKit
import Derived.WalkSpells
import Derived.WalkSmall
import Derived.StillTactics
import Derived.Lib.Hide
import Derived.Outline
import Derived.Deep.OwnRows
import Derived.Deep.QuietTactic
import Derived.BigQuiet
namespace Go.Proofs.YthcnjabilakndaaDoor
open Go.RowKit Go.Deep

theorem In_any (x a b : Int) (w : World) : Calls Tryd.prog 40 #[.int .i64 x, .int .i64 a, .int .i64 b] w fun e w' =>
    e = .returned (.bool (decide (a ≤ x) && decide (x ≤ b))) ∧ w = w' := by
  by_cases h1 : a ≤ x <;> by_cases h2 : x ≤ b
  all_goals
    go_enter Tryd.func40, Tryd.ntmps40
    go_wp2_with fail
    go_ret
    exact ⟨by simp [*], rfl⟩

theorem Feat_any (x : Int) (w : World) : Calls Tryd.prog 39 #[.int .i64 x] w fun e w' =>
    e = .returned (.bool (decide (-1000000 ≤ x) && decide (x ≤ 1000000))) ∧ w = w' := by
  go_enter Tryd.func39, Tryd.ntmps39
  go_wp2_with (go_at_call 40; refine (In_any _ _ _ _).mono ?_; rintro e w' ⟨rfl, rfl⟩)
  go_ret
  exact ⟨rfl, rfl⟩

theorem Feats_any (x : Int) (w : World) : Calls Tryd.prog 28 #[.int .i64 x] w fun e w' =>
    e = .returned (.bool (decide (1 ≤ x) && decide (x ≤ 6))) ∧ w = w' := by
  go_enter Tryd.func28, Tryd.ntmps28
  go_wp2_with (go_at_call 40; refine (In_any _ _ _ _).mono ?_; rintro e w' ⟨rfl, rfl⟩)
  go_ret
  exact ⟨rfl, rfl⟩

theorem May_any (x : Int) (w : World) : Calls Tryd.prog 27 #[.int .i64 x] w fun e w' =>
    e = .returned (.bool (may x)) ∧ w = w' := by
  by_cases h : (decide (-1000000 ≤ x) && decide (x ≤ 1000000)) = true
  · go_enter Tryd.func27, Tryd.ntmps27
    go_wp2_with (go_at_call 39; refine (Feat_any _ _).mono ?_; rintro e w' ⟨rfl, rfl⟩)
    go_ret
    exact ⟨by simp [may, *], rfl⟩
  · go_enter Tryd.func27, Tryd.ntmps27
    go_wp2_with (go_at_call 39; refine (Feat_any _ _).mono ?_; rintro e w' ⟨rfl, rfl⟩)
    go_ret
    exact ⟨by simp [may, *], rfl⟩

set_option maxHeartbeats 400000 in
theorem sDocOk_any (A : Option Addr) (n cap : Nat) (z : Nat → Int) (w : World) (h : Rd w w.heap.size A n z) (hn : n ≤ 4194304) :
    Calls Tryd.prog 12 #[.slice A n cap] w fun e w' => e = .returned (.bool (docB n z)) ∧ w = w' := by
  go_enter Tryd.func12, Tryd.ntmps12
  go_wp2_with fail
  go_loop [3] (fun i => ∃ k : Nat, k ≤ n ∧ i = .int .i64 k ∧ Hid (allTo z k = true)) (fun i => n - (intOf i).toNat)
  case atStart => exact ⟨0, Nat.zero_le _, rfl, rfl⟩
  case round =>
    obtain ⟨k, hk, rfl, hall⟩ := hrel
    by_cases hlt : k < n
    · obtain ⟨b, off, rfl, hb, hc⟩ := h.at_ hlt
      cases hm : may (z k)
      · go_wp2_with (go_at_call 27; refine (May_any _ _).mono ?_; rintro e w' ⟨rfl, rfl⟩)
        go_ret
        exact ⟨by simp [docB, allTo_false hlt hm], rfl⟩
      · go_wp2_with (go_at_call 27; refine (May_any _ _).mono ?_; rintro e w' ⟨rfl, rfl⟩)
        go_round
        case rel => exact ⟨k + 1, by omega, by go_num, show allTo z (k + 1) = true by simp only [allTo, hm, hall.out, Bool.and_self]⟩
        case measure => simp [intOf]; omega
    · go_wp2_with (go_at_call 28; refine (Feats_any _ _).mono ?_; rintro e w' ⟨rfl, rfl⟩)
      go_ret
      have e : k = n := by omega
      subst e
      refine ⟨?_, rfl⟩
      have h1 : decide ((1 : Int) ≤ (k : Int)) = decide (1 ≤ k) := by simp only [decide_eq_decide]; omega
      have h6 : decide ((k : Int) ≤ 6) = decide (k ≤ 6) := by simp only [decide_eq_decide]; omega
      simp only [docB, hall.out, Bool.and_true, h1, h6]
      rfl

theorem info_int : (Tryd.prog.info? 2).map (fun i => (i.zero, i.size, i.bytes)) = some (some (.int .i64 0), 1, 8) := by kernel_rfl

end Go.Proofs.YthcnjabilakndaaDoor
