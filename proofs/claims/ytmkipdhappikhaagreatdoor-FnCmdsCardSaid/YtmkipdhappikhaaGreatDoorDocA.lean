/- Contracts of the small functions on documents: what each returns, and that no old memory is written. -/
import Derived.Test.YtmkipdhappikhaaGreatDoorRows
import Derived.Test.YtmkipdhappikhaaGreatDoorK0
import Derived.Test.YtmkipdhappikhaaGreatDoorK1
import Derived.WalkKit
import Derived.WalkSpells
import Derived.WalkSmall
import Derived.StillTactics
import Derived.Lib.Hide
import Derived.Outline
import Derived.Deep.OwnRows
import Derived.Deep.QuietTactic
import Derived.BigQuiet
namespace Go.Proofs.YtmkipdhappikhaaGreatDoor
open Go.RowKit Go.Deep

theorem In_any (x a b : Int) (w : World) : Calls Tryz.prog 89 #[.int .i64 x, .int .i64 a, .int .i64 b] w fun e w' =>
    e = .returned (.bool (decide (a ≤ x) && decide (x ≤ b))) ∧ w = w' := by
  by_cases h1 : a ≤ x <;> by_cases h2 : x ≤ b
  all_goals
    go_enter Tryz.func89, Tryz.ntmps89
    go_wp2_with fail
    go_ret
    exact ⟨by simp [*], rfl⟩

theorem Feat_any (x : Int) (w : World) : Calls Tryz.prog 110 #[.int .i64 x] w fun e w' =>
    e = .returned (.bool (decide (-1000000 ≤ x) && decide (x ≤ 1000000))) ∧ w = w' := by
  go_enter Tryz.func110, Tryz.ntmps110
  go_wp2_with (go_at_call 89; refine (In_any _ _ _ _).mono ?_; rintro e w' ⟨rfl, rfl⟩)
  go_ret
  exact ⟨rfl, rfl⟩

theorem Feats_any (x : Int) (w : World) : Calls Tryz.prog 75 #[.int .i64 x] w fun e w' =>
    e = .returned (.bool (decide (1 ≤ x) && decide (x ≤ 6))) ∧ w = w' := by
  go_enter Tryz.func75, Tryz.ntmps75
  go_wp2_with (go_at_call 89; refine (In_any _ _ _ _).mono ?_; rintro e w' ⟨rfl, rfl⟩)
  go_ret
  exact ⟨rfl, rfl⟩

theorem May_any (x : Int) (w : World) : Calls Tryz.prog 88 #[.int .i64 x] w fun e w' =>
    e = .returned (.bool (may x)) ∧ w = w' := by
  by_cases h : (decide (-1000000 ≤ x) && decide (x ≤ 1000000)) = true
  · go_enter Tryz.func88, Tryz.ntmps88
    go_wp2_with (go_at_call 110; refine (Feat_any _ _).mono ?_; rintro e w' ⟨rfl, rfl⟩)
    go_ret
    exact ⟨by simp [may, *], rfl⟩
  · go_enter Tryz.func88, Tryz.ntmps88
    go_wp2_with (go_at_call 110; refine (Feat_any _ _).mono ?_; rintro e w' ⟨rfl, rfl⟩)
    go_ret
    exact ⟨by simp [may, *], rfl⟩

set_option maxHeartbeats 400000 in
theorem sDocOk_any (A : Option Addr) (n cap : Nat) (z : Nat → Int) (w : World) (h : Rd w w.heap.size A n z) (hn : n ≤ 4194304) :
    Calls Tryz.prog 50 #[.slice A n cap] w fun e w' => e = .returned (.bool (docB n z)) ∧ w = w' := by
  go_enter Tryz.func50, Tryz.ntmps50
  go_wp2_with fail
  go_loop [3] (fun i => ∃ k : Nat, k ≤ n ∧ i = .int .i64 k ∧ Hid (allTo z k = true)) (fun i => n - (intOf i).toNat)
  case atStart => exact ⟨0, Nat.zero_le _, rfl, rfl⟩
  case round =>
    obtain ⟨k, hk, rfl, hall⟩ := hrel
    by_cases hlt : k < n
    · obtain ⟨b, off, rfl, hb, hc⟩ := h.at_ hlt
      cases hm : may (z k)
      · go_wp2_with (go_at_call 88; refine (May_any _ _).mono ?_; rintro e w' ⟨rfl, rfl⟩)
        go_ret
        exact ⟨by simp [docB, allTo_false hlt hm], rfl⟩
      · go_wp2_with (go_at_call 88; refine (May_any _ _).mono ?_; rintro e w' ⟨rfl, rfl⟩)
        go_round
        case rel => exact ⟨k + 1, by omega, by go_num, show allTo z (k + 1) = true by simp only [allTo, hm, hall.out, Bool.and_self]⟩
        case measure => simp [intOf]; omega
    · go_wp2_with (go_at_call 75; refine (Feats_any _ _).mono ?_; rintro e w' ⟨rfl, rfl⟩)
      go_ret
      have e : k = n := by omega
      subst e
      refine ⟨?_, rfl⟩
      have h1 : decide ((1 : Int) ≤ (k : Int)) = decide (1 ≤ k) := by simp only [decide_eq_decide]; omega
      have h6 : decide ((k : Int) ≤ 6) = decide (k ≤ 6) := by simp only [decide_eq_decide]; omega
      simp only [docB, hall.out, Bool.and_true, h1, h6]
      rfl

theorem info_int : (Tryz.prog.info? 2).map (fun i => (i.zero, i.size, i.bytes)) = some (some (.int .i64 0), 1, 8) := by kernel_rfl

end Go.Proofs.YtmkipdhappikhaaGreatDoor
