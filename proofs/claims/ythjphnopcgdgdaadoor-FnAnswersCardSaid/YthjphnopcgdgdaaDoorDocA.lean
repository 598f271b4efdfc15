/- Contracts of the small functions on documents: what each returns, and that no old memory is written. -/
import Derived.Test.YthjphnopcgdgdaaDoorRows
import Derived.Test.YthjphnopcgdgdaaDoorK0
import Derived.Test.YthjphnopcgdgdaaDoorK1
import Derived.WalkKit
import Derived.WalkSpells
import Derived.WalkSmall
import Derived.StillTactics
import Derived.Lib.Hide
import Derived.Outline
import Derived.Deep.OwnRows
import Derived.Deep.QuietTactic
import Derived.BigQuiet
namespace Go.Proofs.YthjphnopcgdgdaaDoor
open Go.RowKit Go.Deep

theorem In_any (x a b : Int) (w : World) : Calls Tryd.prog 36 #[.int .i64 x, .int .i64 a, .int .i64 b] w fun e w' =>
    e = .returned (.bool (decide (a ≤ x) && decide (x ≤ b))) ∧ w = w' := by
  by_cases h1 : a ≤ x <;> by_cases h2 : x ≤ b
  all_goals
    go_enter Tryd.func36, Tryd.ntmps36
    go_wp2_with fail
    go_ret
    exact ⟨by simp [*], rfl⟩

theorem Feat_any (x : Int) (w : World) : Calls Tryd.prog 71 #[.int .i64 x] w fun e w' =>
    e = .returned (.bool (decide (-1000000 ≤ x) && decide (x ≤ 1000000))) ∧ w = w' := by
  go_enter Tryd.func71, Tryd.ntmps71
  go_wp2_with (go_at_call 36; refine (In_any _ _ _ _).mono ?_; rintro e w' ⟨rfl, rfl⟩)
  go_ret
  exact ⟨rfl, rfl⟩

theorem Feats_any (x : Int) (w : World) : Calls Tryd.prog 61 #[.int .i64 x] w fun e w' =>
    e = .returned (.bool (decide (1 ≤ x) && decide (x ≤ 6))) ∧ w = w' := by
  go_enter Tryd.func61, Tryd.ntmps61
  go_wp2_with (go_at_call 36; refine (In_any _ _ _ _).mono ?_; rintro e w' ⟨rfl, rfl⟩)
  go_ret
  exact ⟨rfl, rfl⟩

theorem info_int : (Tryd.prog.info? 2).map (fun i => (i.zero, i.size, i.bytes)) = some (some (.int .i64 0), 1, 8) := by kernel_rfl

end Go.Proofs.YthjphnopcgdgdaaDoor
