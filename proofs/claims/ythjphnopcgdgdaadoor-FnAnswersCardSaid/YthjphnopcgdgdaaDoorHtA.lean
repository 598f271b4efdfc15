/- The text of a Hit, both sides. -/
import Derived.Test.YthjphnopcgdgdaaDoorTxT
import Derived.Test.YthjphnopcgdgdaaDoorHitA
import Derived.Test.YthjphnopcgdgdaaDoorFactsB
namespace Go.Proofs.YthjphnopcgdgdaaDoor
open Go.RowKit Go.Deep

def scB (s : Int) : Bool := decide (-100000000000 ≤ s) && decide (s ≤ 100000000000)
def htB (i s : Int) : Bool := (decide (0 ≤ i) && decide (i < 20)) && scB s
def htS (i s : Int) : ByteArray := decS i ++ ⟨#[58]⟩ ++ decS s
def htT (i s : Int) : ByteArray := if htB i s = true then htS i s else ByteArray.empty
theorem scB_yes {s : Int} (h : -100000000000 ≤ s) : scB s = decide (s ≤ 100000000000) := by unfold scB; rw [decide_eq_true h, Bool.true_and]
theorem scB_no {s : Int} (h : ¬ -100000000000 ≤ s) : scB s = false := by unfold scB; rw [decide_eq_false h, Bool.false_and]
theorem scB_iff {s : Int} : scB s = true ↔ -100000000000 ≤ s ∧ s ≤ 100000000000 := by unfold scB; simp
theorem htB_iff {i s : Int} : htB i s = true ↔ (0 ≤ i ∧ i < 20) ∧ (-100000000000 ≤ s ∧ s ≤ 100000000000) := by unfold htB scB; simp
theorem htB_in {i s : Int} (h : htB i s = true) : I64 i ∧ I64 s := by
  have := htB_iff.1 h
  unfold I64
  omega
theorem htT_yes {i s : Int} (h : htB i s = true) : htT i s = htS i s := by unfold htT; rw [if_pos h]
theorem htT_no {i s : Int} (h : htB i s = false) : htT i s = ⟨#[]⟩ := by unfold htT; rw [h]; rfl
theorem htS_size {i s : Int} (hi : I64 i) (hs : I64 s) : (htS i s).size ≤ 43 := by
  unfold htS
  rw [ByteArray.size_append, ByteArray.size_append]
  have := hi.size
  have := hs.size
  show _ + 1 + _ ≤ _
  omega

theorem inRange_any (s : Int) (w : World) : Calls Tryd.prog 54 #[.int .i64 s] w fun e w' => e = .returned (.bool (scB s)) ∧ w' = w := by
  by_cases h : -100000000000 ≤ s
  · rw [scB_yes h]
    go_enter Tryd.func54, Tryd.ntmps54
    go_wp2_with fail
    go_ret
    exact ⟨rfl, rfl⟩
  · rw [scB_no h]
    go_enter Tryd.func54, Tryd.ntmps54
    go_wp2_with fail
    go_ret
    exact ⟨rfl, rfl⟩
theorem l1In_any (x lo hi : Int) (w : World) : Calls Tryd.prog 36 #[.int .i64 x, .int .i64 lo, .int .i64 hi] w fun e w' => e = .returned (.bool (decide (lo ≤ x) && decide (x ≤ hi))) ∧ w' = w := by
  by_cases h : lo ≤ x
  · rw [decide_eq_true h, Bool.true_and]
    go_enter Tryd.func36, Tryd.ntmps36
    go_wp2_with fail
    go_ret
    exact ⟨rfl, rfl⟩
  · rw [decide_eq_false h, Bool.false_and]
    go_enter Tryd.func36, Tryd.ntmps36
    go_wp2_with fail
    go_ret
    exact ⟨rfl, rfl⟩

theorem hitOk_any (i s : Int) (w : World) : Calls Tryd.prog 29 #[hitV i s] w fun e w' => e = .returned (.bool (htB i s)) ∧ Below w.heap.size w w' := by
  have hb := (Below.refl w.heap.size w).alloc (Nat.le_refl _) (.cells #[.int .i64 i, .int .i64 s] 25)
  by_cases h0 : 0 ≤ i
  · by_cases h1 : i < 20
    · have e1 : htB i s = scB s := by unfold htB; rw [decide_eq_true h0, decide_eq_true h1]; rfl
      rw [e1]
      go_enter Tryd.func29, Tryd.ntmps29
      go_wp2_with fail
      refine (inRange_any s _).mono ?_
      rintro e w1 ⟨rfl, rfl⟩
      go_wp2_with fail
      go_ret
      exact ⟨rfl, hb⟩
    · have e1 : htB i s = false := by unfold htB; rw [decide_eq_false h1]; simp
      rw [e1]
      go_enter Tryd.func29, Tryd.ntmps29
      go_wp2_with fail
      go_ret
      exact ⟨rfl, hb⟩
  · have e1 : htB i s = false := by unfold htB; rw [decide_eq_false h0]; simp
    rw [e1]
    go_enter Tryd.func29, Tryd.ntmps29
    go_wp2_with fail
    go_ret
    exact ⟨rfl, hb⟩
end Go.Proofs.YthjphnopcgdgdaaDoor
