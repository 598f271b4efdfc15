/- The iterator over the stages: what it hands to a round. -/
import Derived.Test.YtlgomifpohdniaaGreatStK
namespace Go.Proofs.YtlgomifpohdniaaGreat
open Go.RowKit Go.Shelf Go.Deep
set_option linter.unusedVariables false
set_option linter.unusedSimpArgs false

attribute [local go_sem] Oper.semAt_some

def hasN (z : Nat → Int) (n : Nat) (v : Int) : Bool := (List.range n).any fun i => z i == v
theorem hasN_yes {z : Nat → Int} {n k : Nat} {v : Int} (h : k < n) (e : z k = v) : hasN z n v = true := by
  unfold hasN
  exact List.any_eq_true.2 ⟨k, List.mem_range.2 h, by simpa using e⟩
theorem hasN_no {z : Nat → Int} {n : Nat} {v : Int} (h : ∀ k, k < n → z k ≠ v) : hasN z n v = false := by
  unfold hasN
  rw [Bool.eq_false_iff]
  intro hx
  obtain ⟨k, hk, e⟩ := List.any_eq_true.1 hx
  exact h k (List.mem_range.1 hk) (by simpa using e)
theorem hasN_iff {z : Nat → Int} {n : Nat} {v : Int} : hasN z n v = true ↔ ∃ k, k < n ∧ z k = v := by
  unfold hasN
  rw [List.any_eq_true]
  constructor
  · rintro ⟨k, hk, e⟩
    exact ⟨k, List.mem_range.1 hk, by simpa using e⟩
  · rintro ⟨k, hk, e⟩
    exact ⟨k, List.mem_range.2 hk, by simpa using e⟩

def IdxPost (z : Nat → Int) (n : Nat) (v : Int) (w : World) (e : Ending) (w' : World) : Prop := ∃ r : Int, e = .returned (.int .i64 r) ∧ decide (r ≥ 0) = hasN z n v ∧ w = w'
set_option maxRecDepth 100000 in
set_option maxHeartbeats 1000000 in
theorem index_any (A : Option Addr) (n c B : Nat) (z : Nat → Int) (v : Int) (w : World) (h : Rd w B A n z) (hn : n ≤ 4194304) :
    Calls Tryz.prog 132 #[.slice A n c, .int .i64 v] w (IdxPost z n v w) := by
  go_enter Tryz.func132, Tryz.ntmps132
  go_wp2_with fail
  go_loop [8] (fun i => ∃ k : Nat, k ≤ n ∧ i = .int .i64 k ∧ Hid (∀ j, j < k → z j ≠ v)) (fun i => n - (intOf i).toNat)
  case atStart => exact ⟨0, Nat.zero_le _, rfl, fun j hj => by omega⟩
  case round =>
    obtain ⟨k, hk, rfl, HN⟩ := hrel
    by_cases hlt : k < n
    · obtain ⟨b, off, rfl, hb, hc⟩ := h.at_ hlt
      obtain ⟨y, hy⟩ : ∃ y, z k = y := ⟨_, rfl⟩
      rw [hy] at hc
      have HY := hid hy
      clear hy
      have hi : (k : Int) < (n : Int) := by omega
      have hi0 : (0 : Int) ≤ (k : Int) := by omega
      by_cases e : v = y
      · have d1 : (v == y) = true := by simpa using e
        have HE := hid e
        clear e
        go_wp2_with fail
        go_ret
        exact ⟨_, rfl, by rw [decide_eq_true (by omega : (k : Int) ≥ 0), hasN_yes hlt (HY.out.trans HE.out.symm)], rfl⟩
      · have d1 : (v == y) = false := by simpa using e
        have HE := hid e
        clear e
        go_wp2_with fail
        go_round
        case rel => exact ⟨k + 1, by omega, by go_num, fun j hj => by
          by_cases q : j = k
          · rw [q, HY.out]; exact fun x => HE.out x.symm
          · exact HN.out j (by omega)⟩
        case measure => simp [intOf]; omega
    · have e : k = n := by omega
      go_wp2_with fail
      go_ret
      exact ⟨_, rfl, by rw [hasN_no (fun j hj => HN.out j (by omega))]; rfl, rfl⟩
theorem contains_any (A : Option Addr) (n c B : Nat) (z : Nat → Int) (v : Int) (H : Bool) (w : World) (h : Rd w B A n z) (hn : n ≤ 4194304) (hH : Hid (hasN z n v = H)) :
    Calls Tryz.prog 117 #[.slice A n c, .int .i64 v] w fun e w' => e = .returned (.bool H) ∧ w = w' := by
  go_enter Tryz.func117, Tryz.ntmps117
  go_wp2_with fail
  refine (index_any A n c B z v w h hn).mono ?_
  rintro e w' ⟨r, rfl, hr, rfl⟩
  rw [hH.out] at hr
  have hr2 : decide (0 ≤ r) = H := hr
  go_wp2_with fail
  go_ret
  exact ⟨rfl, rfl⟩
end Go.Proofs.YtlgomifpohdniaaGreat
