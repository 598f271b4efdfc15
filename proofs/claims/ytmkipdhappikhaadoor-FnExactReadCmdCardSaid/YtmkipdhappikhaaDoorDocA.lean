/- Contracts of the small functions on documents: what each returns, and that no old memory is written. -/
import Derived.Test.YtmkipdhappikhaaDoorRows
import Derived.Test.YtmkipdhappikhaaDoorK0
import Derived.Test.YtmkipdhappikhaaDoorK1
import Derived.WalkKit
import Derived.WalkSpells
import Derived.WalkSmall
import Derived.StillTactics
import Derived.Lib.Hide
import Derived.Outline
import Derived.Deep.OwnRows
import Derived.Deep.QuietTactic
import Derived.BigQuiet
namespace Go.Proofs.YtmkipdhappikhaaDoor
open Go.RowKit Go.Deep

theorem In_any (x a b : Int) (w : World) : Calls Tryd.prog 90 #[.int .i64 x, .int .i64 a, .int .i64 b] w fun e w' =>
    e = .returned (.bool (decide (a ≤ x) && decide (x ≤ b))) ∧ w = w' := by
  by_cases h1 : a ≤ x <;> by_cases h2 : x ≤ b
  all_goals
    go_enter Tryd.func90, Tryd.ntmps90
    go_wp2_with fail
    go_ret
    exact ⟨by simp [*], rfl⟩

theorem Feat_any (x : Int) (w : World) : Calls Tryd.prog 109 #[.int .i64 x] w fun e w' =>
    e = .returned (.bool (decide (-1000000 ≤ x) && decide (x ≤ 1000000))) ∧ w = w' := by
  go_enter Tryd.func109, Tryd.ntmps109
  go_wp2_with (go_at_call 90; refine (In_any _ _ _ _).mono ?_; rintro e w' ⟨rfl, rfl⟩)
  go_ret
  exact ⟨rfl, rfl⟩

theorem Feats_any (x : Int) (w : World) : Calls Tryd.prog 80 #[.int .i64 x] w fun e w' =>
    e = .returned (.bool (decide (1 ≤ x) && decide (x ≤ 6))) ∧ w = w' := by
  go_enter Tryd.func80, Tryd.ntmps80
  go_wp2_with (go_at_call 90; refine (In_any _ _ _ _).mono ?_; rintro e w' ⟨rfl, rfl⟩)
  go_ret
  exact ⟨rfl, rfl⟩

theorem May_any (x : Int) (w : World) : Calls Tryd.prog 89 #[.int .i64 x] w fun e w' =>
    e = .returned (.bool (may x)) ∧ w = w' := by
  by_cases h : (decide (-1000000 ≤ x) && decide (x ≤ 1000000)) = true
  · go_enter Tryd.func89, Tryd.ntmps89
    go_wp2_with (go_at_call 109; refine (Feat_any _ _).mono ?_; rintro e w' ⟨rfl, rfl⟩)
    go_ret
    exact ⟨by simp [may, *], rfl⟩
  · go_enter Tryd.func89, Tryd.ntmps89
    go_wp2_with (go_at_call 109; refine (Feat_any _ _).mono ?_; rintro e w' ⟨rfl, rfl⟩)
    go_ret
    exact ⟨by simp [may, *], rfl⟩

set_option maxHeartbeats 400000 in
theorem sDocOk_any (A : Option Addr) (n cap : Nat) (z : Nat → Int) (w : World) (h : Rd w w.heap.size A n z) (hn : n ≤ 4194304) :
    Calls Tryd.prog 60 #[.slice A n cap] w fun e w' => e = .returned (.bool (docB n z)) ∧ w = w' := by
  go_enter Tryd.func60, Tryd.ntmps60
  go_wp2_with fail
  go_loop [3] (fun i => ∃ k : Nat, k ≤ n ∧ i = .int .i64 k ∧ Hid (allTo z k = true)) (fun i => n - (intOf i).toNat)
  case atStart => exact ⟨0, Nat.zero_le _, rfl, rfl⟩
  case round =>
    obtain ⟨k, hk, rfl, hall⟩ := hrel
    by_cases hlt : k < n
    · obtain ⟨b, off, rfl, hb, hc⟩ := h.at_ hlt
      cases hm : may (z k)
      · go_wp2_with (go_at_call 89; refine (May_any _ _).mono ?_; rintro e w' ⟨rfl, rfl⟩)
        go_ret
        exact ⟨by simp [docB, allTo_false hlt hm], rfl⟩
      · go_wp2_with (go_at_call 89; refine (May_any _ _).mono ?_; rintro e w' ⟨rfl, rfl⟩)
        go_round
        case rel => exact ⟨k + 1, by omega, by go_num, show allTo z (k + 1) = true by simp only [allTo, hm, hall.out, Bool.and_self]⟩
        case measure => simp [intOf]; omega
    · go_wp2_with (go_at_call 80; refine (Feats_any _ _).mono ?_; rintro e w' ⟨rfl, rfl⟩)
      go_ret
      have e : k = n := by omega
      subst e
      refine ⟨?_, rfl⟩
      have h1 : decide ((1 : Int) ≤ (k : Int)) = decide (1 ≤ k) := by simp only [decide_eq_decide]; omega
      have h6 : decide ((k : Int) ≤ 6) = decide (k ≤ 6) := by simp only [decide_eq_decide]; omega
      simp only [docB, hall.out, Bool.and_true, h1, h6]
      rfl

theorem info_int : (Tryd.prog.info? 2).map (fun i => (i.zero, i.size, i.bytes)) = some (some (.int .i64 0), 1, 8) := by kernel_rfl

set_option maxHeartbeats 400000 in
/-- toInt64S: a new row with the same numbers. -/
theorem toI_any (A : Option Addr) (n cap : Nat) (z : Nat → Int) (w : World) (h : Rd w w.heap.size A n z) (hn : n ≤ 4194304) :
    Calls Tryd.prog 64 #[.slice A n cap] w fun e w' =>
      ∃ b, e = .returned (.slice (some ⟨b, 0, none⟩) n n) ∧ w.heap.size ≤ b ∧ Row w' 2 b n z ∧ Below w.heap.size w w' := by
  have hmk := run_make_row' (P := Tryd.prog) 64 2 (.int .i64 0) 8 Tryd.underlying64 info_int rfl .i64 .i64 n (by omega) (by omega)
  go_enter Tryd.func64, Tryd.ntmps64
  go_wp2_with fail
  go_loopw [4] (fun i wr => ∃ (k : Nat) (cs : Array Value), k ≤ n ∧ i = .int .i64 k ∧ Blk wr w.heap.size 2 cs ∧ n ≤ cs.size ∧ Hid (∀ j, j < k → cs[j]? = some (.int .i64 (z j))) ∧ Below w.heap.size w wr)
    (fun i _ => n - (intOf i).toNat)
  case atStart => exact ⟨0, _, Nat.zero_le _, rfl, Blk.new _ _ _, by simp [madeCells], fun j hj => by omega, (Below.refl _ _).alloc (Nat.le_refl _) _⟩
  case round =>
    obtain ⟨k, cs, hk, rfl, hB, hsz, hcs, hbl⟩ := hrel
    by_cases hlt : k < n
    · obtain ⟨b, off, rfl, hb, hc⟩ := (h.below hbl).at_ hlt
      have hc2 : wr.cell? ⟨w.heap.size, k, none⟩ = some (cs[k]'(by omega)) := by rw [hB.cell, Array.getElem?_eq_getElem]
      have hf2 := hB.frozen k
      go_wp2_with fail
      go_roundw
      case rel =>
        refine ⟨k + 1, _, by omega, by go_num, hB.set_ k _, by simpa using hsz, fun j hj => ?_, hbl.setCell (Nat.le_refl _) _⟩
        by_cases e : j = k
        · subst e; rw [Array.getElem?_setIfInBounds_self_of_lt (by omega)]
        · rw [Array.getElem?_setIfInBounds_ne (by omega)]; exact hcs.out j (by omega)
      case measure => simp [intOf]; omega
    · have e : k = n := by omega
      go_wp2_with fail
      go_ret
      exact ⟨_, rfl, Nat.le_refl _, ⟨cs, hB, hsz, fun j hj => hcs.out j (by omega)⟩, hbl⟩

set_option maxHeartbeats 400000 in
/-- eqInt64S at two slices that read alike. -/
theorem eqI_any (A A' : Option Addr) (n c c' : Nat) (z y : Nat → Int) (w : World) (h : Rd w w.heap.size A n z) (h' : Rd w w.heap.size A' n y) (hzy : Hid (∀ k, k < n → z k = y k)) (hn : n ≤ 4194304) :
    Calls Tryd.prog 74 #[.slice A n c, .slice A' n c'] w fun e w' => e = .returned (.bool true) ∧ ∃ m, w' = w.drewN m := by
  go_enter Tryd.func74, Tryd.ntmps74
  go_wp2_with fail
  go_loopw [5] (fun i wr => ∃ k m : Nat, k ≤ n ∧ i = .int .i64 k ∧ wr = w.drewN m) (fun i _ => n - (intOf i).toNat)
  case atStart => exact ⟨0, 0, Nat.zero_le _, rfl, rfl⟩
  case round =>
    obtain ⟨k, m, hk, rfl, rfl⟩ := hrel
    by_cases hlt : k < n
    · obtain ⟨b, off, rfl, hb, hc⟩ := h.at_ hlt
      obtain ⟨b', off', rfl, hb', hc'⟩ := h'.at_ hlt
      rw [← hzy.out k hlt] at hc'
      have hi : (k : Int) < (n : Int) := by omega
      have hi0 : (0 : Int) ≤ (k : Int) := by omega
      go_wp2_with fail
      go_quiet (fail)
      go_wp2_with fail
      go_roundw
      case rel => exact ⟨k + 1, _, by omega, by go_num, rfl⟩
      case measure => simp [intOf]; omega
    · go_wp2_with fail
      go_ret
      exact ⟨rfl, m, rfl⟩

end Go.Proofs.YtmkipdhappikhaaDoor
