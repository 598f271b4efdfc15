/- The program's own tree: treeOf, walked. -/
import Derived.Test.YtmpgefpaoogoiaaTreeE
namespace Go.Proofs.Ytmpgefpaoogoiaa
open Go.RowKit Go.Deep

/-- Are all fifteen nil? -/
def noneB (c : Nat → Option Addr) : Bool := (c 0).isNone && ((c 1).isNone && ((c 2).isNone && ((c 3).isNone && ((c 4).isNone && ((c 5).isNone && ((c 6).isNone && ((c 7).isNone && ((c 8).isNone && ((c 9).isNone && ((c 10).isNone && ((c 11).isNone && ((c 12).isNone && ((c 13).isNone && ((c 14).isNone))))))))))))))
set_option maxHeartbeats 1000000 in
theorem eq15 (c : Nat → Option Addr) (w : World) : (Op.equalIn 10000 184 (.agg #[.pointer (c 0), .pointer (c 1), .pointer (c 2), .pointer (c 3), .pointer (c 4), .pointer (c 5), .pointer (c 6), .pointer (c 7), .pointer (c 8), .pointer (c 9), .pointer (c 10), .pointer (c 11), .pointer (c 12), .pointer (c 13), .pointer (c 14)]) (.agg #[.pointer none, .pointer none, .pointer none, .pointer none, .pointer none, .pointer none, .pointer none, .pointer none, .pointer none, .pointer none, .pointer none, .pointer none, .pointer none, .pointer none, .pointer none])).run Try.prog w = .ok (noneB c) w := by
  have u2 := Try.underlying126
  have a2 := Try.isAgg126
  have z2 := Try.sizeOf126
  have hpn : ∀ (p : Option Addr) (w : World), (Op.equalIn 9999 126 (.pointer p) (.pointer none)).run Try.prog w = .ok p.isNone w := fun p w => run_equalIn_pointer_nil w 9998 126 p (by kernel_rfl)
  rw [show (10000 : Nat) = 9999 + 1 from rfl, Op.equalIn]
  simp only [Sem.run_bind, run_underlying Try.underlying184, Result.andThen_ok]
  simp only [Std.Legacy.Range.forIn_eq_forIn_range', Std.Legacy.Range.size, Nat.sub_zero, Nat.add_sub_cancel, Nat.div_one, List.range'_succ, List.range'_zero, List.forIn_cons, List.forIn_nil]
  go_simp
  unfold noneB
  rcases h0 : c 0 with _ | v0
  rotate_left
  · simp
  rcases h1 : c 1 with _ | v1
  rotate_left
  · simp
  rcases h2 : c 2 with _ | v2
  rotate_left
  · simp
  rcases h3 : c 3 with _ | v3
  rotate_left
  · simp
  rcases h4 : c 4 with _ | v4
  rotate_left
  · simp
  rcases h5 : c 5 with _ | v5
  rotate_left
  · simp
  rcases h6 : c 6 with _ | v6
  rotate_left
  · simp
  rcases h7 : c 7 with _ | v7
  rotate_left
  · simp
  rcases h8 : c 8 with _ | v8
  rotate_left
  · simp
  rcases h9 : c 9 with _ | v9
  rotate_left
  · simp
  rcases h10 : c 10 with _ | v10
  rotate_left
  · simp
  rcases h11 : c 11 with _ | v11
  rotate_left
  · simp
  rcases h12 : c 12 with _ | v12
  rotate_left
  · simp
  rcases h13 : c 13 with _ | v13
  rotate_left
  · simp
  rcases h14 : c 14 with _ | v14
  rotate_left
  · simp
  simp

theorem noneB_iff (c : Nat → Option Addr) : noneB c = true ↔ ∀ j, j < 15 → c j = none := by
  unfold noneB
  simp only [Bool.and_eq_true, Option.isNone_iff_eq_none]
  constructor
  · rintro ⟨h0, h1, h2, h3, h4, h5, h6, h7, h8, h9, h10, h11, h12, h13, h14⟩ j hj
    obtain rfl | rfl | rfl | rfl | rfl | rfl | rfl | rfl | rfl | rfl | rfl | rfl | rfl | rfl | rfl : j = 0 ∨ j = 1 ∨ j = 2 ∨ j = 3 ∨ j = 4 ∨ j = 5 ∨ j = 6 ∨ j = 7 ∨ j = 8 ∨ j = 9 ∨ j = 10 ∨ j = 11 ∨ j = 12 ∨ j = 13 ∨ j = 14 := by omega
    all_goals assumption
  · intro h
    exact ⟨h 0 (by omega), h 1 (by omega), h 2 (by omega), h 3 (by omega), h 4 (by omega), h 5 (by omega), h 6 (by omega), h 7 (by omega), h 8 (by omega), h 9 (by omega), h 10 (by omega), h 11 (by omega), h 12 (by omega), h 13 (by omega), h 14 (by omega)⟩

/-- What treeOf gives. -/
def OfPost (g : Nat → Nd) (n : Nat) (f : Int) (w : World) (e : Ending) (w' : World) : Prop :=
  ∃ q, e = .returned (.pointer q) ∧ Below w.heap.size w w' ∧ (treeB g n f = true → ∃ P, q = some ⟨P 0, 0, none⟩ ∧ Twigs w' g n 0 P) ∧ (treeB g n f = false → q = none)
theorem OfPost.bad {g : Nat → Nd} {n : Nat} {f : Int} {w w' : World} (hb : Below w.heap.size w w') (ht : treeB g n f = false) : OfPost g n f w (.returned (.pointer none)) w' :=
  ⟨none, rfl, hb, (fun h => by rw [ht] at h; cases h), fun _ => rfl⟩
theorem not_tree {g : Nat → Nd} {n k : Nat} {f : Int} (hk : k < n) (h : ¬ Step g n f k) : treeB g n f = false := by
  cases ht : treeB g n f with
  | false => rfl
  | true => exact absurd ((tree_built ((treeB_iff g n f).1 ht)).2.2.1 k hk) h

theorem treeOf_out (A : Option Addr) (n cap : Nat) (g : Nat → Nd) (f : Int) (w : World) (hn : n ≤ 4194304) (ho : f < 1 ∨ 6 < f ∨ n < 1 ∨ 15 < n) :
    Calls Try.prog 103 #[.slice A n cap, .int .i64 f] w (OfPost g n f w) := by
  have ht : treeB g n f = false := by
    cases h : treeB g n f with
    | false => rfl
    | true => have := (treeB_iff g n f).1 h; unfold Tree at this; omega
  have HT := hid ht
  clear ht
  by_cases h1 : f < 1
  · clear ho
    go_enter Try.func103, Try.ntmps103
    go_wp2_with fail
    go_ret
    exact OfPost.bad (Below.refl _ _) HT.out
  by_cases h2 : 6 < f
  · clear ho
    go_enter Try.func103, Try.ntmps103
    go_wp2_with fail
    go_ret
    exact OfPost.bad (Below.refl _ _) HT.out
  by_cases h3 : (n : Int) < 1
  · clear ho
    go_enter Try.func103, Try.ntmps103
    go_wp2_with fail
    go_ret
    exact OfPost.bad (Below.refl _ _) HT.out
  · have h4 : (15 : Int) < (n : Int) := by omega
    clear ho
    go_enter Try.func103, Try.ntmps103
    go_wp2_with fail
    go_ret
    exact OfPost.bad (Below.refl _ _) HT.out

theorem rest_new (w : World) (g : Nat → Nd) (n : Nat) (P : Nat → Nat) : Rest (w.alloc (.cells #[.pointer none, .pointer none, .pointer none, .pointer none, .pointer none, .pointer none, .pointer none, .pointer none, .pointer none, .pointer none, .pointer none, .pointer none, .pointer none, .pointer none, .pointer none] 184)) w.heap.size (restC g n n P) := by
  refine ⟨_, Blk.new w _ _, rfl, fun j hj => ?_⟩
  rw [restC_no (hd_end g n j)]
  obtain rfl | rfl | rfl | rfl | rfl | rfl | rfl | rfl | rfl | rfl | rfl | rfl | rfl | rfl | rfl : j = 0 ∨ j = 1 ∨ j = 2 ∨ j = 3 ∨ j = 4 ∨ j = 5 ∨ j = 6 ∨ j = 7 ∨ j = 8 ∨ j = 9 ∨ j = 10 ∨ j = 11 ∨ j = 12 ∨ j = 13 ∨ j = 14 := by omega
  all_goals rfl

end Go.Proofs.Ytmpgefpaoogoiaa
