/- Weights of trees, on both sides. -/
import Derived.Test.YtmpgefpaoogoiaaTreeI
namespace Go.Proofs.Ytmpgefpaoogoiaa
open Go.RowKit Go.Deep

theorem lo_boundO {g : Nat → Nd} {n : Nat} {f : Int} (h : treeB g n f = true) : -1000000000 ≤ loTo g n ∧ loTo g n ≤ 1000000000 := by
  have hT := (treeB_iff g n f).1 h
  rcases loTo_at g n with e | ⟨j, hj, hl, e⟩
  · omega
  · have := hT.leaf hj hl; omega
theorem hi_boundO {g : Nat → Nd} {n : Nat} {f : Int} (h : treeB g n f = true) : -1000000000 ≤ hiTo g n ∧ hiTo g n ≤ 1000000000 := by
  have hT := (treeB_iff g n f).1 h
  rcases hiTo_at g n with e | ⟨j, hj, hl, e⟩
  · omega
  · have := hT.leaf hj hl; omega
theorem tree_moreO {g : Nat → Nd} {n : Nat} {f i : Int} (h : treeB g n f = true) (h1 : f ≤ i) (h6 : i ≤ 6) : treeB g n i = true := by
  rw [treeB_iff] at h ⊢
  obtain ⟨⟨hf1, _⟩, hn, ha⟩ := h
  refine ⟨⟨by omega, h6⟩, hn, fun k hk => ⟨?_, (ha k hk).2⟩⟩
  have := (ha k hk).1
  unfold Node at this ⊢
  split
  · rename_i e; rw [if_pos e] at this; exact this
  · rename_i e
    rw [if_neg e] at this
    refine ⟨?_, this.2⟩
    have hs := this.1
    simp only [spB, Bool.and_eq_true, decide_eq_true_eq] at hs ⊢
    exact ⟨⟨⟨hs.1.1.1, by omega⟩, hs.1.2⟩, hs.2⟩
/-- The number by which a policy sorts a tree. -/
def wtN (pol : Int) (g : Nat → Nd) (n : Nat) : Int := if pol = 2 then loTo g n - hiTo g n else if pol = 3 then dep g 15 0 else 0
theorem wtN_bd (pol : Int) {g : Nat → Nd} {n : Nat} {f : Int} (h : treeB g n f = true) : -2000000000 ≤ wtN pol g n ∧ wtN pol g n ≤ 2000000000 := by
  have h1 := lo_boundO h
  have h2 := hi_boundO h
  have h3 := dep_bd g 15 0
  unfold wtN
  split
  · omega
  · split <;> omega

set_option maxRecDepth 100000 in
set_option maxHeartbeats 1000000 in
theorem weightOf_any (pol : Int) (A : Option Addr) (n cap : Nat) (g : Nat → Nd) (w : World) (h : RdN w w.heap.size A n g) (hn : n ≤ 4194304) (ht : treeB g n 6 = true) :
    Calls Try.prog 77 #[.slice A n cap, .int .i64 pol] w fun e w' => e = .returned (.int .i64 (wtN pol g n)) ∧ Below w.heap.size w w' := by
  have h1 := lo_boundO ht
  have h2 := hi_boundO ht
  have HT := hid ht
  clear ht
  by_cases p2 : pol = 2
  · subst p2
    go_enter Try.func77, Try.ntmps77
    go_wp2_with fail
    refine (iRange_yes A n cap g _ h hn HT.out).mono ?_
    rintro e w1 ⟨rfl, hb⟩
    go_wp2_with fail
    go_ret
    exact ⟨rfl, hb⟩
  · by_cases p3 : pol = 3
    · subst p3
      go_enter Try.func77, Try.ntmps77
      go_wp2_with fail
      refine (iDepth_yes A n cap g _ h hn HT.out).mono ?_
      rintro e w1 ⟨rfl, hb⟩
      go_wp2_with fail
      go_ret
      exact ⟨rfl, hb⟩
    · have e0 : wtN pol g n = 0 := by unfold wtN; rw [if_neg p2, if_neg p3]
      rw [e0]
      have q2 : (pol == 2) = false := by simpa using p2
      have q3 : (pol == 3) = false := by simpa using p3
      clear p2 p3 e0
      go_enter Try.func77, Try.ntmps77
      go_wp2_with fail
      go_ret
      exact ⟨rfl, Below.refl _ _⟩

set_option maxRecDepth 100000 in
set_option maxHeartbeats 1000000 in
theorem rank_any (pol : Int) (A : Option Addr) (n cap : Nat) (g : Nat → Nd) (w : World) (h : RdN w w.heap.size A n g) (hn : n ≤ 4194304) (ht : treeB g n 6 = true) :
    Calls Try.prog 76 #[.slice A n cap, .int .i64 pol] w fun e w' => e = .returned (.int .i64 (wtN pol g n)) ∧ ∃ m, w' = w.drewN m := by
  have h1 := lo_boundO ht
  have h2 := hi_boundO ht
  have hT := (treeB_iff g n 6).1 ht
  have hn15 := hT.2.1
  have HU := hid hT.up
  clear ht hT
  by_cases p2 : pol = 2
  · subst p2
    go_enter Try.func76, Try.ntmps76
    go_wp2_with fail
    refine (l2Range_any A n cap g _ h hn).mono ?_
    rintro e w1 ⟨rfl, rfl⟩
    go_wp2_with fail
    go_ret
    exact ⟨rfl, 0, rfl⟩
  · by_cases p3 : pol = 3
    · subst p3
      go_enter Try.func76, Try.ntmps76
      go_wp2_with fail
      refine (l2Depth_any A n cap g HU.out hn15.2 15 0 _ (by omega) (by omega) (by omega) h).mono ?_
      rintro e w1 ⟨rfl, m, rfl⟩
      go_wp2_with fail
      go_ret
      exact ⟨rfl, m, rfl⟩
    · have e0 : wtN pol g n = 0 := by unfold wtN; rw [if_neg p2, if_neg p3]
      rw [e0]
      have q2 : (pol == 2) = false := by simpa using p2
      have q3 : (pol == 3) = false := by simpa using p3
      clear p2 p3 e0
      go_enter Try.func76, Try.ntmps76
      go_wp2_with fail
      go_ret
      exact ⟨rfl, 0, rfl⟩
end Go.Proofs.Ytmpgefpaoogoiaa
