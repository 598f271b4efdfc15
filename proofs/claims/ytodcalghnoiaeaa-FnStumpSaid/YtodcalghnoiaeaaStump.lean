/- A split with two leaves, with no program in sight. -/
import Derived.Test.YtodcalghnoiaeaaTreeC
import Derived.Test.YtodcalghnoiaeaaTreeK
namespace Go.Proofs.Ytodcalghnoiaeaa

def stump (c : Int) (m : Bool) : Nat → Nd
  | 0 => ⟨0, c, 1, 2, m, 0⟩
  | 1 => ⟨0, 0, 0, 0, false, 3⟩
  | _ => ⟨0, 0, 0, 0, false, 4⟩

theorem stump_tree {c : Int} {m : Bool} {f : Nat} (h1 : 1 ≤ f) (h6 : f ≤ 6) (hc0 : -12 ≤ c) (hc1 : c ≤ 11) : treeB (stump c m) 3 f = true := by
  simp [treeB, okTo, nodeB, stump, lfB, abv, cnt, par]
  omega

theorem stump_nxt (c : Int) (m : Bool) (z : Nat → Int) : nxt (stump c m) z 0 = if z 0 = 9999999 then (if m = true then 1 else 2) else (if z 0 ≤ c then 1 else 2) := by
  have e0 : stump c m 0 = ⟨0, c, 1, 2, m, 0⟩ := rfl
  unfold nxt
  rw [e0]
  by_cases e : z 0 = 9999999
  · cases m <;> simp [goL, e]
  · simp [goL, e]

theorem stump_ends {c : Int} {m : Bool} {z : Nat → Int} {T : Nat} (h : Ends (stump c m) z T) : T = 1 := by
  refine h.same ⟨fun t ht => ?_, ?_⟩
  · obtain rfl : t = 0 := by omega
    simp [itr, stump]
  · have e : itr (stump c m) z 1 = nxt (stump c m) z 0 := rfl
    rw [e, stump_nxt]
    by_cases h9 : z 0 = 9999999
    · rw [if_pos h9]
      cases m <;> rfl
    · rw [if_neg h9]
      split <;> rfl

theorem stump_at (c : Int) (m : Bool) (z : Nat → Int) : seqZ (stump c m) z 1 = if z 0 = 9999999 then (if m = true then 1 else 2) else (if z 0 ≤ c then 1 else 2) := by
  have e : seqZ (stump c m) z 1 = (nxt (stump c m) z 0 : Nat) := rfl
  rw [e, stump_nxt]
  by_cases h9 : z 0 = 9999999
  · rw [if_pos h9, if_pos h9]
    cases m <;> rfl
  · rw [if_neg h9, if_neg h9]
    split <;> rfl
end Go.Proofs.Ytodcalghnoiaeaa
