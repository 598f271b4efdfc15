/- The walk of the law of trees for more features. -/
import Derived.Test.YtnhbgagdppbldaaDrawG
namespace Go.Proofs.Ytnhbgagdppbldaa
open Go.RowKit Go.Deep

theorem tree_more {g : Nat → Nd} {n : Nat} {f i : Int} (h : treeB g n f = true) (h1 : f ≤ i) (h6 : i ≤ 6) : treeB g n i = true := by
  rw [treeB_iff] at h ⊢
  obtain ⟨⟨hf1, _⟩, hn, ha⟩ := h
  refine ⟨⟨by omega, h6⟩, hn, fun k hk => ⟨?_, (ha k hk).2⟩⟩
  have := (ha k hk).1
  unfold Node at this ⊢
  split
  · rename_i e; rw [if_pos e] at this; exact this
  · rename_i e
    rw [if_neg e] at this
    refine ⟨?_, this.2⟩
    have hs := this.1
    simp only [spB, Bool.and_eq_true, decide_eq_true_eq] at hs ⊢
    exact ⟨⟨⟨hs.1.1.1, by omega⟩, hs.1.2⟩, hs.2⟩
theorem tree_less {g : Nat → Nd} {k : Nat} {f : Int} (h : treeB g (k + 1) f = true) : treeB g k f = false := by
  cases e : treeB g k f with
  | false => rfl
  | true =>
    rw [treeB_iff] at h e
    exfalso
    obtain ⟨_, ⟨hk1, _⟩, ha⟩ := e
    have hc := (h.2.2 k (by omega)).2 (by omega)
    have hz : cnt (fun j => par (g j) k) k = 0 := cnt_zero _ k fun j hj => by
      have hn := (ha j hj).1
      unfold Node at hn
      unfold par
      split at hn
      · rename_i e0; rw [e0]; rfl
      · obtain ⟨_, ⟨_, hl⟩, ⟨_, hr⟩, _⟩ := hn
        split
        · rw [if_neg (by omega), if_neg (by omega)]
        · rfl
    omega
theorem tree_seven {g : Nat → Nd} {n : Nat} : treeB g n 7 = false := by simp [treeB]

end Go.Proofs.Ytnhbgagdppbldaa
