/- Depth and paths, with no program in sight. -/
import Derived.Test.YtmlcpjcchgihfaaTreeC
import Derived.Test.YtmlcpjcchgihfaaPath
import Derived.Test.YtmlcpjcchgihfaaPureB
namespace Go.Proofs.Ytmlcpjcchgihfaa

theorem dep_nonneg (g : Nat → Nd) : ∀ f i, 0 ≤ dep g f i := by
  intro f
  induction f with
  | zero => intro i; exact Int.le_refl _
  | succ f ih =>
    intro i
    simp only [dep]
    split
    · exact Int.le_refl _
    · have := ih (g i).left.toNat; omega
theorem dep_lt {g : Nat → Nd} {n : Nat} (hu : Up g n) : ∀ f i, i < n → dep g f i < (n : Int) - i := by
  intro f
  induction f with
  | zero => intro i hi; simp only [dep]; omega
  | succ f ih =>
    intro i hi
    simp only [dep]
    split
    · omega
    · rename_i h0
      obtain ⟨a, b, c, d⟩ := hu i hi h0
      have h1 := ih (g i).left.toNat (by omega)
      have h2 := ih (g i).right.toNat (by omega)
      omega
theorem path_dep {g : Nat → Nd} {z : Nat → Int} {T : Nat} (hE : Ends g z T) : ∀ k s f, s + k = T → k ≤ f → (k : Int) ≤ dep g f (itr g z s) := by
  intro k
  induction k with
  | zero => intro s f _ _; exact dep_nonneg g f _
  | succ k ih =>
    intro s f hs hf
    cases f with
    | zero => omega
    | succ f =>
      have hl := hE.1 s (by omega)
      have hn := ih (s + 1) f (by omega) (by omega)
      simp only [dep, if_neg hl]
      simp only [itr, nxt] at hn
      split at hn <;> omega
theorem dep_step {g : Nat → Nd} {f i : Nat} (hl : (g i).left ≠ 0) : dep g (f + 1) i = 1 + max (dep g f (g i).left.toNat) (dep g f (g i).right.toNat) := by
  simp only [dep, if_neg hl]
theorem dep_zero {g : Nat → Nd} {n : Nat} {f : Int} (h : treeB g n f = true) : (dep g 15 0 = 0) ↔ n = 1 := by
  rw [treeB_iff] at h
  have hu := h.up
  have hn := h.2.1.1
  constructor
  · intro h0
    rcases Nat.lt_or_ge 1 n with h1 | h1
    · exfalso
      have hc := (h.2.2 1 h1).2 (by omega)
      simp only [cnt] at hc
      have hl : (g 0).left ≠ 0 := by
        intro e
        unfold par at hc
        rw [e] at hc
        simp at hc
      rw [dep_step hl] at h0
      have := dep_nonneg g 14 (g 0).left.toNat
      omega
    · omega
  · intro e
    subst e
    have := dep_lt hu 15 0 (by omega)
    have := dep_nonneg g 15 0
    omega
end Go.Proofs.Ytmlcpjcchgihfaa
