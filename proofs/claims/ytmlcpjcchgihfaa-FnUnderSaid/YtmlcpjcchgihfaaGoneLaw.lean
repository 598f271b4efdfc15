/- The walk of the law of what is Missing in drawn documents. -/
import Derived.Test.YtmlcpjcchgihfaaCodes
namespace Go.Proofs.Ytmlcpjcchgihfaa
open Go.RowKit Go.Deep

theorem goneTo_upd_out {z : Nat → Int} {i : Nat} {x : Int} : ∀ k, k ≤ i → goneTo (upd z i x) k = goneTo z k := by
  intro k
  induction k with
  | zero => intro _; rfl
  | succ k ih =>
    intro hk
    simp only [goneTo, ih (by omega)]
    have : upd z i x k = z k := by unfold upd; rw [if_neg (by omega)]
    rw [this]
theorem goneTo_upd {z : Nat → Int} {i : Nat} : ∀ k, i < k → (goneTo (upd z i 9999999) k : Int) = goneTo z k + (if z i = 9999999 then 0 else 1) := by
  intro k
  induction k with
  | zero => intro h; omega
  | succ k ih =>
    intro hk
    by_cases e : i = k
    · subst e
      have h1 : upd z i 9999999 i = 9999999 := by unfold upd; rw [if_pos rfl]
      simp only [goneTo, goneTo_upd_out i (Nat.le_refl _), h1]
      by_cases e9 : z i = 9999999 <;> simp [e9]
    · have h1 : upd z i 9999999 k = z k := by unfold upd; rw [if_neg (by omega)]
      have := ih (by omega)
      simp only [goneTo, h1]
      push_cast
      rw [this]
      split <;> split <;> omega

theorem docB_upd {n i : Nat} {z : Nat → Int} {x : Int} (hd : docB n z = true) (hx : may x = true) : docB n (upd z i x) = true := by
  obtain ⟨h1, h2, h3⟩ := docB_true hd
  simp only [docB, Bool.and_eq_true, decide_eq_true_eq]
  refine ⟨⟨h1, h2⟩, allTo_of fun k hk => ?_⟩
  unfold upd
  split
  · exact hx
  · exact h3 k hk

end Go.Proofs.Ytmlcpjcchgihfaa
