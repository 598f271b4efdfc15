/- The first stage at which what is known is enough: one place, said in two ways. -/
import Derived.Test.YtlgomifpohdniaaGreatStO
namespace Go.Proofs.YtlgomifpohdniaaGreat
open Go.RowKit
set_option linter.unusedVariables false

def stN (z2 : Nat → Int) (n2 k : Nat) : Bool := (k == 0) || hasN z2 n2 ((k : Nat) : Int)
/-- k is the first stage at which it is enough. -/
def ClAt (z2 : Nat → Int) (n2 n : Nat) (en : Nat → Bool) (k : Nat) : Prop := k ≤ n ∧ stN z2 n2 k = true ∧ en k = true ∧ ∀ j, j < k → stN z2 n2 j = true → en j = false
theorem ClAt.same {z2 : Nat → Int} {n2 n k k' : Nat} {en : Nat → Bool} (h : ClAt z2 n2 n en k) (h' : ClAt z2 n2 n en k') : k = k' := by
  rcases Nat.lt_trichotomy k k' with q | q | q
  · have := h'.2.2.2 k q h.2.1
    rw [h.2.2.1] at this
    cases this
  · exact q
  · have := h.2.2.2 k' q h'.2.1
    rw [h'.2.2.1] at this
    cases this
theorem inc_lt {e : Nat → Int} : ∀ ne, incE e ne = true → ∀ i, i < ne → lastE e i < e i := by
  intro ne
  induction ne with
  | zero => intro _ i h; omega
  | succ ne ih =>
    intro h i hi
    rw [incE, Bool.and_eq_true] at h
    by_cases q : i = ne
    · rw [q]; exact of_decide_eq_true h.2
    · exact ih h.1 i (by omega)
theorem last_lt {e : Nat → Int} {ne : Nat} (h : incE e ne = true) {i : Nat} : ∀ j, i < j → j ≤ ne → lastE e i < lastE e j := by
  intro j
  induction j with
  | zero => intro q; omega
  | succ j ih =>
    intro q hj
    have h1 := inc_lt ne h j (by omega)
    have e1 : lastE e (j + 1) = e j := rfl
    rw [e1]
    by_cases q' : i = j
    · rw [q']; exact h1
    · have := ih (by omega) (by omega); omega
theorem last_ge {e : Nat → Int} {ne : Nat} (h : incE e ne = true) : ∀ i, i ≤ ne → (i : Int) ≤ lastE e i := by
  intro i
  induction i with
  | zero => intro _; exact Int.le_refl _
  | succ i ih =>
    intro hi
    have := last_lt h (i + 1) (Nat.lt_succ_self i) hi
    have := ih (by omega)
    omega
structure EndsAt (z2 : Nat → Int) (n2 n : Nat) : Prop where
  inc : incE z2 n2 = true
  last : lastE z2 n2 = (n : Int)
theorem endsAt_of {z2 : Nat → Int} {n2 n : Nat} (h : endsB z2 n2 n = true) : EndsAt z2 n2 n := by
  unfold endsB at h
  rw [Bool.and_eq_true, decide_eq_true_eq] at h
  exact ⟨h.1, h.2⟩
theorem EndsAt.le {z2 : Nat → Int} {n2 n i : Nat} (h : EndsAt z2 n2 n) (hi : i ≤ n2) : 0 ≤ lastE z2 i ∧ lastE z2 i ≤ (n : Int) := by
  have h1 := last_ge h.inc i hi
  refine ⟨by omega, ?_⟩
  by_cases q : i = n2
  · rw [q, h.last]; exact Int.le_refl _
  · have := last_lt h.inc n2 (by omega : i < n2) (Nat.le_refl _)
    rw [h.last] at this
    omega
theorem EndsAt.len {z2 : Nat → Int} {n2 n : Nat} (h : EndsAt z2 n2 n) : n2 ≤ n := by
  have := last_ge h.inc n2 (Nat.le_refl _)
  rw [h.last] at this
  omega
theorem EndsAt.st {z2 : Nat → Int} {n2 n k : Nat} (h : EndsAt z2 n2 n) : stN z2 n2 k = true ↔ ∃ i, i ≤ n2 ∧ lastE z2 i = (k : Int) := by
  unfold stN
  rw [Bool.or_eq_true, hasN_iff, beq_iff_eq]
  constructor
  · rintro (rfl | ⟨i, hi, e⟩)
    · exact ⟨0, Nat.zero_le _, rfl⟩
    · exact ⟨i + 1, hi, e⟩
  · rintro ⟨i, hi, e⟩
    cases i with
    | zero => left; have e' : (0 : Int) = (k : Int) := e; omega
    | succ i => exact .inr ⟨i, by omega, e⟩
theorem cl_of_until {z2 : Nat → Int} {n2 n k : Nat} {en : Nat → Bool} (h : UntilAt (n + 1) z2 n2 en k) (hE : EndsAt z2 n2 n) (hN : en n = true) : ClAt z2 n2 n en k := by
  obtain ⟨hk, hs, hl, hx⟩ := h
  have hst : ∀ j (q : j < n + 1), stp z2 n2 (⟨j, q⟩ : Ix (n + 1)) = stN z2 n2 j := fun j q => rfl
  refine ⟨by omega, (hst k hk).symm.trans hs, ?_, fun j hj hs' => hl ⟨j, by omega⟩ hj ((hst j (by omega)).trans hs')⟩
  rcases hx with hx | hx
  · exact hx
  · have hn : stN z2 n2 n = true := hE.st.2 ⟨n2, Nat.le_refl _, hE.last⟩
    have := hx ⟨n, Nat.lt_succ_self n⟩ hn
    have : k = n := by have h1 : n ≤ k := this; omega
    rw [this]
    exact hN
theorem cl_of_ends {z2 : Nat → Int} {n2 n i k : Nat} {en : Nat → Bool} (hE : EndsAt z2 n2 n) (hi : i ≤ n2) (hk : lastE z2 i = (k : Int)) (he : en k = true) (hl : ∀ j, j < i → en (lastE z2 j).toNat = false) : ClAt z2 n2 n en k := by
  have hb := hE.le hi
  refine ⟨by omega, hE.st.2 ⟨i, hi, hk⟩, he, fun j hj hs => ?_⟩
  obtain ⟨i', hi', e'⟩ := hE.st.1 hs
  have hii : i' < i := by
    rcases Nat.lt_trichotomy i' i with q | q | q
    · exact q
    · rw [q, hk] at e'; omega
    · have := last_lt hE.inc i' q hi'
      omega
  have := hl i' hii
  rw [e'] at this
  exact this
end Go.Proofs.YtlgomifpohdniaaGreat
