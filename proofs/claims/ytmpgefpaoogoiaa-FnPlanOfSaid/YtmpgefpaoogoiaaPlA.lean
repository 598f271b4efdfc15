/- Plain mathematics of plans: orders, ends, tables of what remains. -/
import Derived.Test.YtmpgefpaoogoiaaPure
import Derived.Test.YtmpgefpaoogoiaaWords
namespace Go.Proofs.Ytmpgefpaoogoiaa
open Go.RowKit

/-- Is the number i among the first k of o? -/
def hitB (o : Nat → Int) (i : Int) : Nat → Bool
  | 0 => false
  | k + 1 => hitB o i k || (o k == i)
/-- Are the first k numbers of an order indexes of n trees, each another one? -/
def ordO (o : Nat → Int) (n : Nat) : Nat → Bool
  | 0 => true
  | k + 1 => ordO o n k && ((decide (0 ≤ o k) && decide (o k < (n : Int))) && !hitB o (o k) k)
/-- The last of the first k ends. -/
def lastE (e : Nat → Int) : Nat → Int
  | 0 => 0
  | k + 1 => e k
/-- Do the first k ends increase from 0 on? -/
def incE (e : Nat → Int) : Nat → Bool
  | 0 => true
  | k + 1 => incE e k && decide (lastE e k < e k)
def endsB (e : Nat → Int) (ne : Nat) (n : Nat) : Bool := incE e ne && decide (lastE e ne = (n : Int))
/-- The sum of the k numbers from i on. -/
def sufS (v : Nat → Int) : Nat → Nat → Int
  | 0, _ => 0
  | k + 1, i => v i + sufS v k (i + 1)
/-- What remains from each place on. -/
def tabF (v : Nat → Int) (n : Nat) : Nat → Int := fun i => sufS v (n - i) i
def sameB (n n' : Nat) (z y : Nat → Int) : Bool := decide (n = n') && eqTo z y n

theorem hitB_iff {o : Nat → Int} {i : Int} : ∀ {k : Nat}, hitB o i k = true ↔ ∃ j, j < k ∧ o j = i := by
  intro k
  induction k with
  | zero => simp [hitB]
  | succ k ih =>
    simp only [hitB, Bool.or_eq_true, ih, beq_iff_eq]
    constructor
    · rintro (⟨j, hj, e⟩ | e)
      · exact ⟨j, by omega, e⟩
      · exact ⟨k, by omega, e⟩
    · rintro ⟨j, hj, e⟩
      rcases Nat.lt_succ_iff_lt_or_eq.1 hj with h | h
      · exact .inl ⟨j, h, e⟩
      · subst h; exact .inr e
theorem ordO_iff {o : Nat → Int} {n : Nat} : ∀ {k : Nat}, ordO o n k = true ↔ ∀ i, i < k → (0 ≤ o i ∧ o i < (n : Int)) ∧ ∀ j, j < i → o j ≠ o i := by
  intro k
  induction k with
  | zero => simp [ordO]
  | succ k ih =>
    simp only [ordO, Bool.and_eq_true, ih, decide_eq_true_eq, Bool.not_eq_true', Bool.eq_false_iff]
    constructor
    · rintro ⟨h, ⟨h1, h2⟩, h3⟩ i hi
      rcases Nat.lt_succ_iff_lt_or_eq.1 hi with hlt | rfl
      · exact h i hlt
      · exact ⟨⟨h1, h2⟩, fun j hj e => h3 (hitB_iff.2 ⟨j, hj, e⟩)⟩
    · intro h
      refine ⟨fun i hi => h i (by omega), (h k (by omega)).1, fun hh => ?_⟩
      obtain ⟨j, hj, e⟩ := hitB_iff.1 hh
      exact (h k (by omega)).2 j hj e
theorem ordO_false {o : Nat → Int} {n k m : Nat} (hk : k < m) (h : ((decide (0 ≤ o k) && decide (o k < (n : Int))) && !hitB o (o k) k) = false) : ordO o n m = false := by
  induction m with
  | zero => omega
  | succ m ih =>
    simp only [ordO]
    by_cases e : k = m
    · subst e; rw [h, Bool.and_false]
    · rw [ih (by omega), Bool.false_and]
theorem incE_iff {e : Nat → Int} : ∀ {k : Nat}, incE e k = true ↔ ∀ i, i < k → lastE e i < e i := by
  intro k
  induction k with
  | zero => simp [incE]
  | succ k ih =>
    simp only [incE, Bool.and_eq_true, ih, decide_eq_true_eq]
    constructor
    · rintro ⟨h, h1⟩ i hi
      rcases Nat.lt_succ_iff_lt_or_eq.1 hi with hlt | rfl
      · exact h i hlt
      · exact h1
    · intro h; exact ⟨fun i hi => h i (by omega), h k (by omega)⟩
theorem incE_false {e : Nat → Int} {k m : Nat} (hk : k < m) (h : ¬ lastE e k < e k) : incE e m = false := by
  rw [Bool.eq_false_iff]
  intro hh
  exact h (incE_iff.1 hh k hk)
theorem incE_le {e : Nat → Int} : ∀ {k : Nat}, incE e k = true → (k : Int) ≤ lastE e k := by
  intro k
  induction k with
  | zero => intro _; simp [lastE]
  | succ k ih =>
    intro h
    simp only [incE, Bool.and_eq_true, decide_eq_true_eq] at h
    have := ih h.1
    simp only [lastE]
    omega
theorem endsB_le {e : Nat → Int} {ne n : Nat} (h : endsB e ne n = true) : ne ≤ n := by
  simp only [endsB, Bool.and_eq_true, decide_eq_true_eq] at h
  have := incE_le h.1
  omega
theorem endsB_inc {e : Nat → Int} {ne n : Nat} (h : incE e ne = false) : endsB e ne n = false := by unfold endsB; rw [h, Bool.false_and]
theorem tabF_end (v : Nat → Int) (n : Nat) : tabF v n n = 0 := by unfold tabF; rw [Nat.sub_self]; rfl
theorem tabF_step (v : Nat → Int) {n i : Nat} (h : i < n) : tabF v n i = tabF v n (i + 1) + v i := by
  unfold tabF
  obtain ⟨k, hk⟩ : ∃ k, n - i = k + 1 := ⟨n - i - 1, by omega⟩
  have e : n - (i + 1) = k := by omega
  rw [hk, e]
  simp only [sufS]
  omega
theorem tabF_bound {v : Nat → Int} {n : Nat} (h : ∀ i, i < n → -1000000000 ≤ v i ∧ v i ≤ 1000000000) : ∀ k i, i + k = n → -1000000000 * (k : Int) ≤ tabF v n i ∧ tabF v n i ≤ 1000000000 * (k : Int) := by
  intro k
  induction k with
  | zero =>
    intro i e
    obtain rfl : i = n := by omega
    rw [tabF_end]; omega
  | succ k ih =>
    intro i e
    have h1 := ih (i + 1) (by omega)
    have h2 := h i (by omega)
    rw [tabF_step v (by omega)]
    omega
theorem tabF_congr {v v' : Nat → Int} {n : Nat} (h : ∀ i, i < n → v i = v' i) : ∀ k i, i + k = n → tabF v n i = tabF v' n i := by
  intro k
  induction k with
  | zero =>
    intro i e
    obtain rfl : i = n := by omega
    rw [tabF_end, tabF_end]
  | succ k ih =>
    intro i e
    rw [tabF_step v (by omega), tabF_step v' (by omega), ih (i + 1) (by omega), h i (by omega)]
theorem sameB_iff {n n' : Nat} {z y : Nat → Int} : sameB n n' z y = true ↔ n = n' ∧ ∀ k, k < n → z k = y k := by
  simp only [sameB, Bool.and_eq_true, decide_eq_true_eq, eqTo_iff]
theorem eqTo_false {z y : Nat → Int} {k m : Nat} (hk : k < m) (h : ¬ z k = y k) : eqTo z y m = false := by
  rw [Bool.eq_false_iff]
  intro hh
  exact h (eqTo_iff.1 hh k hk)
theorem sameB_comm (n n' : Nat) (z y : Nat → Int) : sameB n n' z y = sameB n' n y z := by
  rw [Bool.eq_iff_iff, sameB_iff, sameB_iff]
  constructor
  · rintro ⟨rfl, h⟩; exact ⟨rfl, fun k hk => (h k hk).symm⟩
  · rintro ⟨rfl, h⟩; exact ⟨rfl, fun k hk => (h k hk).symm⟩
end Go.Proofs.Ytmpgefpaoogoiaa
