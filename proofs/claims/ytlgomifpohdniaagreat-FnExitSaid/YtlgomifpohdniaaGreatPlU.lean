/- What a right plan says of its tables; a sum does not hang on the order in which it is taken. -/
import Derived.Test.YtlgomifpohdniaaGreatPlK
import Derived.Test.YtlgomifpohdniaaGreatK9
namespace Go.Proofs.YtlgomifpohdniaaGreat
open Go.RowKit Go.Deep
set_option linter.unusedVariables false
set_option linter.unusedSimpArgs false

def sumO (v : Nat → Int) (o : Nat → Nat) : Nat → Int
  | 0 => 0
  | k + 1 => sumO v o k + v (o k)
def hitNat (o : Nat → Nat) (c : Nat) : Nat → Bool
  | 0 => false
  | k + 1 => hitNat o c k || (o k == c)
theorem hitNat_iff {o : Nat → Nat} {c : Nat} : ∀ {k : Nat}, hitNat o c k = true ↔ ∃ j, j < k ∧ o j = c := by
  intro k
  induction k with
  | zero => simp [hitNat]
  | succ k ih =>
    simp only [hitNat, Bool.or_eq_true, ih, beq_iff_eq]
    constructor
    · rintro (⟨j, hj, e⟩ | e)
      · exact ⟨j, by omega, e⟩
      · exact ⟨k, by omega, e⟩
    · rintro ⟨j, hj, e⟩
      rcases Nat.lt_succ_iff_lt_or_eq.1 hj with h | h
      · exact .inl ⟨j, h, e⟩
      · subst h; exact .inr e
theorem sumO_eq {v u : Nat → Int} {o p : Nat → Nat} : ∀ k, (∀ i, i < k → v (o i) = u (p i)) → sumO v o k = sumO u p k := by
  intro k
  induction k with
  | zero => intro _; rfl
  | succ k ih => intro h; simp only [sumO]; rw [ih fun i hi => h i (by omega), h k (by omega)]
theorem sumO_put {v : Nat → Int} {o : Nat → Nat} {c a : Nat} : ∀ m, (∀ i j, i < m → j < m → i ≠ j → o i ≠ o j) → sumO v (fun i => if o i = c then a else o i) m = sumO v o m + if hitNat o c m = true then v a - v c else 0 := by
  intro m
  induction m with
  | zero => intro _; simp [sumO, hitNat]
  | succ m ih =>
    intro h
    have ih := ih fun i j hi hj => h i j (by omega) (by omega)
    simp only [sumO, ih]
    by_cases e : o m = c
    · have hn : hitNat o c m = false := by
        cases hh : hitNat o c m with
        | false => rfl
        | true =>
          obtain ⟨j, hj, ej⟩ := hitNat_iff.1 hh
          exact absurd (ej.trans e.symm) (h j m (by omega) (by omega) (by omega))
      have ht : hitNat o c (m + 1) = true := hitNat_iff.2 ⟨m, by omega, e⟩
      rw [hn, ht, if_pos e, e]
      simp
      omega
    · have ht : hitNat o c (m + 1) = hitNat o c m := by
        have : (o m == c) = false := by simp [e]
        simp [hitNat, this]
      rw [ht, if_neg e]
      omega
theorem sumO_zero {v : Nat → Int} {o : Nat → Nat} : ∀ k, (∀ i, i < k → v (o i) = 0) → sumO v o k = 0 := by
  intro k
  induction k with
  | zero => intro _; rfl
  | succ k ih => intro h; simp only [sumO]; rw [ih fun i hi => h i (by omega), h k (by omega)]; rfl
theorem sumT_one {c : Nat} : ∀ k, sumT (fun x => if x = c then (1 : Int) else 0) k = if c < k then 1 else 0 := by
  intro k
  induction k with
  | zero => simp [sumT]
  | succ k ih =>
    simp only [sumT, ih]
    by_cases e : k = c
    · subst e; simp
    · rw [if_neg e]
      by_cases h : c < k
      · rw [if_pos h, if_pos (by omega)]; rfl
      · rw [if_neg h, if_neg (by omega)]; rfl
theorem sum_perm : ∀ (k : Nat) (v : Nat → Int) (o : Nat → Nat), (∀ i, i < k → o i < k) → (∀ i j, i < k → j < k → i ≠ j → o i ≠ o j) → sumO v o k = sumT v k := by
  intro k
  induction k with
  | zero => intro v o _ _; rfl
  | succ k ih =>
    intro v o hlt hin
    have hin' : ∀ i j, i < k → j < k → i ≠ j → o i ≠ o j := fun i j hi hj => hin i j (by omega) (by omega)
    by_cases e : o k = k
    · have h1 : ∀ i, i < k → o i < k := fun i hi => by
        have a := hlt i (by omega)
        have b := hin i k (by omega) (by omega) (by omega)
        omega
      simp only [sumO, sumT]
      rw [ih v o h1 hin', e]
    · have hok := hlt k (by omega)
      cases hh : hitNat o k k with
      | false =>
        exfalso
        have h1 : ∀ i, i < k → o i < k := fun i hi => by
          have a := hlt i (by omega)
          have b : o i ≠ k := fun h => by
            have := hitNat_iff.2 ⟨i, hi, h⟩
            rw [hh] at this
            cases this
          omega
        have s1 := ih (fun x => if x = o k then (1 : Int) else 0) o h1 hin'
        rw [sumT_one, if_pos (by omega), sumO_zero k fun i hi => if_neg (hin i k (by omega) (by omega) (by omega))] at s1
        cases s1
      | true =>
        have s2 := sumO_put (v := v) (o := o) (c := k) (a := o k) k hin'
        rw [hh, if_pos rfl] at s2
        have s3 := ih v (fun i => if o i = k then o k else o i) (fun i hi => by
          show (if o i = k then o k else o i) < k
          have a := hlt i (by omega)
          split <;> omega) (fun i j hi hj hne => by
          show (if o i = k then o k else o i) ≠ (if o j = k then o k else o j)
          have a := hin i j (by omega) (by omega) hne
          have b := hin i k (by omega) (by omega) (by omega)
          have c := hin j k (by omega) (by omega) (by omega)
          split <;> split <;> omega)
        simp only [sumO, sumT]
        omega
theorem sufS_sum (v : Nat → Int) (o : Nat → Nat) (n : Nat) : ∀ k, k ≤ n → sufS (fun i => v (o i)) (n - k) k + sumO v o k = sufS (fun i => v (o i)) n 0 := by
  intro k
  induction k with
  | zero => intro _; simp [sumO]
  | succ k ih =>
    intro h
    have := ih (by omega)
    rw [show n - k = (n - (k + 1)) + 1 by omega] at this
    simp only [sufS] at this
    simp only [sumO]
    omega
theorem tab_all {v : Nat → Int} {o : Nat → Nat} {n : Nat} (h : ∀ i, i < n → o i < n) (hi : ∀ i j, i < n → j < n → i ≠ j → o i ≠ o j) : tabF (fun i => v (o i)) n 0 = sumT v n := by
  have h1 := sufS_sum v o n n (Nat.le_refl n)
  rw [Nat.sub_self, sum_perm n v o h hi] at h1
  unfold tabF
  rw [Nat.sub_zero, ← h1]
  simp [sufS]
/-- What a right plan's tables say. -/
theorem planB_says {f b : Int} {n : Nat} {len : Nat → Nat} {g : Nat → Nat → Nd} {n1 n2 n3 n4 : Nat} {z1 z2 z3 z4 : Nat → Int} (h : planB f b n len g n1 z1 n2 z2 n3 z3 n4 z4 = true) :
    ensB f b n len g = true ∧ n1 = n ∧ n3 = n + 1 ∧ n4 = n + 1 ∧
      (∀ i, i < n → ∃ x : Nat, x < n ∧ z1 i = (x : Int) ∧ z3 i = z3 (i + 1) + loTo (g x) (len x) ∧ z4 i = z4 (i + 1) + hiTo (g x) (len x)) ∧
      z3 n = 0 ∧ z4 n = 0 ∧ z3 0 = sumT (loF len g) n ∧ z4 0 = sumT (hiF len g) n ∧ (∀ i, i ≤ n → (-12000000000 ≤ z3 i ∧ z3 i ≤ 12000000000) ∧ (-12000000000 ≤ z4 i ∧ z4 i ≤ 12000000000)) := by
  unfold planB at h
  simp only [Bool.and_eq_true, decide_eq_true_eq] at h
  obtain ⟨hE, ⟨rfl, hO⟩, _, hL, hH⟩ := h
  unfold sameB at hL hH
  rw [Bool.and_eq_true, decide_eq_true_eq] at hL hH
  obtain ⟨e3, hL⟩ := hL
  obtain ⟨e4, hH⟩ := hH
  subst e3 e4
  have hL := eqTo_iff.1 hL
  have hH := eqTo_iff.1 hH
  have hlt := ordN_lt hO
  have hin : ∀ i j, i < n1 → j < n1 → i ≠ j → ordN z1 i ≠ ordN z1 j := fun i j hi hj hne e => by
    have a := ordO_iff.1 hO i hi
    have c := ordO_iff.1 hO j hj
    unfold ordN at e
    have e' : z1 i = z1 j := by omega
    rcases Nat.lt_or_gt_of_ne hne with h | h
    · exact c.2 i h e'
    · exact a.2 j h e'.symm
  refine ⟨hE, rfl, rfl, rfl, fun i hi => ⟨ordN z1 i, hlt i hi, ?_, ?_, ?_⟩, ?_, ?_, ?_, ?_, fun i hi => ?_⟩
  · have a := (ordO_iff.1 hO i hi).1
    unfold ordN
    omega
  · rw [hL i (by omega), hL (i + 1) (by omega)]
    exact tabF_step _ hi
  · rw [hH i (by omega), hH (i + 1) (by omega)]
    exact tabF_step _ hi
  · rw [hL n1 (by omega)]; exact tabF_end _ _
  · rw [hH n1 (by omega)]; exact tabF_end _ _
  · rw [hL 0 (by omega)]
    exact tab_all (v := loF len g) (o := ordN z1) hlt hin
  · rw [hH 0 (by omega)]
    exact tab_all (v := hiF len g) (o := ordN z1) hlt hin
  · -- z3_bd
    obtain ⟨_, _, q12, qt⟩ := ensB_iff.1 hE
    have a := tabF_bound (v := fun i => loTo (g (ordN z1 i)) (len (ordN z1 i))) (n := n1) (fun i hi => lo_bound (qt _ (hlt i hi))) (n1 - i) i (by omega)
    have c := tabF_bound (v := fun i => hiTo (g (ordN z1 i)) (len (ordN z1 i))) (n := n1) (fun i hi => hi_bound (qt _ (hlt i hi))) (n1 - i) i (by omega)
    rw [hL i (by omega), hH i (by omega)]
    unfold tabLo tabHi
    omega
end Go.Proofs.YtlgomifpohdniaaGreat
