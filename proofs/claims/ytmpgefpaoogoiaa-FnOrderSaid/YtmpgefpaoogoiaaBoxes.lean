/- Plain mathematics of spans and boxes. -/
import Derived.Test.YtmpgefpaoogoiaaPure
namespace Go.Proofs.Ytmpgefpaoogoiaa

structure Sp where
  lo : Int
  hi : Int
  gone : Bool
/-- The span contains something, and has its one form. -/
def spanB (d : Sp) : Bool := if d.lo ≤ d.hi then decide (-1000000 ≤ d.lo) && decide (d.hi ≤ 1000000) else (d.lo == 1 && d.hi == 0) && d.gone
def hasS (d : Sp) (x : Int) : Bool := if x = 9999999 then d.gone else decide (d.lo ≤ x) && decide (x ≤ d.hi)
def pickS (d : Sp) : Int := if d.lo ≤ d.hi then d.lo else 9999999
def meetS (a b : Sp) : Sp := if max a.lo b.lo ≤ min a.hi b.hi then ⟨max a.lo b.lo, min a.hi b.hi, a.gone && b.gone⟩ else ⟨1, 0, a.gone && b.gone⟩
def allP (p : Nat → Bool) : Nat → Bool
  | 0 => true
  | k + 1 => allP p k && p k
theorem allP_iff {p : Nat → Bool} {n : Nat} : allP p n = true ↔ ∀ k, k < n → p k = true := by
  induction n with
  | zero => simp [allP]
  | succ n ih =>
    simp only [allP, Bool.and_eq_true, ih]
    constructor
    · rintro ⟨h1, h2⟩ k hk
      by_cases e : k = n
      · subst e; exact h2
      · exact h1 k (by omega)
    · intro h
      exact ⟨fun k hk => h k (by omega), h n (by omega)⟩
theorem allP_false {p : Nat → Bool} {n k : Nat} (hk : k < n) (h : p k = false) : allP p n = false := by
  cases e : allP p n with
  | false => rfl
  | true => rw [allP_iff.1 e k hk] at h; cases h
def boxB (n : Nat) (g : Nat → Sp) : Bool := (decide (1 ≤ n) && decide (n ≤ 6)) && allP (fun i => spanB (g i)) n
def boxHasB (n : Nat) (g : Nat → Sp) (f : Nat) (z : Nat → Int) : Bool := (boxB n g && docB f z) && (decide (n = f) && allP (fun i => hasS (g i) (z i)) n)
def meetB (n : Nat) (g : Nat → Sp) (k : Nat) (h : Nat → Sp) : Bool := (boxB n g && boxB k h) && (decide (n = k) && allP (fun i => spanB (meetS (g i) (h i))) n)
def meetF (g h : Nat → Sp) : Nat → Sp := fun i => meetS (g i) (h i)

theorem boxB_iff {n : Nat} {g : Nat → Sp} : boxB n g = true ↔ 1 ≤ n ∧ n ≤ 6 ∧ ∀ i, i < n → spanB (g i) = true := by
  unfold boxB
  simp only [Bool.and_eq_true, decide_eq_true_eq, allP_iff]
  constructor
  · rintro ⟨⟨a, b⟩, c⟩; exact ⟨a, b, c⟩
  · rintro ⟨a, b, c⟩; exact ⟨⟨a, b⟩, c⟩
theorem boxHasB_iff {n f : Nat} {g : Nat → Sp} {z : Nat → Int} : boxHasB n g f z = true ↔ boxB n g = true ∧ docB f z = true ∧ n = f ∧ ∀ i, i < n → hasS (g i) (z i) = true := by
  unfold boxHasB
  simp only [Bool.and_eq_true, decide_eq_true_eq, allP_iff]
  constructor
  · rintro ⟨⟨a, b⟩, c, d⟩; exact ⟨a, b, c, d⟩
  · rintro ⟨a, b, c, d⟩; exact ⟨⟨a, b⟩, c, d⟩
theorem meetB_iff {n k : Nat} {g h : Nat → Sp} : meetB n g k h = true ↔ boxB n g = true ∧ boxB k h = true ∧ n = k ∧ ∀ i, i < n → spanB (meetS (g i) (h i)) = true := by
  unfold meetB
  simp only [Bool.and_eq_true, decide_eq_true_eq, allP_iff]
  constructor
  · rintro ⟨⟨a, b⟩, c, d⟩; exact ⟨a, b, c, d⟩
  · rintro ⟨a, b, c, d⟩; exact ⟨⟨a, b⟩, c, d⟩

theorem spanB_iff {d : Sp} : spanB d = true ↔ (d.lo ≤ d.hi ∧ -1000000 ≤ d.lo ∧ d.hi ≤ 1000000) ∨ (d.lo = 1 ∧ d.hi = 0 ∧ d.gone = true) := by
  unfold spanB
  split
  · simp only [Bool.and_eq_true, decide_eq_true_eq]; omega
  · simp only [Bool.and_eq_true, beq_iff_eq]
    constructor
    · rintro ⟨⟨a, b⟩, c⟩; exact .inr ⟨a, b, c⟩
    · rintro (⟨a, _⟩ | ⟨a, b, c⟩)
      · omega
      · exact ⟨⟨a, b⟩, c⟩
theorem hasS_iff {d : Sp} {x : Int} (hx : x ≠ 9999999) : hasS d x = true ↔ d.lo ≤ x ∧ x ≤ d.hi := by
  unfold hasS; rw [if_neg hx]; simp
theorem hasS_gone {d : Sp} : hasS d 9999999 = d.gone := by unfold hasS; rw [if_pos rfl]
theorem pick_has {d : Sp} (h : spanB d = true) : hasS d (pickS d) = true := by
  rcases spanB_iff.1 h with ⟨a, b, c⟩ | ⟨a, b, c⟩
  · unfold pickS; rw [if_pos a]; rw [hasS_iff (by omega)]; omega
  · unfold pickS; rw [if_neg (by omega), hasS_gone]; exact c
theorem pick_may {d : Sp} (h : spanB d = true) : may (pickS d) = true := by
  rcases spanB_iff.1 h with ⟨a, b, c⟩ | ⟨a, b, c⟩
  · unfold pickS may; rw [if_pos a]; simp; omega
  · unfold pickS may; rw [if_neg (by omega)]; rfl
theorem meet_gone (a b : Sp) : (meetS a b).gone = (a.gone && b.gone) := by unfold meetS; split <;> rfl
theorem meet_has {a b : Sp} (x : Int) : hasS (meetS a b) x = (hasS a x && hasS b x) := by
  by_cases hx : x = 9999999
  · subst hx; rw [hasS_gone, hasS_gone, hasS_gone, meet_gone]
  · have e : (hasS (meetS a b) x = true) ↔ (hasS a x && hasS b x) = true := by
      rw [Bool.and_eq_true, hasS_iff hx, hasS_iff hx, hasS_iff hx]
      unfold meetS
      split
      · simp only; omega
      · simp only; omega
    cases h1 : hasS (meetS a b) x with
    | true => exact (e.1 h1).symm
    | false =>
      cases h2 : (hasS a x && hasS b x) with
      | true => rw [e.2 h2] at h1; cases h1
      | false => rfl
theorem meet_comm (a b : Sp) : meetS a b = meetS b a := by
  unfold meetS
  rw [Int.max_comm a.lo b.lo, Int.min_comm a.hi b.hi, Bool.and_comm a.gone b.gone]
theorem meet_self {a : Sp} (h : spanB a = true) : meetS a a = a := by
  obtain ⟨lo, hi, gone⟩ := a
  rcases spanB_iff.1 h with ⟨p, q, r⟩ | ⟨p, q, r⟩
  · simp only at p
    unfold meetS
    simp only [Int.max_self, Int.min_self, Bool.and_self]
    rw [if_pos p]
  · simp only at p q r
    subst p q r
    rfl
theorem meet_assoc (a b c : Sp) : meetS (meetS a b) c = meetS a (meetS b c) := by
  obtain ⟨al, ah, ag⟩ := a
  obtain ⟨bl, bh, bg⟩ := b
  obtain ⟨cl, ch, cg⟩ := c
  have e : ((ag && bg) && cg) = (ag && (bg && cg)) := Bool.and_assoc ag bg cg
  by_cases h1 : max al bl ≤ min ah bh
  · by_cases h2 : max bl cl ≤ min bh ch
    · simp only [meetS, if_pos h1, if_pos h2, e]
      by_cases h3 : max (max al bl) cl ≤ min (min ah bh) ch
      · rw [if_pos h3, if_pos (by omega)]
        congr 1 <;> omega
      · rw [if_neg h3, if_neg (by omega)]
    · simp only [meetS, if_pos h1, if_neg h2, e]
      rw [if_neg (by omega), if_neg (by omega)]
  · by_cases h2 : max bl cl ≤ min bh ch
    · simp only [meetS, if_neg h1, if_pos h2, e]
      rw [if_neg (by omega), if_neg (by omega)]
    · simp only [meetS, if_neg h1, if_neg h2, e]
      rw [if_neg (by omega), if_neg (by omega)]
theorem meet_span {a b : Sp} (ha : spanB a = true) (hb : spanB b = true) : spanB (meetS a b) = true ↔ max a.lo b.lo ≤ min a.hi b.hi ∨ (a.gone && b.gone) = true := by
  rw [spanB_iff]
  have h1 := spanB_iff.1 ha
  have h2 := spanB_iff.1 hb
  unfold meetS
  split
  · rename_i h
    simp only
    constructor
    · intro _; exact .inl h
    · intro _; exact .inl ⟨h, by omega⟩
  · rename_i h
    simp only
    constructor
    · rintro (⟨p, _⟩ | ⟨_, _, r⟩)
      · omega
      · exact .inr r
    · rintro (p | r)
      · exact absurd p h
      · exact .inr ⟨trivial, trivial, r⟩
theorem meet_num {a b : Sp} : ((meetS a b).lo ≤ (meetS a b).hi ∧ max a.lo b.lo ≤ min a.hi b.hi ∧ (meetS a b).lo = max a.lo b.lo ∧ (meetS a b).hi = min a.hi b.hi) ∨ ((meetS a b).lo = 1 ∧ (meetS a b).hi = 0 ∧ ¬ max a.lo b.lo ≤ min a.hi b.hi) := by
  unfold meetS
  split
  · rename_i h; exact .inl ⟨h, h, rfl, rfl⟩
  · rename_i h; exact .inr ⟨rfl, rfl, h⟩
/-- A meet of three that contains something: so does each meet of two. -/
theorem meet_less {a b c : Sp} (ha : spanB a = true) (hb : spanB b = true) (hc : spanB c = true) (h : spanB (meetS a (meetS b c)) = true) : spanB (meetS a b) = true ∧ spanB (meetS b c) = true := by
  rw [meet_span ha hb, meet_span hb hc]
  rcases spanB_iff.1 h with ⟨p, _⟩ | ⟨_, _, r⟩
  · have h1 := @meet_num a (meetS b c)
    have h2 := @meet_num b c
    exact ⟨.inl (by omega), .inl (by omega)⟩
  · rw [meet_gone, meet_gone] at r
    simp only [Bool.and_eq_true] at r
    exact ⟨.inr (by simp [r.1, r.2.1]), .inr (by simp [r.2.1, r.2.2])⟩
end Go.Proofs.Ytmpgefpaoogoiaa
