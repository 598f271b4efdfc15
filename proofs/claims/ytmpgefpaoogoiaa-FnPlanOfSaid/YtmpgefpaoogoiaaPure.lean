/- Plain mathematics of documents and trees, with no program in sight: what a document is; what a tree is, counted from the front and taken apart from the back, and that both agree; depths, ranges, paths. -/
namespace Go.Proofs.Ytmpgefpaoogoiaa

/-! ### documents: n numbers z 0, z 1, .. -/
def may (x : Int) : Bool := (decide (-1000000 ≤ x) && decide (x ≤ 1000000)) || x == 9999999
def allTo (z : Nat → Int) : Nat → Bool
  | 0 => true
  | k + 1 => allTo z k && may (z k)
def docB (n : Nat) (z : Nat → Int) : Bool := (decide (1 ≤ n) && decide (n ≤ 6)) && allTo z n
def goneTo (z : Nat → Int) : Nat → Nat
  | 0 => 0
  | k + 1 => goneTo z k + (if z k = 9999999 then 1 else 0)
def goneZ (n : Nat) (z : Nat → Int) : Int := if docB n z = true then (goneTo z n : Int) else -1
def eqTo (z y : Nat → Int) : Nat → Bool
  | 0 => true
  | k + 1 => eqTo z y k && z k == y k

theorem allTo_true {z : Nat → Int} {n : Nat} (h : allTo z n = true) : ∀ k, k < n → may (z k) = true := by
  induction n with
  | zero => intro k hk; omega
  | succ n ih =>
    simp only [allTo, Bool.and_eq_true] at h
    intro k hk
    by_cases e : k = n
    · subst e; exact h.2
    · exact ih h.1 k (by omega)
theorem allTo_of {z : Nat → Int} {n : Nat} (h : ∀ k, k < n → may (z k) = true) : allTo z n = true := by
  induction n with
  | zero => rfl
  | succ n ih => simp only [allTo, Bool.and_eq_true]; exact ⟨ih fun k hk => h k (by omega), h n (by omega)⟩
theorem allTo_false {z : Nat → Int} {n k : Nat} (hk : k < n) (h : may (z k) = false) : allTo z n = false := by
  cases e : allTo z n with
  | false => rfl
  | true => have := allTo_true e k hk; rw [h] at this; cases this
theorem eqTo_iff {z y : Nat → Int} {n : Nat} : eqTo z y n = true ↔ ∀ k, k < n → z k = y k := by
  induction n with
  | zero => exact ⟨fun _ k hk => by omega, fun _ => rfl⟩
  | succ n ih =>
    simp only [eqTo, Bool.and_eq_true, beq_iff_eq, ih]
    constructor
    · rintro ⟨h1, h2⟩ k hk
      by_cases e : k = n
      · subst e; exact h2
      · exact h1 k (by omega)
    · exact fun h => ⟨fun k hk => h k (by omega), h n (by omega)⟩
theorem docB_true {n : Nat} {z : Nat → Int} (h : docB n z = true) : 1 ≤ n ∧ n ≤ 6 ∧ ∀ k, k < n → may (z k) = true := by
  simp only [docB, Bool.and_eq_true, decide_eq_true_eq] at h
  exact ⟨h.1.1, h.1.2, allTo_true h.2⟩
theorem goneTo_le (z : Nat → Int) : ∀ k, goneTo z k ≤ k := by
  intro k
  induction k with
  | zero => exact Nat.le_refl _
  | succ k ih => simp only [goneTo]; split <;> omega

/-- What 'clamped' makes of a number. -/
def clamp (x : Int) : Int := if x = 9999999 then x else min (max x (-1000000)) 1000000
theorem clamp_eq (x : Int) : (x == clamp x) = may x := by
  unfold clamp may
  rw [Bool.eq_iff_iff]
  simp only [beq_iff_eq, Bool.or_eq_true, Bool.and_eq_true, decide_eq_true_eq]
  split <;> omega

/-! ### trees: a function g from places to nodes, n nodes -/
structure Nd where
  feat : Int
  cut : Int
  left : Int
  right : Int
  miss : Bool
  value : Int

def lfB (d : Nd) : Bool := (d.feat == 0 && d.cut == 0 && d.left == 0 && d.right == 0 && d.miss == false) && (decide (-1000000000 ≤ d.value) && decide (d.value ≤ 1000000000))
def spB (f : Int) (d : Nd) : Bool := (decide (0 ≤ d.feat) && decide (d.feat < f)) && (decide (-1000000 ≤ d.cut) && decide (d.cut ≤ 1000000)) && d.value == 0
/-- The node at place i of n: as the chapter says it. -/
def Node (f : Int) (n i : Nat) (d : Nd) : Prop :=
  if d.left = 0 then lfB d = true
  else spB f d = true ∧ ((i : Int) + 1 ≤ d.left ∧ d.left ≤ (n : Int) - 1) ∧ ((i : Int) + 1 ≤ d.right ∧ d.right ≤ (n : Int) - 1) ∧ d.left ≠ d.right

/-- How often j follows the node d. -/
def par (d : Nd) (j : Nat) : Nat := if 0 < d.left then (if d.left = (j : Int) then 1 else 0) + (if d.right = (j : Int) then 1 else 0) else 0
def cnt (p : Nat → Nat) : Nat → Nat
  | 0 => 0
  | i + 1 => cnt p i + p i

theorem cnt_le (p : Nat → Nat) (m k : Nat) (hk : k < m) : p k ≤ cnt p m := by
  induction m with
  | zero => omega
  | succ m ih =>
    simp only [cnt]
    by_cases h : k = m
    · subst h; omega
    · have := ih (by omega); omega
theorem cnt_two (p : Nat → Nat) (m k k' : Nat) (hk : k < m) (hk' : k' < m) (hne : k ≠ k') : p k + p k' ≤ cnt p m := by
  induction m with
  | zero => omega
  | succ m ih =>
    simp only [cnt]
    by_cases h : k = m
    · subst h; have := cnt_le p k k' (by omega); omega
    · by_cases h' : k' = m
      · subst h'; have := cnt_le p k' k (by omega); omega
      · have := ih (by omega) (by omega); omega
theorem cnt_zero (p : Nat → Nat) (m : Nat) (h : ∀ k, k < m → p k = 0) : cnt p m = 0 := by
  induction m with
  | zero => rfl
  | succ m ih => simp only [cnt]; have := ih fun k hk => h k (by omega); have := h m (by omega); omega
theorem cnt_one (p : Nat → Nat) (m k : Nat) (hk : k < m) (h1 : p k = 1) (h : ∀ k', k' < m → k' ≠ k → p k' = 0) : cnt p m = 1 := by
  induction m with
  | zero => omega
  | succ m ih =>
    simp only [cnt]
    by_cases he : k = m
    · subst he
      have := cnt_zero p k fun k' hk' => h k' (by omega) (by omega)
      omega
    · have := ih (by omega) fun k' hk' => h k' (by omega)
      have := h m (by omega) (by omega)
      omega

/-- t is a tree: as the chapter says it. -/
def Tree (g : Nat → Nd) (n : Nat) (f : Int) : Prop :=
  (1 ≤ f ∧ f ≤ 6) ∧ (1 ≤ n ∧ n ≤ 15) ∧ ∀ i, i < n → Node f n i (g i) ∧ (0 < i → cnt (fun k => par (g k) i) i = 1)

/-- Behind the work on the nodes i .. n-1 from the last one down: does j still belong to no split? -/
def Hd (g : Nat → Nd) (n i j : Nat) : Prop := i ≤ j ∧ j < n ∧ ∀ k, i ≤ k → k < j → par (g k) j = 0
theorem hd_step (g : Nat → Nd) (n i j : Nat) (hi : i < n) : Hd g n i j ↔ j = i ∨ (Hd g n (i + 1) j ∧ par (g i) j = 0) := by
  constructor
  · rintro ⟨h1, h2, h3⟩
    by_cases h : j = i
    · exact .inl h
    · exact .inr ⟨⟨by omega, h2, fun k hk => h3 k (by omega)⟩, h3 i (by omega) (by omega)⟩
  · rintro (rfl | ⟨⟨h1, h2, h3⟩, h4⟩)
    · exact ⟨by omega, hi, fun k h1 h2 => by omega⟩
    · refine ⟨by omega, h2, fun k hk hkj => ?_⟩
      by_cases he : k = i
      · subst he; exact h4
      · exact h3 k (by omega) hkj
theorem hd_end (g : Nat → Nd) (n j : Nat) : ¬ Hd g n n j := fun ⟨h1, h2, _⟩ => by omega

/-- The step of the work at i. -/
def Step (g : Nat → Nd) (n : Nat) (f : Int) (i : Nat) : Prop :=
  if (g i).left = 0 then lfB (g i) = true
  else ∃ l r : Nat, (g i).left = l ∧ (g i).right = r ∧ Hd g n (i + 1) l ∧ Hd g n (i + 1) r ∧ l ≠ r ∧ spB f (g i) = true
def Built (g : Nat → Nd) (n : Nat) (f : Int) : Prop :=
  (1 ≤ f ∧ f ≤ 6) ∧ (1 ≤ n ∧ n ≤ 15) ∧ (∀ i, i < n → Step g n f i) ∧ ∀ j, 0 < j → j < n → ¬ Hd g n 0 j

theorem step_node {g : Nat → Nd} {n i : Nat} {f : Int} (h : Step g n f i) : Node f n i (g i) := by
  unfold Step at h
  unfold Node
  split at h
  · rename_i h0; rw [if_pos h0]; exact h
  · rename_i h0
    rw [if_neg h0]
    obtain ⟨l, r, hl, hr, ⟨a1, a2, _⟩, ⟨b1, b2, _⟩, hne, hs⟩ := h
    exact ⟨hs, ⟨by omega, by omega⟩, ⟨by omega, by omega⟩, by omega⟩
theorem step_par {g : Nat → Nd} {n i j : Nat} {f : Int} (h : Step g n f i) (hp : par (g i) j ≠ 0) : par (g i) j = 1 ∧ Hd g n (i + 1) j := by
  unfold Step at h
  unfold par at hp ⊢
  split at h
  · rename_i h0; rw [if_neg (by omega)] at hp; exact absurd rfl hp
  · obtain ⟨l, r, hl, hr, hL, hR, hne, _⟩ := h
    have hl1 := hL.1
    rw [if_pos (by omega)] at hp ⊢
    by_cases e1 : (g i).left = (j : Int)
    · have : l = j := by omega
      subst this
      rw [if_pos e1, if_neg (by omega)]
      exact ⟨rfl, hL⟩
    · rw [if_neg e1] at hp ⊢
      by_cases e2 : (g i).right = (j : Int)
      · have : r = j := by omega
        subst this
        rw [if_pos e2]
        exact ⟨rfl, hR⟩
      · rw [if_neg e2] at hp; exact absurd rfl hp

theorem built_tree {g : Nat → Nd} {n : Nat} {f : Int} (h : Built g n f) : Tree g n f := by
  obtain ⟨hf, hn, hs, hb⟩ := h
  refine ⟨hf, hn, fun i hi => ⟨step_node (hs i hi), fun h0 => ?_⟩⟩
  have : ∃ k, k < i ∧ par (g k) i ≠ 0 := by
    refine Classical.byContradiction fun hno => hb i h0 hi ⟨by omega, hi, fun k _ hk => ?_⟩
    exact Classical.byContradiction fun h => hno ⟨k, hk, h⟩
  obtain ⟨k, hk, hp⟩ := this
  obtain ⟨h1, hH⟩ := step_par (hs k (by omega)) hp
  refine cnt_one _ i k hk h1 fun k' hk' hne => ?_
  rcases Nat.lt_or_ge k k' with hlt | hge
  · exact hH.2.2 k' (by omega) hk'
  · refine Classical.byContradiction fun hp' => ?_
    obtain ⟨_, hH'⟩ := step_par (hs k' (by omega)) hp'
    exact hp (hH'.2.2 k (by omega) hk)

theorem tree_built {g : Nat → Nd} {n : Nat} {f : Int} (h : Tree g n f) : Built g n f := by
  obtain ⟨hf, hn, ht⟩ := h
  have one : ∀ i l : Nat, i < n → i < l → l < n → par (g i) l ≠ 0 → Hd g n (i + 1) l := by
    intro i l hi hil hl hp
    have hc := (ht l hl).2 (by omega)
    refine ⟨by omega, hl, fun k hk hkl => ?_⟩
    have := cnt_two (fun k => par (g k) l) l i k hil hkl (by omega)
    omega
  refine ⟨hf, hn, fun i hi => ?_, fun j h0 hj hH => ?_⟩
  · have hN := (ht i hi).1
    unfold Node at hN
    unfold Step
    split at hN
    · rename_i h0; rw [if_pos h0]; exact hN
    · rename_i h0
      rw [if_neg h0]
      obtain ⟨hs, ⟨a1, a2⟩, ⟨b1, b2⟩, hne⟩ := hN
      obtain ⟨l, hl⟩ : ∃ l : Nat, (g i).left = l := ⟨(g i).left.toNat, by omega⟩
      obtain ⟨r, hr⟩ : ∃ r : Nat, (g i).right = r := ⟨(g i).right.toNat, by omega⟩
      refine ⟨l, r, hl, hr, one i l hi (by omega) (by omega) ?_, one i r hi (by omega) (by omega) ?_, by omega, hs⟩
      · unfold par; rw [if_pos (by omega), if_pos hl]; omega
      · unfold par; rw [if_pos (by omega), if_pos hr]; omega
  · have hc := (ht j hj).2 h0
    have := cnt_zero (fun k => par (g k) j) j fun k hk => hH.2.2 k (by omega) hk
    omega
theorem built_iff (g : Nat → Nd) (n : Nat) (f : Int) : Built g n f ↔ Tree g n f := ⟨built_tree, tree_built⟩

/-! ### what is read off a tree: with fuel -/
def dep (g : Nat → Nd) : Nat → Nat → Int
  | 0, _ => 0
  | f + 1, i => if (g i).left = 0 then 0 else 1 + max (dep g f (g i).left.toNat) (dep g f (g i).right.toNat)
def loV (g : Nat → Nd) : Nat → Nat → Int
  | 0, _ => 0
  | f + 1, i => if (g i).left = 0 then (g i).value else min (loV g f (g i).left.toNat) (loV g f (g i).right.toNat)
def hiV (g : Nat → Nd) : Nat → Nat → Int
  | 0, _ => 0
  | f + 1, i => if (g i).left = 0 then (g i).value else max (hiV g f (g i).left.toNat) (hiV g f (g i).right.toNat)

/-- Where a document goes from the split d. -/
def goL (d : Nd) (x : Int) : Bool := if x = 9999999 then d.miss else decide (x ≤ d.cut)
def nxt (g : Nat → Nd) (zs : Nat → Int) (i : Nat) : Nat := if goL (g i) (zs (g i).feat.toNat) = true then (g i).left.toNat else (g i).right.toNat
def pth (g : Nat → Nd) (zs : Nat → Int) : Nat → Nat → List Nat
  | 0, _ => []
  | f + 1, i => if (g i).left = 0 then [i] else i :: pth g zs f (nxt g zs i)
def lst (g : Nat → Nd) (zs : Nat → Int) : Nat → Nat → Nat
  | 0, i => i
  | f + 1, i => if (g i).left = 0 then i else lst g zs f (nxt g zs i)

/-- The nodes of a tree lead on to nodes behind them. -/
def Up (g : Nat → Nd) (n : Nat) : Prop := ∀ i, i < n → (g i).left ≠ 0 → (i : Int) + 1 ≤ (g i).left ∧ (g i).left < n ∧ (i : Int) + 1 ≤ (g i).right ∧ (g i).right < n
theorem Tree.up {g : Nat → Nd} {n : Nat} {f : Int} (h : Tree g n f) : Up g n := by
  intro i hi h0
  have := (h.2.2 i hi).1
  unfold Node at this
  rw [if_neg h0] at this
  obtain ⟨_, ⟨a1, a2⟩, ⟨b1, b2⟩, _⟩ := this
  omega
theorem nxt_up {g : Nat → Nd} {n i : Nat} (zs : Nat → Int) (h : Up g n) (hi : i < n) (h0 : (g i).left ≠ 0) : i < nxt g zs i ∧ nxt g zs i < n := by
  have := h i hi h0
  unfold nxt
  split <;> omega

end Go.Proofs.Ytmpgefpaoogoiaa
