/- Plain mathematics: numbers, boxes, paths. -/

namespace Go.Proofs.YtmkipdhappikhaaGreatDoor

/-! ### Pure -/
section
set_option linter.unusedVariables false
set_option linter.unusedSimpArgs false
/-! ### documents: n numbers z 0, z 1, .. -/
def may (x : Int) : Bool := (decide (-1000000 ≤ x) && decide (x ≤ 1000000)) || x == 9999999
def allTo (z : Nat → Int) : Nat → Bool
  | 0 => true
  | k + 1 => allTo z k && may (z k)
def docB (n : Nat) (z : Nat → Int) : Bool := (decide (1 ≤ n) && decide (n ≤ 6)) && allTo z n
def goneTo (z : Nat → Int) : Nat → Nat
  | 0 => 0
  | k + 1 => goneTo z k + (if z k = 9999999 then 1 else 0)
def goneZ (n : Nat) (z : Nat → Int) : Int := if docB n z = true then (goneTo z n : Int) else -1
def eqTo (z y : Nat → Int) : Nat → Bool
  | 0 => true
  | k + 1 => eqTo z y k && z k == y k

theorem allTo_true {z : Nat → Int} {n : Nat} (h : allTo z n = true) : ∀ k, k < n → may (z k) = true := by
  induction n with
  | zero => intro k hk; omega
  | succ n ih =>
    simp only [allTo, Bool.and_eq_true] at h
    intro k hk
    by_cases e : k = n
    · subst e; exact h.2
    · exact ih h.1 k (by omega)
theorem allTo_of {z : Nat → Int} {n : Nat} (h : ∀ k, k < n → may (z k) = true) : allTo z n = true := by
  induction n with
  | zero => rfl
  | succ n ih => simp only [allTo, Bool.and_eq_true]; exact ⟨ih fun k hk => h k (by omega), h n (by omega)⟩
theorem allTo_false {z : Nat → Int} {n k : Nat} (hk : k < n) (h : may (z k) = false) : allTo z n = false := by
  cases e : allTo z n with
  | false => rfl
  | true => have := allTo_true e k hk; rw [h] at this; cases this
theorem eqTo_iff {z y : Nat → Int} {n : Nat} : eqTo z y n = true ↔ ∀ k, k < n → z k = y k := by
  induction n with
  | zero => exact ⟨fun _ k hk => by omega, fun _ => rfl⟩
  | succ n ih =>
    simp only [eqTo, Bool.and_eq_true, beq_iff_eq, ih]
    constructor
    · rintro ⟨h1, h2⟩ k hk
      by_cases e : k = n
      · subst e; exact h2
      · exact h1 k (by omega)
    · exact fun h => ⟨fun k hk => h k (by omega), h n (by omega)⟩
theorem docB_true {n : Nat} {z : Nat → Int} (h : docB n z = true) : 1 ≤ n ∧ n ≤ 6 ∧ ∀ k, k < n → may (z k) = true := by
  simp only [docB, Bool.and_eq_true, decide_eq_true_eq] at h
  exact ⟨h.1.1, h.1.2, allTo_true h.2⟩
theorem goneTo_le (z : Nat → Int) : ∀ k, goneTo z k ≤ k := by
  intro k
  induction k with
  | zero => exact Nat.le_refl _
  | succ k ih => simp only [goneTo]; split <;> omega

/-- What 'clamped' makes of a number. -/
def clamp (x : Int) : Int := if x = 9999999 then x else min (max x (-1000000)) 1000000
theorem clamp_eq (x : Int) : (x == clamp x) = may x := by
  unfold clamp may
  rw [Bool.eq_iff_iff]
  simp only [beq_iff_eq, Bool.or_eq_true, Bool.and_eq_true, decide_eq_true_eq]
  split <;> omega

/-! ### trees: a function g from places to nodes, n nodes -/
structure Nd where
  feat : Int
  cut : Int
  left : Int
  right : Int
  miss : Bool
  value : Int

def lfB (d : Nd) : Bool := (d.feat == 0 && d.cut == 0 && d.left == 0 && d.right == 0 && d.miss == false) && (decide (-1000000000 ≤ d.value) && decide (d.value ≤ 1000000000))
def spB (f : Int) (d : Nd) : Bool := (decide (0 ≤ d.feat) && decide (d.feat < f)) && (decide (-1000000 ≤ d.cut) && decide (d.cut ≤ 1000000)) && d.value == 0
/-- The node at place i of n: as the chapter says it. -/
def Node (f : Int) (n i : Nat) (d : Nd) : Prop :=
  if d.left = 0 then lfB d = true
  else spB f d = true ∧ ((i : Int) + 1 ≤ d.left ∧ d.left ≤ (n : Int) - 1) ∧ ((i : Int) + 1 ≤ d.right ∧ d.right ≤ (n : Int) - 1) ∧ d.left ≠ d.right

/-- How often j follows the node d. -/
def par (d : Nd) (j : Nat) : Nat := if 0 < d.left then (if d.left = (j : Int) then 1 else 0) + (if d.right = (j : Int) then 1 else 0) else 0
def cnt (p : Nat → Nat) : Nat → Nat
  | 0 => 0
  | i + 1 => cnt p i + p i

theorem cnt_le (p : Nat → Nat) (m k : Nat) (hk : k < m) : p k ≤ cnt p m := by
  induction m with
  | zero => omega
  | succ m ih =>
    simp only [cnt]
    by_cases h : k = m
    · subst h; omega
    · have := ih (by omega); omega
theorem cnt_two (p : Nat → Nat) (m k k' : Nat) (hk : k < m) (hk' : k' < m) (hne : k ≠ k') : p k + p k' ≤ cnt p m := by
  induction m with
  | zero => omega
  | succ m ih =>
    simp only [cnt]
    by_cases h : k = m
    · subst h; have := cnt_le p k k' (by omega); omega
    · by_cases h' : k' = m
      · subst h'; have := cnt_le p k' k (by omega); omega
      · have := ih (by omega) (by omega); omega
theorem cnt_zero (p : Nat → Nat) (m : Nat) (h : ∀ k, k < m → p k = 0) : cnt p m = 0 := by
  induction m with
  | zero => rfl
  | succ m ih => simp only [cnt]; have := ih fun k hk => h k (by omega); have := h m (by omega); omega
theorem cnt_one (p : Nat → Nat) (m k : Nat) (hk : k < m) (h1 : p k = 1) (h : ∀ k', k' < m → k' ≠ k → p k' = 0) : cnt p m = 1 := by
  induction m with
  | zero => omega
  | succ m ih =>
    simp only [cnt]
    by_cases he : k = m
    · subst he
      have := cnt_zero p k fun k' hk' => h k' (by omega) (by omega)
      omega
    · have := ih (by omega) fun k' hk' => h k' (by omega)
      have := h m (by omega) (by omega)
      omega

/-- t is a tree: as the chapter says it. -/
def Tree (g : Nat → Nd) (n : Nat) (f : Int) : Prop :=
  (1 ≤ f ∧ f ≤ 6) ∧ (1 ≤ n ∧ n ≤ 15) ∧ ∀ i, i < n → Node f n i (g i) ∧ (0 < i → cnt (fun k => par (g k) i) i = 1)

/-- Behind the work on the nodes i .. n-1 from the last one down: does j still belong to no split? -/
def Hd (g : Nat → Nd) (n i j : Nat) : Prop := i ≤ j ∧ j < n ∧ ∀ k, i ≤ k → k < j → par (g k) j = 0
theorem hd_step (g : Nat → Nd) (n i j : Nat) (hi : i < n) : Hd g n i j ↔ j = i ∨ (Hd g n (i + 1) j ∧ par (g i) j = 0) := by
  constructor
  · rintro ⟨h1, h2, h3⟩
    by_cases h : j = i
    · exact .inl h
    · exact .inr ⟨⟨by omega, h2, fun k hk => h3 k (by omega)⟩, h3 i (by omega) (by omega)⟩
  · rintro (rfl | ⟨⟨h1, h2, h3⟩, h4⟩)
    · exact ⟨by omega, hi, fun k h1 h2 => by omega⟩
    · refine ⟨by omega, h2, fun k hk hkj => ?_⟩
      by_cases he : k = i
      · subst he; exact h4
      · exact h3 k (by omega) hkj
theorem hd_end (g : Nat → Nd) (n j : Nat) : ¬ Hd g n n j := fun ⟨h1, h2, _⟩ => by omega

/-- The step of the work at i. -/
def Step (g : Nat → Nd) (n : Nat) (f : Int) (i : Nat) : Prop :=
  if (g i).left = 0 then lfB (g i) = true
  else ∃ l r : Nat, (g i).left = l ∧ (g i).right = r ∧ Hd g n (i + 1) l ∧ Hd g n (i + 1) r ∧ l ≠ r ∧ spB f (g i) = true
def Built (g : Nat → Nd) (n : Nat) (f : Int) : Prop :=
  (1 ≤ f ∧ f ≤ 6) ∧ (1 ≤ n ∧ n ≤ 15) ∧ (∀ i, i < n → Step g n f i) ∧ ∀ j, 0 < j → j < n → ¬ Hd g n 0 j

theorem step_node {g : Nat → Nd} {n i : Nat} {f : Int} (h : Step g n f i) : Node f n i (g i) := by
  unfold Step at h
  unfold Node
  split at h
  · rename_i h0; rw [if_pos h0]; exact h
  · rename_i h0
    rw [if_neg h0]
    obtain ⟨l, r, hl, hr, ⟨a1, a2, _⟩, ⟨b1, b2, _⟩, hne, hs⟩ := h
    exact ⟨hs, ⟨by omega, by omega⟩, ⟨by omega, by omega⟩, by omega⟩
theorem step_par {g : Nat → Nd} {n i j : Nat} {f : Int} (h : Step g n f i) (hp : par (g i) j ≠ 0) : par (g i) j = 1 ∧ Hd g n (i + 1) j := by
  unfold Step at h
  unfold par at hp ⊢
  split at h
  · rename_i h0; rw [if_neg (by omega)] at hp; exact absurd rfl hp
  · obtain ⟨l, r, hl, hr, hL, hR, hne, _⟩ := h
    have hl1 := hL.1
    rw [if_pos (by omega)] at hp ⊢
    by_cases e1 : (g i).left = (j : Int)
    · have : l = j := by omega
      subst this
      rw [if_pos e1, if_neg (by omega)]
      exact ⟨rfl, hL⟩
    · rw [if_neg e1] at hp ⊢
      by_cases e2 : (g i).right = (j : Int)
      · have : r = j := by omega
        subst this
        rw [if_pos e2]
        exact ⟨rfl, hR⟩
      · rw [if_neg e2] at hp; exact absurd rfl hp

theorem built_tree {g : Nat → Nd} {n : Nat} {f : Int} (h : Built g n f) : Tree g n f := by
  obtain ⟨hf, hn, hs, hb⟩ := h
  refine ⟨hf, hn, fun i hi => ⟨step_node (hs i hi), fun h0 => ?_⟩⟩
  have : ∃ k, k < i ∧ par (g k) i ≠ 0 := by
    refine Classical.byContradiction fun hno => hb i h0 hi ⟨by omega, hi, fun k _ hk => ?_⟩
    exact Classical.byContradiction fun h => hno ⟨k, hk, h⟩
  obtain ⟨k, hk, hp⟩ := this
  obtain ⟨h1, hH⟩ := step_par (hs k (by omega)) hp
  refine cnt_one _ i k hk h1 fun k' hk' hne => ?_
  rcases Nat.lt_or_ge k k' with hlt | hge
  · exact hH.2.2 k' (by omega) hk'
  · refine Classical.byContradiction fun hp' => ?_
    obtain ⟨_, hH'⟩ := step_par (hs k' (by omega)) hp'
    exact hp (hH'.2.2 k (by omega) hk)

theorem tree_built {g : Nat → Nd} {n : Nat} {f : Int} (h : Tree g n f) : Built g n f := by
  obtain ⟨hf, hn, ht⟩ := h
  have one : ∀ i l : Nat, i < n → i < l → l < n → par (g i) l ≠ 0 → Hd g n (i + 1) l := by
    intro i l hi hil hl hp
    have hc := (ht l hl).2 (by omega)
    refine ⟨by omega, hl, fun k hk hkl => ?_⟩
    have := cnt_two (fun k => par (g k) l) l i k hil hkl (by omega)
    omega
  refine ⟨hf, hn, fun i hi => ?_, fun j h0 hj hH => ?_⟩
  · have hN := (ht i hi).1
    unfold Node at hN
    unfold Step
    split at hN
    · rename_i h0; rw [if_pos h0]; exact hN
    · rename_i h0
      rw [if_neg h0]
      obtain ⟨hs, ⟨a1, a2⟩, ⟨b1, b2⟩, hne⟩ := hN
      obtain ⟨l, hl⟩ : ∃ l : Nat, (g i).left = l := ⟨(g i).left.toNat, by omega⟩
      obtain ⟨r, hr⟩ : ∃ r : Nat, (g i).right = r := ⟨(g i).right.toNat, by omega⟩
      refine ⟨l, r, hl, hr, one i l hi (by omega) (by omega) ?_, one i r hi (by omega) (by omega) ?_, by omega, hs⟩
      · unfold par; rw [if_pos (by omega), if_pos hl]; omega
      · unfold par; rw [if_pos (by omega), if_pos hr]; omega
  · have hc := (ht j hj).2 h0
    have := cnt_zero (fun k => par (g k) j) j fun k hk => hH.2.2 k (by omega) hk
    omega
theorem built_iff (g : Nat → Nd) (n : Nat) (f : Int) : Built g n f ↔ Tree g n f := ⟨built_tree, tree_built⟩

/-! ### what is read off a tree: with fuel -/
def dep (g : Nat → Nd) : Nat → Nat → Int
  | 0, _ => 0
  | f + 1, i => if (g i).left = 0 then 0 else 1 + max (dep g f (g i).left.toNat) (dep g f (g i).right.toNat)
def loV (g : Nat → Nd) : Nat → Nat → Int
  | 0, _ => 0
  | f + 1, i => if (g i).left = 0 then (g i).value else min (loV g f (g i).left.toNat) (loV g f (g i).right.toNat)
def hiV (g : Nat → Nd) : Nat → Nat → Int
  | 0, _ => 0
  | f + 1, i => if (g i).left = 0 then (g i).value else max (hiV g f (g i).left.toNat) (hiV g f (g i).right.toNat)

/-- Where a document goes from the split d. -/
def goL (d : Nd) (x : Int) : Bool := if x = 9999999 then d.miss else decide (x ≤ d.cut)
def nxt (g : Nat → Nd) (zs : Nat → Int) (i : Nat) : Nat := if goL (g i) (zs (g i).feat.toNat) = true then (g i).left.toNat else (g i).right.toNat
def pth (g : Nat → Nd) (zs : Nat → Int) : Nat → Nat → List Nat
  | 0, _ => []
  | f + 1, i => if (g i).left = 0 then [i] else i :: pth g zs f (nxt g zs i)
def lst (g : Nat → Nd) (zs : Nat → Int) : Nat → Nat → Nat
  | 0, i => i
  | f + 1, i => if (g i).left = 0 then i else lst g zs f (nxt g zs i)

/-- The nodes of a tree lead on to nodes behind them. -/
def Up (g : Nat → Nd) (n : Nat) : Prop := ∀ i, i < n → (g i).left ≠ 0 → (i : Int) + 1 ≤ (g i).left ∧ (g i).left < n ∧ (i : Int) + 1 ≤ (g i).right ∧ (g i).right < n
theorem Tree.up {g : Nat → Nd} {n : Nat} {f : Int} (h : Tree g n f) : Up g n := by
  intro i hi h0
  have := (h.2.2 i hi).1
  unfold Node at this
  rw [if_neg h0] at this
  obtain ⟨_, ⟨a1, a2⟩, ⟨b1, b2⟩, _⟩ := this
  omega
theorem nxt_up {g : Nat → Nd} {n i : Nat} (zs : Nat → Int) (h : Up g n) (hi : i < n) (h0 : (g i).left ≠ 0) : i < nxt g zs i ∧ nxt g zs i < n := by
  have := h i hi h0
  unfold nxt
  split <;> omega
end

/-! ### Boxes -/
section
set_option linter.unusedVariables false
set_option linter.unusedSimpArgs false
structure Sp where
  lo : Int
  hi : Int
  gone : Bool
/-- The span contains something, and has its one form. -/
def spanB (d : Sp) : Bool := if d.lo ≤ d.hi then decide (-1000000 ≤ d.lo) && decide (d.hi ≤ 1000000) else (d.lo == 1 && d.hi == 0) && d.gone
def hasS (d : Sp) (x : Int) : Bool := if x = 9999999 then d.gone else decide (d.lo ≤ x) && decide (x ≤ d.hi)
def pickS (d : Sp) : Int := if d.lo ≤ d.hi then d.lo else 9999999
def meetS (a b : Sp) : Sp := if max a.lo b.lo ≤ min a.hi b.hi then ⟨max a.lo b.lo, min a.hi b.hi, a.gone && b.gone⟩ else ⟨1, 0, a.gone && b.gone⟩
def allP (p : Nat → Bool) : Nat → Bool
  | 0 => true
  | k + 1 => allP p k && p k
theorem allP_iff {p : Nat → Bool} {n : Nat} : allP p n = true ↔ ∀ k, k < n → p k = true := by
  induction n with
  | zero => simp [allP]
  | succ n ih =>
    simp only [allP, Bool.and_eq_true, ih]
    constructor
    · rintro ⟨h1, h2⟩ k hk
      by_cases e : k = n
      · subst e; exact h2
      · exact h1 k (by omega)
    · intro h
      exact ⟨fun k hk => h k (by omega), h n (by omega)⟩
theorem allP_false {p : Nat → Bool} {n k : Nat} (hk : k < n) (h : p k = false) : allP p n = false := by
  cases e : allP p n with
  | false => rfl
  | true => rw [allP_iff.1 e k hk] at h; cases h
def boxB (n : Nat) (g : Nat → Sp) : Bool := (decide (1 ≤ n) && decide (n ≤ 6)) && allP (fun i => spanB (g i)) n
def boxHasB (n : Nat) (g : Nat → Sp) (f : Nat) (z : Nat → Int) : Bool := (boxB n g && docB f z) && (decide (n = f) && allP (fun i => hasS (g i) (z i)) n)
def meetB (n : Nat) (g : Nat → Sp) (k : Nat) (h : Nat → Sp) : Bool := (boxB n g && boxB k h) && (decide (n = k) && allP (fun i => spanB (meetS (g i) (h i))) n)
def meetF (g h : Nat → Sp) : Nat → Sp := fun i => meetS (g i) (h i)

theorem boxB_iff {n : Nat} {g : Nat → Sp} : boxB n g = true ↔ 1 ≤ n ∧ n ≤ 6 ∧ ∀ i, i < n → spanB (g i) = true := by
  unfold boxB
  simp only [Bool.and_eq_true, decide_eq_true_eq, allP_iff]
  constructor
  · rintro ⟨⟨a, b⟩, c⟩; exact ⟨a, b, c⟩
  · rintro ⟨a, b, c⟩; exact ⟨⟨a, b⟩, c⟩
theorem boxHasB_iff {n f : Nat} {g : Nat → Sp} {z : Nat → Int} : boxHasB n g f z = true ↔ boxB n g = true ∧ docB f z = true ∧ n = f ∧ ∀ i, i < n → hasS (g i) (z i) = true := by
  unfold boxHasB
  simp only [Bool.and_eq_true, decide_eq_true_eq, allP_iff]
  constructor
  · rintro ⟨⟨a, b⟩, c, d⟩; exact ⟨a, b, c, d⟩
  · rintro ⟨a, b, c, d⟩; exact ⟨⟨a, b⟩, c, d⟩
theorem meetB_iff {n k : Nat} {g h : Nat → Sp} : meetB n g k h = true ↔ boxB n g = true ∧ boxB k h = true ∧ n = k ∧ ∀ i, i < n → spanB (meetS (g i) (h i)) = true := by
  unfold meetB
  simp only [Bool.and_eq_true, decide_eq_true_eq, allP_iff]
  constructor
  · rintro ⟨⟨a, b⟩, c, d⟩; exact ⟨a, b, c, d⟩
  · rintro ⟨a, b, c, d⟩; exact ⟨⟨a, b⟩, c, d⟩

theorem spanB_iff {d : Sp} : spanB d = true ↔ (d.lo ≤ d.hi ∧ -1000000 ≤ d.lo ∧ d.hi ≤ 1000000) ∨ (d.lo = 1 ∧ d.hi = 0 ∧ d.gone = true) := by
  unfold spanB
  split
  · simp only [Bool.and_eq_true, decide_eq_true_eq]; omega
  · simp only [Bool.and_eq_true, beq_iff_eq]
    constructor
    · rintro ⟨⟨a, b⟩, c⟩; exact .inr ⟨a, b, c⟩
    · rintro (⟨a, _⟩ | ⟨a, b, c⟩)
      · omega
      · exact ⟨⟨a, b⟩, c⟩
theorem hasS_iff {d : Sp} {x : Int} (hx : x ≠ 9999999) : hasS d x = true ↔ d.lo ≤ x ∧ x ≤ d.hi := by
  unfold hasS; rw [if_neg hx]; simp
theorem hasS_gone {d : Sp} : hasS d 9999999 = d.gone := by unfold hasS; rw [if_pos rfl]
theorem pick_has {d : Sp} (h : spanB d = true) : hasS d (pickS d) = true := by
  rcases spanB_iff.1 h with ⟨a, b, c⟩ | ⟨a, b, c⟩
  · unfold pickS; rw [if_pos a]; rw [hasS_iff (by omega)]; omega
  · unfold pickS; rw [if_neg (by omega), hasS_gone]; exact c
theorem pick_may {d : Sp} (h : spanB d = true) : may (pickS d) = true := by
  rcases spanB_iff.1 h with ⟨a, b, c⟩ | ⟨a, b, c⟩
  · unfold pickS may; rw [if_pos a]; simp; omega
  · unfold pickS may; rw [if_neg (by omega)]; rfl
theorem meet_gone (a b : Sp) : (meetS a b).gone = (a.gone && b.gone) := by unfold meetS; split <;> rfl
theorem meet_has {a b : Sp} (x : Int) : hasS (meetS a b) x = (hasS a x && hasS b x) := by
  by_cases hx : x = 9999999
  · subst hx; rw [hasS_gone, hasS_gone, hasS_gone, meet_gone]
  · have e : (hasS (meetS a b) x = true) ↔ (hasS a x && hasS b x) = true := by
      rw [Bool.and_eq_true, hasS_iff hx, hasS_iff hx, hasS_iff hx]
      unfold meetS
      split
      · simp only; omega
      · simp only; omega
    cases h1 : hasS (meetS a b) x with
    | true => exact (e.1 h1).symm
    | false =>
      cases h2 : (hasS a x && hasS b x) with
      | true => rw [e.2 h2] at h1; cases h1
      | false => rfl
theorem meet_comm (a b : Sp) : meetS a b = meetS b a := by
  unfold meetS
  rw [Int.max_comm a.lo b.lo, Int.min_comm a.hi b.hi, Bool.and_comm a.gone b.gone]
theorem meet_self {a : Sp} (h : spanB a = true) : meetS a a = a := by
  obtain ⟨lo, hi, gone⟩ := a
  rcases spanB_iff.1 h with ⟨p, q, r⟩ | ⟨p, q, r⟩
  · simp only at p
    unfold meetS
    simp only [Int.max_self, Int.min_self, Bool.and_self]
    rw [if_pos p]
  · simp only at p q r
    subst p q r
    rfl
theorem meet_assoc (a b c : Sp) : meetS (meetS a b) c = meetS a (meetS b c) := by
  obtain ⟨al, ah, ag⟩ := a
  obtain ⟨bl, bh, bg⟩ := b
  obtain ⟨cl, ch, cg⟩ := c
  have e : ((ag && bg) && cg) = (ag && (bg && cg)) := Bool.and_assoc ag bg cg
  by_cases h1 : max al bl ≤ min ah bh
  · by_cases h2 : max bl cl ≤ min bh ch
    · simp only [meetS, if_pos h1, if_pos h2, e]
      by_cases h3 : max (max al bl) cl ≤ min (min ah bh) ch
      · rw [if_pos h3, if_pos (by omega)]
        congr 1 <;> omega
      · rw [if_neg h3, if_neg (by omega)]
    · simp only [meetS, if_pos h1, if_neg h2, e]
      rw [if_neg (by omega), if_neg (by omega)]
  · by_cases h2 : max bl cl ≤ min bh ch
    · simp only [meetS, if_neg h1, if_pos h2, e]
      rw [if_neg (by omega), if_neg (by omega)]
    · simp only [meetS, if_neg h1, if_neg h2, e]
      rw [if_neg (by omega), if_neg (by omega)]
theorem meet_span {a b : Sp} (ha : spanB a = true) (hb : spanB b = true) : spanB (meetS a b) = true ↔ max a.lo b.lo ≤ min a.hi b.hi ∨ (a.gone && b.gone) = true := by
  rw [spanB_iff]
  have h1 := spanB_iff.1 ha
  have h2 := spanB_iff.1 hb
  unfold meetS
  split
  · rename_i h
    simp only
    constructor
    · intro _; exact .inl h
    · intro _; exact .inl ⟨h, by omega⟩
  · rename_i h
    simp only
    constructor
    · rintro (⟨p, _⟩ | ⟨_, _, r⟩)
      · omega
      · exact .inr r
    · rintro (p | r)
      · exact absurd p h
      · exact .inr ⟨trivial, trivial, r⟩
theorem meet_num {a b : Sp} : ((meetS a b).lo ≤ (meetS a b).hi ∧ max a.lo b.lo ≤ min a.hi b.hi ∧ (meetS a b).lo = max a.lo b.lo ∧ (meetS a b).hi = min a.hi b.hi) ∨ ((meetS a b).lo = 1 ∧ (meetS a b).hi = 0 ∧ ¬ max a.lo b.lo ≤ min a.hi b.hi) := by
  unfold meetS
  split
  · rename_i h; exact .inl ⟨h, h, rfl, rfl⟩
  · rename_i h; exact .inr ⟨rfl, rfl, h⟩
/-- A meet of three that contains something: so does each meet of two. -/
theorem meet_less {a b c : Sp} (ha : spanB a = true) (hb : spanB b = true) (hc : spanB c = true) (h : spanB (meetS a (meetS b c)) = true) : spanB (meetS a b) = true ∧ spanB (meetS b c) = true := by
  rw [meet_span ha hb, meet_span hb hc]
  rcases spanB_iff.1 h with ⟨p, _⟩ | ⟨_, _, r⟩
  · have h1 := @meet_num a (meetS b c)
    have h2 := @meet_num b c
    exact ⟨.inl (by omega), .inl (by omega)⟩
  · rw [meet_gone, meet_gone] at r
    simp only [Bool.and_eq_true] at r
    exact ⟨.inr (by simp [r.1, r.2.1]), .inr (by simp [r.2.1, r.2.2])⟩
end

/-! ### PureB -/
section
set_option linter.unusedVariables false
set_option linter.unusedSimpArgs false
theorem dep_fuel {g : Nat → Nd} {n : Nat} (h : Up g n) : ∀ f f' i, i < n → n - i ≤ f → n - i ≤ f' → dep g f i = dep g f' i := by
  intro f
  induction f with
  | zero => intro f' i hi h1; omega
  | succ f ih =>
    intro f' i hi h1 h2
    obtain ⟨f', rfl⟩ : ∃ k, f' = k + 1 := ⟨f' - 1, by omega⟩
    unfold dep
    by_cases h0 : (g i).left = 0
    · rw [if_pos h0, if_pos h0]
    · have := h i hi h0
      rw [if_neg h0, if_neg h0, ih f' (g i).left.toNat (by omega) (by omega) (by omega), ih f' (g i).right.toNat (by omega) (by omega) (by omega)]
theorem lo_fuel {g : Nat → Nd} {n : Nat} (h : Up g n) : ∀ f f' i, i < n → n - i ≤ f → n - i ≤ f' → loV g f i = loV g f' i := by
  intro f
  induction f with
  | zero => intro f' i hi h1; omega
  | succ f ih =>
    intro f' i hi h1 h2
    obtain ⟨f', rfl⟩ : ∃ k, f' = k + 1 := ⟨f' - 1, by omega⟩
    unfold loV
    by_cases h0 : (g i).left = 0
    · rw [if_pos h0, if_pos h0]
    · have := h i hi h0
      rw [if_neg h0, if_neg h0, ih f' (g i).left.toNat (by omega) (by omega) (by omega), ih f' (g i).right.toNat (by omega) (by omega) (by omega)]
theorem hi_fuel {g : Nat → Nd} {n : Nat} (h : Up g n) : ∀ f f' i, i < n → n - i ≤ f → n - i ≤ f' → hiV g f i = hiV g f' i := by
  intro f
  induction f with
  | zero => intro f' i hi h1; omega
  | succ f ih =>
    intro f' i hi h1 h2
    obtain ⟨f', rfl⟩ : ∃ k, f' = k + 1 := ⟨f' - 1, by omega⟩
    unfold hiV
    by_cases h0 : (g i).left = 0
    · rw [if_pos h0, if_pos h0]
    · have := h i hi h0
      rw [if_neg h0, if_neg h0, ih f' (g i).left.toNat (by omega) (by omega) (by omega), ih f' (g i).right.toNat (by omega) (by omega) (by omega)]

theorem lo_leaf {g : Nat → Nd} {n : Nat} (h : Up g n) : ∀ f i, i < n → n - i ≤ f → ∃ j, j < n ∧ (g j).left = 0 ∧ loV g f i = (g j).value := by
  intro f
  induction f with
  | zero => intro i hi h1; omega
  | succ f ih =>
    intro i hi h1
    unfold loV
    by_cases h0 : (g i).left = 0
    · exact ⟨i, hi, h0, by rw [if_pos h0]⟩
    · have := h i hi h0
      obtain ⟨a, a1, a2, a3⟩ := ih (g i).left.toNat (by omega) (by omega)
      obtain ⟨b, b1, b2, b3⟩ := ih (g i).right.toNat (by omega) (by omega)
      rw [if_neg h0, a3, b3]
      rcases Int.le_total (g a).value (g b).value with hle | hle
      · exact ⟨a, a1, a2, by omega⟩
      · exact ⟨b, b1, b2, by omega⟩
theorem hi_leaf {g : Nat → Nd} {n : Nat} (h : Up g n) : ∀ f i, i < n → n - i ≤ f → ∃ j, j < n ∧ (g j).left = 0 ∧ hiV g f i = (g j).value := by
  intro f
  induction f with
  | zero => intro i hi h1; omega
  | succ f ih =>
    intro i hi h1
    unfold hiV
    by_cases h0 : (g i).left = 0
    · exact ⟨i, hi, h0, by rw [if_pos h0]⟩
    · have := h i hi h0
      obtain ⟨a, a1, a2, a3⟩ := ih (g i).left.toNat (by omega) (by omega)
      obtain ⟨b, b1, b2, b3⟩ := ih (g i).right.toNat (by omega) (by omega)
      rw [if_neg h0, a3, b3]
      rcases Int.le_total (g a).value (g b).value with hle | hle
      · exact ⟨b, b1, b2, by omega⟩
      · exact ⟨a, a1, a2, by omega⟩

/-- Each node but the first has a split ahead of it that leads to it. -/
theorem Tree.parent {g : Nat → Nd} {n : Nat} {f : Int} (h : Tree g n f) (j : Nat) (h0 : 0 < j) (hj : j < n) : ∃ k, k < j ∧ (g k).left ≠ 0 ∧ ((g k).left = (j : Int) ∨ (g k).right = (j : Int)) := by
  have hc := (h.2.2 j hj).2 h0
  have : ∃ k, k < j ∧ par (g k) j ≠ 0 := by
    refine Classical.byContradiction fun hno => ?_
    have := cnt_zero (fun k => par (g k) j) j fun k hk => Classical.byContradiction fun hp => hno ⟨k, hk, hp⟩
    omega
  obtain ⟨k, hk, hp⟩ := this
  unfold par at hp
  by_cases h1 : 0 < (g k).left
  · rw [if_pos h1] at hp
    refine ⟨k, hk, by omega, ?_⟩
    by_cases e1 : (g k).left = (j : Int)
    · exact .inl e1
    · by_cases e2 : (g k).right = (j : Int)
      · exact .inr e2
      · rw [if_neg e1, if_neg e2] at hp; exact absurd rfl hp
  · rw [if_neg h1] at hp; exact absurd rfl hp

theorem lo_low {g : Nat → Nd} {n : Nat} {f : Int} (h : Tree g n f) : ∀ j, j < n → loV g 15 0 ≤ loV g 15 j := by
  intro j
  induction j using Nat.strongRecOn with
  | _ j ih =>
    intro hj
    have hn := h.2.1
    by_cases h0 : j = 0
    · subst h0; omega
    · obtain ⟨k, hk, hs, hkj⟩ := h.parent j (by omega) hj
      have h1 := ih k hk (by omega)
      have hu := h.up k (by omega) hs
      have h2 : loV g 15 k = min (loV g 15 (g k).left.toNat) (loV g 15 (g k).right.toNat) := by
        rw [lo_fuel h.up 15 16 k (by omega) (by omega) (by omega), loV, if_neg hs]
      rcases hkj with e | e
      · rw [e] at h2; simp only [Int.toNat_natCast] at h2; omega
      · rw [e] at h2; simp only [Int.toNat_natCast] at h2; omega
theorem hi_high {g : Nat → Nd} {n : Nat} {f : Int} (h : Tree g n f) : ∀ j, j < n → hiV g 15 j ≤ hiV g 15 0 := by
  intro j
  induction j using Nat.strongRecOn with
  | _ j ih =>
    intro hj
    have hn := h.2.1
    by_cases h0 : j = 0
    · subst h0; omega
    · obtain ⟨k, hk, hs, hkj⟩ := h.parent j (by omega) hj
      have h1 := ih k hk (by omega)
      have hu := h.up k (by omega) hs
      have h2 : hiV g 15 k = max (hiV g 15 (g k).left.toNat) (hiV g 15 (g k).right.toNat) := by
        rw [hi_fuel h.up 15 16 k (by omega) (by omega) (by omega), hiV, if_neg hs]
      rcases hkj with e | e
      · rw [e] at h2; simp only [Int.toNat_natCast] at h2; omega
      · rw [e] at h2; simp only [Int.toNat_natCast] at h2; omega

/-- The least and the greatest value of the leaves among the first k nodes, as the other side reckons them. -/
def loTo (g : Nat → Nd) : Nat → Int
  | 0 => 1000000000
  | k + 1 => if (g k).left = 0 then min (loTo g k) (g k).value else loTo g k
def hiTo (g : Nat → Nd) : Nat → Int
  | 0 => -1000000000
  | k + 1 => if (g k).left = 0 then max (hiTo g k) (g k).value else hiTo g k

theorem loTo_le (g : Nat → Nd) : ∀ m j, j < m → (g j).left = 0 → loTo g m ≤ (g j).value := by
  intro m
  induction m with
  | zero => intro j hj; omega
  | succ m ih =>
    intro j hj h0
    unfold loTo
    by_cases he : j = m
    · subst he; rw [if_pos h0]; omega
    · have := ih j (by omega) h0
      split <;> omega
theorem loTo_at (g : Nat → Nd) : ∀ m, loTo g m = 1000000000 ∨ ∃ j, j < m ∧ (g j).left = 0 ∧ loTo g m = (g j).value := by
  intro m
  induction m with
  | zero => exact .inl rfl
  | succ m ih =>
    unfold loTo
    split
    · rename_i h0
      rcases Int.le_total (loTo g m) (g m).value with hle | hle
      · rcases ih with e | ⟨j, hj, h1, h2⟩
        · exact .inl (by omega)
        · exact .inr ⟨j, by omega, h1, by omega⟩
      · exact .inr ⟨m, by omega, h0, by omega⟩
    · rcases ih with e | ⟨j, hj, h1, h2⟩
      · exact .inl e
      · exact .inr ⟨j, by omega, h1, h2⟩
theorem hiTo_ge (g : Nat → Nd) : ∀ m j, j < m → (g j).left = 0 → (g j).value ≤ hiTo g m := by
  intro m
  induction m with
  | zero => intro j hj; omega
  | succ m ih =>
    intro j hj h0
    unfold hiTo
    by_cases he : j = m
    · subst he; rw [if_pos h0]; omega
    · have := ih j (by omega) h0
      split <;> omega
theorem hiTo_at (g : Nat → Nd) : ∀ m, hiTo g m = -1000000000 ∨ ∃ j, j < m ∧ (g j).left = 0 ∧ hiTo g m = (g j).value := by
  intro m
  induction m with
  | zero => exact .inl rfl
  | succ m ih =>
    unfold hiTo
    split
    · rename_i h0
      rcases Int.le_total (hiTo g m) (g m).value with hle | hle
      · exact .inr ⟨m, by omega, h0, by omega⟩
      · rcases ih with e | ⟨j, hj, h1, h2⟩
        · exact .inl (by omega)
        · exact .inr ⟨j, by omega, h1, by omega⟩
    · rcases ih with e | ⟨j, hj, h1, h2⟩
      · exact .inl e
      · exact .inr ⟨j, by omega, h1, h2⟩

theorem Tree.leaf {g : Nat → Nd} {n : Nat} {f : Int} (h : Tree g n f) {j : Nat} (hj : j < n) (h0 : (g j).left = 0) : -1000000000 ≤ (g j).value ∧ (g j).value ≤ 1000000000 := by
  have := (h.2.2 j hj).1
  unfold Node at this
  rw [if_pos h0] at this
  simp [lfB] at this
  omega
theorem lo_is {g : Nat → Nd} {n : Nat} {f : Int} (h : Tree g n f) : loV g 15 0 = loTo g n := by
  have hn := h.2.1
  obtain ⟨a, a1, a2, a3⟩ := lo_leaf h.up 15 0 (by omega) (by omega)
  have h1 := loTo_le g n a a1 a2
  have hb := h.leaf a1 a2
  rcases loTo_at g n with e | ⟨j, hj, j0, e⟩
  · omega
  · have h2 := lo_low h j hj
    have h3 : loV g 15 j = (g j).value := by
      rw [lo_fuel h.up 15 16 j hj (by omega) (by omega), loV, if_pos j0]
    omega
theorem hi_is {g : Nat → Nd} {n : Nat} {f : Int} (h : Tree g n f) : hiV g 15 0 = hiTo g n := by
  have hn := h.2.1
  obtain ⟨a, a1, a2, a3⟩ := hi_leaf h.up 15 0 (by omega) (by omega)
  have h1 := hiTo_ge g n a a1 a2
  have hb := h.leaf a1 a2
  rcases hiTo_at g n with e | ⟨j, hj, j0, e⟩
  · omega
  · have h2 := hi_high h j hj
    have h3 : hiV g 15 j = (g j).value := by
      rw [hi_fuel h.up 15 16 j hj (by omega) (by omega), hiV, if_pos j0]
    omega

theorem pth_fuel {g : Nat → Nd} {n : Nat} (zs : Nat → Int) (h : Up g n) : ∀ f f' i, i < n → n - i ≤ f → n - i ≤ f' → pth g zs f i = pth g zs f' i := by
  intro f
  induction f with
  | zero => intro f' i hi h1; omega
  | succ f ih =>
    intro f' i hi h1 h2
    obtain ⟨f', rfl⟩ : ∃ k, f' = k + 1 := ⟨f' - 1, by omega⟩
    unfold pth
    by_cases h0 : (g i).left = 0
    · rw [if_pos h0, if_pos h0]
    · have := nxt_up zs h hi h0
      rw [if_neg h0, if_neg h0, ih f' (nxt g zs i) (by omega) (by omega) (by omega)]
end

/-! ### Path -/
section
set_option linter.unusedVariables false
set_option linter.unusedSimpArgs false
def itr (g : Nat → Nd) (z : Nat → Int) : Nat → Nat
  | 0 => 0
  | t + 1 => nxt g z (itr g z t)
/-- The path has T splits. -/
def Ends (g : Nat → Nd) (z : Nat → Int) (T : Nat) : Prop := (∀ t, t < T → (g (itr g z t)).left ≠ 0) ∧ (g (itr g z T)).left = 0
theorem Ends.same {g : Nat → Nd} {z : Nat → Int} {T T' : Nat} (h : Ends g z T) (h' : Ends g z T') : T = T' := by
  rcases Nat.lt_trichotomy T T' with hl | he | hl
  · exact absurd h.2 (h'.1 T hl)
  · exact he
  · exact absurd h'.2 (h.1 T' hl)
theorem itr_up {g : Nat → Nd} {n : Nat} (z : Nat → Int) (hu : Up g n) (hn : 0 < n) : ∀ t, (∀ s, s < t → (g (itr g z s)).left ≠ 0) → t ≤ itr g z t ∧ itr g z t < n := by
  intro t
  induction t with
  | zero => intro _; exact ⟨Nat.zero_le _, hn⟩
  | succ t ih =>
    intro h
    obtain ⟨h1, h2⟩ := ih fun s hs => h s (by omega)
    have := nxt_up z hu h2 (h t (by omega))
    simp only [itr]
    omega
/-- A node of a tree with f features that is no leaf tests one of them. -/
theorem split_feat {f : Int} {n i : Nat} {d : Nd} (h : Node f n i d) (h0 : d.left ≠ 0) : 0 ≤ d.feat ∧ d.feat < f := by
  unfold Node at h
  rw [if_neg h0] at h
  have := h.1
  unfold spB at this
  simp only [Bool.and_eq_true, decide_eq_true_eq] at this
  exact this.1.1
end
end Go.Proofs.YtmkipdhappikhaaGreatDoor
