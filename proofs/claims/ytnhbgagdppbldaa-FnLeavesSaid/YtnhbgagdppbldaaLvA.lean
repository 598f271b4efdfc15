/- The leaves of a tree from left to right, and in their order: pure facts. -/
import Derived.Test.YtnhbgagdppbldaaPureB
import Derived.Test.YtnhbgagdppbldaaWords
namespace Go.Proofs.Ytnhbgagdppbldaa

/-- The leaves below node i, from left to right. -/
def lvs (g : Nat → Nd) : Nat → Nat → List Nat
  | 0, _ => []
  | f + 1, i => if (g i).left = 0 then [i] else lvs g f (g i).left.toNat ++ lvs g f (g i).right.toNat
/-- The nodes from node i on, from above. -/
def nod (g : Nat → Nd) : Nat → Nat → List Nat
  | 0, _ => []
  | f + 1, i => if (g i).left = 0 then [i] else i :: (nod g f (g i).left.toNat ++ nod g f (g i).right.toNat)
def isLf (g : Nat → Nd) (i : Nat) : Bool := decide ((g i).left = 0)
theorem lvs_nod (g : Nat → Nd) : ∀ f i, lvs g f i = (nod g f i).filter (isLf g) := by
  intro f
  induction f with
  | zero => intro i; rfl
  | succ f ih =>
    intro i
    unfold lvs nod
    by_cases h : (g i).left = 0
    · rw [if_pos h, if_pos h]
      simp [isLf, h]
    · rw [if_neg h, if_neg h, List.filter_cons_of_neg (by simp [isLf, h]), List.filter_append, ih, ih]
theorem nod_lt {g : Nat → Nd} {n : Nat} (hu : Up g n) : ∀ f i, i < n → ∀ v ∈ nod g f i, v < n := by
  intro f
  induction f with
  | zero => intro i _ v hv; cases hv
  | succ f ih =>
    intro i hi v hv
    unfold nod at hv
    by_cases h : (g i).left = 0
    · rw [if_pos h] at hv
      simp at hv
      omega
    · rw [if_neg h] at hv
      have hk := hu i hi h
      simp only [List.mem_cons, List.mem_append] at hv
      rcases hv with e | hv | hv
      · omega
      · exact ih _ (by omega) v hv
      · exact ih _ (by omega) v hv
/-- How often nodes of a list lead to j. -/
def pars (g : Nat → Nd) (j : Nat) : List Nat → Nat
  | [] => 0
  | v :: l => par (g v) j + pars g j l
theorem pars_append (g : Nat → Nd) (j : Nat) (l m : List Nat) : pars g j (l ++ m) = pars g j l + pars g j m := by
  induction l with
  | nil => simp [pars]
  | cons v l ih => simp only [List.cons_append, pars, ih]; omega
theorem nod_count {g : Nat → Nd} {n : Nat} (hu : Up g n) (j : Nat) : ∀ f i, i < n → n - i ≤ f → (nod g f i).count j = (if i = j then 1 else 0) + pars g j (nod g f i) := by
  intro f
  induction f with
  | zero => intro i h1 h2; omega
  | succ f ih =>
    intro i hi hf
    unfold nod
    by_cases h : (g i).left = 0
    · rw [if_pos h]
      have : par (g i) j = 0 := by unfold par; rw [if_neg (by omega)]
      simp [pars, this, List.count_cons]
    · rw [if_neg h]
      have hk := hu i hi h
      have e1 := ih (g i).left.toNat (by omega) (by omega)
      have e2 := ih (g i).right.toNat (by omega) (by omega)
      rw [List.count_cons, List.count_append, e1, e2]
      simp only [pars, pars_append]
      have hp : par (g i) j = (if (g i).left.toNat = j then 1 else 0) + (if (g i).right.toNat = j then 1 else 0) := by
        unfold par
        rw [if_pos (by omega)]
        congr 1
        · by_cases e : (g i).left = (j : Int)
          · rw [if_pos e, if_pos (by omega)]
          · rw [if_neg e, if_neg (by omega)]
        · by_cases e : (g i).right = (j : Int)
          · rw [if_pos e, if_pos (by omega)]
          · rw [if_neg e, if_neg (by omega)]
      rw [hp]
      have hb : (if (i == j) = true then 1 else 0) = (if i = j then 1 else 0) := by simp
      rw [hb]
      omega
theorem cnt_is1 {p : Nat → Nat} : ∀ {m : Nat}, cnt p m = 1 → ∃ k, k < m ∧ p k = 1 ∧ ∀ v, v < m → v ≠ k → p v = 0 := by
  intro m
  induction m with
  | zero => intro h; simp [cnt] at h
  | succ m ih =>
    intro h
    simp only [cnt] at h
    by_cases h0 : p m = 0
    · obtain ⟨k, h1, h2, h3⟩ := ih (by omega)
      refine ⟨k, by omega, h2, fun v hv hne => ?_⟩
      by_cases e : v = m
      · subst e; exact h0
      · exact h3 v (by omega) hne
    · refine ⟨m, by omega, by omega, fun v hv hne => ?_⟩
      have := cnt_le p m v (by omega)
      omega
theorem pars_zero {g : Nat → Nd} {j : Nat} : ∀ {l : List Nat}, (∀ v ∈ l, par (g v) j = 0) → pars g j l = 0 := by
  intro l
  induction l with
  | nil => intro _; rfl
  | cons v l ih => intro h; simp only [pars]; rw [h v (by simp), ih fun u hu => h u (by simp [hu])]
theorem pars_one {g : Nat → Nd} {j p : Nat} (hp : par (g p) j = 1) : ∀ {l : List Nat}, (∀ v ∈ l, v ≠ p → par (g v) j = 0) → pars g j l = l.count p := by
  intro l
  induction l with
  | nil => intro _; rfl
  | cons v l ih =>
    intro h
    simp only [pars]
    rw [ih fun u hu => h u (by simp [hu]), List.count_cons]
    by_cases e : v = p
    · subst e
      rw [hp]
      simp
      omega
    · rw [h v (by simp) e]
      simp [e]
theorem nod_once {g : Nat → Nd} {n : Nat} {f : Int} (h : Tree g n f) {fu : Nat} (hfu : n ≤ fu) : ∀ j, j < n → (nod g fu 0).count j = 1 := by
  have hu := h.up
  have hn := h.2.1
  intro j
  induction j using Nat.strongRecOn with
  | _ j ih =>
    intro hj
    rw [nod_count hu j fu 0 (by omega) (by omega)]
    have far : ∀ v, v < n → j ≤ v → par (g v) j = 0 := fun v hv hjv => by
      unfold par
      by_cases h0 : (g v).left = 0
      · rw [if_neg (by omega)]
      · have := hu v hv h0
        rw [if_pos (by omega), if_neg (by omega), if_neg (by omega)]
    by_cases e : j = 0
    · subst e
      rw [if_pos rfl, pars_zero fun v hv => far v (nod_lt hu fu 0 (by omega) v hv) (Nat.zero_le _)]
    · obtain ⟨p, hp, hp1, hp0⟩ := cnt_is1 ((h.2.2 j hj).2 (by omega))
      rw [if_neg (by omega), Nat.zero_add, pars_one hp1 fun v hv hne => ?_]
      · exact ih p hp (by omega)
      · by_cases hv' : v < j
        · exact hp0 v hv' hne
        · exact far v (nod_lt hu fu 0 (by omega) v hv) (by omega)
theorem count_range (n j : Nat) : (List.range n).count j = if j < n then 1 else 0 := by
  induction n with
  | zero => simp
  | succ n ih =>
    rw [List.range_succ, List.count_append, ih, List.count_singleton]
    have hb : (if (n == j) = true then 1 else 0) = (if n = j then 1 else 0) := by simp
    rw [hb]
    by_cases h1 : j < n
    · rw [if_pos h1, if_neg (by omega), if_pos (by omega)]
    · by_cases h2 : n = j
      · rw [if_neg h1, if_pos h2, if_pos (by omega)]
      · rw [if_neg h1, if_neg h2, if_neg (by omega)]
theorem nod_perm {g : Nat → Nd} {n : Nat} {f : Int} (h : Tree g n f) {fu : Nat} (hfu : n ≤ fu) : (nod g fu 0).Perm (List.range n) := by
  rw [List.perm_iff_count]
  intro j
  rw [count_range]
  by_cases hj : j < n
  · rw [if_pos hj]; exact nod_once h hfu j hj
  · rw [if_neg hj]
    exact List.count_eq_zero.2 fun hm => hj (nod_lt h.up fu 0 (by have := h.2.1; omega) j hm)
/-- The leaves in their order. -/
def lfs (g : Nat → Nd) (n : Nat) : List Nat := (List.range n).filter (isLf g)
theorem lvs_perm {g : Nat → Nd} {n : Nat} {f : Int} (h : Tree g n f) {fu : Nat} (hfu : n ≤ fu) : (lvs g fu 0).Perm (lfs g n) := by
  rw [lvs_nod]
  exact (nod_perm h hfu).filter _
theorem lvs_nod_len {g : Nat → Nd} {n : Nat} (hu : Up g n) : ∀ f i, i < n → n - i ≤ f → 2 * (lvs g f i).length = (nod g f i).length + 1 := by
  intro f
  induction f with
  | zero => intro i h1 h2; omega
  | succ f ih =>
    intro i hi hf
    unfold lvs nod
    by_cases h : (g i).left = 0
    · rw [if_pos h, if_pos h]; simp
    · have hk := hu i hi h
      have e1 := ih (g i).left.toNat (by omega) (by omega)
      have e2 := ih (g i).right.toNat (by omega) (by omega)
      rw [if_neg h, if_neg h]
      simp only [List.length_append, List.length_cons]
      omega
theorem lfs_len {g : Nat → Nd} {n : Nat} {f : Int} (h : Tree g n f) : 2 * (lfs g n).length = n + 1 := by
  have h1 := (lvs_perm h (Nat.le_refl n)).length_eq
  have h2 := (nod_perm h (Nat.le_refl n)).length_eq
  have h3 := lvs_nod_len h.up n 0 (by have := h.2.1; omega) (by omega)
  rw [List.length_range] at h2
  omega
theorem lfs_mem {g : Nat → Nd} {n i : Nat} : i ∈ lfs g n ↔ i < n ∧ (g i).left = 0 := by
  unfold lfs
  rw [List.mem_filter, List.mem_range]
  simp [isLf]
theorem lfs_sorted (g : Nat → Nd) (n : Nat) : (lfs g n).Pairwise (· < ·) := List.Pairwise.filter _ List.pairwise_lt_range
theorem lfs_succ (g : Nat → Nd) (n : Nat) : lfs g (n + 1) = lfs g n ++ (if (g n).left = 0 then [n] else []) := by
  unfold lfs
  rw [List.range_succ, List.filter_append]
  by_cases h : (g n).left = 0
  · simp [isLf, h]
  · simp [isLf, h]
theorem lvs_len_le {g : Nat → Nd} {n : Nat} {f : Int} (h : Tree g n f) : (lvs g 15 0).length = (lfs g n).length ∧ 1 ≤ (lfs g n).length ∧ (lfs g n).length ≤ 8 := by
  have h1 := (lvs_perm h (fu := 15) (by have := h.2.1; omega)).length_eq
  have := lfs_len h
  have := h.2.1
  omega

/-- A row that is in order and has the leaves is the leaves in their order. -/
theorem lfs_of_sorted {g : Nat → Nd} {n m : Nat} {f : Int} (h : Tree g n f) {y : Nat → Int} (hp : ((List.range m).map y).Perm ((lvs g 15 0).map Int.ofNat)) (hs : ∀ p q, p < q → q < m → y p ≤ y q) : (List.range m).map y = (lfs g n).map Int.ofNat := by
  have hp2 : ((List.range m).map y).Perm ((lfs g n).map Int.ofNat) := hp.trans ((lvs_perm h (by have := h.2.1; omega)).map _)
  refine List.Perm.eq_of_pairwise (le := fun a b => a ≤ b) (fun a b _ _ h1 h2 => Int.le_antisymm h1 h2) ?_ ?_ hp2
  · rw [List.pairwise_map]
    refine List.pairwise_iff_getElem.2 fun i j hi hj hij => ?_
    simp only [List.getElem_range]
    exact hs i j hij (by simpa using hj)
  · rw [List.pairwise_map]
    exact (lfs_sorted g n).imp fun h => Int.ofNat_le.2 (Nat.le_of_lt h)
end Go.Proofs.Ytnhbgagdppbldaa
