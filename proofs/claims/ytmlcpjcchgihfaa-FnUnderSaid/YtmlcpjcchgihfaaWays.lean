/- Paths of trees and documents that agree; a tree below a split. -/
import Derived.Test.YtmlcpjcchgihfaaPath
import Derived.Test.YtmlcpjcchgihfaaPureB
namespace Go.Proofs.Ytmlcpjcchgihfaa

theorem itr_two {g g' : Nat → Nd} {z z' : Nat → Int} {T : Nat} (h : ∀ s, s < T → nxt g' z' (itr g z s) = nxt g z (itr g z s)) : ∀ s, s ≤ T → itr g' z' s = itr g z s := by
  intro s
  induction s with
  | zero => intro _; rfl
  | succ s ih =>
    intro hs
    simp only [itr]
    rw [ih (by omega)]
    exact h s (by omega)
theorem ends_two {g g' : Nat → Nd} {z z' : Nat → Int} {T : Nat} (hE : Ends g z T) (h : ∀ s, s < T → nxt g' z' (itr g z s) = nxt g z (itr g z s))
    (hl : ∀ i, (g' i).left = 0 ↔ (g i).left = 0) : Ends g' z' T := by
  have hi := itr_two h
  refine ⟨fun t ht => ?_, ?_⟩
  · rw [hi t (by omega)]; exact fun e => hE.1 t ht ((hl _).1 e)
  · rw [hi T (Nat.le_refl _)]; exact (hl _).2 hE.2
theorem nxt_doc {g : Nat → Nd} {z z' : Nat → Int} {i : Nat} (h : z' (g i).feat.toNat = z (g i).feat.toNat) : nxt g z' i = nxt g z i := by
  unfold nxt; rw [h]

/-- The direction for what is missing the other way round in each split. -/
def flip (g : Nat → Nd) : Nat → Nd := fun i => if 0 < (g i).left then { g i with miss := !(g i).miss } else g i
theorem flip_left (g : Nat → Nd) (i : Nat) : (flip g i).left = (g i).left := by unfold flip; split <;> rfl
theorem flip_right (g : Nat → Nd) (i : Nat) : (flip g i).right = (g i).right := by unfold flip; split <;> rfl
theorem flip_feat (g : Nat → Nd) (i : Nat) : (flip g i).feat = (g i).feat := by unfold flip; split <;> rfl
theorem flip_cut (g : Nat → Nd) (i : Nat) : (flip g i).cut = (g i).cut := by unfold flip; split <;> rfl
theorem flip_value (g : Nat → Nd) (i : Nat) : (flip g i).value = (g i).value := by unfold flip; split <;> rfl
theorem flip_par (g : Nat → Nd) (i j : Nat) : par (flip g i) j = par (g i) j := by unfold par; rw [flip_left, flip_right]
theorem flip_node {g : Nat → Nd} {f : Int} {n i : Nat} (h : Node f n i (g i)) : Node f n i (flip g i) := by
  unfold Node at h ⊢
  rw [flip_left, flip_right]
  split
  · rename_i e
    rw [if_pos e] at h
    have e2 : flip g i = g i := by unfold flip; rw [if_neg (by omega)]
    rw [e2]; exact h
  · rename_i e
    rw [if_neg e] at h
    refine ⟨?_, h.2⟩
    have h1 := h.1
    unfold spB at h1 ⊢
    rw [flip_feat, flip_cut, flip_value]; exact h1
theorem flip_tree {g : Nat → Nd} {n : Nat} {f : Int} (h : Tree g n f) : Tree (flip g) n f := by
  refine ⟨h.1, h.2.1, fun i hi => ⟨flip_node (h.2.2 i hi).1, fun h0 => ?_⟩⟩
  have := (h.2.2 i hi).2 h0
  simp only [flip_par]; exact this
theorem flip_nxt {g : Nat → Nd} {z : Nat → Int} {i : Nat} (h : z (g i).feat.toNat ≠ 9999999) : nxt (flip g) z i = nxt g z i := by
  unfold nxt goL
  rw [flip_feat, flip_left, flip_right, flip_cut, if_neg h, if_neg h]

/-! ### a tree below a split -/
def shiftN (d : Nd) : Nd := if 0 < d.left then { d with left := d.left + 1, right := d.right + 1 } else d
def under (g : Nat → Nd) (m : Nat) (d : Nd) (v : Int) : Nat → Nd
  | 0 => ⟨d.feat, d.cut, 1, (m : Int) + 1, d.miss, d.value⟩
  | i + 1 => if i < m then shiftN (g i) else ⟨0, 0, 0, 0, false, v⟩
theorem under_zero (g : Nat → Nd) (m : Nat) (d : Nd) (v : Int) : under g m d v 0 = ⟨d.feat, d.cut, 1, (m : Int) + 1, d.miss, d.value⟩ := rfl
theorem under_in {g : Nat → Nd} {m i : Nat} (d : Nd) (v : Int) (hi : i < m) : under g m d v (i + 1) = shiftN (g i) := if_pos hi
theorem under_last (g : Nat → Nd) (m : Nat) (d : Nd) (v : Int) : under g m d v (m + 1) = ⟨0, 0, 0, 0, false, v⟩ := if_neg (by omega)
theorem shift_yes {d : Nd} (h : 0 < d.left) : shiftN d = { d with left := d.left + 1, right := d.right + 1 } := by unfold shiftN; rw [if_pos h]
theorem shift_no {d : Nd} (h : ¬ 0 < d.left) : shiftN d = d := by unfold shiftN; rw [if_neg h]
theorem node_leaf {f : Int} {n i : Nat} {d : Nd} (h : d.left = 0) (hl : lfB d = true) : Node f n i d := by unfold Node; rw [if_pos h]; exact hl
theorem node_split {f : Int} {n i : Nat} {d : Nd} (h : d.left ≠ 0) (hs : spB f d = true ∧ ((i : Int) + 1 ≤ d.left ∧ d.left ≤ (n : Int) - 1) ∧ ((i : Int) + 1 ≤ d.right ∧ d.right ≤ (n : Int) - 1) ∧ d.left ≠ d.right) : Node f n i d := by
  unfold Node; rw [if_neg h]; exact hs
theorem node_yes {f : Int} {n i : Nat} {d : Nd} (hN : Node f n i d) (h : d.left = 0) : lfB d = true := by unfold Node at hN; rw [if_pos h] at hN; exact hN
theorem node_no {f : Int} {n i : Nat} {d : Nd} (hN : Node f n i d) (h : d.left ≠ 0) : spB f d = true ∧ ((i : Int) + 1 ≤ d.left ∧ d.left ≤ (n : Int) - 1) ∧ ((i : Int) + 1 ≤ d.right ∧ d.right ≤ (n : Int) - 1) ∧ d.left ≠ d.right := by
  unfold Node at hN; rw [if_neg h] at hN; exact hN
theorem par_mk {d : Nd} {j : Nat} (h : 0 < d.left) : par d j = (if d.left = (j : Int) then 1 else 0) + (if d.right = (j : Int) then 1 else 0) := by unfold par; rw [if_pos h]
theorem par_no {d : Nd} {j : Nat} (h : ¬ 0 < d.left) : par d j = 0 := by unfold par; rw [if_neg h]
theorem cnt_left (p : Nat → Nat) : ∀ n, cnt p (n + 1) = p 0 + cnt (fun k => p (k + 1)) n := by
  intro n
  induction n with
  | zero => simp [cnt]
  | succ n ih => rw [cnt, ih]; simp only [cnt]; omega
theorem cnt_congr {p q : Nat → Nat} : ∀ n, (∀ k, k < n → p k = q k) → cnt p n = cnt q n := by
  intro n
  induction n with
  | zero => intro _; rfl
  | succ n ih => intro h; simp only [cnt]; rw [ih fun k hk => h k (by omega), h n (by omega)]
theorem shift_par (d : Nd) (j : Nat) : par (shiftN d) (j + 1) = par d j := by
  by_cases h : 0 < d.left
  · rw [shift_yes h, par_mk h, par_mk (show 0 < ({ d with left := d.left + 1, right := d.right + 1 } : Nd).left from by simp only; omega)]
    have e1 : (d.left + 1 = ((j + 1 : Nat) : Int)) ↔ d.left = (j : Int) := by omega
    have e2 : (d.right + 1 = ((j + 1 : Nat) : Int)) ↔ d.right = (j : Int) := by omega
    simp only [e1, e2]
  · rw [shift_no h, par_no h, par_no h]
theorem under_tree {g : Nat → Nd} {m : Nat} {f : Int} {d : Nd} {v : Int} (h : Tree g m f) (hm : m ≤ 13) (hd : spB f d = true) (hv : -1000000000 ≤ v ∧ v ≤ 1000000000) :
    Tree (under g m d v) (m + 2) f := by
  obtain ⟨hf, hn, ha⟩ := h
  refine ⟨hf, ⟨by omega, by omega⟩, fun i hi => ?_⟩
  cases i with
  | zero =>
    refine ⟨?_, fun h0 => absurd h0 (by omega)⟩
    rw [under_zero]
    refine node_split (by simp only; omega) ⟨hd, ?_⟩
    simp only
    omega
  | succ i =>
    have hpar : ∀ k, k < i → i ≤ m → par (under g m d v (k + 1)) (i + 1) = par (g k) i := by
      intro k hk him
      rw [under_in d v (by omega)]
      exact shift_par _ _
    have hcnt : cnt (fun k => par (under g m d v k) (i + 1)) (i + 1) = par (under g m d v 0) (i + 1) + cnt (fun k => par (g k) i) i := by
      rw [cnt_left]
      congr 1
      exact cnt_congr _ fun k hk => hpar k hk (by omega)
    have h0 : par (under g m d v 0) (i + 1) = (if i = 0 then 1 else 0) + (if i = m then 1 else 0) := by
      rw [under_zero, par_mk (by simp only; omega)]
      have e1 : ((1 : Int) = ((i + 1 : Nat) : Int)) ↔ i = 0 := by omega
      have e2 : ((m : Int) + 1 = ((i + 1 : Nat) : Int)) ↔ i = m := by omega
      simp only [e1, e2]
    rcases Nat.lt_or_ge i m with him | him
    · have hN := ha i him
      refine ⟨?_, fun _ => ?_⟩
      · rw [under_in d v him]
        by_cases hl : (g i).left = 0
        · rw [shift_no (by omega)]
          exact node_leaf hl (node_yes hN.1 hl)
        · obtain ⟨a, b, c, e⟩ := node_no hN.1 hl
          rw [shift_yes (by omega)]
          refine node_split (by simp only; omega) ⟨a, ?_⟩
          simp only
          omega
      · rw [hcnt, h0]
        by_cases hi0 : i = 0
        · subst hi0; rw [if_pos rfl, if_neg (by omega)]; rfl
        · rw [if_neg hi0, if_neg (by omega), hN.2 (by omega)]
    · have him : i = m := by omega
      subst him
      refine ⟨?_, fun _ => ?_⟩
      · rw [under_last]
        refine node_leaf rfl ?_
        unfold lfB
        simp; omega
      · rw [hcnt, h0, if_neg (by omega), if_pos rfl]
        have : cnt (fun k => par (g k) i) i = 0 := by
          refine cnt_zero _ _ fun k hk => ?_
          have hN := (ha k hk).1
          by_cases hl : (g k).left = 0
          · exact par_no (by omega)
          · obtain ⟨_, b, c, _⟩ := node_no hN hl
            rw [par_mk (by omega), if_neg (by omega), if_neg (by omega)]
        omega
theorem nxt_is {g : Nat → Nd} {i : Nat} {e : Nd} (z : Nat → Int) (h : g i = e) : nxt g z i = if goL e (z e.feat.toNat) = true then e.left.toNat else e.right.toNat := by subst h; rfl
theorem dep_no {g : Nat → Nd} {f i : Nat} {e : Nd} (h : g i = e) (hl : e.left = 0) : dep g (f + 1) i = 0 := by subst h; rw [dep, if_pos hl]
theorem dep_yes {g : Nat → Nd} {f i : Nat} {e : Nd} (h : g i = e) (hl : e.left ≠ 0) : dep g (f + 1) i = 1 + max (dep g f e.left.toNat) (dep g f e.right.toNat) := by subst h; rw [dep, if_neg hl]
theorem under_nxt0 (g : Nat → Nd) (m : Nat) (d : Nd) (v : Int) (z : Nat → Int) : nxt (under g m d v) z 0 = if goL d (z d.feat.toNat) = true then 1 else m + 1 := by
  rw [nxt_is z (under_zero g m d v)]
  have e : goL ⟨d.feat, d.cut, 1, (m : Int) + 1, d.miss, d.value⟩ (z d.feat.toNat) = goL d (z d.feat.toNat) := rfl
  simp only [e]
  split
  · rfl
  · omega
theorem shift_left (d : Nd) : (shiftN d).left = 0 ↔ d.left = 0 := by
  by_cases h : 0 < d.left
  · rw [shift_yes h]; simp only; omega
  · rw [shift_no h]
theorem under_nxt {g : Nat → Nd} {m i : Nat} (d : Nd) (v : Int) (z : Nat → Int) (hu : Up g m) (hi : i < m) (hl : (g i).left ≠ 0) : nxt (under g m d v) z (i + 1) = nxt g z i + 1 := by
  have := hu i hi hl
  rw [nxt_is z ((under_in d v hi).trans (shift_yes (by omega)))]
  have e2 : goL { g i with left := (g i).left + 1, right := (g i).right + 1 } (z (g i).feat.toNat) = goL (g i) (z (g i).feat.toNat) := rfl
  simp only [e2]
  unfold nxt
  split <;> omega
theorem under_itr {g : Nat → Nd} {m T : Nat} {d : Nd} {v : Int} {z : Nat → Int} (hu : Up g m) (hm : 0 < m) (hE : Ends g z T) (hg : goL d (z d.feat.toNat) = true) : ∀ s, s ≤ T → itr (under g m d v) z (s + 1) = itr g z s + 1 := by
  intro s
  induction s with
  | zero => intro _; simp only [itr]; rw [under_nxt0, if_pos hg]
  | succ s ih =>
    intro hs
    rw [itr, ih (by omega)]
    have hlt := (itr_up z hu hm s fun t ht => hE.1 t (by omega)).2
    rw [under_nxt d v z hu hlt (hE.1 s (by omega))]
    rfl
theorem under_ends_left {g : Nat → Nd} {m T : Nat} {d : Nd} {v : Int} {z : Nat → Int} (hu : Up g m) (hm : 0 < m) (hE : Ends g z T) (hg : goL d (z d.feat.toNat) = true) : Ends (under g m d v) z (T + 1) := by
  have hi := under_itr (v := v) hu hm hE hg
  have hlt : ∀ s, s ≤ T → itr g z s < m := fun s hs => (itr_up z hu hm s fun t ht => hE.1 t (by omega)).2
  have hl : ∀ s, s ≤ T → ((under g m d v (itr g z s + 1)).left = 0 ↔ (g (itr g z s)).left = 0) := fun s hs => by
    rw [under_in d v (hlt s hs), shift_left]
  refine ⟨fun t ht => ?_, ?_⟩
  · cases t with
    | zero => simp only [itr, under_zero]; omega
    | succ t =>
      rw [hi t (by omega)]
      exact fun e => hE.1 t (by omega) ((hl t (by omega)).1 e)
  · rw [hi T (Nat.le_refl _)]
    exact (hl T (Nat.le_refl _)).2 hE.2
theorem under_ends_right {g : Nat → Nd} {m : Nat} {d : Nd} {v : Int} {z : Nat → Int} (hg : ¬ goL d (z d.feat.toNat) = true) : Ends (under g m d v) z 1 ∧ itr (under g m d v) z 1 = m + 1 := by
  have e : itr (under g m d v) z 1 = m + 1 := by simp only [itr]; rw [under_nxt0, if_neg hg]
  refine ⟨⟨fun t ht => ?_, ?_⟩, e⟩
  · obtain rfl : t = 0 := by omega
    simp only [itr, under_zero]; omega
  · rw [e, under_last]
theorem under_dep {g : Nat → Nd} {m : Nat} (d : Nd) (v : Int) (hu : Up g m) : ∀ k i, i < m → dep (under g m d v) k (i + 1) = dep g k i := by
  intro k
  induction k with
  | zero => intro i _; rfl
  | succ k ih =>
    intro i hi
    by_cases hl : (g i).left = 0
    · rw [dep_no rfl hl, dep_no (under_in d v hi) ((shift_left _).2 hl)]
    · have hb := hu i hi hl
      rw [dep_yes rfl hl, dep_yes ((under_in d v hi).trans (shift_yes (by omega))) (by simp only; omega)]
      simp only
      have e1 : ((g i).left + 1).toNat = (g i).left.toNat + 1 := by omega
      have e2 : ((g i).right + 1).toNat = (g i).right.toNat + 1 := by omega
      rw [e1, e2, ih _ (by omega), ih _ (by omega)]
theorem dep_pos (g : Nat → Nd) : ∀ f i, 0 ≤ dep g f i := by
  intro f
  induction f with
  | zero => intro i; exact Int.le_refl _
  | succ f ih =>
    intro i
    simp only [dep]
    split
    · exact Int.le_refl _
    · have := ih (g i).left.toNat; omega
theorem under_deep {g : Nat → Nd} {m : Nat} (d : Nd) (v : Int) (hu : Up g m) (hm : 0 < m) (hm2 : m ≤ 13) : dep (under g m d v) 15 0 = dep g 15 0 + 1 := by
  have e : dep (under g m d v) 15 0 = 1 + max (dep (under g m d v) 14 1) (dep (under g m d v) 14 (m + 1)) := by
    rw [dep_yes (under_zero g m d v) (by simp only; omega)]
    have e1 : ((m : Int) + 1).toNat = m + 1 := by omega
    simp only [e1]; rfl
  have e2 : dep (under g m d v) 14 (m + 1) = 0 := dep_no (under_last g m d v) rfl
  have e3 := under_dep d v hu 14 0 (by omega)
  have e4 := dep_fuel hu 14 15 0 (by omega) (by omega) (by omega)
  have := dep_pos g 14 0
  rw [e, e2, e3, ← e4]
  omega
end Go.Proofs.Ytmlcpjcchgihfaa
