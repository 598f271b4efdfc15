/- Plain mathematics of trees, further: fuel does not matter where there is enough; the range of a tree is that of its leaves. -/
import Derived.Test.YtmpgefpaoogoiaaPure
namespace Go.Proofs.Ytmpgefpaoogoiaa

theorem dep_fuel {g : Nat → Nd} {n : Nat} (h : Up g n) : ∀ f f' i, i < n → n - i ≤ f → n - i ≤ f' → dep g f i = dep g f' i := by
  intro f
  induction f with
  | zero => intro f' i hi h1; omega
  | succ f ih =>
    intro f' i hi h1 h2
    obtain ⟨f', rfl⟩ : ∃ k, f' = k + 1 := ⟨f' - 1, by omega⟩
    unfold dep
    by_cases h0 : (g i).left = 0
    · rw [if_pos h0, if_pos h0]
    · have := h i hi h0
      rw [if_neg h0, if_neg h0, ih f' (g i).left.toNat (by omega) (by omega) (by omega), ih f' (g i).right.toNat (by omega) (by omega) (by omega)]
theorem lo_fuel {g : Nat → Nd} {n : Nat} (h : Up g n) : ∀ f f' i, i < n → n - i ≤ f → n - i ≤ f' → loV g f i = loV g f' i := by
  intro f
  induction f with
  | zero => intro f' i hi h1; omega
  | succ f ih =>
    intro f' i hi h1 h2
    obtain ⟨f', rfl⟩ : ∃ k, f' = k + 1 := ⟨f' - 1, by omega⟩
    unfold loV
    by_cases h0 : (g i).left = 0
    · rw [if_pos h0, if_pos h0]
    · have := h i hi h0
      rw [if_neg h0, if_neg h0, ih f' (g i).left.toNat (by omega) (by omega) (by omega), ih f' (g i).right.toNat (by omega) (by omega) (by omega)]
theorem hi_fuel {g : Nat → Nd} {n : Nat} (h : Up g n) : ∀ f f' i, i < n → n - i ≤ f → n - i ≤ f' → hiV g f i = hiV g f' i := by
  intro f
  induction f with
  | zero => intro f' i hi h1; omega
  | succ f ih =>
    intro f' i hi h1 h2
    obtain ⟨f', rfl⟩ : ∃ k, f' = k + 1 := ⟨f' - 1, by omega⟩
    unfold hiV
    by_cases h0 : (g i).left = 0
    · rw [if_pos h0, if_pos h0]
    · have := h i hi h0
      rw [if_neg h0, if_neg h0, ih f' (g i).left.toNat (by omega) (by omega) (by omega), ih f' (g i).right.toNat (by omega) (by omega) (by omega)]

theorem lo_leaf {g : Nat → Nd} {n : Nat} (h : Up g n) : ∀ f i, i < n → n - i ≤ f → ∃ j, j < n ∧ (g j).left = 0 ∧ loV g f i = (g j).value := by
  intro f
  induction f with
  | zero => intro i hi h1; omega
  | succ f ih =>
    intro i hi h1
    unfold loV
    by_cases h0 : (g i).left = 0
    · exact ⟨i, hi, h0, by rw [if_pos h0]⟩
    · have := h i hi h0
      obtain ⟨a, a1, a2, a3⟩ := ih (g i).left.toNat (by omega) (by omega)
      obtain ⟨b, b1, b2, b3⟩ := ih (g i).right.toNat (by omega) (by omega)
      rw [if_neg h0, a3, b3]
      rcases Int.le_total (g a).value (g b).value with hle | hle
      · exact ⟨a, a1, a2, by omega⟩
      · exact ⟨b, b1, b2, by omega⟩
theorem hi_leaf {g : Nat → Nd} {n : Nat} (h : Up g n) : ∀ f i, i < n → n - i ≤ f → ∃ j, j < n ∧ (g j).left = 0 ∧ hiV g f i = (g j).value := by
  intro f
  induction f with
  | zero => intro i hi h1; omega
  | succ f ih =>
    intro i hi h1
    unfold hiV
    by_cases h0 : (g i).left = 0
    · exact ⟨i, hi, h0, by rw [if_pos h0]⟩
    · have := h i hi h0
      obtain ⟨a, a1, a2, a3⟩ := ih (g i).left.toNat (by omega) (by omega)
      obtain ⟨b, b1, b2, b3⟩ := ih (g i).right.toNat (by omega) (by omega)
      rw [if_neg h0, a3, b3]
      rcases Int.le_total (g a).value (g b).value with hle | hle
      · exact ⟨b, b1, b2, by omega⟩
      · exact ⟨a, a1, a2, by omega⟩

/-- Each node but the first has a split ahead of it that leads to it. -/
theorem Tree.parent {g : Nat → Nd} {n : Nat} {f : Int} (h : Tree g n f) (j : Nat) (h0 : 0 < j) (hj : j < n) : ∃ k, k < j ∧ (g k).left ≠ 0 ∧ ((g k).left = (j : Int) ∨ (g k).right = (j : Int)) := by
  have hc := (h.2.2 j hj).2 h0
  have : ∃ k, k < j ∧ par (g k) j ≠ 0 := by
    refine Classical.byContradiction fun hno => ?_
    have := cnt_zero (fun k => par (g k) j) j fun k hk => Classical.byContradiction fun hp => hno ⟨k, hk, hp⟩
    omega
  obtain ⟨k, hk, hp⟩ := this
  unfold par at hp
  by_cases h1 : 0 < (g k).left
  · rw [if_pos h1] at hp
    refine ⟨k, hk, by omega, ?_⟩
    by_cases e1 : (g k).left = (j : Int)
    · exact .inl e1
    · by_cases e2 : (g k).right = (j : Int)
      · exact .inr e2
      · rw [if_neg e1, if_neg e2] at hp; exact absurd rfl hp
  · rw [if_neg h1] at hp; exact absurd rfl hp

theorem lo_low {g : Nat → Nd} {n : Nat} {f : Int} (h : Tree g n f) : ∀ j, j < n → loV g 15 0 ≤ loV g 15 j := by
  intro j
  induction j using Nat.strongRecOn with
  | _ j ih =>
    intro hj
    have hn := h.2.1
    by_cases h0 : j = 0
    · subst h0; omega
    · obtain ⟨k, hk, hs, hkj⟩ := h.parent j (by omega) hj
      have h1 := ih k hk (by omega)
      have hu := h.up k (by omega) hs
      have h2 : loV g 15 k = min (loV g 15 (g k).left.toNat) (loV g 15 (g k).right.toNat) := by
        rw [lo_fuel h.up 15 16 k (by omega) (by omega) (by omega), loV, if_neg hs]
      rcases hkj with e | e
      · rw [e] at h2; simp only [Int.toNat_natCast] at h2; omega
      · rw [e] at h2; simp only [Int.toNat_natCast] at h2; omega
theorem hi_high {g : Nat → Nd} {n : Nat} {f : Int} (h : Tree g n f) : ∀ j, j < n → hiV g 15 j ≤ hiV g 15 0 := by
  intro j
  induction j using Nat.strongRecOn with
  | _ j ih =>
    intro hj
    have hn := h.2.1
    by_cases h0 : j = 0
    · subst h0; omega
    · obtain ⟨k, hk, hs, hkj⟩ := h.parent j (by omega) hj
      have h1 := ih k hk (by omega)
      have hu := h.up k (by omega) hs
      have h2 : hiV g 15 k = max (hiV g 15 (g k).left.toNat) (hiV g 15 (g k).right.toNat) := by
        rw [hi_fuel h.up 15 16 k (by omega) (by omega) (by omega), hiV, if_neg hs]
      rcases hkj with e | e
      · rw [e] at h2; simp only [Int.toNat_natCast] at h2; omega
      · rw [e] at h2; simp only [Int.toNat_natCast] at h2; omega

/-- The least and the greatest value of the leaves among the first k nodes, as the other side reckons them. -/
def loTo (g : Nat → Nd) : Nat → Int
  | 0 => 1000000000
  | k + 1 => if (g k).left = 0 then min (loTo g k) (g k).value else loTo g k
def hiTo (g : Nat → Nd) : Nat → Int
  | 0 => -1000000000
  | k + 1 => if (g k).left = 0 then max (hiTo g k) (g k).value else hiTo g k

theorem loTo_le (g : Nat → Nd) : ∀ m j, j < m → (g j).left = 0 → loTo g m ≤ (g j).value := by
  intro m
  induction m with
  | zero => intro j hj; omega
  | succ m ih =>
    intro j hj h0
    unfold loTo
    by_cases he : j = m
    · subst he; rw [if_pos h0]; omega
    · have := ih j (by omega) h0
      split <;> omega
theorem loTo_at (g : Nat → Nd) : ∀ m, loTo g m = 1000000000 ∨ ∃ j, j < m ∧ (g j).left = 0 ∧ loTo g m = (g j).value := by
  intro m
  induction m with
  | zero => exact .inl rfl
  | succ m ih =>
    unfold loTo
    split
    · rename_i h0
      rcases Int.le_total (loTo g m) (g m).value with hle | hle
      · rcases ih with e | ⟨j, hj, h1, h2⟩
        · exact .inl (by omega)
        · exact .inr ⟨j, by omega, h1, by omega⟩
      · exact .inr ⟨m, by omega, h0, by omega⟩
    · rcases ih with e | ⟨j, hj, h1, h2⟩
      · exact .inl e
      · exact .inr ⟨j, by omega, h1, h2⟩
theorem hiTo_ge (g : Nat → Nd) : ∀ m j, j < m → (g j).left = 0 → (g j).value ≤ hiTo g m := by
  intro m
  induction m with
  | zero => intro j hj; omega
  | succ m ih =>
    intro j hj h0
    unfold hiTo
    by_cases he : j = m
    · subst he; rw [if_pos h0]; omega
    · have := ih j (by omega) h0
      split <;> omega
theorem hiTo_at (g : Nat → Nd) : ∀ m, hiTo g m = -1000000000 ∨ ∃ j, j < m ∧ (g j).left = 0 ∧ hiTo g m = (g j).value := by
  intro m
  induction m with
  | zero => exact .inl rfl
  | succ m ih =>
    unfold hiTo
    split
    · rename_i h0
      rcases Int.le_total (hiTo g m) (g m).value with hle | hle
      · exact .inr ⟨m, by omega, h0, by omega⟩
      · rcases ih with e | ⟨j, hj, h1, h2⟩
        · exact .inl (by omega)
        · exact .inr ⟨j, by omega, h1, by omega⟩
    · rcases ih with e | ⟨j, hj, h1, h2⟩
      · exact .inl e
      · exact .inr ⟨j, by omega, h1, h2⟩

theorem Tree.leaf {g : Nat → Nd} {n : Nat} {f : Int} (h : Tree g n f) {j : Nat} (hj : j < n) (h0 : (g j).left = 0) : -1000000000 ≤ (g j).value ∧ (g j).value ≤ 1000000000 := by
  have := (h.2.2 j hj).1
  unfold Node at this
  rw [if_pos h0] at this
  simp [lfB] at this
  omega
theorem lo_is {g : Nat → Nd} {n : Nat} {f : Int} (h : Tree g n f) : loV g 15 0 = loTo g n := by
  have hn := h.2.1
  obtain ⟨a, a1, a2, a3⟩ := lo_leaf h.up 15 0 (by omega) (by omega)
  have h1 := loTo_le g n a a1 a2
  have hb := h.leaf a1 a2
  rcases loTo_at g n with e | ⟨j, hj, j0, e⟩
  · omega
  · have h2 := lo_low h j hj
    have h3 : loV g 15 j = (g j).value := by
      rw [lo_fuel h.up 15 16 j hj (by omega) (by omega), loV, if_pos j0]
    omega
theorem hi_is {g : Nat → Nd} {n : Nat} {f : Int} (h : Tree g n f) : hiV g 15 0 = hiTo g n := by
  have hn := h.2.1
  obtain ⟨a, a1, a2, a3⟩ := hi_leaf h.up 15 0 (by omega) (by omega)
  have h1 := hiTo_ge g n a a1 a2
  have hb := h.leaf a1 a2
  rcases hiTo_at g n with e | ⟨j, hj, j0, e⟩
  · omega
  · have h2 := hi_high h j hj
    have h3 : hiV g 15 j = (g j).value := by
      rw [hi_fuel h.up 15 16 j hj (by omega) (by omega), hiV, if_pos j0]
    omega

theorem pth_fuel {g : Nat → Nd} {n : Nat} (zs : Nat → Int) (h : Up g n) : ∀ f f' i, i < n → n - i ≤ f → n - i ≤ f' → pth g zs f i = pth g zs f' i := by
  intro f
  induction f with
  | zero => intro f' i hi h1; omega
  | succ f ih =>
    intro f' i hi h1 h2
    obtain ⟨f', rfl⟩ : ∃ k, f' = k + 1 := ⟨f' - 1, by omega⟩
    unfold pth
    by_cases h0 : (g i).left = 0
    · rw [if_pos h0, if_pos h0]
    · have := nxt_up zs h hi h0
      rw [if_neg h0, if_neg h0, ih f' (nxt g zs i) (by omega) (by omega) (by omega)]

end Go.Proofs.Ytmpgefpaoogoiaa
