/- The program's own tree: treeOf. -/
import Derived.Test.YtmpgefpaoogoiaaTreeD
namespace Go.Proofs.Ytmpgefpaoogoiaa
open Go.RowKit Go.Deep

open Classical in
/-- What belongs to no split behind the work on the nodes from m on. -/
noncomputable def restC (g : Nat → Nd) (n m : Nat) (P : Nat → Nat) : Nat → Option Addr := fun j => if Hd g n m j then some ⟨P j, 0, none⟩ else none
theorem restC_yes {g : Nat → Nd} {n m j : Nat} {P : Nat → Nat} (h : Hd g n m j) : restC g n m P j = some ⟨P j, 0, none⟩ := if_pos h
theorem restC_no {g : Nat → Nd} {n m j : Nat} {P : Nat → Nat} (h : ¬ Hd g n m j) : restC g n m P j = none := if_neg h
theorem restC_some {g : Nat → Nd} {n m j : Nat} {P : Nat → Nat} (h : (restC g n m P j).isSome = true) : Hd g n m j := by
  by_cases hh : Hd g n m j
  · exact hh
  · rw [restC_no hh] at h; cases h

/-- The two twigs behind node d. -/
def kidL (d : Nd) (P : Nat → Nat) : Option Addr := if d.left = 0 then none else some ⟨P d.left.toNat, 0, none⟩
def kidR (d : Nd) (P : Nat → Nat) : Option Addr := if d.left = 0 then none else some ⟨P d.right.toNat, 0, none⟩
/-- The twigs of the nodes from m on lie in memory. -/
def Twigs (w : World) (g : Nat → Nd) (n m : Nat) (P : Nat → Nat) : Prop := ∀ j, m ≤ j → j < n → Tw w (P j) (g j) j (kidL (g j) P) (kidR (g j) P)

theorem takeV_some {c : Nat → Option Addr} {z : Int} (h : (takeV c z).isSome = true) : ∃ l : Nat, z = l ∧ l < 15 ∧ takeV c z = c l := by
  unfold takeV at h ⊢
  by_cases hz : 0 ≤ z ∧ z < 15
  · rw [if_pos hz]
    exact ⟨z.toNat, by omega, by omega, rfl⟩
  · rw [if_neg hz] at h; cases h
theorem takeV_nat (c : Nat → Option Addr) (l : Nat) (hl : l < 15) : takeV c l = c l := by
  unfold takeV
  rw [if_pos (by omega)]
  rfl

theorem split_step {g : Nat → Nd} {n k : Nat} {f : Int} {P : Nat → Nat} (hn : n ≤ 15) (h0 : ¬ (g k).left = 0) :
    splitP f (g k) (takeV (restC g n (k + 1) P) (g k).left) (takeV (takeC (restC g n (k + 1) P) (g k).left) (g k).right) = true ↔ Step g n f k := by
  unfold splitP Step
  rw [if_neg h0]
  simp only [Bool.and_eq_true]
  constructor
  · rintro ⟨hs, hp, hq⟩
    obtain ⟨l, hl, hl15, el⟩ := takeV_some hp
    obtain ⟨r, hr, hr15, er⟩ := takeV_some hq
    rw [el] at hp
    rw [er] at hq
    have hne : l ≠ r := by
      rintro rfl
      unfold takeC at hq
      rw [if_pos (by omega)] at hq
      cases hq
    unfold takeC at hq
    rw [if_neg (by omega)] at hq
    exact ⟨l, r, hl, hr, restC_some hp, restC_some hq, hne, hs⟩
  · rintro ⟨l, r, hl, hr, hL, hR, hne, hs⟩
    have hl15 : l < 15 := by have := hL.2.1; omega
    have hr15 : r < 15 := by have := hR.2.1; omega
    rw [hl, hr, takeV_nat _ l hl15, takeV_nat _ r hr15, restC_yes hL]
    unfold takeC
    rw [if_neg (by omega), restC_yes hR]
    exact ⟨hs, rfl, rfl⟩

theorem split_kids {g : Nat → Nd} {n k : Nat} {f : Int} {P : Nat → Nat} (hn : n ≤ 15) (h0 : ¬ (g k).left = 0) (h : Step g n f k) :
    takeV (restC g n (k + 1) P) (g k).left = kidL (g k) P ∧ takeV (takeC (restC g n (k + 1) P) (g k).left) (g k).right = kidR (g k) P ∧
    ((g k).left.toNat ≠ k ∧ (g k).right.toNat ≠ k) := by
  unfold Step at h
  rw [if_neg h0] at h
  obtain ⟨l, r, hl, hr, hL, hR, hne, hs⟩ := h
  have hl15 : l < 15 := by have := hL.2.1; omega
  have hr15 : r < 15 := by have := hR.2.1; omega
  unfold kidL kidR
  rw [if_neg h0, if_neg h0]
  rw [hl, hr, takeV_nat _ l hl15, takeV_nat _ r hr15, restC_yes hL]
  unfold takeC
  rw [if_neg (by omega), restC_yes hR]
  have := hL.1
  have := hR.1
  exact ⟨rfl, rfl, by simp; omega, by simp; omega⟩

/-- The pointers with one more. -/
def setP (P : Nat → Nat) (k b : Nat) : Nat → Nat := fun j => if j = k then b else P j
theorem setP_at (P : Nat → Nat) (k b : Nat) : setP P k b k = b := if_pos rfl
theorem setP_ne {P : Nat → Nat} {k b j : Nat} (h : j ≠ k) : setP P k b j = P j := if_neg h

theorem rest_leaf {g : Nat → Nd} {n k b : Nat} {P : Nat → Nat} (hk : k < n) (h0 : (g k).left = 0) (j : Nat) :
    (fun j => if j = k then some ⟨b, 0, none⟩ else restC g n (k + 1) P j) j = restC g n k (setP P k b) j := by
  show (if j = k then some ⟨b, 0, none⟩ else restC g n (k + 1) P j) = _
  have hp : par (g k) j = 0 := by unfold par; rw [if_neg (by omega)]
  by_cases e : j = k
  · subst e
    rw [if_pos rfl, restC_yes ((hd_step g n j j hk).2 (.inl rfl)), setP_at]
  · rw [if_neg e]
    by_cases hh : Hd g n (k + 1) j
    · rw [restC_yes hh, restC_yes ((hd_step g n k j hk).2 (.inr ⟨hh, hp⟩)), setP_ne e]
    · rw [restC_no hh, restC_no]
      intro h'
      rcases (hd_step g n k j hk).1 h' with h' | h'
      · exact e h'
      · exact hh h'.1
theorem rest_split {g : Nat → Nd} {n k b : Nat} {f : Int} {P : Nat → Nat} (hk : k < n) (h0 : ¬ (g k).left = 0) (h : Step g n f k) (j : Nat) :
    (fun j => if j = k then some ⟨b, 0, none⟩ else takeC (takeC (restC g n (k + 1) P) (g k).left) (g k).right j) j = restC g n k (setP P k b) j := by
  show (if j = k then some ⟨b, 0, none⟩ else takeC (takeC (restC g n (k + 1) P) (g k).left) (g k).right j) = _
  by_cases e : j = k
  · subst e
    rw [if_pos rfl, restC_yes ((hd_step g n j j hk).2 (.inl rfl)), setP_at]
  · rw [if_neg e]
    unfold Step at h
    rw [if_neg h0] at h
    obtain ⟨l, r, hl, hr, hL, hR, hne, hs⟩ := h
    have hl1 := hL.1
    unfold takeC
    rw [hl, hr]
    by_cases e1 : j = r
    · subst e1
      rw [if_pos rfl, restC_no]
      intro h'
      rcases (hd_step g n k j hk).1 h' with h' | h'
      · exact e h'
      · have := h'.2; unfold par at this; rw [if_pos (by omega), if_pos hr] at this; omega
    · rw [if_neg (by omega)]
      by_cases e2 : j = l
      · subst e2
        rw [if_pos rfl, restC_no]
        intro h'
        rcases (hd_step g n k j hk).1 h' with h' | h'
        · exact e h'
        · have := h'.2; unfold par at this; rw [if_pos (by omega), if_pos hl] at this; omega
      · rw [if_neg (by omega)]
        have hp : par (g k) j = 0 := by unfold par; rw [if_pos (by omega), if_neg (by omega), if_neg (by omega)]
        by_cases hh : Hd g n (k + 1) j
        · rw [restC_yes hh, restC_yes ((hd_step g n k j hk).2 (.inr ⟨hh, hp⟩)), setP_ne e]
        · rw [restC_no hh, restC_no]
          intro h'
          rcases (hd_step g n k j hk).1 h' with h' | h'
          · exact e h'
          · exact hh h'.1

theorem kid_set {g : Nat → Nd} {n k b j : Nat} {f : Int} {P : Nat → Nat} (hj : k < j) (h : Step g n f j) : kidL (g j) (setP P k b) = kidL (g j) P ∧ kidR (g j) (setP P k b) = kidR (g j) P := by
  unfold kidL kidR
  by_cases h0 : (g j).left = 0
  · rw [if_pos h0, if_pos h0, if_pos h0, if_pos h0]; exact ⟨rfl, rfl⟩
  · unfold Step at h
    rw [if_neg h0] at h
    obtain ⟨l, r, hl, hr, hL, hR, _⟩ := h
    have := hL.1
    have := hR.1
    rw [if_neg h0, if_neg h0, if_neg h0, if_neg h0, setP_ne (by omega), setP_ne (by omega)]
    exact ⟨rfl, rfl⟩
theorem kid_self {g : Nat → Nd} {n k b : Nat} {f : Int} {P : Nat → Nat} (h : Step g n f k) : kidL (g k) (setP P k b) = kidL (g k) P ∧ kidR (g k) (setP P k b) = kidR (g k) P := by
  unfold kidL kidR
  by_cases h0 : (g k).left = 0
  · rw [if_pos h0, if_pos h0, if_pos h0, if_pos h0]; exact ⟨rfl, rfl⟩
  · unfold Step at h
    rw [if_neg h0] at h
    obtain ⟨l, r, hl, hr, hL, hR, _⟩ := h
    have := hL.1
    have := hR.1
    rw [if_neg h0, if_neg h0, if_neg h0, if_neg h0, setP_ne (by omega), setP_ne (by omega)]
    exact ⟨rfl, rfl⟩

/-- One twig more. -/
theorem twigs_step {w w' : World} {g : Nat → Nd} {n k b : Nat} {f : Int} {P : Nat → Nat} (h : Twigs w g n (k + 1) P) (hs : ∀ j, k + 1 ≤ j → j < n → Step g n f j) (hk : Step g n f k)
    (hkeep : ∀ j, k + 1 ≤ j → j < n → w'.heap[P j]? = w.heap[P j]?) (ht : Tw w' b (g k) k (kidL (g k) P) (kidR (g k) P)) : Twigs w' g n k (setP P k b) := by
  intro j hj hjn
  by_cases e : j = k
  · subst e
    rw [setP_at, (kid_self (P := P) (b := b) hk).1, (kid_self (P := P) (b := b) hk).2]
    exact ht
  · rw [setP_ne e, (kid_set (k := k) (b := b) (P := P) (by omega) (hs j (by omega) hjn)).1, (kid_set (k := k) (b := b) (P := P) (by omega) (hs j (by omega) hjn)).2]
    exact (hkeep j (by omega) hjn).trans (h j (by omega) hjn)
end Go.Proofs.Ytmpgefpaoogoiaa
