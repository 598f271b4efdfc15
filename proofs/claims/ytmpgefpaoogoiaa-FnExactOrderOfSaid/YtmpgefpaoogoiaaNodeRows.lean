/- Lists of nodes in memory of one's own. -/
import Derived.Test.YtmpgefpaoogoiaaDrawG
namespace Go.Proofs.Ytmpgefpaoogoiaa
open Go.RowKit Go.Deep

def nodesC (n : Nat) (g : Nat → Nd) : List Value := (List.range n).flatMap fun i => ndC (g i)
theorem nodesC_succ (n : Nat) (g : Nat → Nd) : nodesC (n + 1) g = nodesC n g ++ ndC (g n) := by
  unfold nodesC
  rw [List.range_succ, List.flatMap_append]
  simp
theorem nodesC_len (n : Nat) (g : Nat → Nd) : (nodesC n g).length = n * 6 := by
  induction n with
  | zero => rfl
  | succ n ih => rw [nodesC_succ, List.length_append, ih]; simp [ndC]; omega
theorem nodesC_one (n : Nat) (g : Nat → Nd) : ∀ u ∈ nodesC n g, u.oneCell' = true := by
  intro u hu
  unfold nodesC at hu
  simp only [List.mem_flatMap] at hu
  obtain ⟨i, _, hd⟩ := hu
  simp only [ndC, List.mem_cons, List.not_mem_nil, or_false] at hd
  rcases hd with rfl | rfl | rfl | rfl | rfl | rfl <;> rfl
theorem nodesC_at (g : Nat → Nd) : ∀ (n i j : Nat), i < n → j < 6 → (nodesC n g)[i * 6 + j]? = (ndC (g i))[j]? := by
  intro n
  induction n with
  | zero => intro i j hi; omega
  | succ n ih =>
    intro i j hi hj
    rw [nodesC_succ]
    by_cases e : i = n
    · subst e
      rw [List.getElem?_append_right (by rw [nodesC_len]; omega), nodesC_len]
      congr 1; omega
    · rw [List.getElem?_append_left (by rw [nodesC_len]; omega)]
      exact ih i j (by omega) hj
theorem ndAt_get {w : World} {b o : Nat} {d : Nd} (h : NdAt w b o d) (j : Nat) (u : Value) (hu : (ndC d)[j]? = some u) : w.cell? ⟨b, o + j, none⟩ = some u := by
  obtain ⟨c0, c1, c2, c3, c4, c5⟩ := h
  match j, hu with
  | 0, hu => exact c0.trans hu
  | 1, hu => exact c1.trans hu
  | 2, hu => exact c2.trans hu
  | 3, hu => exact c3.trans hu
  | 4, hu => exact c4.trans hu
  | 5, hu => exact c5.trans hu
  | j + 6, hu => simp [ndC] at hu
theorem nodes_src {w : World} {b off n : Nat} {g : Nat → Nd} (hC : ∀ i, i < n → NdAt w b (off + i * 6) (g i)) : ∀ j u, (nodesC n g)[j]? = some u → w.cell? (Addr.add ⟨b, off, none⟩ j) = some u := by
  intro j u hu
  have hj : j < n * 6 := by
    have := (List.getElem?_eq_some_iff.1 hu).1
    rwa [nodesC_len] at this
  have e : j = (j / 6) * 6 + j % 6 := by omega
  rw [e, nodesC_at g n (j / 6) (j % 6) (by omega) (by omega)] at hu
  rw [Addr.add_lit, e]
  have := ndAt_get (hC (j / 6) (by omega)) (j % 6) u hu
  rw [← this]
  congr 2; omega
theorem own_rowN {w : World} {B m c : Nat} {t : TypeId} {A' : Option Addr} {g : Nat → Nd} (h : w.ownsRow B t 6 (.slice A' m c) m (nodesC m g)) (hm : 0 < m) :
    ∃ b, A' = some ⟨b, 0, none⟩ ∧ B ≤ b ∧ m ≤ c ∧ RowN w t b m g := by
  rcases h.2 with ⟨_, h0⟩ | ⟨b, cap, cur, hv, hb, hg, h1, _, h3, ht⟩
  · omega
  · injection hv with e1 _ e3
    refine ⟨b, e1, hb, by omega, cur, hg, by rw [h3]; exact Nat.mul_le_mul_right 6 h1, fun i hi j hj => ?_⟩
    have hlt : i * 6 + j < m * 6 := by omega
    have := nodesC_at g m i j hi hj
    rw [← ht, List.getElem?_take, if_pos hlt, Array.getElem?_toList] at this
    exact this
/-- One cell of a node written anew. -/
theorem RowN.miss {w : World} {t : TypeId} {b n k : Nat} {g : Nat → Nd} (h : RowN w t b n g) (hk : k < n) (q : Bool) :
    RowN (w.setCell ⟨b, k * 6 + 4, none⟩ (.bool q)) t b n (fun i => if i = k then { g i with miss := q } else g i) := by
  obtain ⟨cs, hB, hsz, hc⟩ := h
  refine ⟨_, hB.set_ (k * 6 + 4) (.bool q), by simpa using hsz, fun i hi j hj => ?_⟩
  show _ = (ndC (if i = k then { g i with miss := q } else g i))[j]?
  by_cases e : i = k
  · subst e
    rw [if_pos rfl]
    by_cases e4 : j = 4
    · subst e4
      rw [Array.getElem?_setIfInBounds_self_of_lt (by omega)]; rfl
    · rw [Array.getElem?_setIfInBounds_ne (by omega), hc i hi j hj]
      obtain rfl | rfl | rfl | rfl | rfl : j = 0 ∨ j = 1 ∨ j = 2 ∨ j = 3 ∨ j = 5 := by omega
      all_goals rfl
  · rw [if_neg e, Array.getElem?_setIfInBounds_ne (by omega)]
    exact hc i hi j hj
theorem RowN.congr {w : World} {t : TypeId} {b n : Nat} {g g' : Nat → Nd} (h : RowN w t b n g) (he : ∀ i, i < n → g i = g' i) : RowN w t b n g' := by
  obtain ⟨cs, hB, hsz, hc⟩ := h
  exact ⟨cs, hB, hsz, fun i hi j hj => by rw [← he i hi]; exact hc i hi j hj⟩
theorem RowN.frozen {w : World} {t : TypeId} {b n : Nat} {g : Nat → Nd} (h : RowN w t b n g) (i : Nat) : w.frozen? ⟨b, i, none⟩ = false := by obtain ⟨cs, hb, _⟩ := h; exact hb.frozen i
end Go.Proofs.Ytmpgefpaoogoiaa
