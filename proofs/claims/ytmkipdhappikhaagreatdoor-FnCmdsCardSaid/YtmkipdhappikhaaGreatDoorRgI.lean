/- A region that draws its order, by an invariant: what is asked of each operation once, whatever has come ahead of it. -/
import Derived.Test.YtmkipdhappikhaaGreatDoorK1
import Derived.BigRegion
namespace Go.Proofs.YtmkipdhappikhaaGreatDoor
open Go.RowKit

/-- How many operations have not come up. -/
def leftR (l : Array Bool) : Nat := l.toList.count false
theorem leftR_set {l : Array Bool} {i : Nat} (h : l.getD i true = false) : leftR (l.setIfInBounds i true) + 1 = leftR l := by
  obtain ⟨xs⟩ := l
  have hi : i < xs.length := by
    rcases Nat.lt_or_ge i xs.length with h' | h'
    · exact h'
    · exfalso
      rw [Array.getD_eq_getD_getElem?, Array.getElem?_eq_none (by simpa using h')] at h
      cases h
  have hx : xs[i] = false := by
    rw [Array.getD_eq_getD_getElem?, Array.getElem?_eq_getElem (by simpa using hi)] at h
    simpa using h
  unfold leftR
  have hc : 0 < xs.count false := List.count_pos_iff.2 (by rw [← hx]; exact List.getElem_mem hi)
  simp only [List.setIfInBounds_toArray]
  rw [List.count_set]
  · simp [hx]
    omega
  · exact hi
theorem leftR_pos {l : Array Bool} {i : Nat} (h : l.getD i true = false) : 0 < leftR l := by
  have := leftR_set h; omega

/-- Each operation waits for elder ones alone. -/
def eldersB (ops : Array Oper) : Bool := (List.range ops.size).all fun i => ((ops[i]?).map fun o => o.after.all fun e => decide (e.on < i)).getD true
theorem elders {ops : Array Oper} (h : eldersB ops = true) {i : Nat} {o : Oper} (ho : ops[i]? = some o) : ∀ e ∈ o.after, e.on < i := by
  have hi : i < ops.size := (Array.getElem?_eq_some_iff.1 ho).1
  have := List.all_eq_true.1 h i (List.mem_range.2 hi)
  rw [ho] at this
  intro e he
  have h2 := Array.all_eq_true_iff_forall_mem.1 (show (o.after.all fun e => decide (e.on < i)) = true from this) e he
  simpa using h2
theorem all_listed {md : Region.Mode} {ops : Array Oper} (hE : eldersB ops = true) {l : Array Bool} (hs : l.size = ops.size) (h : Region.ready md ops l = []) : ∀ i, l.getD i true = true := by
  intro i
  induction i using Nat.strongRecOn with
  | ind i ih =>
    rcases hb : l.getD i true with _ | _
    · exfalso
      have hi : i < l.size := by
        rcases Nat.lt_or_ge i l.size with h' | h'
        · exact h'
        · exfalso
          rw [Array.getD_eq_getD_getElem?, Array.getElem?_eq_none h'] at hb
          cases hb
      have hi2 : i < ops.size := by omega
      have : i ∈ Region.ready md ops l := mem_ready.2 ⟨hb, ops[i], Array.getElem?_eq_getElem hi2, fun e he _ => by
        have hlt := elders hE (Array.getElem?_eq_getElem hi2) e he
        have := ih e.on hlt
        have hl : e.on < l.size := by omega
        rw [Array.getD_eq_getD_getElem?, Array.getElem?_eq_getElem hl] at this ⊢
        exact this⟩
      rw [h] at this
      cases this
    · rfl
theorem wpAny_inv {P : Program} {md : Region.Mode} {ops : Array Oper} {Q : Exit → Act → World → Prop} (hE : eldersB ops = true) (I : Array Bool → Act → World → Prop) (hs : ∀ l a w, I l a w → l.size = ops.size)
    (step : ∀ i o, ops[i]? = some o → ∀ l a w, I l a w → l.getD i true = false → (∀ e ∈ o.after, Region.binds md e = true → l.getD e.on false = true) →
      ∀ K : Act → World → Prop, (∀ a' w', I (l.setIfInBounds i true) a' w' → K a' w') → if Region.wanted o (yielded ops a.tmps) then o.wp P a w K Q else K (a.put o.dst undef) w)
    (done : ∀ l a w, I l a w → (∀ i, l.getD i true = true) → Q .normal a w) :
    ∀ (fuel : Nat) (l : Array Bool) (a : Act) (w : World), leftR l ≤ fuel → I l a w → wpAny P md ops Q fuel l a w
  | 0, l, a, w, hf, hI => by
    have h0 : Region.ready md ops l = [] := by
      rcases hr : Region.ready md ops l with _ | ⟨i, r⟩
      · rfl
      · exfalso
        have hi : i ∈ Region.ready md ops l := by rw [hr]; exact List.mem_cons_self
        have := leftR_pos (mem_ready.1 hi).1
        omega
    exact ⟨h0, done l a w hI (all_listed hE (hs l a w hI) h0)⟩
  | fuel + 1, l, a, w, hf, hI => by
    refine ⟨fun h0 => done l a w hI (all_listed hE (hs l a w hI) h0), fun i hi => ?_⟩
    obtain ⟨hu, o, ho, hd⟩ := mem_ready.1 hi
    have := step i o ho l a w hI hu hd (wpAny P md ops Q fuel (l.setIfInBounds i true)) (fun a' w' hI' => wpAny_inv hE I hs step done fuel _ a' w' (by have := leftR_set hu; omega) hI')
    unfold wpOp
    rw [ho]
    dsimp only
    split
    · rename_i hw
      rw [if_pos hw] at this
      exact .inl this
    · rename_i hw
      rw [if_neg hw] at this
      exact this
theorem region_inv {P : Program} {id : Nat} {ops : Array Oper} {Q : Exit → Act → World → Prop} {a : Act} {w : World} (hm : P.follows .mixedOrders = true) (hE : eldersB ops = true) (I : Array Bool → Act → World → Prop) (hs : ∀ l a w, I l a w → l.size = ops.size)
    (h0 : I (Array.replicate ops.size false) a w.drew)
    (step : ∀ i o, ops[i]? = some o → ∀ l a w, I l a w → l.getD i true = false → (∀ e ∈ o.after, Region.binds .any e = true → l.getD e.on false = true) →
      ∀ K : Act → World → Prop, (∀ a' w', I (l.setIfInBounds i true) a' w' → K a' w') → if Region.wanted o (yielded ops a.tmps) then o.wp P a w K Q else K (a.put o.dst undef) w)
    (done : ∀ l a w, I l a w → (∀ i, l.getD i true = true) → Q .normal a w) : (Code.region id ops true).wp P Q a w :=
  wp_region_any hm (wpAny_inv hE I hs step done _ _ _ _ (by simp [leftR]) h0)
end Go.Proofs.YtmkipdhappikhaaGreatDoor
