/- Rows of slots of one's own. -/
import Derived.Test.YtckhooibjmheiaaCaA
import Derived.Test.YtckhooibjmheiaaMeetD
import Derived.Test.YtckhooibjmheiaaDrawX
namespace Go.Proofs.Ytckhooibjmheiaa
open Go.RowKit Go.Deep

def slC (v : Value) (x : Slt) : List Value := [v, .int .i64 x.score, .int .i64 x.used]
def slotsC (k : Nat) (hv : Nat → Value) (s : Nat → Slt) : List Value := (List.range k).flatMap fun i => slC (hv i) (s i)
theorem slotsC_succ (k : Nat) (hv : Nat → Value) (s : Nat → Slt) : slotsC (k + 1) hv s = slotsC k hv s ++ slC (hv k) (s k) := by
  unfold slotsC
  rw [List.range_succ, List.flatMap_append]
  simp
theorem slotsC_len (k : Nat) (hv : Nat → Value) (s : Nat → Slt) : (slotsC k hv s).length = k * 3 := by
  induction k with
  | zero => rfl
  | succ n ih => rw [slotsC_succ, List.length_append, ih]; simp [slC]; omega
theorem slotsC_at (hv : Nat → Value) (s : Nat → Slt) : ∀ (n i j : Nat), i < n → j < 3 → (slotsC n hv s)[i * 3 + j]? = (slC (hv i) (s i))[j]? := by
  intro n
  induction n with
  | zero => intro i j hi; omega
  | succ n ih =>
    intro i j hi hj
    rw [slotsC_succ]
    by_cases e : i = n
    · subst e
      rw [List.getElem?_append_right (by rw [slotsC_len]; omega), slotsC_len]
      congr 1; omega
    · rw [List.getElem?_append_left (by rw [slotsC_len]; omega)]
      exact ih i j (by omega) hj
theorem three_ext {l m : List Value} {k : Nat} (h1 : l.length = k * 3) (h2 : m.length = k * 3) (h : ∀ i j, i < k → j < 3 → l[i * 3 + j]? = m[i * 3 + j]?) : l = m := by
  apply List.ext_getElem?
  intro p
  by_cases hp : p < k * 3
  · have := h (p / 3) (p % 3) (by omega) (by omega)
    rw [show p / 3 * 3 + p % 3 = p by omega] at this
    exact this
  · rw [List.getElem?_eq_none (by omega), List.getElem?_eq_none (by omega)]
def upV (f : Nat → Value) (j : Nat) (x : Value) : Nat → Value := fun i => if i = j then x else f i
theorem slotsC_setH {k i : Nat} (hv : Nat → Value) (s : Nat → Slt) (hi : i < k) (v : Value) : (slotsC k hv s).set (i * 3) v = slotsC k (upV hv i v) s := by
  refine three_ext (k := k) (by rw [List.length_set, slotsC_len]) (slotsC_len _ _ _) fun a j ha hj => ?_
  rw [slotsC_at _ _ k a j ha hj]
  by_cases e : a = i
  · subst e
    by_cases e0 : j = 0
    · subst e0
      rw [Nat.add_zero, List.getElem?_set_self (by rw [slotsC_len]; omega)]
      simp [slC, upV]
    · rw [List.getElem?_set_ne (by omega), slotsC_at _ _ k a j ha hj]
      obtain rfl | rfl : j = 1 ∨ j = 2 := by omega
      all_goals simp [slC]
  · rw [List.getElem?_set_ne (by omega), slotsC_at _ _ k a j ha hj]
    simp [slC, upV, e]
theorem slotsC_setU {k i : Nat} (hv : Nat → Value) (s : Nat → Slt) (hi : i < k) (u : Int) : (slotsC k hv s).set (i * 3 + 2) (.int .i64 u) = slotsC k hv (upS s i u) := by
  refine three_ext (k := k) (by rw [List.length_set, slotsC_len]) (slotsC_len _ _ _) fun a j ha hj => ?_
  rw [slotsC_at _ _ k a j ha hj]
  by_cases e : a = i
  · subst e
    by_cases e0 : j = 2
    · subst e0
      rw [List.getElem?_set_self (by rw [slotsC_len]; omega)]
      simp [slC, upS]
    · rw [List.getElem?_set_ne (by omega), slotsC_at _ _ k a j ha hj]
      obtain rfl | rfl : j = 0 ∨ j = 1 := by omega
      all_goals simp [slC, upS]
  · rw [List.getElem?_set_ne (by omega), slotsC_at _ _ k a j ha hj]
    simp [slC, upS, e]
theorem slotsC_congr {k : Nat} {hv hv' : Nat → Value} {s s' : Nat → Slt} (h : ∀ i, i < k → hv i = hv' i ∧ (s i).score = (s' i).score ∧ (s i).used = (s' i).used) : slotsC k hv s = slotsC k hv' s' := by
  refine three_ext (slotsC_len _ _ _) (slotsC_len _ _ _) fun a j ha hj => ?_
  rw [slotsC_at _ _ k a j ha hj, slotsC_at _ _ k a j ha hj]
  obtain ⟨h1, h2, h3⟩ := h a ha
  simp only [slC, h1, h2, h3]

theorem info_slot : (Try.prog.info? 37).map (fun i => (i.zero, i.size, i.bytes)) = some (some (.agg #[.slice none 0 0, .int .i64 0, .int .i64 0]), 3, 40) := by kernel_rfl
theorem size_cache : (Try.prog.info? 26).map (·.size) = some 3 := by kernel_rfl
theorem size_slot : (Try.prog.info? 37).map (·.size) = some 3 := by kernel_rfl

/-- The boxes of slots, each in memory of its own. -/
def Boxes (w : World) (L k : Nat) (hv : Nat → Value) (s : Nat → Slt) : Prop :=
  ∀ i, i < k → w.ownsRow L 74 3 (hv i) (s i).n (spansC (s i).n (s i).g) ∧ ∀ j, j < i → ∀ x, (hv i).ownBlock = some x → (hv j).ownBlock ≠ some x
/-- Slots in memory of one's own. -/
def OwC (w : World) (L : Nat) (A : Option Addr) (k c : Nat) (s : Nat → Slt) : Prop :=
  ∃ hv : Nat → Value, w.ownsRow L 37 3 (.slice A k c) k (slotsC k hv s) ∧ Boxes w L k hv s
section
variable {w w' : World} {L k c : Nat} {A : Option Addr} {s : Nat → Slt} {hv : Nat → Value}
theorem Boxes.keep (h : Boxes w L k hv s) (hk : ∀ x cs, L ≤ x → Blk w x 74 cs → w'.heap[x]? = w.heap[x]?) : Boxes w' L k hv s := fun i hi =>
  ⟨own_keepJ (h i hi).1 fun g hg _ ho => by
    obtain ⟨_, _, cs, hcs⟩ := own_ltJ (h i hi).1 g ho
    exact hk g cs hg hcs, (h i hi).2⟩
theorem Boxes.below (h : Boxes w L k hv s) (hb : Below w.heap.size w w') : Boxes w' L k hv s := h.keep fun x _ _ hc => hb.block x hc.lt
theorem Boxes.row (h : Boxes w L k hv s) {b : Nat} {cs : Array Value} (hB : Blk w b 37 cs) (hg : w.grownBy w' (some b)) : Boxes w' L k hv s := h.keep fun x _ _ hc => hg.block x hc.lt fun e => by
  injection e with e
  exact hB.ne_ hc (by decide) e.symm
theorem Boxes.less (h : Boxes w L k hv s) {k' : Nat} (hk : k' ≤ k) : Boxes w L k' hv s := fun i hi => h i (by omega)
theorem OwC.below (h : OwC w L A k c s) (hb : Below w.heap.size w w') : OwC w' L A k c s := by
  obtain ⟨hv, h1, h2⟩ := h
  exact ⟨hv, own_below h1 hb, h2.below hb⟩
theorem OwC.less {L' : Nat} (h : OwC w L A k c s) (hL : L' ≤ L) : OwC w L' A k c s := by
  obtain ⟨hv, h1, h2⟩ := h
  have key : ∀ {e : TypeId} {v : Value} {n : Nat} {xs : List Value}, w.ownsRow L e 3 v n xs → w.ownsRow L' e 3 v n xs := fun h => ⟨h.1, by
    rcases h.2 with h0 | ⟨g, cap, cur, e1, e2, rest⟩
    · exact .inl h0
    · exact .inr ⟨g, cap, cur, e1, by omega, rest⟩⟩
  exact ⟨hv, key h1, fun i hi => ⟨key (h2 i hi).1, (h2 i hi).2⟩⟩
theorem rds_ownC {B m : Nat} {v : Value} {g : Nat → Sp} (h : w.ownsRow B 74 3 v m (spansC m g)) : ∃ A c, v = .slice A m c ∧ RdS w w.heap.size A m g := by
  obtain ⟨A, c, rfl⟩ := own_form h
  refine ⟨A, c, rfl, ?_⟩
  rcases Nat.eq_zero_or_pos m with h0 | h0
  · subst h0; exact rds_none
  · obtain ⟨b, rfl, _, _, hr⟩ := own_rowS h h0
    exact rds_of hr
/-- A row of slots known whole. -/
theorem own_slots (h : w.ownsRow L 37 3 (.slice A k c) k (slotsC k hv s)) (hk : 0 < k) :
    ∃ b cs, A = some ⟨b, 0, none⟩ ∧ L ≤ b ∧ Blk w b 37 cs ∧ k ≤ c ∧ ∀ i, i < k → w.cell? ⟨b, i * 3, none⟩ = some (hv i) ∧ w.cell? ⟨b, i * 3 + 1, none⟩ = some (.int .i64 (s i).score) ∧ w.cell? ⟨b, i * 3 + 2, none⟩ = some (.int .i64 (s i).used) := by
  rcases h.2 with ⟨_, h0⟩ | ⟨g, cap, cur, hvv, hb, hg, h1, _⟩
  · omega
  · injection hvv with e1 _ e3
    subst e1 e3
    refine ⟨g, cur, rfl, hb, hg, h1, fun i hi => ?_⟩
    have a0 := slotsC_at hv s k i 0 hi (by omega)
    have a1 := slotsC_at hv s k i 1 hi (by omega)
    have a2 := slotsC_at hv s k i 2 hi (by omega)
    rw [← h.cellAt _ (by omega)] at a0 a1 a2
    exact ⟨a0, a1, a2⟩
theorem OwC.rdC (h : OwC w L A k c s) : RdC w w.heap.size A k s := fun hn => by
  obtain ⟨hv, h1, h2⟩ := h
  obtain ⟨b, cs, rfl, _, hB, _, hc⟩ := own_slots h1 hn
  refine ⟨b, 0, rfl, hB.lt, fun i hi => ?_⟩
  obtain ⟨c0, c1, c2⟩ := hc i hi
  obtain ⟨Ai, ci, e, hr⟩ := rds_ownC (h2 i hi).1
  rw [e] at c0
  exact ⟨Ai, ci, by rw [Nat.zero_add]; exact c0, by rw [Nat.zero_add]; exact c1, by rw [Nat.zero_add]; exact c2, hr⟩
/-- The used cell of a slot is set. -/
theorem OwC.setU {b i : Nat} (h : OwC w L (some ⟨b, 0, none⟩) k c s) (hi : i < k) (u : Int) : OwC (w.setCell ⟨b, i * 3 + 2, none⟩ (.int .i64 u)) L (some ⟨b, 0, none⟩) k c (upS s i u) := by
  obtain ⟨hv, h1, h2⟩ := h
  obtain ⟨b', cs, e, _, hB, _, _⟩ := own_slots h1 (by omega)
  injection e with e
  injection e with e
  subst e
  have h3 := h1.stored (i * 3 + 2) (.int .i64 u)
  rw [slotsC_setU hv s hi u] at h3
  refine ⟨hv, h3.1, fun j hj => ?_⟩
  have := h2.row hB h3.2 j hj
  rw [upS_n, upS_g]
  exact this
/-- The box of a slot is set: one in memory of its own, new since. -/
theorem Boxes.up {i : Nat} {v : Value} (h : Boxes w L k hv s) (hown : w.ownsRow L 74 3 v (s i).n (spansC (s i).n (s i).g)) (hne : ∀ j, j < k → j ≠ i → ∀ x, v.ownBlock = some x → (hv j).ownBlock ≠ some x) : Boxes w L k (upV hv i v) s := fun a ha => by
  unfold upV
  by_cases e : a = i
  · subst e
    rw [if_pos rfl]
    refine ⟨hown, fun j hj x hx => ?_⟩
    rw [if_neg (by omega)]
    exact hne j (by omega) (by omega) x hx
  · rw [if_neg e]
    refine ⟨(h a ha).1, fun j hj x hx => ?_⟩
    by_cases e2 : j = i
    · subst e2
      rw [if_pos rfl]
      intro e3
      exact hne a ha e x e3 hx
    · rw [if_neg e2]
      exact (h a ha).2 j hj x hx
end
end Go.Proofs.Ytckhooibjmheiaa
