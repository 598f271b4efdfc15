/- Words for memory; plans in plain words. -/
import Derived.Below
import Derived.Laws.OwnMore
import Derived.Deep.AppendLies
import Derived.Deep.Draws
import Derived.Laws.Rows
import Derived.Test.YtmkipdhappikhaaGreatDoorK0
namespace Go.Proofs.YtmkipdhappikhaaGreatDoor

/-! ### Words -/
section
set_option linter.unusedVariables false
set_option linter.unusedSimpArgs false
open Go.RowKit

/-- Block g is just the cells cs of element type t, none frozen. -/
def Blk (w : World) (g : Nat) (t : TypeId) (cs : Array Value) : Prop := w.heap[g]? = some (.cells cs t (0, 0))

section
variable {w w' : World} {g : Nat} {t : TypeId} {cs : Array Value}
theorem Blk.lt (h : Blk w g t cs) : g < w.heap.size := by
  rcases Nat.lt_or_ge g w.heap.size with hlt | hge
  · exact hlt
  · unfold Blk at h; rw [Array.getElem?_eq_none hge] at h; cases h
theorem Blk.cell (h : Blk w g t cs) (i : Nat) : w.cell? ⟨g, i, none⟩ = cs[i]? := cell_of_row w g i cs t (0, 0) h
theorem Blk.frozen (h : Blk w g t cs) (i : Nat) : w.frozen? ⟨g, i, none⟩ = false := by
  unfold Blk at h
  simp [World.frozen?, h]
theorem Blk.new (w : World) (t : TypeId) (cs : Array Value) : Blk (w.alloc (.cells cs t)) w.heap.size t cs := heap_alloc_new w _
theorem Blk.new2 (w : World) (o : Obj) (t : TypeId) (cs : Array Value) : Blk ((w.alloc o).alloc (.cells cs t)) (w.heap.size + 1) t cs := by
  have := Blk.new (w.alloc o) t cs
  rwa [World.size_alloc] at this
theorem Blk.new3 (w : World) (o o' : Obj) (t : TypeId) (cs : Array Value) : Blk (((w.alloc o).alloc o').alloc (.cells cs t)) (w.heap.size + 2) t cs := by
  have := Blk.new ((w.alloc o).alloc o') t cs
  rwa [World.size_alloc, World.size_alloc] at this
theorem Blk.drew (h : Blk w g t cs) : Blk w.drew g t cs := h
theorem Blk.drewN (h : Blk w g t cs) (n : Nat) : Blk (w.drewN n) g t cs := h
theorem Blk.alloc (h : Blk w g t cs) (o : Obj) : Blk (w.alloc o) g t cs := (Below.heap_alloc w o g h.lt).trans h
theorem Blk.set_ (h : Blk w g t cs) (i : Nat) (u : Value) : Blk (w.setCell ⟨g, i, none⟩ u) g t (cs.setIfInBounds i u) := by
  unfold Blk at h ⊢
  simp [World.setCell, Array.getElem?_modify, h]
theorem Blk.far (h : Blk w g t cs) {p : Addr} (hp : g ≠ p.block) (u : Value) : Blk (w.setCell p u) g t cs := (Below.heap_setCell w p u g hp).trans h
theorem Blk.below {B : Nat} (h : Blk w g t cs) (hb : Below B w w') (hg : g < B) : Blk w' g t cs := (hb.block g hg).trans h
theorem Blk.grown {row : Option Nat} (h : Blk w g t cs) (hb : w.grownBy w' row) (hg : some g ≠ row) : Blk w' g t cs := (hb.block g h.lt hg).trans h
theorem Blk.ne_ {g' : Nat} {t' : TypeId} {cs' : Array Value} (h : Blk w g t cs) (h' : Blk w g' t' cs') (hne : t ≠ t') : g ≠ g' := by
  rintro rfl
  unfold Blk at h h'
  rw [h] at h'
  injection h' with h'
  injection h' with _ ht
  exact hne ht
end

theorem hid {p : Prop} (h : p) : Hid p := h
theorem below_drewN {B : Nat} {a w : World} (h : Below B a w) (n : Nat) : Below B a (w.drewN n) := ⟨h.os, h.tape, h.output, h.size, h.block⟩

/-- The slice at A reads as n numbers z, and lies below block B. -/
def Rd (w : World) (B : Nat) (A : Option Addr) (n : Nat) (z : Nat → Int) : Prop :=
  0 < n → ∃ b off, A = some ⟨b, off, none⟩ ∧ b < B ∧ ∀ i, i < n → w.cell? ⟨b, off + i, none⟩ = some (.int .i64 (z i))

section
variable {w w' : World} {B B' n : Nat} {A : Option Addr} {z : Nat → Int}
theorem Rd.keep (h : Rd w B A n z) (hk : ∀ p : Addr, p.block < B → w'.cell? p = w.cell? p) : Rd w' B A n z := fun hn => by
  obtain ⟨b, off, e, hb, hc⟩ := h hn
  exact ⟨b, off, e, hb, fun i hi => (hk _ hb).trans (hc i hi)⟩
theorem Rd.more (h : Rd w B A n z) (hB : B ≤ B') : Rd w B' A n z := fun hn => by
  obtain ⟨b, off, e, hb, hc⟩ := h hn
  exact ⟨b, off, e, by omega, hc⟩
theorem Rd.below (h : Rd w B A n z) (hb : Below B w w') : Rd w' B A n z := h.keep fun _ hp => hb.cell hp
theorem Rd.to (h : Rd w B A n z) (hb : Below B w w') (hB : B ≤ w'.heap.size) : Rd w' w'.heap.size A n z := (h.below hb).more hB
theorem Rd.at_ {k : Nat} (h : Rd w B A n z) (hk : k < n) : ∃ b off, A = some ⟨b, off, none⟩ ∧ b < B ∧ w.cell? ⟨b, off + k, none⟩ = some (.int .i64 (z k)) := by
  obtain ⟨b, off, e, hb, hc⟩ := h (by omega)
  exact ⟨b, off, e, hb, hc k hk⟩
theorem Rd.congr {y : Nat → Int} (h : Rd w B A n z) (he : ∀ i, i < n → z i = y i) : Rd w B A n y := fun hn => by
  obtain ⟨b, off, e, hb, hc⟩ := h hn
  exact ⟨b, off, e, hb, fun i hi => by rw [← he i hi]; exact hc i hi⟩
end

/-- Block b, of element type t, bears the numbers z at its first n places. -/
def Row (w : World) (t : TypeId) (b n : Nat) (z : Nat → Int) : Prop :=
  ∃ cs : Array Value, Blk w b t cs ∧ n ≤ cs.size ∧ ∀ i, i < n → cs[i]? = some (.int .i64 (z i))

section
variable {w w' : World} {t : TypeId} {b n : Nat} {z : Nat → Int}
theorem Row.lt (h : Row w t b n z) : b < w.heap.size := by obtain ⟨cs, hb, _⟩ := h; exact hb.lt
theorem Row.rd {B : Nat} (h : Row w t b n z) (hB : b < B) : Rd w B (some ⟨b, 0, none⟩) n z := fun _ => by
  obtain ⟨cs, hb, hn, hc⟩ := h
  exact ⟨b, 0, rfl, hB, fun i hi => by rw [Nat.zero_add, hb.cell, hc i hi]⟩
theorem Row.keep (h : Row w t b n z) (hk : w'.heap[b]? = w.heap[b]?) : Row w' t b n z := by
  obtain ⟨cs, hb, hn, hc⟩ := h
  exact ⟨cs, hk.trans hb, hn, hc⟩
theorem Row.below {B : Nat} (h : Row w t b n z) (hb : Below B w w') (hB : b < B) : Row w' t b n z := h.keep (hb.block b hB)
theorem Row.frozen (h : Row w t b n z) (i : Nat) : w.frozen? ⟨b, i, none⟩ = false := by obtain ⟨cs, hb, _⟩ := h; exact hb.frozen i
theorem Row.cell {i : Nat} (h : Row w t b n z) (hi : i < n) : w.cell? ⟨b, i, none⟩ = some (.int .i64 (z i)) := by
  obtain ⟨cs, hb, _, hc⟩ := h; rw [hb.cell, hc i hi]
theorem Row.set_ {i : Nat} (h : Row w t b n z) (x : Int) : Row (w.setCell ⟨b, i, none⟩ (.int .i64 x)) t b n (fun j => if j = i then x else z j) := by
  obtain ⟨cs, hb, hn, hc⟩ := h
  refine ⟨_, hb.set_ i _, by simpa using hn, fun j hj => ?_⟩
  show _ = some (Value.int IntKind.i64 (if j = i then x else z j))
  by_cases e : j = i
  · subst e
    rw [if_pos rfl, Array.getElem?_setIfInBounds_self_of_lt (by omega)]
  · rw [if_neg e, Array.getElem?_setIfInBounds_ne (by omega)]
    exact hc j hj
theorem Row.congr {y : Nat → Int} (h : Row w t b n z) (he : ∀ i, i < n → z i = y i) : Row w t b n y := by
  obtain ⟨cs, hb, hn, hc⟩ := h
  exact ⟨cs, hb, hn, fun i hi => by rw [← he i hi]; exact hc i hi⟩
end
end

/-! ### PlA -/
section
set_option linter.unusedVariables false
set_option linter.unusedSimpArgs false
open Go.RowKit

/-- Is the number i among the first k of o? -/
def hitB (o : Nat → Int) (i : Int) : Nat → Bool
  | 0 => false
  | k + 1 => hitB o i k || (o k == i)
/-- Are the first k numbers of an order indexes of n trees, each another one? -/
def ordO (o : Nat → Int) (n : Nat) : Nat → Bool
  | 0 => true
  | k + 1 => ordO o n k && ((decide (0 ≤ o k) && decide (o k < (n : Int))) && !hitB o (o k) k)
/-- The last of the first k ends. -/
def lastE (e : Nat → Int) : Nat → Int
  | 0 => 0
  | k + 1 => e k
/-- Do the first k ends increase from 0 on? -/
def incE (e : Nat → Int) : Nat → Bool
  | 0 => true
  | k + 1 => incE e k && decide (lastE e k < e k)
def endsB (e : Nat → Int) (ne : Nat) (n : Nat) : Bool := incE e ne && decide (lastE e ne = (n : Int))
/-- The sum of the k numbers from i on. -/
def sufS (v : Nat → Int) : Nat → Nat → Int
  | 0, _ => 0
  | k + 1, i => v i + sufS v k (i + 1)
/-- What remains from each place on. -/
def tabF (v : Nat → Int) (n : Nat) : Nat → Int := fun i => sufS v (n - i) i
def sameB (n n' : Nat) (z y : Nat → Int) : Bool := decide (n = n') && eqTo z y n

theorem hitB_iff {o : Nat → Int} {i : Int} : ∀ {k : Nat}, hitB o i k = true ↔ ∃ j, j < k ∧ o j = i := by
  intro k
  induction k with
  | zero => simp [hitB]
  | succ k ih =>
    simp only [hitB, Bool.or_eq_true, ih, beq_iff_eq]
    constructor
    · rintro (⟨j, hj, e⟩ | e)
      · exact ⟨j, by omega, e⟩
      · exact ⟨k, by omega, e⟩
    · rintro ⟨j, hj, e⟩
      rcases Nat.lt_succ_iff_lt_or_eq.1 hj with h | h
      · exact .inl ⟨j, h, e⟩
      · subst h; exact .inr e
theorem ordO_iff {o : Nat → Int} {n : Nat} : ∀ {k : Nat}, ordO o n k = true ↔ ∀ i, i < k → (0 ≤ o i ∧ o i < (n : Int)) ∧ ∀ j, j < i → o j ≠ o i := by
  intro k
  induction k with
  | zero => simp [ordO]
  | succ k ih =>
    simp only [ordO, Bool.and_eq_true, ih, decide_eq_true_eq, Bool.not_eq_true', Bool.eq_false_iff]
    constructor
    · rintro ⟨h, ⟨h1, h2⟩, h3⟩ i hi
      rcases Nat.lt_succ_iff_lt_or_eq.1 hi with hlt | rfl
      · exact h i hlt
      · exact ⟨⟨h1, h2⟩, fun j hj e => h3 (hitB_iff.2 ⟨j, hj, e⟩)⟩
    · intro h
      refine ⟨fun i hi => h i (by omega), (h k (by omega)).1, fun hh => ?_⟩
      obtain ⟨j, hj, e⟩ := hitB_iff.1 hh
      exact (h k (by omega)).2 j hj e
theorem ordO_false {o : Nat → Int} {n k m : Nat} (hk : k < m) (h : ((decide (0 ≤ o k) && decide (o k < (n : Int))) && !hitB o (o k) k) = false) : ordO o n m = false := by
  induction m with
  | zero => omega
  | succ m ih =>
    simp only [ordO]
    by_cases e : k = m
    · subst e; rw [h, Bool.and_false]
    · rw [ih (by omega), Bool.false_and]
theorem incE_iff {e : Nat → Int} : ∀ {k : Nat}, incE e k = true ↔ ∀ i, i < k → lastE e i < e i := by
  intro k
  induction k with
  | zero => simp [incE]
  | succ k ih =>
    simp only [incE, Bool.and_eq_true, ih, decide_eq_true_eq]
    constructor
    · rintro ⟨h, h1⟩ i hi
      rcases Nat.lt_succ_iff_lt_or_eq.1 hi with hlt | rfl
      · exact h i hlt
      · exact h1
    · intro h; exact ⟨fun i hi => h i (by omega), h k (by omega)⟩
theorem incE_false {e : Nat → Int} {k m : Nat} (hk : k < m) (h : ¬ lastE e k < e k) : incE e m = false := by
  rw [Bool.eq_false_iff]
  intro hh
  exact h (incE_iff.1 hh k hk)
theorem incE_le {e : Nat → Int} : ∀ {k : Nat}, incE e k = true → (k : Int) ≤ lastE e k := by
  intro k
  induction k with
  | zero => intro _; simp [lastE]
  | succ k ih =>
    intro h
    simp only [incE, Bool.and_eq_true, decide_eq_true_eq] at h
    have := ih h.1
    simp only [lastE]
    omega
theorem endsB_le {e : Nat → Int} {ne n : Nat} (h : endsB e ne n = true) : ne ≤ n := by
  simp only [endsB, Bool.and_eq_true, decide_eq_true_eq] at h
  have := incE_le h.1
  omega
theorem endsB_inc {e : Nat → Int} {ne n : Nat} (h : incE e ne = false) : endsB e ne n = false := by unfold endsB; rw [h, Bool.false_and]
theorem tabF_end (v : Nat → Int) (n : Nat) : tabF v n n = 0 := by unfold tabF; rw [Nat.sub_self]; rfl
theorem tabF_step (v : Nat → Int) {n i : Nat} (h : i < n) : tabF v n i = tabF v n (i + 1) + v i := by
  unfold tabF
  obtain ⟨k, hk⟩ : ∃ k, n - i = k + 1 := ⟨n - i - 1, by omega⟩
  have e : n - (i + 1) = k := by omega
  rw [hk, e]
  simp only [sufS]
  omega
theorem tabF_bound {v : Nat → Int} {n : Nat} (h : ∀ i, i < n → -1000000000 ≤ v i ∧ v i ≤ 1000000000) : ∀ k i, i + k = n → -1000000000 * (k : Int) ≤ tabF v n i ∧ tabF v n i ≤ 1000000000 * (k : Int) := by
  intro k
  induction k with
  | zero =>
    intro i e
    obtain rfl : i = n := by omega
    rw [tabF_end]; omega
  | succ k ih =>
    intro i e
    have h1 := ih (i + 1) (by omega)
    have h2 := h i (by omega)
    rw [tabF_step v (by omega)]
    omega
theorem tabF_congr {v v' : Nat → Int} {n : Nat} (h : ∀ i, i < n → v i = v' i) : ∀ k i, i + k = n → tabF v n i = tabF v' n i := by
  intro k
  induction k with
  | zero =>
    intro i e
    obtain rfl : i = n := by omega
    rw [tabF_end, tabF_end]
  | succ k ih =>
    intro i e
    rw [tabF_step v (by omega), tabF_step v' (by omega), ih (i + 1) (by omega), h i (by omega)]
theorem sameB_iff {n n' : Nat} {z y : Nat → Int} : sameB n n' z y = true ↔ n = n' ∧ ∀ k, k < n → z k = y k := by
  simp only [sameB, Bool.and_eq_true, decide_eq_true_eq, eqTo_iff]
theorem eqTo_false {z y : Nat → Int} {k m : Nat} (hk : k < m) (h : ¬ z k = y k) : eqTo z y m = false := by
  rw [Bool.eq_false_iff]
  intro hh
  exact h (eqTo_iff.1 hh k hk)
theorem sameB_comm (n n' : Nat) (z y : Nat → Int) : sameB n n' z y = sameB n' n y z := by
  rw [Bool.eq_iff_iff, sameB_iff, sameB_iff]
  constructor
  · rintro ⟨rfl, h⟩; exact ⟨rfl, fun k hk => (h k hk).symm⟩
  · rintro ⟨rfl, h⟩; exact ⟨rfl, fun k hk => (h k hk).symm⟩
end
end Go.Proofs.YtmkipdhappikhaaGreatDoor
