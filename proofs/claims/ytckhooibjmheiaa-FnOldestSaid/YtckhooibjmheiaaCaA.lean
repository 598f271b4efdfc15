/- Plain mathematics of caches; slots in memory. -/
import Derived.Test.YtckhooibjmheiaaK0
import Derived.Test.YtckhooibjmheiaaK2
namespace Go.Proofs.Ytckhooibjmheiaa
open Go.RowKit Go.Deep

structure Slt where
  n : Nat
  g : Nat → Sp
  score : Int
  used : Int
/-- The slot is one of a cache with this clock. -/
def slotB (clock : Int) (s : Slt) : Bool := boxB s.n s.g && (decide (0 ≤ s.used) && decide (s.used ≤ clock))
def cacheB (cap clock : Int) (k : Nat) (s : Nat → Slt) : Bool :=
  ((decide (1 ≤ cap) && decide (cap ≤ 8)) && (decide (0 ≤ clock) && decide (clock ≤ 1000000000))) && (decide ((k : Int) ≤ cap) && allP (fun i => slotB clock (s i)) k)
theorem cacheB_iff {cap clock : Int} {k : Nat} {s : Nat → Slt} : cacheB cap clock k s = true ↔ (1 ≤ cap ∧ cap ≤ 8) ∧ (0 ≤ clock ∧ clock ≤ 1000000000) ∧ (k : Int) ≤ cap ∧ ∀ i, i < k → slotB clock (s i) = true := by
  unfold cacheB
  simp only [Bool.and_eq_true, decide_eq_true_eq, allP_iff]
  constructor
  · rintro ⟨⟨a, b⟩, c, d⟩; exact ⟨a, b, c, d⟩
  · rintro ⟨a, b, c, d⟩; exact ⟨⟨a, b⟩, c, d⟩
theorem slotB_iff {clock : Int} {s : Slt} : slotB clock s = true ↔ boxB s.n s.g = true ∧ 0 ≤ s.used ∧ s.used ≤ clock := by
  unfold slotB
  simp only [Bool.and_eq_true, decide_eq_true_eq]
/-- The cache is one, and its clock may go on. -/
def canB (cap clock : Int) (k : Nat) (s : Nat → Slt) : Bool := cacheB cap clock k s && decide (clock < 1000000000)
/-- The first index below k at which p holds, or k. -/
def idxP (p : Nat → Bool) : Nat → Nat
  | 0 => 0
  | k + 1 => if idxP p k < k then idxP p k else if p k = true then k else k + 1
theorem idxP_le (p : Nat → Bool) : ∀ k, idxP p k ≤ k := by
  intro k
  induction k with
  | zero => exact Nat.le_refl _
  | succ k ih => simp only [idxP]; split <;> (try split) <;> omega
theorem idxP_no {p : Nat → Bool} : ∀ {k : Nat} {j}, j < idxP p k → p j = false := by
  intro k
  induction k with
  | zero => intro j hj; simp [idxP] at hj
  | succ k ih =>
    intro j hj
    simp only [idxP] at hj
    have hle := idxP_le p k
    split at hj
    · exact ih hj
    · split at hj
      · exact ih (by omega)
      · rename_i h1 h2
        by_cases e : j = k
        · subst e; simpa using h2
        · exact ih (by omega)
theorem idxP_yes {p : Nat → Bool} : ∀ {k : Nat}, idxP p k < k → p (idxP p k) = true := by
  intro k
  induction k with
  | zero => intro h; omega
  | succ k ih =>
    intro h
    simp only [idxP] at h ⊢
    split
    · rename_i h1; exact ih h1
    · rename_i h1
      rw [if_neg h1] at h
      split
      · assumption
      · rename_i h2; rw [if_neg h2] at h; omega
theorem idxP_at {p : Nat → Bool} {k i : Nat} (hi : i < k) (hp : p i = true) (hn : ∀ j, j < i → p j = false) : idxP p k = i := by
  rcases Nat.lt_trichotomy (idxP p k) i with h | h | h
  · have := idxP_yes (p := p) (k := k) (by omega)
    rw [hn _ h] at this; cases this
  · exact h
  · have := idxP_no h
    rw [hp] at this; cases this
theorem idxP_none {p : Nat → Bool} {k : Nat} (hn : ∀ j, j < k → p j = false) : idxP p k = k := by
  rcases Nat.lt_or_ge (idxP p k) k with h | h
  · have := idxP_yes h
    rw [hn _ h] at this; cases this
  · have := idxP_le p k; omega
def hitP (f : Nat) (z : Nat → Int) (s : Slt) : Bool := boxHasB s.n s.g f z
/-- The slot that answers, or k. -/
def getI (cap clock : Int) (k : Nat) (s : Nat → Slt) (f : Nat) (z : Nat → Int) : Nat := if canB cap clock k s = true then idxP (fun i => hitP f z (s i)) k else k
def upS (s : Nat → Slt) (i : Nat) (u : Int) : Nat → Slt := fun j => if j = i then ⟨(s i).n, (s i).g, (s i).score, u⟩ else s j
theorem upS_n (s : Nat → Slt) (i : Nat) (u : Int) (j : Nat) : (upS s i u j).n = (s j).n := by unfold upS; split <;> simp_all
theorem upS_g (s : Nat → Slt) (i : Nat) (u : Int) (j : Nat) : (upS s i u j).g = (s j).g := by unfold upS; split <;> simp_all
theorem upS_score (s : Nat → Slt) (i : Nat) (u : Int) (j : Nat) : (upS s i u j).score = (s j).score := by unfold upS; split <;> simp_all
/-- The index of the least use, the first one of several. -/
def oldI (u : Nat → Int) : Nat → Nat
  | 0 => 0
  | k + 1 => if k = 0 then 0 else if u k < u (oldI u k) then k else oldI u k
theorem oldI_lt (u : Nat → Int) : ∀ k, 0 < k → oldI u k < k := by
  intro k
  induction k with
  | zero => intro h; omega
  | succ k ih =>
    intro _
    simp only [oldI]
    split
    · omega
    · split
      · omega
      · have := ih (by omega); omega
theorem oldI_min (u : Nat → Int) : ∀ k j, j < k → u (oldI u k) ≤ u j := by
  intro k
  induction k with
  | zero => intro j h; omega
  | succ k ih =>
    intro j hj
    simp only [oldI]
    split
    · rename_i h; obtain rfl : j = 0 := by omega
      exact Int.le_refl _
    · split
      · rename_i h1
        by_cases e : j = k
        · subst e; exact Int.le_refl _
        · have := ih j (by omega); omega
      · rename_i h1
        by_cases e : j = k
        · subst e; omega
        · exact ih j (by omega)
/-- The slots without the one at index a. -/
def cutS (s : Nat → Slt) (a : Nat) : Nat → Slt := fun j => if j < a then s j else s (j + 1)
def addS (s : Nat → Slt) (k : Nat) (x : Slt) : Nat → Slt := fun j => if j = k then x else s j
/-- What put leaves: the number of slots, and the slots. -/
def putK (cap : Int) (k : Nat) : Nat := if (k : Int) = cap then k else k + 1
def putS (cap : Int) (k : Nat) (s : Nat → Slt) (x : Slt) : Nat → Slt :=
  if (k : Int) = cap then addS (cutS s (oldI (fun i => (s i).used) k)) (k - 1) x else addS s k x

/-! ### slots in memory -/
abbrev caV (cap clock : Int) (A : Option Addr) (k c : Nat) : Value := .agg #[.int .i64 cap, .int .i64 clock, .slice A k c]
/-- The slice at A reads as k slots, and lies with their boxes below block B. -/
def RdC (w : World) (B : Nat) (A : Option Addr) (k : Nat) (s : Nat → Slt) : Prop :=
  0 < k → ∃ b off, A = some ⟨b, off, none⟩ ∧ b < B ∧ ∀ i, i < k → ∃ Ai ci, w.cell? ⟨b, off + i * 3, none⟩ = some (.slice Ai (s i).n ci) ∧ w.cell? ⟨b, off + i * 3 + 1, none⟩ = some (.int .i64 (s i).score) ∧ w.cell? ⟨b, off + i * 3 + 2, none⟩ = some (.int .i64 (s i).used) ∧ RdS w B Ai (s i).n (s i).g
section
variable {w w' : World} {B B' k : Nat} {A : Option Addr} {s : Nat → Slt}
theorem RdC.keep (h : RdC w B A k s) (hk : ∀ p : Addr, p.block < B → w'.cell? p = w.cell? p) : RdC w' B A k s := fun hn => by
  obtain ⟨b, off, e, hb, hc⟩ := h hn
  refine ⟨b, off, e, hb, fun i hi => ?_⟩
  obtain ⟨Ai, ci, h0, h1, h2, h3⟩ := hc i hi
  exact ⟨Ai, ci, (hk ⟨b, _, none⟩ hb).trans h0, (hk ⟨b, _, none⟩ hb).trans h1, (hk ⟨b, _, none⟩ hb).trans h2, h3.keep hk⟩
theorem RdC.more (h : RdC w B A k s) (hB : B ≤ B') : RdC w B' A k s := fun hn => by
  obtain ⟨b, off, e, hb, hc⟩ := h hn
  refine ⟨b, off, e, by omega, fun i hi => ?_⟩
  obtain ⟨Ai, ci, h0, h1, h2, h3⟩ := hc i hi
  exact ⟨Ai, ci, h0, h1, h2, h3.more hB⟩
theorem RdC.below (h : RdC w B A k s) (hb : Below B w w') : RdC w' B A k s := h.keep fun _ hp => hb.cell hp
theorem RdC.to (h : RdC w w.heap.size A k s) (hb : Below w.heap.size w w') (hB : w.heap.size ≤ w'.heap.size) : RdC w' w'.heap.size A k s := (h.below hb).more hB
theorem RdC.at_ {i : Nat} (h : RdC w B A k s) (hi : i < k) : ∃ b off Ai ci, A = some ⟨b, off, none⟩ ∧ b < B ∧ w.cell? ⟨b, off + i * 3, none⟩ = some (.slice Ai (s i).n ci) ∧ w.cell? ⟨b, off + i * 3 + 1, none⟩ = some (.int .i64 (s i).score) ∧ w.cell? ⟨b, off + i * 3 + 2, none⟩ = some (.int .i64 (s i).used) ∧ RdS w B Ai (s i).n (s i).g := by
  obtain ⟨b, off, e, hb, hc⟩ := h (by omega)
  obtain ⟨Ai, ci, h1⟩ := hc i hi
  exact ⟨b, off, Ai, ci, e, hb, h1⟩
end
theorem rdc_none {w : World} {B : Nat} {A : Option Addr} {s : Nat → Slt} : RdC w B A 0 s := fun h => absurd h (by omega)
end Go.Proofs.Ytckhooibjmheiaa
