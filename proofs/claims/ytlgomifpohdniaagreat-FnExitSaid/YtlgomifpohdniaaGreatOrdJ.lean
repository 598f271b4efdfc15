/- Orders on both sides: weights, the walks. -/
import Derived.Sort.WalkA
import Derived.Sort.LotA
import Derived.Test.YtlgomifpohdniaaGreatK3
import Derived.Test.YtlgomifpohdniaaGreatDrawX
import Derived.Test.YtlgomifpohdniaaGreatSortLay
import Derived.Deep.QuietTactic
namespace Go.Proofs.YtlgomifpohdniaaGreat

/-! ### OrA -/
section
set_option linter.unusedVariables false
set_option linter.unusedSimpArgs false
/-- Where x belongs behind the first a of S: behind all that are not greater, from the end. -/
def posn (wt : Nat → Int) (S : Nat → Nat) (x : Nat) : Nat → Nat
  | 0 => 0
  | a + 1 => if wt x < wt (S a) then posn wt S x a else a + 1
/-- x put in at place p. -/
def insF (S : Nat → Nat) (x p : Nat) : Nat → Nat := fun q => if q < p then S q else if q = p then x else S (q - 1)
/-- The first i numbers in order. -/
def ordF (wt : Nat → Int) : Nat → Nat → Nat
  | 0 => fun _ => 0
  | i + 1 => insF (ordF wt i) i (posn wt (ordF wt i) i i)
theorem posn_le (wt : Nat → Int) (S : Nat → Nat) (x : Nat) : ∀ a, posn wt S x a ≤ a := by
  intro a
  induction a with
  | zero => exact Nat.le_refl _
  | succ a ih => simp only [posn]; split <;> omega
theorem ordF_lt (wt : Nat → Int) : ∀ i p, p < i → ordF wt i p < i := by
  intro i
  induction i with
  | zero => intro p hp; omega
  | succ i ih =>
    intro p hp
    have hl := posn_le wt (ordF wt i) i i
    simp only [ordF, insF]
    split
    · have := ih p (by omega); omega
    · split
      · omega
      · have := ih (p - 1) (by omega); omega
theorem ordF_inj (wt : Nat → Int) : ∀ i p q, p < i → q < i → p ≠ q → ordF wt i p ≠ ordF wt i q := by
  intro i
  induction i with
  | zero => intro p q hp; omega
  | succ i ih =>
    intro p q hp hq hne
    have hl := posn_le wt (ordF wt i) i i
    simp only [ordF, insF]
    by_cases p1 : p < posn wt (ordF wt i) i i
    · rw [if_pos p1]
      have a1 := ordF_lt wt i p (by omega)
      by_cases q1 : q < posn wt (ordF wt i) i i
      · rw [if_pos q1]; exact ih p q (by omega) (by omega) hne
      · rw [if_neg q1]
        by_cases q2 : q = posn wt (ordF wt i) i i
        · rw [if_pos q2]; omega
        · rw [if_neg q2]; exact ih p (q - 1) (by omega) (by omega) (by omega)
    · rw [if_neg p1]
      by_cases p2 : p = posn wt (ordF wt i) i i
      · rw [if_pos p2]
        by_cases q1 : q < posn wt (ordF wt i) i i
        · rw [if_pos q1]; have := ordF_lt wt i q (by omega); omega
        · rw [if_neg q1, if_neg (by omega)]; have := ordF_lt wt i (q - 1) (by omega); omega
      · rw [if_neg p2]
        have a1 := ordF_lt wt i (p - 1) (by omega)
        by_cases q1 : q < posn wt (ordF wt i) i i
        · rw [if_pos q1]; exact ih (p - 1) q (by omega) (by omega) (by omega)
        · rw [if_neg q1]
          by_cases q2 : q = posn wt (ordF wt i) i i
          · rw [if_pos q2]; omega
          · rw [if_neg q2]; exact ih (p - 1) (q - 1) (by omega) (by omega) (by omega)
/-- x stands behind all before its place that are not greater, and before all greater ones. -/
theorem posn_spec (wt : Nat → Int) (S : Nat → Nat) (x : Nat) : ∀ a, (∀ q, posn wt S x a ≤ q → q < a → wt x < wt (S q)) ∧ (0 < posn wt S x a → wt (S (posn wt S x a - 1)) ≤ wt x) := by
  intro a
  induction a with
  | zero => exact ⟨fun q h1 h2 => by omega, fun h => by simp [posn] at h⟩
  | succ a ih =>
    simp only [posn]
    by_cases h : wt x < wt (S a)
    · rw [if_pos h]
      refine ⟨fun q h1 h2 => ?_, ih.2⟩
      by_cases e : q = a
      · subst e; exact h
      · exact ih.1 q h1 (by omega)
    · rw [if_neg h]
      exact ⟨fun q h1 h2 => by omega, fun _ => by show wt (S (a + 1 - 1)) ≤ wt x; rw [Nat.add_sub_cancel]; omega⟩
/-- Each is not greater than the next one, and of two alike the first one is first. -/
theorem ordF_sorted (wt : Nat → Int) : ∀ i p, p + 1 < i → wt (ordF wt i p) < wt (ordF wt i (p + 1)) ∨ (wt (ordF wt i p) = wt (ordF wt i (p + 1)) ∧ ordF wt i p < ordF wt i (p + 1)) := by
  intro i
  induction i with
  | zero => intro p hp; omega
  | succ i ih =>
    intro p hp
    have hl := posn_le wt (ordF wt i) i i
    obtain ⟨s1, s2⟩ := posn_spec wt (ordF wt i) i i
    simp only [ordF, insF]
    by_cases p1 : p + 1 < posn wt (ordF wt i) i i
    · rw [if_pos (by omega), if_pos p1]; exact ih p (by omega)
    · by_cases p2 : p + 1 = posn wt (ordF wt i) i i
      · rw [if_pos (by omega), if_neg p1, if_pos p2]
        have h2 := s2 (by omega)
        have e : posn wt (ordF wt i) i i - 1 = p := by omega
        rw [e] at h2
        have := ordF_lt wt i p (by omega)
        omega
      · rw [if_neg (by omega : ¬ p < posn wt (ordF wt i) i i), if_neg p1, if_neg p2]
        by_cases p3 : p = posn wt (ordF wt i) i i
        · rw [if_pos p3, Nat.add_sub_cancel]
          exact .inl (s1 p (by omega) (by omega))
        · rw [if_neg p3, Nat.add_sub_cancel]
          have := ih (p - 1) (by omega)
          have e : p - 1 + 1 = p := by omega
          rw [e] at this
          exact this

/-- x stands at place j among the first i + 1, the others as in S. -/
def Rep {α : Type} [Inhabited α] (val : α → Nat) (d : Array α) (S : Nat → Nat) (x i j : Nat) : Prop := j ≤ i ∧ i < d.size ∧ ∀ p, p < d.size → val d[p]! = if i < p then p else if p < j then S p else if p = j then x else S (p - 1)
theorem insInner_rep {α : Type} [Inhabited α] (val : α → Nat) (wt : Nat → Int) (lt : α → α → Bool) (hlt : ∀ a b, lt a b = decide (wt (val a) < wt (val b))) (S : Nat → Nat) (x i : Nat) : ∀ (j : Nat) (d : Array α), Rep val d S x i j → Rep val (Go.Sort.insInner lt 0 j d) S x i (posn wt S x j) ∧ (Go.Sort.insInner lt 0 j d).size = d.size := by
  intro j
  induction j with
  | zero => intro d h; exact ⟨h, rfl⟩
  | succ j ih =>
    intro d h
    obtain ⟨h1, h2, h3⟩ := h
    have e1 := h3 (j + 1) (by omega)
    rw [if_neg (by omega), if_neg (by omega), if_pos rfl] at e1
    have e2 := h3 j (by omega)
    rw [if_neg (by omega), if_pos (by omega)] at e2
    by_cases hl : wt x < wt (S j)
    · have hl2 : lt d[j + 1]! d[j]! = true := by rw [hlt, e1, e2]; exact decide_eq_true hl
      rw [insInner_go lt 0 (j + 1) d (by omega) (by rw [Nat.add_sub_cancel]; exact hl2), Nat.add_sub_cancel]
      have hR : Rep val (Go.Sort.swp d (j + 1) j) S x i j := by
        refine ⟨by omega, by rw [Go.Sort.size_swp]; exact h2, fun p hp => ?_⟩
        rw [Go.Sort.size_swp] at hp
        by_cases p1 : p = j + 1
        · subst p1
          rw [Go.Sort.swp_left d (j + 1) j hp (by omega), e2, if_neg (by omega), if_neg (by omega), if_neg (by omega), Nat.add_sub_cancel]
        · by_cases p2 : p = j
          · subst p2
            rw [Go.Sort.swp_right d (p + 1) p hp, e1, if_neg (by omega), if_neg (by omega), if_pos rfl]
          · rw [Go.Sort.swp_other d (j + 1) j p p1 p2, h3 p hp]
            by_cases p3 : i < p
            · rw [if_pos p3, if_pos p3]
            · rw [if_neg p3, if_neg p3]
              by_cases p4 : p < j
              · rw [if_pos (by omega), if_pos p4]
              · rw [if_neg (by omega), if_neg (by omega), if_neg p4, if_neg p2]
      obtain ⟨r1, r2⟩ := ih (Go.Sort.swp d (j + 1) j) hR
      simp only [posn]
      rw [if_pos hl]
      exact ⟨r1, by rw [r2, Go.Sort.size_swp]⟩
    · have hl2 : lt d[j + 1]! d[j]! = false := by rw [hlt, e1, e2]; exact decide_eq_false hl
      rw [insInner_stop lt 0 (j + 1) d (.inr (by rw [Nat.add_sub_cancel]; exact hl2))]
      simp only [posn]
      rw [if_neg hl]
      exact ⟨⟨h1, h2, h3⟩, by first | rfl | trivial⟩
theorem insOuter_ord {α : Type} [Inhabited α] (val : α → Nat) (wt : Nat → Int) (lt : α → α → Bool) (hlt : ∀ a b, lt a b = decide (wt (val a) < wt (val b))) : ∀ (k i : Nat) (d : Array α), i + k = d.size → (∀ p, p < d.size → val d[p]! = if p < i then ordF wt i p else p) → (Go.Sort.insOuter lt 0 d.size i d).size = d.size ∧ ∀ p, p < d.size → val (Go.Sort.insOuter lt 0 d.size i d)[p]! = ordF wt d.size p := by
  intro k
  induction k with
  | zero =>
    intro i d e h
    rw [insOuter_stop lt 0 d.size i d (by omega)]
    refine ⟨rfl, fun p hp => ?_⟩
    rw [h p hp, if_pos (by omega)]
    have : i = d.size := by omega
    rw [this]
  | succ k ih =>
    intro i d e h
    rw [insOuter_go lt 0 d.size i d (by omega)]
    have hR : Rep val d (ordF wt i) i i i := by
      refine ⟨Nat.le_refl _, by omega, fun p hp => ?_⟩
      rw [h p hp]
      by_cases p1 : p < i
      · rw [if_pos p1, if_neg (by omega), if_pos p1]
      · rw [if_neg p1]
        by_cases p2 : i < p
        · rw [if_pos p2]
        · rw [if_neg p2, if_neg p1, if_pos (by omega)]; omega
    obtain ⟨⟨r1, r2, r3⟩, r4⟩ := insInner_rep val wt lt hlt (ordF wt i) i i i d hR
    have := ih (i + 1) (Go.Sort.insInner lt 0 i d) (by omega) (fun p hp => by
      rw [r3 p hp]
      by_cases p1 : i < p
      · rw [if_pos p1, if_neg (by omega)]
      · have e2 : (if p < i + 1 then ordF wt (i + 1) p else p) = ordF wt (i + 1) p := if_pos (by omega)
        rw [if_neg p1, e2]
        rfl)
    rw [r4] at this
    exact this
/-- What the library's insertion sort makes of the numbers from 0 on. -/
theorem sort_ord {α : Type} [Inhabited α] (val : α → Nat) (wt : Nat → Int) (lt : α → α → Bool) (hlt : ∀ a b, lt a b = decide (wt (val a) < wt (val b))) (d : Array α) (h0 : 0 < d.size) (hd : ∀ p, p < d.size → val d[p]! = p) :
    (Go.Sort.insertionSort lt d 0 d.size).size = d.size ∧ ∀ p, p < d.size → val (Go.Sort.insertionSort lt d 0 d.size)[p]! = ordF wt d.size p := by
  unfold Go.Sort.insertionSort
  refine insOuter_ord val wt lt hlt (d.size - 1) (0 + 1) d (by omega) fun p hp => ?_
  rw [hd p hp]
  by_cases p1 : p < 1
  · rw [if_pos p1]
    obtain rfl : p = 0 := by omega
    rfl
  · rw [if_neg p1]
end

/-! ### OrC -/
section
set_option linter.unusedVariables false
set_option linter.unusedSimpArgs false
open Go.RowKit Go.Deep

def wtF (pol : Int) (len : Nat → Nat) (g : Nat → Nat → Nd) : Nat → Int := fun i => wtN pol (g i) (len i)
def ordZ (pol : Int) (len : Nat → Nat) (g : Nat → Nat → Nd) (k : Nat) : Nat → Int := fun p => (ordF (wtF pol len g) k p : Nat)
/-- A row of the call's own, its cells said one by one. -/
def Raw (w : World) (b k c : Nat) (z : Nat → Int) (skip : Nat) : Prop := ∃ cs : Array Value, Blk w b 2 cs ∧ cs.size = c ∧ k ≤ c ∧ c ≤ maxLen ∧ (∀ p, p < k → p ≠ skip → cs[p]? = some (.int .i64 (z p))) ∧ ∀ p, p < k → ∃ x : Int, cs[p]? = some (.int .i64 x)
theorem raw_of {w : World} {B b k c : Nat} {z : Nat → Int} (h : w.ownsRow B 2 1 (.slice (some ⟨b, 0, none⟩) k c) k (numsOf k z)) (hk : 0 < k) : B ≤ b ∧ ∀ skip, Raw w b k c z skip := by
  rcases h.2 with ⟨_, h0⟩ | ⟨g, cap, cur, e, hb, hg, hc, hm, hs, ht⟩
  · omega
  · injection e with e1 e2 e3
    injection e1 with e1
    injection e1 with e1
    subst e1 e3
    have hp : ∀ p, p < k → cur[p]? = some (.int .i64 (z p)) := fun p hp => by
      have h1 : (cur.toList.take (k * 1))[p]? = (numsOf k z)[p]? := by rw [ht]
      rw [List.getElem?_take, if_pos (by omega), Array.getElem?_toList] at h1
      rw [h1]
      simp [numsOf, hp]
    exact ⟨hb, fun skip => ⟨cur, hg, by omega, hc, hm, fun p hpk _ => hp p hpk, fun p hpk => ⟨_, hp p hpk⟩⟩⟩
theorem own_raw {w : World} {B b k c skip : Nat} {z : Nat → Int} (h : Raw w b k c z skip) (hB : B ≤ b) (hs : k ≤ skip) : w.ownsRow B 2 1 (.slice (some ⟨b, 0, none⟩) k c) k (numsOf k z) := by
  obtain ⟨cs, h1, h2, h3, h4, h5, _⟩ := h
  refine ⟨by rw [numsOf_len]; omega, .inr ⟨b, c, cs, rfl, hB, h1, h3, h4, by omega, ?_⟩⟩
  apply List.ext_getElem?
  intro p
  rw [List.getElem?_take]
  by_cases hp : p < k
  · rw [if_pos (by omega), Array.getElem?_toList, h5 p hp (by omega)]
    simp [numsOf, hp]
  · rw [if_neg (by omega)]
    symm
    rw [List.getElem?_eq_none_iff, numsOf_len]
    omega
theorem Raw.drewN {w : World} {b k c skip : Nat} {z : Nat → Int} (h : Raw w b k c z skip) (m : Nat) : Raw (w.drewN m) b k c z skip := h
theorem Raw.lt {w : World} {b k c skip : Nat} {z : Nat → Int} (h : Raw w b k c z skip) : b < w.heap.size := by obtain ⟨cs, h1, _⟩ := h; exact h1.lt
theorem Raw.cell {w : World} {b k c skip : Nat} {z : Nat → Int} (h : Raw w b k c z skip) {p : Nat} (hp : p < k) (hs : p ≠ skip) : w.cell? ⟨b, p, none⟩ = some (.int .i64 (z p)) := by
  obtain ⟨cs, h1, _, _, _, h5, _⟩ := h
  rw [h1.cell, h5 p hp hs]
theorem Raw.any {w : World} {b k c skip : Nat} {z : Nat → Int} (h : Raw w b k c z skip) {p : Nat} (hp : p < k) : ∃ x : Int, w.cell? ⟨b, p, none⟩ = some (.int .i64 x) := by
  obtain ⟨cs, h1, _, _, _, _, h6⟩ := h
  obtain ⟨x, hx⟩ := h6 p hp
  exact ⟨x, by rw [h1.cell, hx]⟩
theorem Raw.frozen {w : World} {b k c skip : Nat} {z : Nat → Int} (h : Raw w b k c z skip) (p : Nat) : w.frozen? ⟨b, p, none⟩ = false := by obtain ⟨cs, h1, _⟩ := h; exact h1.frozen p
/-- The place that was free is filled, another one may be free now. -/
theorem Raw.set {w : World} {b k c skip skip' : Nat} {z y : Nat → Int} (h : Raw w b k c z skip) {x : Int} (hp : skip < k) (hx : skip ≠ skip' → y skip = x) (hy : ∀ p, p < k → p ≠ skip → p ≠ skip' → y p = z p) : Raw (w.setCell ⟨b, skip, none⟩ (.int .i64 x)) b k c y skip' := by
  obtain ⟨cs, h1, h2, h3, h4, h5, h6⟩ := h
  refine ⟨_, h1.set_ skip _, by simpa using h2, h3, h4, fun p hpk hs => ?_, fun p hpk => ?_⟩
  · by_cases e : p = skip
    · subst e
      rw [Array.getElem?_setIfInBounds_self_of_lt (by omega), hx hs]
    · rw [Array.getElem?_setIfInBounds_ne (fun q => e q.symm), h5 p hpk e, hy p hpk e hs]
  · by_cases e : p = skip
    · subst e
      rw [Array.getElem?_setIfInBounds_self_of_lt (by omega)]
      exact ⟨_, rfl⟩
    · rw [Array.getElem?_setIfInBounds_ne (fun q => e q.symm)]
      exact h6 p hpk

theorem raw_done {w : World} {b k c a : Nat} {len : Nat → Nat} {g : Nat → Nat → Nd} {pl : Int} (h : Raw w b (k + 1) c (fun p => if p < a then ordZ pl len g k p else ordZ pl len g k (p - 1)) a) (ha : a ≤ k) (hp : posn (wtF pl len g) (ordF (wtF pl len g) k) k k = a) :
    Raw (w.setCell ⟨b, a, none⟩ (.int .i64 k)) b (k + 1) c (ordZ pl len g (k + 1)) (k + 1) := by
  have e : ∀ p, ordZ pl len g (k + 1) p = if p < a then ordZ pl len g k p else if p = a then (k : Int) else ordZ pl len g k (p - 1) := by
    intro p
    show ((insF (ordF (wtF pl len g) k) k (posn (wtF pl len g) (ordF (wtF pl len g) k) k k) p : Nat) : Int) = _
    rw [hp]
    unfold insF
    by_cases p1 : p < a
    · rw [if_pos p1, if_pos p1]; rfl
    · rw [if_neg p1, if_neg p1]
      by_cases p2 : p = a
      · rw [if_pos p2, if_pos p2]
      · rw [if_neg p2, if_neg p2]; rfl
  refine h.set (by omega) (fun _ => ?_) fun p _ h1 _ => ?_
  · rw [e, if_neg (by omega), if_pos rfl]
  · rw [e]
    by_cases p1 : p < a
    · rw [if_pos p1, if_pos p1]
    · rw [if_neg p1, if_neg p1, if_neg h1]

set_option maxRecDepth 100000 in
set_option maxHeartbeats 8000000 in
theorem sOrder_yes (f b pol : Int) (A : Option Addr) (n c : Nat) (len : Nat → Nat) (g : Nat → Nat → Nd) (w : World) (h : RdT w w.heap.size A n len g) (hn : n ≤ 4194304) (hlen : Hid (∀ i, i < n → len i ≤ 4194304)) (hy : ensB f b n len g = true) (hp1 : 1 ≤ pol) (hp3 : pol ≤ 3) :
    Calls Tryz.prog 56 #[enV f b A n c, .int .i64 pol] w fun e w' => ∃ (A' : Option Addr) (c' : Nat), e = .returned (.slice A' n c') ∧ w'.ownsRow w.heap.size 2 1 (.slice A' n c') n (numsOf n (ordZ pol len g n)) ∧ Below w.heap.size w w' := by
  have HY := hid hy
  obtain ⟨_, _, hn12, HT⟩ := ensB_iff.1 hy
  have HT6 : Hid (∀ i, i < n → treeB (g i) (len i) 6 = true) := fun i hi => tree_moreO (HT i hi) (by have := (ensB_iff.1 hy).1; omega) (by omega)
  have HLE : Hid (∀ i, i < n → len i ≤ 15 ∧ 1 ≤ len i) := fun i hi => by have := (treeB_iff _ _ _).1 (HT i hi); exact ⟨this.2.1.2, this.2.1.1⟩
  clear HT hy
  obtain ⟨i0, hi0, hz0, hz1, hz2⟩ := info_parts info_int
  have hP := (Blk.new w 26 #[.int .i64 f, .int .i64 b, .slice A n c]).alloc (.cells #[] 2)
  have hO := World.ownsRow_made (base := w.heap.size) (e := 2) (size := 1) (w.alloc (.cells #[.int .i64 f, .int .i64 b, .slice A n c] 26)) #[] 0 (by simp) (by unfold maxLen; omega) rfl
  have hb0 := ((Below.refl w.heap.size w).alloc (Nat.le_refl _) (.cells #[.int .i64 f, .int .i64 b, .slice A n c] 26)).alloc (by simp) (.cells #[] 2)
  go_enter Tryz.func56, Tryz.ntmps56
  go_wp2_with fail
  refine (sEnsOk_any f b A n c len g _ (h.to hb0 hb0.size) hn hlen).mono ?_
  rintro e w1 ⟨rfl, hb1⟩
  rw [HY.out]
  have hP1 := hP.below hb1 hP.lt
  have hO1 := own_below hO hb1
  have hw1 := hb0.trans (hb1.mono hb0.size)
  have hs1 : (w.alloc (.cells #[.int .i64 f, .int .i64 b, .slice A n c] 26)).heap.size = w.heap.size + 1 := by simp
  rw [hs1] at hO1
  have HO0 : Hid (w1.ownsRow w.heap.size 2 1 (.slice (some ⟨w.heap.size + 1, 0, none⟩) 0 0) 0 (numsOf 0 (ordZ pol len g 0))) := hO1
  have a2 : w1.cell? ⟨w.heap.size, 2, none⟩ = some (.slice A n c) := hP1.cell 2
  clear hP hO hb0 hb1 hs1 hO1
  go_wp2_with fail
  refine (In_any pol 1 3 _).mono ?_
  rintro e w2 ⟨rfl, rfl⟩
  rw [decide_eq_true hp1, decide_eq_true hp3]
  go_wp2_with fail
  clear a2
  go_loopw [5, 6] (fun o i wr => ∃ (k : Nat) (A' : Option Addr) (c' : Nat), k ≤ n ∧ i = .int .i64 k ∧ o = .slice A' k c' ∧ Hid (wr.ownsRow w.heap.size 2 1 (.slice A' k c') k (numsOf k (ordZ pol len g k))) ∧ Hid (Blk wr w.heap.size 26 #[.int .i64 f, .int .i64 b, .slice A n c]) ∧ Below w.heap.size w wr) (fun _ i _ => n - (intOf i).toNat)
  case atStart => exact ⟨0, _, _, Nat.zero_le _, rfl, rfl, HO0, hP1, hw1⟩
  case round =>
    clear HO0 hP1 hw1
    obtain ⟨k, A', c', hk, rfl, rfl, HO, HE, hbw⟩ := hrel
    have a2 : wr.cell? ⟨w.heap.size, 2, none⟩ = some (.slice A n c) := HE.out.cell 2
    by_cases hlt : k < n
    · obtain ⟨tb, off, Ak, ck, rfl, htb, hcell0, hrk⟩ := h.at_ hlt
      have i1 : (k : Int) < (n : Int) := by omega
      have i2 : (0 : Int) ≤ (k : Int) := by omega
      have hbs := hbw.size
      have hEl := HE.out.lt
      have hl := own_ltJ HO.out
      have HL := hid hl
      clear hl
      go_wp2_with (at_builtin; refine wpList_append_lies _ rfl (.tmp 27) (.tmp 29) 27 rfl w.heap.size 2 i0 (.int .i64 0) 1 8 Tryz.underlying27 hi0 hz0 hz1 hz2 rfl (by decide) (.slice A' k c') k (numsOf k (ordZ pol len g k)) rfl (HO.out.alloc _) ⟨wr.heap.size, 0, none⟩ 1 1 [.int .i64 k] rfl rfl (World.news_of_block (cs := #[.int .i64 k]) (t := 2) (fr := (0, 0)) (heap_alloc_new wr _)) (by intro u hu; simp at hu; subst hu; rfl) (by omega) (by unfold maxLen; omega) (by omega) (by rw [World.size_alloc]; omega) (wr.heap.size + 1) (by simp) ?_)
      intro gg cc w5 hown hgr _ _
      have hown' : w5.ownsRow w.heap.size 2 1 (.slice (some ⟨gg, 0, none⟩) (k + 1) cc) (k + 1) (numsOf (k + 1) (fun p => if p = k then (k : Int) else ordZ pol len g k p)) := by
        have e : numsOf (k + 1) (fun p => if p = k then (k : Int) else ordZ pol len g k p) = numsOf k (ordZ pol len g k) ++ [.int .i64 k] := by
          unfold numsOf
          rw [List.range_succ, List.map_append, List.map_cons, List.map_nil]
          simp only [↓reduceIte]
          congr 1
          refine List.map_congr_left fun i hi => ?_
          simp only [if_neg (show ¬ i = k by have := List.mem_range.1 hi; omega)]
        rw [e]
        exact hown
      obtain ⟨hgb, hraw⟩ := raw_of hown' (by omega)
      have hRW : Hid (Raw w5 gg (k + 1) cc (fun p => if p < k then ordZ pol len g k p else ordZ pol len g k (p - 1)) k) := by
        obtain ⟨cs, q1, q2, q3, q4, q5, q6⟩ := hraw k
        exact ⟨cs, q1, q2, q3, q4, fun p hp hne => by rw [q5 p hp hne]; simp only [if_neg hne, if_pos (show p < k by omega)], q6⟩
      have hE5 : Hid (Blk w5 w.heap.size 26 #[.int .i64 f, .int .i64 b, .slice (some ⟨tb, off, none⟩) n c]) := (HE.out.alloc _).grown hgr (own_blk_ne HO.out HE.out (by decide))
      have hb5 : Below w.heap.size w w5 := (hbw.alloc hbs _).grown hgr (by rw [World.size_alloc]; omega) (fun x hx => (HL.out x hx).1)
      clear hown hown' hraw hgr HL HO HE hbw a2 hbs hEl
      go_wp2_with fail
      go_loopw [7] (fun q wr => ∃ a : Nat, a ≤ k ∧ q = .int .i64 a ∧ Hid (posn (wtF pol len g) (ordF (wtF pol len g) k) k a = posn (wtF pol len g) (ordF (wtF pol len g) k) k k) ∧ Hid (Raw wr gg (k + 1) cc (fun p => if p < a then ordZ pol len g k p else ordZ pol len g k (p - 1)) a) ∧ Hid (Blk wr w.heap.size 26 #[.int .i64 f, .int .i64 b, .slice (some ⟨tb, off, none⟩) n c]) ∧ Below w.heap.size w wr) (fun q _ => (intOf q).toNat)
      case atStart => exact ⟨k, Nat.le_refl _, rfl, rfl, hRW, hE5, hb5⟩
      case round =>
        clear hRW hE5 hb5
        obtain ⟨a, ha, rfl, HPS, HR, HE, hbw⟩ := hrel
        have hgne : w.heap.size ≠ gg := by
          obtain ⟨cs, q1, _⟩ := HR.out
          exact fun e => (HE.out.ne_ q1 (by decide)) e
        have a2 : wr.cell? ⟨w.heap.size, 2, none⟩ = some (.slice (some ⟨tb, off, none⟩) n c) := HE.out.cell 2
        by_cases h0 : 0 < a
        · obtain ⟨a, rfl⟩ : ∃ a', a = a' + 1 := ⟨a - 1, by omega⟩
          have hyk := ordF_lt (wtF pol len g) k a (by omega)
          obtain ⟨y, hy⟩ : ∃ y, ordF (wtF pol len g) k a = y := ⟨_, rfl⟩
          have hcy : wr.cell? ⟨gg, a, none⟩ = some (.int .i64 y) := by
            have := HR.out.cell (p := a) (by omega) (by omega)
            simp only [if_pos (show a < a + 1 by omega)] at this
            rw [this]
            show some (Value.int .i64 ((ordF (wtF pol len g) k a : Nat) : Int)) = _
            rw [hy]
          rw [hy] at hyk
          have HYA := hid hy
          clear hy
          obtain ⟨tb2, off2, Ay, cy, e2, _, hcelly0, hry⟩ := h.at_ (show y < n by omega)
          injection e2 with e2
          injection e2 with e2 e3
          subst e2 e3
          have hcellk : wr.cell? ⟨tb, off + k, none⟩ = some (.slice Ak (len k) ck) := (hbw.cell (p := ⟨tb, off + k, none⟩) htb).trans hcell0
          have hcelly : wr.cell? ⟨tb, off + y, none⟩ = some (.slice Ay (len y) cy) := (hbw.cell (p := ⟨tb, off + y, none⟩) htb).trans hcelly0
          have hrk' : RdN wr wr.heap.size Ak (len k) (g k) := (hrk.below hbw).more hbw.size
          have hry' : RdN wr wr.heap.size Ay (len y) (g y) := (hry.below hbw).more hbw.size
          have j1 : (y : Int) < (n : Int) := by omega
          have j2 : (0 : Int) ≤ (y : Int) := by omega
          have j3 : (a : Int) < (k : Int) + 1 := by omega
          have j4 : (0 : Int) ≤ (a : Int) := by omega
          have j5 : (0 : Int) < (a : Int) + 1 := by omega
          have hlk : len k ≤ 4194304 := by have := (HLE.out k hlt).1; omega
          have hly : len y ≤ 4194304 := by have := (HLE.out y (by omega)).1; omega
          obtain ⟨wk, hwk⟩ : ∃ x, wtN pol (g k) (len k) = x := ⟨_, rfl⟩
          obtain ⟨wy, hwy⟩ : ∃ x, wtN pol (g y) (len y) = x := ⟨_, rfl⟩
          have hck := rank_any pol Ak (len k) ck (g k)
          have hcY := rank_any pol Ay (len y) cy (g y)
          rw [hwk] at hck
          rw [hwy] at hcY
          have HWK := hid hwk
          have HWY := hid hwy
          clear hwk hwy hcelly0
          have hfz := HR.out.frozen (a + 1)
          obtain ⟨xo, hxo⟩ := HR.out.any (p := a + 1) (by omega)
          by_cases hw : wk < wy
          · go_wp2_with fail
            go_quiet ((first | (go_at_call_of 100 (Value.slice Ak (len k) ck); exact Calls.quiet_of (hck _ hrk' hlk (HT6.out k hlt))) | (go_at_call_of 100 (Value.slice Ay (len y) cy); exact Calls.quiet_of (hcY _ hry' hly (HT6.out y (by omega))))))
            have hgl := hbw.size
            go_wp2_with fail
            go_roundw
            case rel =>
              refine ⟨a, by omega, by go_num, ?_, ?_, (HE.out.drewN nq).far (p := ⟨gg, a + 1, none⟩) (by show w.heap.size ≠ gg; exact hgne) _, (below_drewN hbw nq).setCell (p := ⟨gg, a + 1, none⟩) hgb _⟩
              · have h1 := HPS.out
                simp only [posn] at h1
                rw [if_pos (by rw [HYA.out]; show wtN pol (g k) (len k) < wtN pol (g y) (len y); rw [HWK.out, HWY.out]; exact hw)] at h1
                exact h1
              · refine (HR.out.drewN nq).set (by omega) (fun _ => ?_) fun p hp h1 h2 => ?_
                · simp only [if_neg (show ¬ a + 1 < a by omega), Nat.add_sub_cancel]
                  show ((ordF (wtF pol len g) k a : Nat) : Int) = _
                  rw [HYA.out]
                · by_cases p1 : p < a
                  · simp only [if_pos p1, if_pos (show p < a + 1 by omega)]
                  · simp only [if_neg p1, if_neg (show ¬ p < a + 1 by omega)]
            case measure => simp [intOf]
          · have hwf : decide (wk < wy) = false := decide_eq_false hw
            go_wp2_with fail
            go_quiet ((first | (go_at_call_of 100 (Value.slice Ak (len k) ck); exact Calls.quiet_of (hck _ hrk' hlk (HT6.out k hlt))) | (go_at_call_of 100 (Value.slice Ay (len y) cy); exact Calls.quiet_of (hcY _ hry' hly (HT6.out y (by omega))))))
            go_wp2_with fail
            have hps : posn (wtF pol len g) (ordF (wtF pol len g) k) k k = a + 1 := by
              have h1 := HPS.out
              simp only [posn] at h1
              rw [if_neg (by rw [HYA.out]; show ¬ wtN pol (g k) (len k) < wtN pol (g y) (len y); rw [HWK.out, HWY.out]; omega)] at h1
              exact h1.symm
            refine ⟨⟨k + 1, some ⟨gg, 0, none⟩, cc, by omega, by go_num, rfl, own_raw (raw_done (HR.out.drewN nq) (by omega) hps) hgb (Nat.le_refl _), (HE.out.drewN nq).far (p := ⟨gg, a + 1, none⟩) hgne _, (below_drewN hbw nq).setCell (p := ⟨gg, a + 1, none⟩) hgb _⟩, by simp [intOf]; omega⟩
        · obtain rfl : a = 0 := by omega
          obtain ⟨x, hx⟩ := HR.out.any (p := 0) (by omega)
          have hfz := HR.out.frozen 0
          have j3 : (0 : Int) < (k : Int) + 1 := by omega
          go_wp2_with fail
          go_quiet (fail)
          go_wp2_with fail
          refine ⟨⟨k + 1, some ⟨gg, 0, none⟩, cc, by omega, by go_num, rfl, own_raw (raw_done (HR.out.drewN nq) (Nat.zero_le _) HPS.out.symm) hgb (Nat.le_refl _), (HE.out.drewN nq).far (p := ⟨gg, 0, none⟩) hgne _, (below_drewN hbw nq).setCell (p := ⟨gg, 0, none⟩) hgb _⟩, by simp [intOf]; omega⟩
    · obtain rfl : k = n := by omega
      go_wp2_with fail
      go_ret
      exact ⟨A', c', rfl, HO.out, hbw⟩

set_option maxRecDepth 100000 in
set_option maxHeartbeats 8000000 in
theorem sOrder_no (f b pol : Int) (A : Option Addr) (n c : Nat) (len : Nat → Nat) (g : Nat → Nat → Nd) (w : World) (h : RdT w w.heap.size A n len g) (hn : n ≤ 4194304) (hlen : Hid (∀ i, i < n → len i ≤ 4194304)) (hy : (ensB f b n len g && (decide (1 ≤ pol) && decide (pol ≤ 3))) = false) :
    Calls Tryz.prog 56 #[enV f b A n c, .int .i64 pol] w fun e w' => ∃ (A' : Option Addr) (c' : Nat), e = .returned (.slice A' 0 c') ∧ w'.ownsRow w.heap.size 2 1 (.slice A' 0 c') 0 (numsOf 0 (ordZ pol len g n)) ∧ Below w.heap.size w w' := by
  have hO := World.ownsRow_made (base := w.heap.size) (e := 2) (size := 1) (w.alloc (.cells #[.int .i64 f, .int .i64 b, .slice A n c] 26)) #[] 0 (by simp) (by unfold maxLen; omega) rfl
  have hs1 : (w.alloc (.cells #[.int .i64 f, .int .i64 b, .slice A n c] 26)).heap.size = w.heap.size + 1 := by simp
  rw [hs1] at hO
  have hb0 := ((Below.refl w.heap.size w).alloc (Nat.le_refl _) (.cells #[.int .i64 f, .int .i64 b, .slice A n c] 26)).alloc (by simp) (.cells #[] 2)
  cases hE : ensB f b n len g with
  | false =>
    have HE := hid hE
    clear hE hy
    go_enter Tryz.func56, Tryz.ntmps56
    go_wp2_with fail
    refine (sEnsOk_any f b A n c len g _ (h.to hb0 hb0.size) hn hlen).mono ?_
    rintro e w1 ⟨rfl, hb1⟩
    rw [HE.out]
    have hw1 := hb0.trans (hb1.mono hb0.size)
    have HO := hid (own_below hO hb1)
    clear hb0 hb1 hO hs1
    go_wp2_with fail
    go_ret
    exact ⟨_, _, rfl, HO.out, hw1⟩
  | true =>
    have HE := hid hE
    rw [hE, Bool.true_and] at hy
    clear hE
    have HYq := hid hy
    clear hy
    go_enter Tryz.func56, Tryz.ntmps56
    go_wp2_with fail
    refine (sEnsOk_any f b A n c len g _ (h.to hb0 hb0.size) hn hlen).mono ?_
    rintro e w1 ⟨rfl, hb1⟩
    rw [HE.out]
    have hw1 := hb0.trans (hb1.mono hb0.size)
    have HO := hid (own_below hO hb1)
    clear hb0 hb1 hO hs1
    go_wp2_with fail
    refine (In_any pol 1 3 _).mono ?_
    rintro e w2 ⟨rfl, rfl⟩
    rw [HYq.out]
    go_wp2_with fail
    go_ret
    exact ⟨_, _, rfl, HO.out, hw1⟩
end

/-! ### OrD -/
section
set_option linter.unusedVariables false
set_option linter.unusedSimpArgs false
open Go.RowKit Go.Deep

set_option maxHeartbeats 4000000 in
theorem less_any (b5 b6 ob wb n : Nat) (G : Nat → Nat) (Z : Nat → Int) (W : World) (h5 : W.cell? ⟨b5, 0, none⟩ = some (.slice (some ⟨ob, 0, none⟩) n n)) (h6 : W.cell? ⟨b6, 0, none⟩ = some (.slice (some ⟨wb, 0, none⟩) n n))
    (ho : ∀ t, t < n → W.cell? ⟨ob, t, none⟩ = some (.int .i64 (G t))) (hG : ∀ t, t < n → G t < n) (hz : ∀ t, t < n → W.cell? ⟨wb, t, none⟩ = some (.int .i64 (Z t))) (i j : Nat) (hi : i < n) (hj : j < n) :
    Calls Tryz.prog 95 #[.int .i64 i, .int .i64 j, .pointer (some ⟨b6, 0, none⟩), .pointer (some ⟨b5, 0, none⟩)] W fun e w' => e = .returned (.bool (decide (Z (G i) < Z (G j)))) ∧ ∃ q, w' = W.drewN q := by
  have ci := ho i hi
  have cj := ho j hj
  have gi := hG i hi
  have gj := hG j hj
  have zi := hz (G i) gi
  have zj := hz (G j) gj
  have i1 : (i : Int) < (n : Int) := by omega
  have j1 : (j : Int) < (n : Int) := by omega
  have i2 : (0 : Int) ≤ (i : Int) := by omega
  have j2 : (0 : Int) ≤ (j : Int) := by omega
  have i3 : (G i : Int) < (n : Int) := by omega
  have j3 : (G j : Int) < (n : Int) := by omega
  have i4 : (0 : Int) ≤ (G i : Int) := by omega
  have j4 : (0 : Int) ≤ (G j : Int) := by omega
  clear ho hG hz
  go_enter Tryz.func95, Tryz.ntmps95
  go_wp2_with fail
  go_quiet (fail)
  go_wp2_with fail
  go_ret
  exact ⟨rfl, nq, rfl⟩

/-- The first k numbers and weights are laid. -/
def Sorting (w0 : World) (H n k : Nat) (wt : Nat → Int) (w : World) : Prop :=
  (∃ cs : Array Value, Blk w H 2 cs ∧ cs.size = n ∧ ∀ j, j < k → cs[j]? = some (.int .i64 j)) ∧ Blk w (H + 1) 27 #[.slice (some ⟨H, 0, none⟩) n n] ∧
  (∃ cs : Array Value, Blk w (H + 1 + 1) 2 cs ∧ cs.size = n ∧ ∀ j, j < k → cs[j]? = some (.int .i64 (wt j))) ∧ Blk w (H + 1 + 1 + 1) 27 #[.slice (some ⟨H + 1 + 1, 0, none⟩) n n] ∧ Below w0.heap.size w0 w ∧ w0.heap.size < H
/-- Its number k is laid too, its weight not yet. -/
def SortingO (w0 : World) (H n k : Nat) (wt : Nat → Int) (w : World) : Prop :=
  (∃ cs : Array Value, Blk w H 2 cs ∧ cs.size = n ∧ ∀ j, j < k + 1 → cs[j]? = some (.int .i64 j)) ∧ Blk w (H + 1) 27 #[.slice (some ⟨H, 0, none⟩) n n] ∧
  (∃ cs : Array Value, Blk w (H + 1 + 1) 2 cs ∧ cs.size = n ∧ ∀ j, j < k → cs[j]? = some (.int .i64 (wt j))) ∧ Blk w (H + 1 + 1 + 1) 27 #[.slice (some ⟨H + 1 + 1, 0, none⟩) n n] ∧ Below w0.heap.size w0 w ∧ w0.heap.size < H
theorem row_next {cs : Array Value} {k n : Nat} {z : Nat → Int} (hs : cs.size = n) (hk : k < n) (hc : ∀ j, j < k → cs[j]? = some (.int .i64 (z j))) {x : Int} (hx : z k = x) : ∀ j, j < k + 1 → (cs.setIfInBounds k (.int .i64 x))[j]? = some (.int .i64 (z j)) := by
  intro j hj
  by_cases e : j = k
  · subst e; rw [Array.getElem?_setIfInBounds_self_of_lt (by omega), hx]
  · rw [Array.getElem?_setIfInBounds_ne (fun q => e q.symm)]; exact hc j (by omega)
theorem Sorting.order {w0 w : World} {H n k : Nat} {wt : Nat → Int} (h : Sorting w0 H n k wt w) (hk : k < n) : SortingO w0 H n k wt (w.setCell ⟨H, k, none⟩ (.int .i64 k)) := by
  obtain ⟨⟨co, o1, o2, o3⟩, x5, ⟨cw, q1, q2, q3⟩, x6, hb, hH⟩ := h
  exact ⟨⟨_, o1.set_ k _, by simpa using o2, row_next (z := fun j => (j : Int)) o2 hk o3 rfl⟩, x5.far (p := ⟨H, k, none⟩) (by show H + 1 ≠ H; omega) _, ⟨cw, q1.far (p := ⟨H, k, none⟩) (by show H + 1 + 1 ≠ H; omega) _, q2, q3⟩, x6.far (p := ⟨H, k, none⟩) (by show H + 1 + 1 + 1 ≠ H; omega) _, hb.setCell (p := ⟨H, k, none⟩) (by show w0.heap.size ≤ H; omega) _, hH⟩
theorem SortingO.below {w0 w w' : World} {H n k : Nat} {wt : Nat → Int} (h : SortingO w0 H n k wt w) (hb : Below w.heap.size w w') : SortingO w0 H n k wt w' := by
  obtain ⟨⟨co, o1, o2, o3⟩, x5, ⟨cw, q1, q2, q3⟩, x6, h5, hH⟩ := h
  exact ⟨⟨co, o1.below hb o1.lt, o2, o3⟩, x5.below hb x5.lt, ⟨cw, q1.below hb q1.lt, q2, q3⟩, x6.below hb x6.lt, h5.trans (hb.mono h5.size), hH⟩
theorem SortingO.weight {w0 w : World} {H n k : Nat} {wt : Nat → Int} (h : SortingO w0 H n k wt w) (hk : k < n) {x : Int} (hx : wt k = x) : Sorting w0 H n (k + 1) wt (w.setCell ⟨H + 1 + 1, k, none⟩ (.int .i64 x)) := by
  obtain ⟨⟨co, o1, o2, o3⟩, x5, ⟨cw, q1, q2, q3⟩, x6, hb, hH⟩ := h
  exact ⟨⟨co, o1.far (p := ⟨H + 1 + 1, k, none⟩) (by show H ≠ H + 1 + 1; omega) _, o2, o3⟩, x5.far (p := ⟨H + 1 + 1, k, none⟩) (by show H + 1 ≠ H + 1 + 1; omega) _, ⟨_, q1.set_ k _, by simpa using q2, row_next q2 hk q3 hx⟩, x6.far (p := ⟨H + 1 + 1, k, none⟩) (by show H + 1 + 1 + 1 ≠ H + 1 + 1; omega) _, hb.setCell (p := ⟨H + 1 + 1, k, none⟩) (by show w0.heap.size ≤ H + 1 + 1; omega) _, hH⟩

open Go.Sort Go.Lib in
theorem put_heap {α : Type} [Inhabited α] (enc : α → Value) (w : World) (blk k : Nat) (d : Array α) (os : Array Obj) (hk : k < w.heap.size) : (grow (putRow enc w blk 0 d) os).heap[k]? = if blk = k then w.heap[k]?.map (onCells (putCells enc 0 d)) else w.heap[k]? := by
  have h1 : k < (putRow enc w blk 0 d).heap.size := by rw [size_putRow]; exact hk
  have e : (grow (putRow enc w blk 0 d) os).heap[k]? = (putRow enc w blk 0 d).heap[k]? := by
    show ((putRow enc w blk 0 d).heap ++ os)[k]? = _
    rw [Array.getElem?_append_left h1]
  rw [e]
  show (w.heap.modify blk (onCells (putCells enc 0 d)))[k]? = _
  rw [Array.getElem?_modify]
open Go.Sort Go.Lib in
/-- What the library's stable sort leaves of a row and of the blocks beside it. -/
theorem sorted_world {α : Type} [Inhabited α] (enc : α → Value) (W : World) (H n m : Nat) (os : Array Obj) (d : Array α) {cs : Array Value} (hB : Blk W H 2 cs) (hs : cs.size = n) (hd : d.size = n) :
    (∃ cs' : Array Value, Blk (grow (putRow enc (Sort.ahead W m) H 0 d) os) H 2 cs' ∧ cs'.size = n ∧ ∀ j, j < n → cs'[j]? = some (enc d[j]!)) ∧
    (∀ x, x < W.heap.size → x ≠ H → (grow (putRow enc (Sort.ahead W m) H 0 d) os).heap[x]? = W.heap[x]?) ∧ Below H W (grow (putRow enc (Sort.ahead W m) H 0 d) os) := by
  have hsz : (Sort.ahead W m).heap.size = W.heap.size := rfl
  have hx : ∀ x, x < W.heap.size → x ≠ H → (grow (putRow enc (Sort.ahead W m) H 0 d) os).heap[x]? = W.heap[x]? := fun x hx hne => by
    rw [put_heap enc (Sort.ahead W m) H x d os hx, if_neg (fun e => hne e.symm)]
    rfl
  refine ⟨⟨putCells enc 0 d cs, ?_, by simp [putCells, hs], fun j hj => ?_⟩, hx, ⟨rfl, rfl, rfl, ?_, fun x hxH => ?_⟩⟩
  · show (grow (putRow enc (Sort.ahead W m) H 0 d) os).heap[H]? = _
    rw [put_heap enc (Sort.ahead W m) H H d os hB.lt, if_pos rfl]
    show W.heap[H]?.map _ = _
    rw [show W.heap[H]? = some (.cells cs 2 (0, 0)) from hB]
    rfl
  · have hjc : j < cs.size := by omega
    simp only [putCells, Array.getElem?_mapIdx, Array.getElem?_eq_getElem hjc, Option.map_some]
    rw [if_pos (by omega), Nat.sub_zero]
  · rw [size_grow, size_putRow]
    show W.heap.size ≤ W.heap.size + os.size
    omega
  · exact hx x (by have := hB.lt; omega) (by omega)

noncomputable def siT : TypeInfo := (Tryz.prog.info? 27).get (by kernel_rfl)
noncomputable def siE : TypeInfo := (Tryz.prog.info? 2).get (by kernel_rfl)
theorem siK5 (n : Nat) (h2 : 2 ≤ n) : Lib.swapperK n siE 6 = 5 := by
  have a : siE.hasPointers = false := by kernel_rfl
  have b : siE.bytes = 8 := by kernel_rfl
  have c : (n == 0) = false := by simp; omega
  have d : (n == 1) = false := by simp; omega
  simp [Lib.swapperK, a, b, c, d]

set_option maxHeartbeats 8000000 in
open Go.Sort Go.Lib in
theorem sort_any (w0 W : World) (H n : Nat) (wt : Nat → Int) (hS : Sorting w0 H n n wt W) (hn : n ≤ 12) :
    Calls Tryz.prog 94 #[.iface 27 (.slice (some ⟨H, 0, none⟩) n n), .func (.func 95) #[] #[.pointer (some ⟨H + 1 + 1 + 1, 0, none⟩), .pointer (some ⟨H + 1, 0, none⟩)]] W fun e w' =>
      e = .returned (.tuple #[]) ∧ (∃ cs : Array Value, Blk w' H 2 cs ∧ cs.size = n ∧ ∀ j, j < n → cs[j]? = some (.int .i64 (ordF wt n j))) ∧ Blk w' (H + 1) 27 #[.slice (some ⟨H, 0, none⟩) n n] ∧ Below w0.heap.size w0 w' := by
  obtain ⟨⟨co, o1, o2, o3⟩, x5, ⟨cw, q1, q2, q3⟩, x6, hb, hH⟩ := hS
  by_cases h2 : 2 ≤ n
  · obtain ⟨m, rfl⟩ : ∃ m, n = m + 1 := ⟨n - 1, by omega⟩
    have hds : (Array.ofFn (fun i : Fin (m + 1) => i)).size = m + 1 := by simp
    have hdv : ∀ p, p < (Array.ofFn (fun i : Fin (m + 1) => i)).size → ((Array.ofFn (fun i : Fin (m + 1) => i))[p]!).val = p := by
      intro p hp
      rw [getElem!_pos _ p hp]
      simp
    have hHold : Holds (fun i : Fin (m + 1) => Value.int .i64 i.val) W H 0 (Array.ofFn (fun i : Fin (m + 1) => i)) := by
      intro j hj
      rw [Nat.zero_add]
      refine ⟨?_, o1.frozen j⟩
      rw [o1.cell, o3 j (by omega)]
      show _ = some (Value.int .i64 (((Array.ofFn (fun i : Fin (m + 1) => i))[j]!).val : Int))
      rw [hdv j hj]
    have hless : LessReads Tryz.prog 95 #[.pointer (some ⟨H + 1 + 1 + 1, 0, none⟩), .pointer (some ⟨H + 1, 0, none⟩)] (fun i : Fin (m + 1) => Value.int .i64 i.val) (fun a b => decide (wt a.val < wt b.val)) H 0 (Array.ofFn (fun i : Fin (m + 1) => i)).size W := by
      intro k os dk hs i j hi hj
      rw [hds] at hs hi hj
      obtain ⟨⟨cs', r1, r2, r3⟩, rx, _⟩ := sorted_world (fun i : Fin (m + 1) => Value.int .i64 i.val) W H (m + 1) k os dk o1 o2 hs
      have e5 : Blk (sortWorld (fun i : Fin (m + 1) => Value.int .i64 i.val) W H 0 k dk os) (H + 1) 27 #[.slice (some ⟨H, 0, none⟩) (m + 1) (m + 1)] := (rx (H + 1) x5.lt (by omega)).trans x5
      have e6 : Blk (sortWorld (fun i : Fin (m + 1) => Value.int .i64 i.val) W H 0 k dk os) (H + 1 + 1 + 1) 27 #[.slice (some ⟨H + 1 + 1, 0, none⟩) (m + 1) (m + 1)] := (rx (H + 1 + 1 + 1) x6.lt (by omega)).trans x6
      have ew : Blk (sortWorld (fun i : Fin (m + 1) => Value.int .i64 i.val) W H 0 k dk os) (H + 1 + 1) 2 cw := (rx (H + 1 + 1) q1.lt (by omega)).trans q1
      have eo : Blk (sortWorld (fun i : Fin (m + 1) => Value.int .i64 i.val) W H 0 k dk os) H 2 cs' := r1
      exact less_any (H + 1) (H + 1 + 1 + 1) H (H + 1 + 1) (m + 1) (fun t => (dk[t]!).val) wt _ (e5.cell 0) (e6.cell 0) (fun t ht => by rw [eo.cell, r3 t ht]) (fun t _ => (dk[t]!).isLt) (fun t ht => by rw [ew.cell, q3 t ht]) i j hi hj
    have hC := Any.sort_SliceStable_small sl8 27 2 siT siE (by kernel_rfl) (by kernel_rfl) (by kernel_rfl) (by kernel_rfl) 6 (fun _ => by kernel_rfl) (by kernel_rfl) (fun _ => by kernel_rfl) (fun i : Fin (m + 1) => Value.int .i64 i.val) (fun _ => rfl) (fun a b => decide (wt a.val < wt b.val)) 95 _
      (enters_of Tryz.func95 (by kernel_rfl) rfl) H 0 (m + 1) (Array.ofFn (fun i : Fin (m + 1) => i)) (by rw [hds]; exact h2) (by rw [hds]; omega) 138 (by rw [hds, siK5 _ h2]; kernel_rfl) true
      (fun args W => run_callFunc_extern Tryz.func138 (by kernel_rfl) (by kernel_rfl) (by kernel_rfl) (e := Extern.ReflectliteSwapper.swap true) (by kernel_rfl) args W) W hless hHold o1.lt
    rw [hds] at hC
    change Calls Tryz.prog 94 _ _ _ at hC
    refine hC.mono ?_
    rintro e w' ⟨rfl, k, os, rfl⟩
    have hso := sort_ord (fun i : Fin (m + 1) => i.val) wt (fun a b => decide (wt a.val < wt b.val)) (fun _ _ => rfl) (Array.ofFn (fun i : Fin (m + 1) => i)) (by omega) hdv
    rw [hds] at hso
    obtain ⟨⟨cs', r1, r2, r3⟩, rx, rb⟩ := sorted_world (fun i : Fin (m + 1) => Value.int .i64 i.val) W H (m + 1) k os (insertionSort (fun a b => decide (wt a.val < wt b.val)) (Array.ofFn (fun i : Fin (m + 1) => i)) 0 (m + 1)) o1 o2 hso.1
    refine ⟨rfl, ⟨cs', r1, r2, fun j hj => ?_⟩, (rx (H + 1) x5.lt (by omega)).trans x5, hb.trans (rb.mono (by omega))⟩
    rw [r3 j hj, hso.2 j hj]
  · have hC : Calls Tryz.prog 94 #[.iface 27 (.slice (some ⟨H, 0, none⟩) n n), .func (.func 95) #[] #[.pointer (some ⟨H + 1 + 1 + 1, 0, none⟩), .pointer (some ⟨H + 1, 0, none⟩)]] W fun e w' => e = .returned (.tuple #[]) ∧ ∃ os, w' = grow W os := by
      by_cases h0 : n = 0
      · subst h0
        have hC := Any.sort_SliceStable_tiny sl8 27 2 siT siE (by kernel_rfl) (by kernel_rfl) (by kernel_rfl) (by kernel_rfl) 6 (fun _ => by kernel_rfl) (some ⟨H, 0, none⟩) 0 0 (by omega) 134 (by kernel_rfl) (.func 95) #[] #[.pointer (some ⟨H + 1 + 1 + 1, 0, none⟩), .pointer (some ⟨H + 1, 0, none⟩)] W
        exact hC
      · obtain rfl : n = 1 := by omega
        have hC := Any.sort_SliceStable_tiny sl8 27 2 siT siE (by kernel_rfl) (by kernel_rfl) (by kernel_rfl) (by kernel_rfl) 6 (fun _ => by kernel_rfl) (some ⟨H, 0, none⟩) 1 1 (by omega) 135 (by kernel_rfl) (.func 95) #[] #[.pointer (some ⟨H + 1 + 1 + 1, 0, none⟩), .pointer (some ⟨H + 1, 0, none⟩)] W
        exact hC
    refine hC.mono ?_
    rintro e w' ⟨rfl, os, rfl⟩
    have hgx : ∀ x, x < W.heap.size → (grow W os).heap[x]? = W.heap[x]? := fun x hx => by
      show (W.heap ++ os)[x]? = _
      rw [Array.getElem?_append_left hx]
    refine ⟨rfl, ⟨co, (hgx H o1.lt).trans o1, o2, fun j hj => ?_⟩, (hgx (H + 1) x5.lt).trans x5, hb.trans ⟨rfl, rfl, rfl, by rw [size_grow]; omega, fun x hx => hgx x (by have := hb.size; omega)⟩⟩
    obtain rfl : n = 1 := by omega
    obtain rfl : j = 0 := by omega
    rw [o3 0 (by omega)]
    rfl

set_option maxRecDepth 100000 in
set_option maxHeartbeats 8000000 in
theorem iOrder_yes (f b pol : Int) (A : Option Addr) (n c : Nat) (len : Nat → Nat) (g : Nat → Nat → Nd) (w : World) (h : RdT w w.heap.size A n len g) (hn : n ≤ 4194304) (hlen : Hid (∀ i, i < n → len i ≤ 4194304)) (hy : ensB f b n len g = true) (hp1 : 1 ≤ pol) (hp3 : pol ≤ 3) :
    Calls Tryz.prog 53 #[enV f b A n c, .int .i64 pol] w fun e w' => ∃ (A' : Option Addr) (c' : Nat), e = .returned (.slice A' n c') ∧ w'.ownsRow w.heap.size 2 1 (.slice A' n c') n (numsOf n (ordZ pol len g n)) ∧ Below w.heap.size w w' := by
  have HY := hid hy
  obtain ⟨_, _, hn12, HT⟩ := ensB_iff.1 hy
  have HT6 : Hid (∀ i, i < n → treeB (g i) (len i) 6 = true) := fun i hi => tree_moreO (HT i hi) (by have := (ensB_iff.1 hy).1; omega) (by omega)
  have HLE : Hid (∀ i, i < n → len i ≤ 15 ∧ 1 ≤ len i) := fun i hi => by have := (treeB_iff _ _ _).1 (HT i hi); exact ⟨this.2.1.2, this.2.1.1⟩
  clear HT hy
  have hP := Blk.new w 26 #[.int .i64 f, .int .i64 b, .slice A n c]
  have hb0 := (Below.refl w.heap.size w).alloc (Nat.le_refl _) (.cells #[.int .i64 f, .int .i64 b, .slice A n c] 26)
  go_enter Tryz.func53, Tryz.ntmps53
  go_wp2_with fail
  refine (iEnsOk_any f b A n c len g _ (h.to hb0 hb0.size) hn hlen).mono ?_
  rintro e w1 ⟨rfl, hb1⟩
  rw [HY.out]
  have hP1 := hP.below hb1 hP.lt
  have hw1 := hb0.trans (hb1.mono hb0.size)
  clear hP hb0 hb1
  have a2 : w1.cell? ⟨w.heap.size, 2, none⟩ = some (.slice A n c) := hP1.cell 2
  have hmk := run_make_row' (P := Tryz.prog) 27 2 (.int .i64 0) 8 Tryz.underlying27 info_int rfl .i64 .i64 n (by omega) (by omega)
  have a2b : World.cell? ((w1.alloc (.cells (madeCells #[.int .i64 0] n) 2)).alloc (.cells #[.slice (some ⟨w1.heap.size, 0, none⟩) n n] 27)) ⟨w.heap.size, 2, none⟩ = some (.slice A n c) := ((hP1.alloc _).alloc _).cell 2
  have hP4 : Hid (Blk ((((w1.alloc (.cells (madeCells #[.int .i64 0] n) 2)).alloc (.cells #[.slice (some ⟨w1.heap.size, 0, none⟩) n n] 27)).alloc (.cells (madeCells #[.int .i64 0] n) 2)).alloc (.cells #[.slice (some ⟨w1.heap.size + 1 + 1, 0, none⟩) n n] 27)) w.heap.size 26 #[.int .i64 f, .int .i64 b, .slice A n c]) := (((hP1.alloc _).alloc _).alloc _).alloc _
  have a2c : World.cell? ((((w1.alloc (.cells (madeCells #[.int .i64 0] n) 2)).alloc (.cells #[.slice (some ⟨w1.heap.size, 0, none⟩) n n] 27)).alloc (.cells (madeCells #[.int .i64 0] n) 2)).alloc (.cells #[.slice (some ⟨w1.heap.size + 1 + 1, 0, none⟩) n n] 27)) ⟨w.heap.size, 2, none⟩ = some (.slice A n c) := hP4.out.cell 2
  go_wp2_with fail
  have hM0 : Hid (Sorting w w1.heap.size n 0 (wtF pol len g) ((((w1.alloc (.cells (madeCells #[.int .i64 0] n) 2)).alloc (.cells #[.slice (some ⟨w1.heap.size, 0, none⟩) n n] 27)).alloc (.cells (madeCells #[.int .i64 0] n) 2)).alloc (.cells #[.slice (some ⟨w1.heap.size + 1 + 1, 0, none⟩) n n] 27))) := by
    have hB3 : Blk (((w1.alloc (.cells (madeCells #[.int .i64 0] n) 2)).alloc (.cells #[.slice (some ⟨w1.heap.size, 0, none⟩) n n] 27)).alloc (.cells (madeCells #[.int .i64 0] n) 2)) (w1.heap.size + 1 + 1) 2 (madeCells #[.int .i64 0] n) := by
      have := Blk.new ((w1.alloc (.cells (madeCells #[.int .i64 0] n) 2)).alloc (.cells #[.slice (some ⟨w1.heap.size, 0, none⟩) n n] 27)) 2 (madeCells #[.int .i64 0] n)
      simp only [World.size_alloc] at this
      exact this
    refine ⟨⟨madeCells #[.int .i64 0] n, (((Blk.new w1 _ _).alloc _).alloc _).alloc _, by simp [madeCells], fun j hj => by omega⟩, ((Blk.new2 w1 _ _ _).alloc _).alloc _, ⟨madeCells #[.int .i64 0] n, hB3.alloc _, by simp [madeCells], fun j hj => by omega⟩, ?_, ?_, hP1.lt⟩
    · have := Blk.new (((w1.alloc (.cells (madeCells #[.int .i64 0] n) 2)).alloc (.cells #[.slice (some ⟨w1.heap.size, 0, none⟩) n n] 27)).alloc (.cells (madeCells #[.int .i64 0] n) 2)) 27 #[.slice (some ⟨w1.heap.size + 1 + 1, 0, none⟩) n n]
      simp only [World.size_alloc] at this
      exact this
    · exact (((hw1.alloc hw1.size _).alloc (by have := hw1.size; simp; omega) _).alloc (by have := hw1.size; simp; omega) _).alloc (by have := hw1.size; simp; omega) _
  have hE0 := hP4
  clear a2 a2b a2c hmk hP4 hP1 hw1
  obtain ⟨H, hH⟩ : ∃ H, w1.heap.size = H := ⟨_, rfl⟩
  rw [hH] at hM0 hE0 ⊢
  clear hH
  go_loopw [31] (fun i wr => ∃ k : Nat, k ≤ n ∧ i = .int .i64 k ∧ Hid (Sorting w H n k (wtF pol len g) wr) ∧ Hid (Blk wr w.heap.size 26 #[.int .i64 f, .int .i64 b, .slice A n c])) (fun i _ => n - (intOf i).toNat)
  case atStart => exact ⟨0, Nat.zero_le _, rfl, hM0, hE0⟩
  case round =>
    clear hM0 hE0
    obtain ⟨k, hk, rfl, HS, HE⟩ := hrel
    obtain ⟨⟨co, o1, o2, o3⟩, x5, ⟨cw, q1, q2, q3⟩, x6, hbw, hHw⟩ := id HS.out
    by_cases hlt : k < n
    · obtain ⟨tb, off, Ak, ck, rfl, htb, hcell0, hrk⟩ := h.at_ hlt
      have hcell : wr.cell? ⟨tb, off + k, none⟩ = some (.slice Ak (len k) ck) := (hbw.cell (p := ⟨tb, off + k, none⟩) htb).trans hcell0
      have i1 : (k : Int) < (n : Int) := by omega
      have i2 : (0 : Int) ≤ (k : Int) := by omega
      have y5 : wr.cell? ⟨H + 1, 0, none⟩ = some (.slice (some ⟨H, 0, none⟩) n n) := x5.cell 0
      obtain ⟨vo, yo⟩ : ∃ v, wr.cell? ⟨H, k, none⟩ = some v := ⟨co[k]'(by omega), by rw [o1.cell, Array.getElem?_eq_getElem]⟩
      have fo := o1.frozen k
      have hlk : len k ≤ 4194304 := by have := (HLE.out k hlt).1; omega
      have HS1 := hid (HS.out.order (k := k) hlt)
      have HE1 : Hid (Blk (wr.setCell ⟨H, k, none⟩ (.int .i64 k)) w.heap.size 26 #[.int .i64 f, .int .i64 b, .slice (some ⟨tb, off, none⟩) n c]) := HE.out.far (p := ⟨H, k, none⟩) (by show w.heap.size ≠ H; omega) _
      have hrk1 : RdN (wr.setCell ⟨H, k, none⟩ (.int .i64 k)).drew (wr.setCell ⟨H, k, none⟩ (.int .i64 k)).drew.heap.size Ak (len k) (g k) := (hrk.below (hbw.setCell (p := ⟨H, k, none⟩) (by show w.heap.size ≤ H; omega) _)).more (hbw.setCell (p := ⟨H, k, none⟩) (by show w.heap.size ≤ H; omega) _).size
      clear x5 x6 o1 o2 o3 q1 q2 q3 hbw HS HE hcell0
      go_wp2_with fail
      obtain ⟨wX, hwX⟩ : ∃ x, wr.setCell ⟨H, k, none⟩ (.int .i64 k) = x := ⟨_, rfl⟩
      rw [hwX] at HS1 HE1 hrk1 ⊢
      clear hwX y5 yo fo hcell
      have HSd : Hid (SortingO w H n k (wtF pol len g) wX.drew) := by
        obtain ⟨⟨co, o1, o2, o3⟩, x5, ⟨cw, q1, q2, q3⟩, x6, hb, hH⟩ := HS1.out
        exact ⟨⟨co, o1, o2, o3⟩, x5, ⟨cw, q1, q2, q3⟩, x6, ⟨hb.os, hb.tape, hb.output, hb.size, hb.block⟩, hH⟩
      have y6 : wX.drew.cell? ⟨H + 1 + 1 + 1, 0, none⟩ = some (.slice (some ⟨H + 1 + 1, 0, none⟩) n n) := HSd.out.2.2.2.1.cell 0
      go_region_law
        (first
          | (go_simp; go_at_call 93; refine (weightOf_any pol Ak (len k) ck (g k) wX.drew hrk1 hlk (HT6.out k hlt)).mono ?_; rintro e w4 ⟨rfl, hb4⟩; have HS4 := hid (HSd.out.below hb4); have HE4 : Hid (Blk w4 w.heap.size 26 #[.int .i64 f, .int .i64 b, .slice (some ⟨tb, off, none⟩) n c]) := Blk.below (w := wX.drew) HE1.out hb4 HE1.out.lt; have z6 : w4.cell? ⟨H + 1 + 1 + 1, 0, none⟩ = some (.slice (some ⟨H + 1 + 1, 0, none⟩) n n) := HS4.out.2.2.2.1.cell 0; obtain ⟨vw, yw⟩ : ∃ v, w4.cell? ⟨H + 1 + 1, k, none⟩ = some v := (by obtain ⟨_, _, ⟨cw, q1, q2, _⟩, _⟩ := HS4.out; exact ⟨cw[k]'(by omega), by rw [q1.cell, Array.getElem?_eq_getElem]⟩); have fw : w4.frozen? ⟨H + 1 + 1, k, none⟩ = false := (by obtain ⟨_, _, ⟨cw, q1, q2, _⟩, _⟩ := HS4.out; exact q1.frozen k)))
      all_goals
        go_wp2_with fail
        go_roundw
        case rel => exact ⟨k + 1, by omega, by go_num, HS4.out.weight hlt rfl, HE4.out.far (p := ⟨H + 1 + 1, k, none⟩) (by show w.heap.size ≠ H + 1 + 1; have := HS4.out.2.2.2.2.2; omega) _⟩
        case measure => simp [intOf]; omega
    · obtain rfl : k = n := by omega
      have y5 : wr.cell? ⟨H + 1, 0, none⟩ = some (.slice (some ⟨H, 0, none⟩) k k) := x5.cell 0
      clear x5 x6 o1 o2 o3 q1 q2 q3 hbw HE
      go_wp2_with fail
      refine (sort_any w wr H k (wtF pol len g) HS.out hn12).mono ?_
      rintro e w9 ⟨rfl, ⟨cs, r1, r2, r3⟩, r5, hb9⟩
      have z5 : w9.cell? ⟨H + 1, 0, none⟩ = some (.slice (some ⟨H, 0, none⟩) k k) := r5.cell 0
      have HR := hid r3
      clear r3 y5 HS
      go_wp2_with fail
      go_ret
      exact ⟨some ⟨H, 0, none⟩, k, rfl, own_raw (skip := k) ⟨cs, r1, r2, Nat.le_refl _, by unfold maxLen; omega, fun p hp _ => HR.out p hp, fun p hp => ⟨_, HR.out p hp⟩⟩ (by omega) (Nat.le_refl _), hb9⟩
end

/-! ### OrE -/
section
set_option linter.unusedVariables false
set_option linter.unusedSimpArgs false
open Go.RowKit Go.Deep

def polB (f b pol : Int) (n : Nat) (len : Nat → Nat) (g : Nat → Nat → Nd) : Bool := ensB f b n len g && (decide (1 ≤ pol) && decide (pol ≤ 3))
def oN (Y : Bool) (n : Nat) : Nat := if Y = true then n else 0
/-- What OrderOf leaves. -/
def OrdPost (Y : Bool) (w : World) (pol : Int) (n : Nat) (len : Nat → Nat) (g : Nat → Nat → Nd) (e : Ending) (w' : World) : Prop :=
  ∃ (A' : Option Addr) (c' : Nat), e = .returned (.slice A' (oN Y n) c') ∧ w'.ownsRow w.heap.size 2 1 (.slice A' (oN Y n) c') (oN Y n) (numsOf (oN Y n) (ordZ pol len g n)) ∧ Below w.heap.size w w'

set_option maxRecDepth 100000 in
set_option maxHeartbeats 8000000 in
theorem iOrder_no (f b pol : Int) (A : Option Addr) (n c : Nat) (len : Nat → Nat) (g : Nat → Nat → Nd) (w : World) (h : RdT w w.heap.size A n len g) (hn : n ≤ 4194304) (hlen : Hid (∀ i, i < n → len i ≤ 4194304)) (hy : polB f b pol n len g = false) :
    Calls Tryz.prog 53 #[enV f b A n c, .int .i64 pol] w (OrdPost false w pol n len g) := by
  have hP := Blk.new w 26 #[.int .i64 f, .int .i64 b, .slice A n c]
  have hb0 := (Below.refl w.heap.size w).alloc (Nat.le_refl _) (.cells #[.int .i64 f, .int .i64 b, .slice A n c] 26)
  unfold polB at hy
  cases hE : ensB f b n len g with
  | false =>
    have HE := hid hE
    clear hE hy
    go_enter Tryz.func53, Tryz.ntmps53
    go_wp2_with fail
    refine (iEnsOk_any f b A n c len g _ (h.to hb0 hb0.size) hn hlen).mono ?_
    rintro e w1 ⟨rfl, hb1⟩
    rw [HE.out]
    have hw1 := hb0.trans (hb1.mono hb0.size)
    clear hb0 hb1 hP
    go_wp2_with fail
    go_ret
    exact ⟨none, 0, rfl, ⟨rfl, .inl ⟨rfl, rfl⟩⟩, hw1⟩
  | true =>
    have HE := hid hE
    rw [hE, Bool.true_and] at hy
    clear hE
    by_cases p1 : pol < 1
    · clear hy
      go_enter Tryz.func53, Tryz.ntmps53
      go_wp2_with fail
      refine (iEnsOk_any f b A n c len g _ (h.to hb0 hb0.size) hn hlen).mono ?_
      rintro e w1 ⟨rfl, hb1⟩
      rw [HE.out]
      have hw1 := hb0.trans (hb1.mono hb0.size)
      clear hb0 hb1 hP
      go_wp2_with fail
      go_ret
      exact ⟨none, 0, rfl, ⟨rfl, .inl ⟨rfl, rfl⟩⟩, hw1⟩
    · have p3 : 3 < pol := by
        rcases Int.lt_or_le 3 pol with q | q
        · exact q
        · rw [decide_eq_true (show 1 ≤ pol by omega), decide_eq_true q] at hy
          cases hy
      clear hy
      go_enter Tryz.func53, Tryz.ntmps53
      go_wp2_with fail
      refine (iEnsOk_any f b A n c len g _ (h.to hb0 hb0.size) hn hlen).mono ?_
      rintro e w1 ⟨rfl, hb1⟩
      rw [HE.out]
      have hw1 := hb0.trans (hb1.mono hb0.size)
      clear hb0 hb1 hP
      go_wp2_with fail
      go_ret
      exact ⟨none, 0, rfl, ⟨rfl, .inl ⟨rfl, rfl⟩⟩, hw1⟩
theorem polB_true {f b pol : Int} {n : Nat} {len : Nat → Nat} {g : Nat → Nat → Nd} (h : polB f b pol n len g = true) : ensB f b n len g = true ∧ 1 ≤ pol ∧ pol ≤ 3 := by
  unfold polB at h
  simp only [Bool.and_eq_true, decide_eq_true_eq] at h
  exact h
theorem iOrder_any (f b pol : Int) (A : Option Addr) (n c : Nat) (len : Nat → Nat) (g : Nat → Nat → Nd) (w : World) (h : RdT w w.heap.size A n len g) (hn : n ≤ 4194304) (hlen : Hid (∀ i, i < n → len i ≤ 4194304)) (Y : Bool) (hY : polB f b pol n len g = Y) :
    Calls Tryz.prog 53 #[enV f b A n c, .int .i64 pol] w (OrdPost Y w pol n len g) := by
  cases Y with
  | true =>
    obtain ⟨h1, h2, h3⟩ := polB_true hY
    exact iOrder_yes f b pol A n c len g w h hn hlen h1 h2 h3
  | false => exact iOrder_no f b pol A n c len g w h hn hlen hY
theorem sOrder_any (f b pol : Int) (A : Option Addr) (n c : Nat) (len : Nat → Nat) (g : Nat → Nat → Nd) (w : World) (h : RdT w w.heap.size A n len g) (hn : n ≤ 4194304) (hlen : Hid (∀ i, i < n → len i ≤ 4194304)) (Y : Bool) (hY : polB f b pol n len g = Y) :
    Calls Tryz.prog 56 #[enV f b A n c, .int .i64 pol] w (OrdPost Y w pol n len g) := by
  cases Y with
  | true =>
    obtain ⟨h1, h2, h3⟩ := polB_true hY
    exact sOrder_yes f b pol A n c len g w h hn hlen h1 h2 h3
  | false => exact sOrder_no f b pol A n c len g w h hn hlen hY
end
end Go.Proofs.YtlgomifpohdniaaGreat
