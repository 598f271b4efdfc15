/- Orders of drawn numbers: their mathematics, both sides of OrderOf, and the walk of its exact law. -/
import Derived.Sort.WalkA
import Derived.Sort.LotA
import Derived.Test.YtmpgefpaoogoiaaTreeI
import Derived.Test.YtmpgefpaoogoiaaJoinA
import Derived.Test.YtmpgefpaoogoiaaSortLay
import Derived.Deep.QuietTactic
import Derived.Test.YtmpgefpaoogoiaaPathLaw
namespace Go.Proofs.Ytmpgefpaoogoiaa
open Go.RowKit Go.Deep

/-! ### OrA -/
/-- Where x belongs behind the first a of S: behind all that are not greater, from the end. -/
def posn (wt : Nat → Int) (S : Nat → Nat) (x : Nat) : Nat → Nat
  | 0 => 0
  | a + 1 => if wt x < wt (S a) then posn wt S x a else a + 1
/-- x put in at place p. -/
def insF (S : Nat → Nat) (x p : Nat) : Nat → Nat := fun q => if q < p then S q else if q = p then x else S (q - 1)
/-- The first i numbers in order. -/
def ordF (wt : Nat → Int) : Nat → Nat → Nat
  | 0 => fun _ => 0
  | i + 1 => insF (ordF wt i) i (posn wt (ordF wt i) i i)
theorem posn_le (wt : Nat → Int) (S : Nat → Nat) (x : Nat) : ∀ a, posn wt S x a ≤ a := by
  intro a
  induction a with
  | zero => exact Nat.le_refl _
  | succ a ih => simp only [posn]; split <;> omega
theorem ordF_lt (wt : Nat → Int) : ∀ i p, p < i → ordF wt i p < i := by
  intro i
  induction i with
  | zero => intro p hp; omega
  | succ i ih =>
    intro p hp
    have hl := posn_le wt (ordF wt i) i i
    simp only [ordF, insF]
    split
    · have := ih p (by omega); omega
    · split
      · omega
      · have := ih (p - 1) (by omega); omega
theorem ordF_inj (wt : Nat → Int) : ∀ i p q, p < i → q < i → p ≠ q → ordF wt i p ≠ ordF wt i q := by
  intro i
  induction i with
  | zero => intro p q hp; omega
  | succ i ih =>
    intro p q hp hq hne
    have hl := posn_le wt (ordF wt i) i i
    simp only [ordF, insF]
    by_cases p1 : p < posn wt (ordF wt i) i i
    · rw [if_pos p1]
      have a1 := ordF_lt wt i p (by omega)
      by_cases q1 : q < posn wt (ordF wt i) i i
      · rw [if_pos q1]; exact ih p q (by omega) (by omega) hne
      · rw [if_neg q1]
        by_cases q2 : q = posn wt (ordF wt i) i i
        · rw [if_pos q2]; omega
        · rw [if_neg q2]; exact ih p (q - 1) (by omega) (by omega) (by omega)
    · rw [if_neg p1]
      by_cases p2 : p = posn wt (ordF wt i) i i
      · rw [if_pos p2]
        by_cases q1 : q < posn wt (ordF wt i) i i
        · rw [if_pos q1]; have := ordF_lt wt i q (by omega); omega
        · rw [if_neg q1, if_neg (by omega)]; have := ordF_lt wt i (q - 1) (by omega); omega
      · rw [if_neg p2]
        have a1 := ordF_lt wt i (p - 1) (by omega)
        by_cases q1 : q < posn wt (ordF wt i) i i
        · rw [if_pos q1]; exact ih (p - 1) q (by omega) (by omega) (by omega)
        · rw [if_neg q1]
          by_cases q2 : q = posn wt (ordF wt i) i i
          · rw [if_pos q2]; omega
          · rw [if_neg q2]; exact ih (p - 1) (q - 1) (by omega) (by omega) (by omega)
/-- x stands behind all before its place that are not greater, and before all greater ones. -/
theorem posn_spec (wt : Nat → Int) (S : Nat → Nat) (x : Nat) : ∀ a, (∀ q, posn wt S x a ≤ q → q < a → wt x < wt (S q)) ∧ (0 < posn wt S x a → wt (S (posn wt S x a - 1)) ≤ wt x) := by
  intro a
  induction a with
  | zero => exact ⟨fun q h1 h2 => by omega, fun h => by simp [posn] at h⟩
  | succ a ih =>
    simp only [posn]
    by_cases h : wt x < wt (S a)
    · rw [if_pos h]
      refine ⟨fun q h1 h2 => ?_, ih.2⟩
      by_cases e : q = a
      · subst e; exact h
      · exact ih.1 q h1 (by omega)
    · rw [if_neg h]
      exact ⟨fun q h1 h2 => by omega, fun _ => by show wt (S (a + 1 - 1)) ≤ wt x; rw [Nat.add_sub_cancel]; omega⟩
/-- Each is not greater than the next one, and of two alike the first one is first. -/
theorem ordF_sorted (wt : Nat → Int) : ∀ i p, p + 1 < i → wt (ordF wt i p) < wt (ordF wt i (p + 1)) ∨ (wt (ordF wt i p) = wt (ordF wt i (p + 1)) ∧ ordF wt i p < ordF wt i (p + 1)) := by
  intro i
  induction i with
  | zero => intro p hp; omega
  | succ i ih =>
    intro p hp
    have hl := posn_le wt (ordF wt i) i i
    obtain ⟨s1, s2⟩ := posn_spec wt (ordF wt i) i i
    simp only [ordF, insF]
    by_cases p1 : p + 1 < posn wt (ordF wt i) i i
    · rw [if_pos (by omega), if_pos p1]; exact ih p (by omega)
    · by_cases p2 : p + 1 = posn wt (ordF wt i) i i
      · rw [if_pos (by omega), if_neg p1, if_pos p2]
        have h2 := s2 (by omega)
        have e : posn wt (ordF wt i) i i - 1 = p := by omega
        rw [e] at h2
        have := ordF_lt wt i p (by omega)
        omega
      · rw [if_neg (by omega : ¬ p < posn wt (ordF wt i) i i), if_neg p1, if_neg p2]
        by_cases p3 : p = posn wt (ordF wt i) i i
        · rw [if_pos p3, Nat.add_sub_cancel]
          exact .inl (s1 p (by omega) (by omega))
        · rw [if_neg p3, Nat.add_sub_cancel]
          have := ih (p - 1) (by omega)
          have e : p - 1 + 1 = p := by omega
          rw [e] at this
          exact this

/-- x stands at place j among the first i + 1, the others as in S. -/
def Rep {α : Type} [Inhabited α] (val : α → Nat) (d : Array α) (S : Nat → Nat) (x i j : Nat) : Prop := j ≤ i ∧ i < d.size ∧ ∀ p, p < d.size → val d[p]! = if i < p then p else if p < j then S p else if p = j then x else S (p - 1)
theorem insInner_rep {α : Type} [Inhabited α] (val : α → Nat) (wt : Nat → Int) (lt : α → α → Bool) (hlt : ∀ a b, lt a b = decide (wt (val a) < wt (val b))) (S : Nat → Nat) (x i : Nat) : ∀ (j : Nat) (d : Array α), Rep val d S x i j → Rep val (Go.Sort.insInner lt 0 j d) S x i (posn wt S x j) ∧ (Go.Sort.insInner lt 0 j d).size = d.size := by
  intro j
  induction j with
  | zero => intro d h; exact ⟨h, rfl⟩
  | succ j ih =>
    intro d h
    obtain ⟨h1, h2, h3⟩ := h
    have e1 := h3 (j + 1) (by omega)
    rw [if_neg (by omega), if_neg (by omega), if_pos rfl] at e1
    have e2 := h3 j (by omega)
    rw [if_neg (by omega), if_pos (by omega)] at e2
    by_cases hl : wt x < wt (S j)
    · have hl2 : lt d[j + 1]! d[j]! = true := by rw [hlt, e1, e2]; exact decide_eq_true hl
      rw [insInner_go lt 0 (j + 1) d (by omega) (by rw [Nat.add_sub_cancel]; exact hl2), Nat.add_sub_cancel]
      have hR : Rep val (Go.Sort.swp d (j + 1) j) S x i j := by
        refine ⟨by omega, by rw [Go.Sort.size_swp]; exact h2, fun p hp => ?_⟩
        rw [Go.Sort.size_swp] at hp
        by_cases p1 : p = j + 1
        · subst p1
          rw [Go.Sort.swp_left d (j + 1) j hp (by omega), e2, if_neg (by omega), if_neg (by omega), if_neg (by omega), Nat.add_sub_cancel]
        · by_cases p2 : p = j
          · subst p2
            rw [Go.Sort.swp_right d (p + 1) p hp, e1, if_neg (by omega), if_neg (by omega), if_pos rfl]
          · rw [Go.Sort.swp_other d (j + 1) j p p1 p2, h3 p hp]
            by_cases p3 : i < p
            · rw [if_pos p3, if_pos p3]
            · rw [if_neg p3, if_neg p3]
              by_cases p4 : p < j
              · rw [if_pos (by omega), if_pos p4]
              · rw [if_neg (by omega), if_neg (by omega), if_neg p4, if_neg p2]
      obtain ⟨r1, r2⟩ := ih (Go.Sort.swp d (j + 1) j) hR
      simp only [posn]
      rw [if_pos hl]
      exact ⟨r1, by rw [r2, Go.Sort.size_swp]⟩
    · have hl2 : lt d[j + 1]! d[j]! = false := by rw [hlt, e1, e2]; exact decide_eq_false hl
      rw [insInner_stop lt 0 (j + 1) d (.inr (by rw [Nat.add_sub_cancel]; exact hl2))]
      simp only [posn]
      rw [if_neg hl]
      exact ⟨⟨h1, h2, h3⟩, by first | rfl | trivial⟩
theorem insOuter_ord {α : Type} [Inhabited α] (val : α → Nat) (wt : Nat → Int) (lt : α → α → Bool) (hlt : ∀ a b, lt a b = decide (wt (val a) < wt (val b))) : ∀ (k i : Nat) (d : Array α), i + k = d.size → (∀ p, p < d.size → val d[p]! = if p < i then ordF wt i p else p) → (Go.Sort.insOuter lt 0 d.size i d).size = d.size ∧ ∀ p, p < d.size → val (Go.Sort.insOuter lt 0 d.size i d)[p]! = ordF wt d.size p := by
  intro k
  induction k with
  | zero =>
    intro i d e h
    rw [insOuter_stop lt 0 d.size i d (by omega)]
    refine ⟨rfl, fun p hp => ?_⟩
    rw [h p hp, if_pos (by omega)]
    have : i = d.size := by omega
    rw [this]
  | succ k ih =>
    intro i d e h
    rw [insOuter_go lt 0 d.size i d (by omega)]
    have hR : Rep val d (ordF wt i) i i i := by
      refine ⟨Nat.le_refl _, by omega, fun p hp => ?_⟩
      rw [h p hp]
      by_cases p1 : p < i
      · rw [if_pos p1, if_neg (by omega), if_pos p1]
      · rw [if_neg p1]
        by_cases p2 : i < p
        · rw [if_pos p2]
        · rw [if_neg p2, if_neg p1, if_pos (by omega)]; omega
    obtain ⟨⟨r1, r2, r3⟩, r4⟩ := insInner_rep val wt lt hlt (ordF wt i) i i i d hR
    have := ih (i + 1) (Go.Sort.insInner lt 0 i d) (by omega) (fun p hp => by
      rw [r3 p hp]
      by_cases p1 : i < p
      · rw [if_pos p1, if_neg (by omega)]
      · have e2 : (if p < i + 1 then ordF wt (i + 1) p else p) = ordF wt (i + 1) p := if_pos (by omega)
        rw [if_neg p1, e2]
        rfl)
    rw [r4] at this
    exact this
/-- What the library's insertion sort makes of the numbers from 0 on. -/
theorem sort_ord {α : Type} [Inhabited α] (val : α → Nat) (wt : Nat → Int) (lt : α → α → Bool) (hlt : ∀ a b, lt a b = decide (wt (val a) < wt (val b))) (d : Array α) (h0 : 0 < d.size) (hd : ∀ p, p < d.size → val d[p]! = p) :
    (Go.Sort.insertionSort lt d 0 d.size).size = d.size ∧ ∀ p, p < d.size → val (Go.Sort.insertionSort lt d 0 d.size)[p]! = ordF wt d.size p := by
  unfold Go.Sort.insertionSort
  refine insOuter_ord val wt lt hlt (d.size - 1) (0 + 1) d (by omega) fun p hp => ?_
  rw [hd p hp]
  by_cases p1 : p < 1
  · rw [if_pos p1]
    obtain rfl : p = 0 := by omega
    rfl
  · rw [if_neg p1]

/-! ### OrB -/
theorem lo_boundO {g : Nat → Nd} {n : Nat} {f : Int} (h : treeB g n f = true) : -1000000000 ≤ loTo g n ∧ loTo g n ≤ 1000000000 := by
  have hT := (treeB_iff g n f).1 h
  rcases loTo_at g n with e | ⟨j, hj, hl, e⟩
  · omega
  · have := hT.leaf hj hl; omega
theorem hi_boundO {g : Nat → Nd} {n : Nat} {f : Int} (h : treeB g n f = true) : -1000000000 ≤ hiTo g n ∧ hiTo g n ≤ 1000000000 := by
  have hT := (treeB_iff g n f).1 h
  rcases hiTo_at g n with e | ⟨j, hj, hl, e⟩
  · omega
  · have := hT.leaf hj hl; omega
theorem tree_moreO {g : Nat → Nd} {n : Nat} {f i : Int} (h : treeB g n f = true) (h1 : f ≤ i) (h6 : i ≤ 6) : treeB g n i = true := by
  rw [treeB_iff] at h ⊢
  obtain ⟨⟨hf1, _⟩, hn, ha⟩ := h
  refine ⟨⟨by omega, h6⟩, hn, fun k hk => ⟨?_, (ha k hk).2⟩⟩
  have := (ha k hk).1
  unfold Node at this ⊢
  split
  · rename_i e; rw [if_pos e] at this; exact this
  · rename_i e
    rw [if_neg e] at this
    refine ⟨?_, this.2⟩
    have hs := this.1
    simp only [spB, Bool.and_eq_true, decide_eq_true_eq] at hs ⊢
    exact ⟨⟨⟨hs.1.1.1, by omega⟩, hs.1.2⟩, hs.2⟩
/-- The number by which a policy sorts a tree. -/
def wtN (pol : Int) (g : Nat → Nd) (n : Nat) : Int := if pol = 2 then loTo g n - hiTo g n else if pol = 3 then dep g 15 0 else 0
theorem wtN_bd (pol : Int) {g : Nat → Nd} {n : Nat} {f : Int} (h : treeB g n f = true) : -2000000000 ≤ wtN pol g n ∧ wtN pol g n ≤ 2000000000 := by
  have h1 := lo_boundO h
  have h2 := hi_boundO h
  have h3 := dep_bd g 15 0
  unfold wtN
  split
  · omega
  · split <;> omega

set_option maxRecDepth 100000 in
set_option maxHeartbeats 1000000 in
theorem weightOf_any (pol : Int) (A : Option Addr) (n cap : Nat) (g : Nat → Nd) (w : World) (h : RdN w w.heap.size A n g) (hn : n ≤ 4194304) (ht : treeB g n 6 = true) :
    Calls Try.prog 77 #[.slice A n cap, .int .i64 pol] w fun e w' => e = .returned (.int .i64 (wtN pol g n)) ∧ Below w.heap.size w w' := by
  have h1 := lo_boundO ht
  have h2 := hi_boundO ht
  have HT := hid ht
  clear ht
  by_cases p2 : pol = 2
  · subst p2
    go_enter Try.func77, Try.ntmps77
    go_wp2_with fail
    refine (iRange_yes A n cap g _ h hn HT.out).mono ?_
    rintro e w1 ⟨rfl, hb⟩
    go_wp2_with fail
    go_ret
    exact ⟨rfl, hb⟩
  · by_cases p3 : pol = 3
    · subst p3
      go_enter Try.func77, Try.ntmps77
      go_wp2_with fail
      refine (iDepth_yes A n cap g _ h hn HT.out).mono ?_
      rintro e w1 ⟨rfl, hb⟩
      go_wp2_with fail
      go_ret
      exact ⟨rfl, hb⟩
    · have e0 : wtN pol g n = 0 := by unfold wtN; rw [if_neg p2, if_neg p3]
      rw [e0]
      have q2 : (pol == 2) = false := by simpa using p2
      have q3 : (pol == 3) = false := by simpa using p3
      clear p2 p3 e0
      go_enter Try.func77, Try.ntmps77
      go_wp2_with fail
      go_ret
      exact ⟨rfl, Below.refl _ _⟩

set_option maxRecDepth 100000 in
set_option maxHeartbeats 1000000 in
theorem rank_any (pol : Int) (A : Option Addr) (n cap : Nat) (g : Nat → Nd) (w : World) (h : RdN w w.heap.size A n g) (hn : n ≤ 4194304) (ht : treeB g n 6 = true) :
    Calls Try.prog 76 #[.slice A n cap, .int .i64 pol] w fun e w' => e = .returned (.int .i64 (wtN pol g n)) ∧ ∃ m, w' = w.drewN m := by
  have h1 := lo_boundO ht
  have h2 := hi_boundO ht
  have hT := (treeB_iff g n 6).1 ht
  have hn15 := hT.2.1
  have HU := hid hT.up
  clear ht hT
  by_cases p2 : pol = 2
  · subst p2
    go_enter Try.func76, Try.ntmps76
    go_wp2_with fail
    refine (l2Range_any A n cap g _ h hn).mono ?_
    rintro e w1 ⟨rfl, rfl⟩
    go_wp2_with fail
    go_ret
    exact ⟨rfl, 0, rfl⟩
  · by_cases p3 : pol = 3
    · subst p3
      go_enter Try.func76, Try.ntmps76
      go_wp2_with fail
      refine (l2Depth_any A n cap g HU.out hn15.2 15 0 _ (by omega) (by omega) (by omega) h).mono ?_
      rintro e w1 ⟨rfl, m, rfl⟩
      go_wp2_with fail
      go_ret
      exact ⟨rfl, m, rfl⟩
    · have e0 : wtN pol g n = 0 := by unfold wtN; rw [if_neg p2, if_neg p3]
      rw [e0]
      have q2 : (pol == 2) = false := by simpa using p2
      have q3 : (pol == 3) = false := by simpa using p3
      clear p2 p3 e0
      go_enter Try.func76, Try.ntmps76
      go_wp2_with fail
      go_ret
      exact ⟨rfl, 0, rfl⟩

/-! ### OrC -/
def wtF (pol : Int) (len : Nat → Nat) (g : Nat → Nat → Nd) : Nat → Int := fun i => wtN pol (g i) (len i)
def ordZ (pol : Int) (len : Nat → Nat) (g : Nat → Nat → Nd) (k : Nat) : Nat → Int := fun p => (ordF (wtF pol len g) k p : Nat)
/-- A row of the call's own, its cells said one by one. -/
def Raw (w : World) (b k c : Nat) (z : Nat → Int) (skip : Nat) : Prop := ∃ cs : Array Value, Blk w b 2 cs ∧ cs.size = c ∧ k ≤ c ∧ c ≤ maxLen ∧ (∀ p, p < k → p ≠ skip → cs[p]? = some (.int .i64 (z p))) ∧ ∀ p, p < k → ∃ x : Int, cs[p]? = some (.int .i64 x)
theorem raw_of {w : World} {B b k c : Nat} {z : Nat → Int} (h : w.ownsRow B 2 1 (.slice (some ⟨b, 0, none⟩) k c) k (numsOf k z)) (hk : 0 < k) : B ≤ b ∧ ∀ skip, Raw w b k c z skip := by
  rcases h.2 with ⟨_, h0⟩ | ⟨g, cap, cur, e, hb, hg, hc, hm, hs, ht⟩
  · omega
  · injection e with e1 e2 e3
    injection e1 with e1
    injection e1 with e1
    subst e1 e3
    have hp : ∀ p, p < k → cur[p]? = some (.int .i64 (z p)) := fun p hp => by
      have h1 : (cur.toList.take (k * 1))[p]? = (numsOf k z)[p]? := by rw [ht]
      rw [List.getElem?_take, if_pos (by omega), Array.getElem?_toList] at h1
      rw [h1]
      simp [numsOf, hp]
    exact ⟨hb, fun skip => ⟨cur, hg, by omega, hc, hm, fun p hpk _ => hp p hpk, fun p hpk => ⟨_, hp p hpk⟩⟩⟩
theorem own_raw {w : World} {B b k c skip : Nat} {z : Nat → Int} (h : Raw w b k c z skip) (hB : B ≤ b) (hs : k ≤ skip) : w.ownsRow B 2 1 (.slice (some ⟨b, 0, none⟩) k c) k (numsOf k z) := by
  obtain ⟨cs, h1, h2, h3, h4, h5, _⟩ := h
  refine ⟨by rw [numsOf_len]; omega, .inr ⟨b, c, cs, rfl, hB, h1, h3, h4, by omega, ?_⟩⟩
  apply List.ext_getElem?
  intro p
  rw [List.getElem?_take]
  by_cases hp : p < k
  · rw [if_pos (by omega), Array.getElem?_toList, h5 p hp (by omega)]
    simp [numsOf, hp]
  · rw [if_neg (by omega)]
    symm
    rw [List.getElem?_eq_none_iff, numsOf_len]
    omega
theorem Raw.drewN {w : World} {b k c skip : Nat} {z : Nat → Int} (h : Raw w b k c z skip) (m : Nat) : Raw (w.drewN m) b k c z skip := h
theorem Raw.lt {w : World} {b k c skip : Nat} {z : Nat → Int} (h : Raw w b k c z skip) : b < w.heap.size := by obtain ⟨cs, h1, _⟩ := h; exact h1.lt
theorem Raw.cell {w : World} {b k c skip : Nat} {z : Nat → Int} (h : Raw w b k c z skip) {p : Nat} (hp : p < k) (hs : p ≠ skip) : w.cell? ⟨b, p, none⟩ = some (.int .i64 (z p)) := by
  obtain ⟨cs, h1, _, _, _, h5, _⟩ := h
  rw [h1.cell, h5 p hp hs]
theorem Raw.any {w : World} {b k c skip : Nat} {z : Nat → Int} (h : Raw w b k c z skip) {p : Nat} (hp : p < k) : ∃ x : Int, w.cell? ⟨b, p, none⟩ = some (.int .i64 x) := by
  obtain ⟨cs, h1, _, _, _, _, h6⟩ := h
  obtain ⟨x, hx⟩ := h6 p hp
  exact ⟨x, by rw [h1.cell, hx]⟩
theorem Raw.frozen {w : World} {b k c skip : Nat} {z : Nat → Int} (h : Raw w b k c z skip) (p : Nat) : w.frozen? ⟨b, p, none⟩ = false := by obtain ⟨cs, h1, _⟩ := h; exact h1.frozen p
/-- The place that was free is filled, another one may be free now. -/
theorem Raw.set {w : World} {b k c skip skip' : Nat} {z y : Nat → Int} (h : Raw w b k c z skip) {x : Int} (hp : skip < k) (hx : skip ≠ skip' → y skip = x) (hy : ∀ p, p < k → p ≠ skip → p ≠ skip' → y p = z p) : Raw (w.setCell ⟨b, skip, none⟩ (.int .i64 x)) b k c y skip' := by
  obtain ⟨cs, h1, h2, h3, h4, h5, h6⟩ := h
  refine ⟨_, h1.set_ skip _, by simpa using h2, h3, h4, fun p hpk hs => ?_, fun p hpk => ?_⟩
  · by_cases e : p = skip
    · subst e
      rw [Array.getElem?_setIfInBounds_self_of_lt (by omega), hx hs]
    · rw [Array.getElem?_setIfInBounds_ne (fun q => e q.symm), h5 p hpk e, hy p hpk e hs]
  · by_cases e : p = skip
    · subst e
      rw [Array.getElem?_setIfInBounds_self_of_lt (by omega)]
      exact ⟨_, rfl⟩
    · rw [Array.getElem?_setIfInBounds_ne (fun q => e q.symm)]
      exact h6 p hpk

theorem raw_done {w : World} {b k c a : Nat} {len : Nat → Nat} {g : Nat → Nat → Nd} {pl : Int} (h : Raw w b (k + 1) c (fun p => if p < a then ordZ pl len g k p else ordZ pl len g k (p - 1)) a) (ha : a ≤ k) (hp : posn (wtF pl len g) (ordF (wtF pl len g) k) k k = a) :
    Raw (w.setCell ⟨b, a, none⟩ (.int .i64 k)) b (k + 1) c (ordZ pl len g (k + 1)) (k + 1) := by
  have e : ∀ p, ordZ pl len g (k + 1) p = if p < a then ordZ pl len g k p else if p = a then (k : Int) else ordZ pl len g k (p - 1) := by
    intro p
    show ((insF (ordF (wtF pl len g) k) k (posn (wtF pl len g) (ordF (wtF pl len g) k) k k) p : Nat) : Int) = _
    rw [hp]
    unfold insF
    by_cases p1 : p < a
    · rw [if_pos p1, if_pos p1]; rfl
    · rw [if_neg p1, if_neg p1]
      by_cases p2 : p = a
      · rw [if_pos p2, if_pos p2]
      · rw [if_neg p2, if_neg p2]; rfl
  refine h.set (by omega) (fun _ => ?_) fun p _ h1 _ => ?_
  · rw [e, if_neg (by omega), if_pos rfl]
  · rw [e]
    by_cases p1 : p < a
    · rw [if_pos p1, if_pos p1]
    · rw [if_neg p1, if_neg p1, if_neg h1]

set_option maxRecDepth 100000 in
set_option maxHeartbeats 4000000 in
theorem sOrder_yes (f b pol : Int) (A : Option Addr) (n c : Nat) (len : Nat → Nat) (g : Nat → Nat → Nd) (w : World) (h : RdT w w.heap.size A n len g) (hn : n ≤ 4194304) (hlen : Hid (∀ i, i < n → len i ≤ 4194304)) (hy : ensB f b n len g = true) (hp1 : 1 ≤ pol) (hp3 : pol ≤ 3) :
    Calls Try.prog 24 #[enV f b A n c, .int .i64 pol] w fun e w' => ∃ (A' : Option Addr) (c' : Nat), e = .returned (.slice A' n c') ∧ w'.ownsRow w.heap.size 2 1 (.slice A' n c') n (numsOf n (ordZ pol len g n)) ∧ Below w.heap.size w w' := by
  have HY := hid hy
  obtain ⟨_, _, hn12, HT⟩ := ensB_iff.1 hy
  have HT6 : Hid (∀ i, i < n → treeB (g i) (len i) 6 = true) := fun i hi => tree_moreO (HT i hi) (by have := (ensB_iff.1 hy).1; omega) (by omega)
  have HLE : Hid (∀ i, i < n → len i ≤ 15 ∧ 1 ≤ len i) := fun i hi => by have := (treeB_iff _ _ _).1 (HT i hi); exact ⟨this.2.1.2, this.2.1.1⟩
  clear HT hy
  obtain ⟨i0, hi0, hz0, hz1, hz2⟩ := info_parts info_int
  have hP := (Blk.new w 33 #[.int .i64 f, .int .i64 b, .slice A n c]).alloc (.cells #[] 2)
  have hO := World.ownsRow_made (base := w.heap.size) (e := 2) (size := 1) (w.alloc (.cells #[.int .i64 f, .int .i64 b, .slice A n c] 33)) #[] 0 (by simp) (by unfold maxLen; omega) rfl
  have hb0 := ((Below.refl w.heap.size w).alloc (Nat.le_refl _) (.cells #[.int .i64 f, .int .i64 b, .slice A n c] 33)).alloc (by simp) (.cells #[] 2)
  go_enter Try.func24, Try.ntmps24
  go_wp2_with fail
  refine (sEnsOk_any f b A n c len g _ (h.to hb0 hb0.size) hn hlen).mono ?_
  rintro e w1 ⟨rfl, hb1⟩
  rw [HY.out]
  have hP1 := hP.below hb1 hP.lt
  have hO1 := own_below hO hb1
  have hw1 := hb0.trans (hb1.mono hb0.size)
  have hs1 : (w.alloc (.cells #[.int .i64 f, .int .i64 b, .slice A n c] 33)).heap.size = w.heap.size + 1 := by simp
  rw [hs1] at hO1
  have HO0 : Hid (w1.ownsRow w.heap.size 2 1 (.slice (some ⟨w.heap.size + 1, 0, none⟩) 0 0) 0 (numsOf 0 (ordZ pol len g 0))) := hO1
  have a2 : w1.cell? ⟨w.heap.size, 2, none⟩ = some (.slice A n c) := hP1.cell 2
  clear hP hO hb0 hb1 hs1 hO1
  go_wp2_with fail
  refine (In_any pol 1 3 _).mono ?_
  rintro e w2 ⟨rfl, rfl⟩
  rw [decide_eq_true hp1, decide_eq_true hp3]
  go_wp2_with fail
  clear a2
  go_loopw [5, 6] (fun o i wr => ∃ (k : Nat) (A' : Option Addr) (c' : Nat), k ≤ n ∧ i = .int .i64 k ∧ o = .slice A' k c' ∧ Hid (wr.ownsRow w.heap.size 2 1 (.slice A' k c') k (numsOf k (ordZ pol len g k))) ∧ Hid (Blk wr w.heap.size 33 #[.int .i64 f, .int .i64 b, .slice A n c]) ∧ Below w.heap.size w wr) (fun _ i _ => n - (intOf i).toNat)
  case atStart => exact ⟨0, _, _, Nat.zero_le _, rfl, rfl, HO0, hP1, hw1⟩
  case round =>
    clear HO0 hP1 hw1
    obtain ⟨k, A', c', hk, rfl, rfl, HO, HE, hbw⟩ := hrel
    have a2 : wr.cell? ⟨w.heap.size, 2, none⟩ = some (.slice A n c) := HE.out.cell 2
    by_cases hlt : k < n
    · obtain ⟨tb, off, Ak, ck, rfl, htb, hcell0, hrk⟩ := h.at_ hlt
      have i1 : (k : Int) < (n : Int) := by omega
      have i2 : (0 : Int) ≤ (k : Int) := by omega
      have hbs := hbw.size
      have hEl := HE.out.lt
      have hl := own_ltJ HO.out
      have HL := hid hl
      clear hl
      go_wp2_with (at_builtin; refine wpList_append_lies _ rfl (.tmp 27) (.tmp 29) 25 rfl w.heap.size 2 i0 (.int .i64 0) 1 8 Try.underlying25 hi0 hz0 hz1 hz2 rfl (by decide) (.slice A' k c') k (numsOf k (ordZ pol len g k)) rfl (HO.out.alloc _) ⟨wr.heap.size, 0, none⟩ 1 1 [.int .i64 k] rfl rfl (World.news_of_block (cs := #[.int .i64 k]) (t := 2) (fr := (0, 0)) (heap_alloc_new wr _)) (by intro u hu; simp at hu; subst hu; rfl) (by omega) (by unfold maxLen; omega) (by omega) (by rw [World.size_alloc]; omega) (wr.heap.size + 1) (by simp) ?_)
      intro gg cc w5 hown hgr _ _
      have hown' : w5.ownsRow w.heap.size 2 1 (.slice (some ⟨gg, 0, none⟩) (k + 1) cc) (k + 1) (numsOf (k + 1) (fun p => if p = k then (k : Int) else ordZ pol len g k p)) := by
        have e : numsOf (k + 1) (fun p => if p = k then (k : Int) else ordZ pol len g k p) = numsOf k (ordZ pol len g k) ++ [.int .i64 k] := by
          unfold numsOf
          rw [List.range_succ, List.map_append, List.map_cons, List.map_nil]
          simp only [↓reduceIte]
          congr 1
          refine List.map_congr_left fun i hi => ?_
          simp only [if_neg (show ¬ i = k by have := List.mem_range.1 hi; omega)]
        rw [e]
        exact hown
      obtain ⟨hgb, hraw⟩ := raw_of hown' (by omega)
      have hRW : Hid (Raw w5 gg (k + 1) cc (fun p => if p < k then ordZ pol len g k p else ordZ pol len g k (p - 1)) k) := by
        obtain ⟨cs, q1, q2, q3, q4, q5, q6⟩ := hraw k
        exact ⟨cs, q1, q2, q3, q4, fun p hp hne => by rw [q5 p hp hne]; simp only [if_neg hne, if_pos (show p < k by omega)], q6⟩
      have hE5 : Hid (Blk w5 w.heap.size 33 #[.int .i64 f, .int .i64 b, .slice (some ⟨tb, off, none⟩) n c]) := (HE.out.alloc _).grown hgr (own_blk_ne HO.out HE.out (by decide))
      have hb5 : Below w.heap.size w w5 := (hbw.alloc hbs _).grown hgr (by rw [World.size_alloc]; omega) (fun x hx => (HL.out x hx).1)
      clear hown hown' hraw hgr HL HO HE hbw a2 hbs hEl
      go_wp2_with fail
      go_loopw [7] (fun q wr => ∃ a : Nat, a ≤ k ∧ q = .int .i64 a ∧ Hid (posn (wtF pol len g) (ordF (wtF pol len g) k) k a = posn (wtF pol len g) (ordF (wtF pol len g) k) k k) ∧ Hid (Raw wr gg (k + 1) cc (fun p => if p < a then ordZ pol len g k p else ordZ pol len g k (p - 1)) a) ∧ Hid (Blk wr w.heap.size 33 #[.int .i64 f, .int .i64 b, .slice (some ⟨tb, off, none⟩) n c]) ∧ Below w.heap.size w wr) (fun q _ => (intOf q).toNat)
      case atStart => exact ⟨k, Nat.le_refl _, rfl, rfl, hRW, hE5, hb5⟩
      case round =>
        clear hRW hE5 hb5
        obtain ⟨a, ha, rfl, HPS, HR, HE, hbw⟩ := hrel
        have hgne : w.heap.size ≠ gg := by
          obtain ⟨cs, q1, _⟩ := HR.out
          exact fun e => (HE.out.ne_ q1 (by decide)) e
        have a2 : wr.cell? ⟨w.heap.size, 2, none⟩ = some (.slice (some ⟨tb, off, none⟩) n c) := HE.out.cell 2
        by_cases h0 : 0 < a
        · obtain ⟨a, rfl⟩ : ∃ a', a = a' + 1 := ⟨a - 1, by omega⟩
          have hyk := ordF_lt (wtF pol len g) k a (by omega)
          obtain ⟨y, hy⟩ : ∃ y, ordF (wtF pol len g) k a = y := ⟨_, rfl⟩
          have hcy : wr.cell? ⟨gg, a, none⟩ = some (.int .i64 y) := by
            have := HR.out.cell (p := a) (by omega) (by omega)
            simp only [if_pos (show a < a + 1 by omega)] at this
            rw [this]
            show some (Value.int .i64 ((ordF (wtF pol len g) k a : Nat) : Int)) = _
            rw [hy]
          rw [hy] at hyk
          have HYA := hid hy
          clear hy
          obtain ⟨tb2, off2, Ay, cy, e2, _, hcelly0, hry⟩ := h.at_ (show y < n by omega)
          injection e2 with e2
          injection e2 with e2 e3
          subst e2 e3
          have hcellk : wr.cell? ⟨tb, off + k, none⟩ = some (.slice Ak (len k) ck) := (hbw.cell (p := ⟨tb, off + k, none⟩) htb).trans hcell0
          have hcelly : wr.cell? ⟨tb, off + y, none⟩ = some (.slice Ay (len y) cy) := (hbw.cell (p := ⟨tb, off + y, none⟩) htb).trans hcelly0
          have hrk' : RdN wr wr.heap.size Ak (len k) (g k) := (hrk.below hbw).more hbw.size
          have hry' : RdN wr wr.heap.size Ay (len y) (g y) := (hry.below hbw).more hbw.size
          have j1 : (y : Int) < (n : Int) := by omega
          have j2 : (0 : Int) ≤ (y : Int) := by omega
          have j3 : (a : Int) < (k : Int) + 1 := by omega
          have j4 : (0 : Int) ≤ (a : Int) := by omega
          have j5 : (0 : Int) < (a : Int) + 1 := by omega
          have hlk : len k ≤ 4194304 := by have := (HLE.out k hlt).1; omega
          have hly : len y ≤ 4194304 := by have := (HLE.out y (by omega)).1; omega
          obtain ⟨wk, hwk⟩ : ∃ x, wtN pol (g k) (len k) = x := ⟨_, rfl⟩
          obtain ⟨wy, hwy⟩ : ∃ x, wtN pol (g y) (len y) = x := ⟨_, rfl⟩
          have hck := rank_any pol Ak (len k) ck (g k)
          have hcY := rank_any pol Ay (len y) cy (g y)
          rw [hwk] at hck
          rw [hwy] at hcY
          have HWK := hid hwk
          have HWY := hid hwy
          clear hwk hwy hcelly0
          have hfz := HR.out.frozen (a + 1)
          obtain ⟨xo, hxo⟩ := HR.out.any (p := a + 1) (by omega)
          by_cases hw : wk < wy
          · go_wp2_with fail
            go_quiet ((first | (go_at_call_of 76 (Value.slice Ak (len k) ck); exact Calls.quiet_of (hck _ hrk' hlk (HT6.out k hlt))) | (go_at_call_of 76 (Value.slice Ay (len y) cy); exact Calls.quiet_of (hcY _ hry' hly (HT6.out y (by omega))))))
            have hgl := hbw.size
            go_wp2_with fail
            go_roundw
            case rel =>
              refine ⟨a, by omega, by go_num, ?_, ?_, (HE.out.drewN nq).far (p := ⟨gg, a + 1, none⟩) (by show w.heap.size ≠ gg; exact hgne) _, (below_drewN hbw nq).setCell (p := ⟨gg, a + 1, none⟩) hgb _⟩
              · have h1 := HPS.out
                simp only [posn] at h1
                rw [if_pos (by rw [HYA.out]; show wtN pol (g k) (len k) < wtN pol (g y) (len y); rw [HWK.out, HWY.out]; exact hw)] at h1
                exact h1
              · refine (HR.out.drewN nq).set (by omega) (fun _ => ?_) fun p hp h1 h2 => ?_
                · simp only [if_neg (show ¬ a + 1 < a by omega), Nat.add_sub_cancel]
                  show ((ordF (wtF pol len g) k a : Nat) : Int) = _
                  rw [HYA.out]
                · by_cases p1 : p < a
                  · simp only [if_pos p1, if_pos (show p < a + 1 by omega)]
                  · simp only [if_neg p1, if_neg (show ¬ p < a + 1 by omega)]
            case measure => simp [intOf]
          · have hwf : decide (wk < wy) = false := decide_eq_false hw
            go_wp2_with fail
            go_quiet ((first | (go_at_call_of 76 (Value.slice Ak (len k) ck); exact Calls.quiet_of (hck _ hrk' hlk (HT6.out k hlt))) | (go_at_call_of 76 (Value.slice Ay (len y) cy); exact Calls.quiet_of (hcY _ hry' hly (HT6.out y (by omega))))))
            go_wp2_with fail
            have hps : posn (wtF pol len g) (ordF (wtF pol len g) k) k k = a + 1 := by
              have h1 := HPS.out
              simp only [posn] at h1
              rw [if_neg (by rw [HYA.out]; show ¬ wtN pol (g k) (len k) < wtN pol (g y) (len y); rw [HWK.out, HWY.out]; omega)] at h1
              exact h1.symm
            refine ⟨⟨k + 1, some ⟨gg, 0, none⟩, cc, by omega, by go_num, rfl, own_raw (raw_done (HR.out.drewN nq) (by omega) hps) hgb (Nat.le_refl _), (HE.out.drewN nq).far (p := ⟨gg, a + 1, none⟩) hgne _, (below_drewN hbw nq).setCell (p := ⟨gg, a + 1, none⟩) hgb _⟩, by simp [intOf]; omega⟩
        · obtain rfl : a = 0 := by omega
          obtain ⟨x, hx⟩ := HR.out.any (p := 0) (by omega)
          have hfz := HR.out.frozen 0
          have j3 : (0 : Int) < (k : Int) + 1 := by omega
          go_wp2_with fail
          go_quiet (fail)
          go_wp2_with fail
          refine ⟨⟨k + 1, some ⟨gg, 0, none⟩, cc, by omega, by go_num, rfl, own_raw (raw_done (HR.out.drewN nq) (Nat.zero_le _) HPS.out.symm) hgb (Nat.le_refl _), (HE.out.drewN nq).far (p := ⟨gg, 0, none⟩) hgne _, (below_drewN hbw nq).setCell (p := ⟨gg, 0, none⟩) hgb _⟩, by simp [intOf]; omega⟩
    · obtain rfl : k = n := by omega
      go_wp2_with fail
      go_ret
      exact ⟨A', c', rfl, HO.out, hbw⟩

set_option maxRecDepth 100000 in
set_option maxHeartbeats 4000000 in
theorem sOrder_no (f b pol : Int) (A : Option Addr) (n c : Nat) (len : Nat → Nat) (g : Nat → Nat → Nd) (w : World) (h : RdT w w.heap.size A n len g) (hn : n ≤ 4194304) (hlen : Hid (∀ i, i < n → len i ≤ 4194304)) (hy : (ensB f b n len g && (decide (1 ≤ pol) && decide (pol ≤ 3))) = false) :
    Calls Try.prog 24 #[enV f b A n c, .int .i64 pol] w fun e w' => ∃ (A' : Option Addr) (c' : Nat), e = .returned (.slice A' 0 c') ∧ w'.ownsRow w.heap.size 2 1 (.slice A' 0 c') 0 (numsOf 0 (ordZ pol len g n)) ∧ Below w.heap.size w w' := by
  have hO := World.ownsRow_made (base := w.heap.size) (e := 2) (size := 1) (w.alloc (.cells #[.int .i64 f, .int .i64 b, .slice A n c] 33)) #[] 0 (by simp) (by unfold maxLen; omega) rfl
  have hs1 : (w.alloc (.cells #[.int .i64 f, .int .i64 b, .slice A n c] 33)).heap.size = w.heap.size + 1 := by simp
  rw [hs1] at hO
  have hb0 := ((Below.refl w.heap.size w).alloc (Nat.le_refl _) (.cells #[.int .i64 f, .int .i64 b, .slice A n c] 33)).alloc (by simp) (.cells #[] 2)
  cases hE : ensB f b n len g with
  | false =>
    have HE := hid hE
    clear hE hy
    go_enter Try.func24, Try.ntmps24
    go_wp2_with fail
    refine (sEnsOk_any f b A n c len g _ (h.to hb0 hb0.size) hn hlen).mono ?_
    rintro e w1 ⟨rfl, hb1⟩
    rw [HE.out]
    have hw1 := hb0.trans (hb1.mono hb0.size)
    have HO := hid (own_below hO hb1)
    clear hb0 hb1 hO hs1
    go_wp2_with fail
    go_ret
    exact ⟨_, _, rfl, HO.out, hw1⟩
  | true =>
    have HE := hid hE
    rw [hE, Bool.true_and] at hy
    clear hE
    have HYq := hid hy
    clear hy
    go_enter Try.func24, Try.ntmps24
    go_wp2_with fail
    refine (sEnsOk_any f b A n c len g _ (h.to hb0 hb0.size) hn hlen).mono ?_
    rintro e w1 ⟨rfl, hb1⟩
    rw [HE.out]
    have hw1 := hb0.trans (hb1.mono hb0.size)
    have HO := hid (own_below hO hb1)
    clear hb0 hb1 hO hs1
    go_wp2_with fail
    refine (In_any pol 1 3 _).mono ?_
    rintro e w2 ⟨rfl, rfl⟩
    rw [HYq.out]
    go_wp2_with fail
    go_ret
    exact ⟨_, _, rfl, HO.out, hw1⟩

/-! ### OrD -/
set_option maxHeartbeats 2000000 in
theorem less_any (b5 b6 ob wb n : Nat) (G : Nat → Nat) (Z : Nat → Int) (W : World) (h5 : W.cell? ⟨b5, 0, none⟩ = some (.slice (some ⟨ob, 0, none⟩) n n)) (h6 : W.cell? ⟨b6, 0, none⟩ = some (.slice (some ⟨wb, 0, none⟩) n n))
    (ho : ∀ t, t < n → W.cell? ⟨ob, t, none⟩ = some (.int .i64 (G t))) (hG : ∀ t, t < n → G t < n) (hz : ∀ t, t < n → W.cell? ⟨wb, t, none⟩ = some (.int .i64 (Z t))) (i j : Nat) (hi : i < n) (hj : j < n) :
    Calls Try.prog 79 #[.int .i64 i, .int .i64 j, .pointer (some ⟨b6, 0, none⟩), .pointer (some ⟨b5, 0, none⟩)] W fun e w' => e = .returned (.bool (decide (Z (G i) < Z (G j)))) ∧ ∃ q, w' = W.drewN q := by
  have ci := ho i hi
  have cj := ho j hj
  have gi := hG i hi
  have gj := hG j hj
  have zi := hz (G i) gi
  have zj := hz (G j) gj
  have i1 : (i : Int) < (n : Int) := by omega
  have j1 : (j : Int) < (n : Int) := by omega
  have i2 : (0 : Int) ≤ (i : Int) := by omega
  have j2 : (0 : Int) ≤ (j : Int) := by omega
  have i3 : (G i : Int) < (n : Int) := by omega
  have j3 : (G j : Int) < (n : Int) := by omega
  have i4 : (0 : Int) ≤ (G i : Int) := by omega
  have j4 : (0 : Int) ≤ (G j : Int) := by omega
  clear ho hG hz
  go_enter Try.func79, Try.ntmps79
  go_wp2_with fail
  go_quiet (fail)
  go_wp2_with fail
  go_ret
  exact ⟨rfl, nq, rfl⟩

/-- The first k numbers and weights are laid. -/
def Sorting (w0 : World) (H n k : Nat) (wt : Nat → Int) (w : World) : Prop :=
  (∃ cs : Array Value, Blk w H 2 cs ∧ cs.size = n ∧ ∀ j, j < k → cs[j]? = some (.int .i64 j)) ∧ Blk w (H + 1) 25 #[.slice (some ⟨H, 0, none⟩) n n] ∧
  (∃ cs : Array Value, Blk w (H + 1 + 1) 2 cs ∧ cs.size = n ∧ ∀ j, j < k → cs[j]? = some (.int .i64 (wt j))) ∧ Blk w (H + 1 + 1 + 1) 25 #[.slice (some ⟨H + 1 + 1, 0, none⟩) n n] ∧ Below w0.heap.size w0 w ∧ w0.heap.size < H
/-- Its number k is laid too, its weight not yet. -/
def SortingO (w0 : World) (H n k : Nat) (wt : Nat → Int) (w : World) : Prop :=
  (∃ cs : Array Value, Blk w H 2 cs ∧ cs.size = n ∧ ∀ j, j < k + 1 → cs[j]? = some (.int .i64 j)) ∧ Blk w (H + 1) 25 #[.slice (some ⟨H, 0, none⟩) n n] ∧
  (∃ cs : Array Value, Blk w (H + 1 + 1) 2 cs ∧ cs.size = n ∧ ∀ j, j < k → cs[j]? = some (.int .i64 (wt j))) ∧ Blk w (H + 1 + 1 + 1) 25 #[.slice (some ⟨H + 1 + 1, 0, none⟩) n n] ∧ Below w0.heap.size w0 w ∧ w0.heap.size < H
theorem row_next {cs : Array Value} {k n : Nat} {z : Nat → Int} (hs : cs.size = n) (hk : k < n) (hc : ∀ j, j < k → cs[j]? = some (.int .i64 (z j))) {x : Int} (hx : z k = x) : ∀ j, j < k + 1 → (cs.setIfInBounds k (.int .i64 x))[j]? = some (.int .i64 (z j)) := by
  intro j hj
  by_cases e : j = k
  · subst e; rw [Array.getElem?_setIfInBounds_self_of_lt (by omega), hx]
  · rw [Array.getElem?_setIfInBounds_ne (fun q => e q.symm)]; exact hc j (by omega)
theorem Sorting.order {w0 w : World} {H n k : Nat} {wt : Nat → Int} (h : Sorting w0 H n k wt w) (hk : k < n) : SortingO w0 H n k wt (w.setCell ⟨H, k, none⟩ (.int .i64 k)) := by
  obtain ⟨⟨co, o1, o2, o3⟩, x5, ⟨cw, q1, q2, q3⟩, x6, hb, hH⟩ := h
  exact ⟨⟨_, o1.set_ k _, by simpa using o2, row_next (z := fun j => (j : Int)) o2 hk o3 rfl⟩, x5.far (p := ⟨H, k, none⟩) (by show H + 1 ≠ H; omega) _, ⟨cw, q1.far (p := ⟨H, k, none⟩) (by show H + 1 + 1 ≠ H; omega) _, q2, q3⟩, x6.far (p := ⟨H, k, none⟩) (by show H + 1 + 1 + 1 ≠ H; omega) _, hb.setCell (p := ⟨H, k, none⟩) (by show w0.heap.size ≤ H; omega) _, hH⟩
theorem SortingO.below {w0 w w' : World} {H n k : Nat} {wt : Nat → Int} (h : SortingO w0 H n k wt w) (hb : Below w.heap.size w w') : SortingO w0 H n k wt w' := by
  obtain ⟨⟨co, o1, o2, o3⟩, x5, ⟨cw, q1, q2, q3⟩, x6, h5, hH⟩ := h
  exact ⟨⟨co, o1.below hb o1.lt, o2, o3⟩, x5.below hb x5.lt, ⟨cw, q1.below hb q1.lt, q2, q3⟩, x6.below hb x6.lt, h5.trans (hb.mono h5.size), hH⟩
theorem SortingO.weight {w0 w : World} {H n k : Nat} {wt : Nat → Int} (h : SortingO w0 H n k wt w) (hk : k < n) {x : Int} (hx : wt k = x) : Sorting w0 H n (k + 1) wt (w.setCell ⟨H + 1 + 1, k, none⟩ (.int .i64 x)) := by
  obtain ⟨⟨co, o1, o2, o3⟩, x5, ⟨cw, q1, q2, q3⟩, x6, hb, hH⟩ := h
  exact ⟨⟨co, o1.far (p := ⟨H + 1 + 1, k, none⟩) (by show H ≠ H + 1 + 1; omega) _, o2, o3⟩, x5.far (p := ⟨H + 1 + 1, k, none⟩) (by show H + 1 ≠ H + 1 + 1; omega) _, ⟨_, q1.set_ k _, by simpa using q2, row_next q2 hk q3 hx⟩, x6.far (p := ⟨H + 1 + 1, k, none⟩) (by show H + 1 + 1 + 1 ≠ H + 1 + 1; omega) _, hb.setCell (p := ⟨H + 1 + 1, k, none⟩) (by show w0.heap.size ≤ H + 1 + 1; omega) _, hH⟩

open Go.Sort Go.Lib in
theorem put_heap {α : Type} [Inhabited α] (enc : α → Value) (w : World) (blk k : Nat) (d : Array α) (os : Array Obj) (hk : k < w.heap.size) : (grow (putRow enc w blk 0 d) os).heap[k]? = if blk = k then w.heap[k]?.map (onCells (putCells enc 0 d)) else w.heap[k]? := by
  have h1 : k < (putRow enc w blk 0 d).heap.size := by rw [size_putRow]; exact hk
  have e : (grow (putRow enc w blk 0 d) os).heap[k]? = (putRow enc w blk 0 d).heap[k]? := by
    show ((putRow enc w blk 0 d).heap ++ os)[k]? = _
    rw [Array.getElem?_append_left h1]
  rw [e]
  show (w.heap.modify blk (onCells (putCells enc 0 d)))[k]? = _
  rw [Array.getElem?_modify]
open Go.Sort Go.Lib in
/-- What the library's stable sort leaves of a row and of the blocks beside it. -/
theorem sorted_world {α : Type} [Inhabited α] (enc : α → Value) (W : World) (H n m : Nat) (os : Array Obj) (d : Array α) {cs : Array Value} (hB : Blk W H 2 cs) (hs : cs.size = n) (hd : d.size = n) :
    (∃ cs' : Array Value, Blk (grow (putRow enc (Sort.ahead W m) H 0 d) os) H 2 cs' ∧ cs'.size = n ∧ ∀ j, j < n → cs'[j]? = some (enc d[j]!)) ∧
    (∀ x, x < W.heap.size → x ≠ H → (grow (putRow enc (Sort.ahead W m) H 0 d) os).heap[x]? = W.heap[x]?) ∧ Below H W (grow (putRow enc (Sort.ahead W m) H 0 d) os) := by
  have hsz : (Sort.ahead W m).heap.size = W.heap.size := rfl
  have hx : ∀ x, x < W.heap.size → x ≠ H → (grow (putRow enc (Sort.ahead W m) H 0 d) os).heap[x]? = W.heap[x]? := fun x hx hne => by
    rw [put_heap enc (Sort.ahead W m) H x d os hx, if_neg (fun e => hne e.symm)]
    rfl
  refine ⟨⟨putCells enc 0 d cs, ?_, by simp [putCells, hs], fun j hj => ?_⟩, hx, ⟨rfl, rfl, rfl, ?_, fun x hxH => ?_⟩⟩
  · show (grow (putRow enc (Sort.ahead W m) H 0 d) os).heap[H]? = _
    rw [put_heap enc (Sort.ahead W m) H H d os hB.lt, if_pos rfl]
    show W.heap[H]?.map _ = _
    rw [show W.heap[H]? = some (.cells cs 2 (0, 0)) from hB]
    rfl
  · have hjc : j < cs.size := by omega
    simp only [putCells, Array.getElem?_mapIdx, Array.getElem?_eq_getElem hjc, Option.map_some]
    rw [if_pos (by omega), Nat.sub_zero]
  · rw [size_grow, size_putRow]
    show W.heap.size ≤ W.heap.size + os.size
    omega
  · exact hx x (by have := hB.lt; omega) (by omega)

noncomputable def siT : TypeInfo := (Try.prog.info? 25).get (by kernel_rfl)
noncomputable def siE : TypeInfo := (Try.prog.info? 2).get (by kernel_rfl)
theorem siK5 (n : Nat) (h2 : 2 ≤ n) : Lib.swapperK n siE 6 = 5 := by
  have a : siE.hasPointers = false := by kernel_rfl
  have b : siE.bytes = 8 := by kernel_rfl
  have c : (n == 0) = false := by simp; omega
  have d : (n == 1) = false := by simp; omega
  simp [Lib.swapperK, a, b, c, d]

set_option maxHeartbeats 4000000 in
open Go.Sort Go.Lib in
theorem sort_any (w0 W : World) (H n : Nat) (wt : Nat → Int) (hS : Sorting w0 H n n wt W) (hn : n ≤ 12) :
    Calls Try.prog 78 #[.iface 25 (.slice (some ⟨H, 0, none⟩) n n), .func (.func 79) #[] #[.pointer (some ⟨H + 1 + 1 + 1, 0, none⟩), .pointer (some ⟨H + 1, 0, none⟩)]] W fun e w' =>
      e = .returned (.tuple #[]) ∧ (∃ cs : Array Value, Blk w' H 2 cs ∧ cs.size = n ∧ ∀ j, j < n → cs[j]? = some (.int .i64 (ordF wt n j))) ∧ Blk w' (H + 1) 25 #[.slice (some ⟨H, 0, none⟩) n n] ∧ Below w0.heap.size w0 w' := by
  obtain ⟨⟨co, o1, o2, o3⟩, x5, ⟨cw, q1, q2, q3⟩, x6, hb, hH⟩ := hS
  by_cases h2 : 2 ≤ n
  · obtain ⟨m, rfl⟩ : ∃ m, n = m + 1 := ⟨n - 1, by omega⟩
    have hds : (Array.ofFn (fun i : Fin (m + 1) => i)).size = m + 1 := by simp
    have hdv : ∀ p, p < (Array.ofFn (fun i : Fin (m + 1) => i)).size → ((Array.ofFn (fun i : Fin (m + 1) => i))[p]!).val = p := by
      intro p hp
      rw [getElem!_pos _ p hp]
      simp
    have hHold : Holds (fun i : Fin (m + 1) => Value.int .i64 i.val) W H 0 (Array.ofFn (fun i : Fin (m + 1) => i)) := by
      intro j hj
      rw [Nat.zero_add]
      refine ⟨?_, o1.frozen j⟩
      rw [o1.cell, o3 j (by omega)]
      show _ = some (Value.int .i64 (((Array.ofFn (fun i : Fin (m + 1) => i))[j]!).val : Int))
      rw [hdv j hj]
    have hless : LessReads Try.prog 79 #[.pointer (some ⟨H + 1 + 1 + 1, 0, none⟩), .pointer (some ⟨H + 1, 0, none⟩)] (fun i : Fin (m + 1) => Value.int .i64 i.val) (fun a b => decide (wt a.val < wt b.val)) H 0 (Array.ofFn (fun i : Fin (m + 1) => i)).size W := by
      intro k os dk hs i j hi hj
      rw [hds] at hs hi hj
      obtain ⟨⟨cs', r1, r2, r3⟩, rx, _⟩ := sorted_world (fun i : Fin (m + 1) => Value.int .i64 i.val) W H (m + 1) k os dk o1 o2 hs
      have e5 : Blk (sortWorld (fun i : Fin (m + 1) => Value.int .i64 i.val) W H 0 k dk os) (H + 1) 25 #[.slice (some ⟨H, 0, none⟩) (m + 1) (m + 1)] := (rx (H + 1) x5.lt (by omega)).trans x5
      have e6 : Blk (sortWorld (fun i : Fin (m + 1) => Value.int .i64 i.val) W H 0 k dk os) (H + 1 + 1 + 1) 25 #[.slice (some ⟨H + 1 + 1, 0, none⟩) (m + 1) (m + 1)] := (rx (H + 1 + 1 + 1) x6.lt (by omega)).trans x6
      have ew : Blk (sortWorld (fun i : Fin (m + 1) => Value.int .i64 i.val) W H 0 k dk os) (H + 1 + 1) 2 cw := (rx (H + 1 + 1) q1.lt (by omega)).trans q1
      have eo : Blk (sortWorld (fun i : Fin (m + 1) => Value.int .i64 i.val) W H 0 k dk os) H 2 cs' := r1
      exact less_any (H + 1) (H + 1 + 1 + 1) H (H + 1 + 1) (m + 1) (fun t => (dk[t]!).val) wt _ (e5.cell 0) (e6.cell 0) (fun t ht => by rw [eo.cell, r3 t ht]) (fun t _ => (dk[t]!).isLt) (fun t ht => by rw [ew.cell, q3 t ht]) i j hi hj
    have hC := Any.sort_SliceStable_small sl8 25 2 siT siE (by kernel_rfl) (by kernel_rfl) (by kernel_rfl) (by kernel_rfl) 6 (fun _ => by kernel_rfl) (by kernel_rfl) (fun _ => by kernel_rfl) (fun i : Fin (m + 1) => Value.int .i64 i.val) (fun _ => rfl) (fun a b => decide (wt a.val < wt b.val)) 79 _
      (enters_of Try.func79 (by kernel_rfl) rfl) H 0 (m + 1) (Array.ofFn (fun i : Fin (m + 1) => i)) (by rw [hds]; exact h2) (by rw [hds]; omega) 166 (by rw [hds, siK5 _ h2]; kernel_rfl) true
      (fun args W => run_callFunc_extern Try.func166 (by kernel_rfl) (by kernel_rfl) (by kernel_rfl) (e := Extern.ReflectliteSwapper.swap true) (by kernel_rfl) args W) W hless hHold o1.lt
    rw [hds] at hC
    change Calls Try.prog 78 _ _ _ at hC
    refine hC.mono ?_
    rintro e w' ⟨rfl, k, os, rfl⟩
    have hso := sort_ord (fun i : Fin (m + 1) => i.val) wt (fun a b => decide (wt a.val < wt b.val)) (fun _ _ => rfl) (Array.ofFn (fun i : Fin (m + 1) => i)) (by omega) hdv
    rw [hds] at hso
    obtain ⟨⟨cs', r1, r2, r3⟩, rx, rb⟩ := sorted_world (fun i : Fin (m + 1) => Value.int .i64 i.val) W H (m + 1) k os (insertionSort (fun a b => decide (wt a.val < wt b.val)) (Array.ofFn (fun i : Fin (m + 1) => i)) 0 (m + 1)) o1 o2 hso.1
    refine ⟨rfl, ⟨cs', r1, r2, fun j hj => ?_⟩, (rx (H + 1) x5.lt (by omega)).trans x5, hb.trans (rb.mono (by omega))⟩
    rw [r3 j hj, hso.2 j hj]
  · have hC : Calls Try.prog 78 #[.iface 25 (.slice (some ⟨H, 0, none⟩) n n), .func (.func 79) #[] #[.pointer (some ⟨H + 1 + 1 + 1, 0, none⟩), .pointer (some ⟨H + 1, 0, none⟩)]] W fun e w' => e = .returned (.tuple #[]) ∧ ∃ os, w' = grow W os := by
      by_cases h0 : n = 0
      · subst h0
        have hC := Any.sort_SliceStable_tiny sl8 25 2 siT siE (by kernel_rfl) (by kernel_rfl) (by kernel_rfl) (by kernel_rfl) 6 (fun _ => by kernel_rfl) (some ⟨H, 0, none⟩) 0 0 (by omega) 162 (by kernel_rfl) (.func 79) #[] #[.pointer (some ⟨H + 1 + 1 + 1, 0, none⟩), .pointer (some ⟨H + 1, 0, none⟩)] W
        exact hC
      · obtain rfl : n = 1 := by omega
        have hC := Any.sort_SliceStable_tiny sl8 25 2 siT siE (by kernel_rfl) (by kernel_rfl) (by kernel_rfl) (by kernel_rfl) 6 (fun _ => by kernel_rfl) (some ⟨H, 0, none⟩) 1 1 (by omega) 163 (by kernel_rfl) (.func 79) #[] #[.pointer (some ⟨H + 1 + 1 + 1, 0, none⟩), .pointer (some ⟨H + 1, 0, none⟩)] W
        exact hC
    refine hC.mono ?_
    rintro e w' ⟨rfl, os, rfl⟩
    have hgx : ∀ x, x < W.heap.size → (grow W os).heap[x]? = W.heap[x]? := fun x hx => by
      show (W.heap ++ os)[x]? = _
      rw [Array.getElem?_append_left hx]
    refine ⟨rfl, ⟨co, (hgx H o1.lt).trans o1, o2, fun j hj => ?_⟩, (hgx (H + 1) x5.lt).trans x5, hb.trans ⟨rfl, rfl, rfl, by rw [size_grow]; omega, fun x hx => hgx x (by have := hb.size; omega)⟩⟩
    obtain rfl : n = 1 := by omega
    obtain rfl : j = 0 := by omega
    rw [o3 0 (by omega)]
    rfl

set_option maxRecDepth 100000 in
set_option maxHeartbeats 4000000 in
theorem iOrder_yes (f b pol : Int) (A : Option Addr) (n c : Nat) (len : Nat → Nat) (g : Nat → Nat → Nd) (w : World) (h : RdT w w.heap.size A n len g) (hn : n ≤ 4194304) (hlen : Hid (∀ i, i < n → len i ≤ 4194304)) (hy : ensB f b n len g = true) (hp1 : 1 ≤ pol) (hp3 : pol ≤ 3) :
    Calls Try.prog 25 #[enV f b A n c, .int .i64 pol] w fun e w' => ∃ (A' : Option Addr) (c' : Nat), e = .returned (.slice A' n c') ∧ w'.ownsRow w.heap.size 2 1 (.slice A' n c') n (numsOf n (ordZ pol len g n)) ∧ Below w.heap.size w w' := by
  have HY := hid hy
  obtain ⟨_, _, hn12, HT⟩ := ensB_iff.1 hy
  have HT6 : Hid (∀ i, i < n → treeB (g i) (len i) 6 = true) := fun i hi => tree_moreO (HT i hi) (by have := (ensB_iff.1 hy).1; omega) (by omega)
  have HLE : Hid (∀ i, i < n → len i ≤ 15 ∧ 1 ≤ len i) := fun i hi => by have := (treeB_iff _ _ _).1 (HT i hi); exact ⟨this.2.1.2, this.2.1.1⟩
  clear HT hy
  have hP := Blk.new w 33 #[.int .i64 f, .int .i64 b, .slice A n c]
  have hb0 := (Below.refl w.heap.size w).alloc (Nat.le_refl _) (.cells #[.int .i64 f, .int .i64 b, .slice A n c] 33)
  go_enter Try.func25, Try.ntmps25
  go_wp2_with fail
  refine (iEnsOk_any f b A n c len g _ (h.to hb0 hb0.size) hn hlen).mono ?_
  rintro e w1 ⟨rfl, hb1⟩
  rw [HY.out]
  have hP1 := hP.below hb1 hP.lt
  have hw1 := hb0.trans (hb1.mono hb0.size)
  clear hP hb0 hb1
  have a2 : w1.cell? ⟨w.heap.size, 2, none⟩ = some (.slice A n c) := hP1.cell 2
  have hmk := run_make_row' (P := Try.prog) 25 2 (.int .i64 0) 8 Try.underlying25 info_int rfl .i64 .i64 n (by omega) (by omega)
  have a2b : World.cell? ((w1.alloc (.cells (madeCells #[.int .i64 0] n) 2)).alloc (.cells #[.slice (some ⟨w1.heap.size, 0, none⟩) n n] 25)) ⟨w.heap.size, 2, none⟩ = some (.slice A n c) := ((hP1.alloc _).alloc _).cell 2
  have hP4 : Hid (Blk ((((w1.alloc (.cells (madeCells #[.int .i64 0] n) 2)).alloc (.cells #[.slice (some ⟨w1.heap.size, 0, none⟩) n n] 25)).alloc (.cells (madeCells #[.int .i64 0] n) 2)).alloc (.cells #[.slice (some ⟨w1.heap.size + 1 + 1, 0, none⟩) n n] 25)) w.heap.size 33 #[.int .i64 f, .int .i64 b, .slice A n c]) := (((hP1.alloc _).alloc _).alloc _).alloc _
  have a2c : World.cell? ((((w1.alloc (.cells (madeCells #[.int .i64 0] n) 2)).alloc (.cells #[.slice (some ⟨w1.heap.size, 0, none⟩) n n] 25)).alloc (.cells (madeCells #[.int .i64 0] n) 2)).alloc (.cells #[.slice (some ⟨w1.heap.size + 1 + 1, 0, none⟩) n n] 25)) ⟨w.heap.size, 2, none⟩ = some (.slice A n c) := hP4.out.cell 2
  go_wp2_with fail
  have hM0 : Hid (Sorting w w1.heap.size n 0 (wtF pol len g) ((((w1.alloc (.cells (madeCells #[.int .i64 0] n) 2)).alloc (.cells #[.slice (some ⟨w1.heap.size, 0, none⟩) n n] 25)).alloc (.cells (madeCells #[.int .i64 0] n) 2)).alloc (.cells #[.slice (some ⟨w1.heap.size + 1 + 1, 0, none⟩) n n] 25))) := by
    have hB3 : Blk (((w1.alloc (.cells (madeCells #[.int .i64 0] n) 2)).alloc (.cells #[.slice (some ⟨w1.heap.size, 0, none⟩) n n] 25)).alloc (.cells (madeCells #[.int .i64 0] n) 2)) (w1.heap.size + 1 + 1) 2 (madeCells #[.int .i64 0] n) := by
      have := Blk.new ((w1.alloc (.cells (madeCells #[.int .i64 0] n) 2)).alloc (.cells #[.slice (some ⟨w1.heap.size, 0, none⟩) n n] 25)) 2 (madeCells #[.int .i64 0] n)
      simp only [World.size_alloc] at this
      exact this
    refine ⟨⟨madeCells #[.int .i64 0] n, (((Blk.new w1 _ _).alloc _).alloc _).alloc _, by simp [madeCells], fun j hj => by omega⟩, ((Blk.new2 w1 _ _ _).alloc _).alloc _, ⟨madeCells #[.int .i64 0] n, hB3.alloc _, by simp [madeCells], fun j hj => by omega⟩, ?_, ?_, hP1.lt⟩
    · have := Blk.new (((w1.alloc (.cells (madeCells #[.int .i64 0] n) 2)).alloc (.cells #[.slice (some ⟨w1.heap.size, 0, none⟩) n n] 25)).alloc (.cells (madeCells #[.int .i64 0] n) 2)) 25 #[.slice (some ⟨w1.heap.size + 1 + 1, 0, none⟩) n n]
      simp only [World.size_alloc] at this
      exact this
    · exact (((hw1.alloc hw1.size _).alloc (by have := hw1.size; simp; omega) _).alloc (by have := hw1.size; simp; omega) _).alloc (by have := hw1.size; simp; omega) _
  have hE0 := hP4
  clear a2 a2b a2c hmk hP4 hP1 hw1
  obtain ⟨H, hH⟩ : ∃ H, w1.heap.size = H := ⟨_, rfl⟩
  rw [hH] at hM0 hE0 ⊢
  clear hH
  go_loopw [31] (fun i wr => ∃ k : Nat, k ≤ n ∧ i = .int .i64 k ∧ Hid (Sorting w H n k (wtF pol len g) wr) ∧ Hid (Blk wr w.heap.size 33 #[.int .i64 f, .int .i64 b, .slice A n c])) (fun i _ => n - (intOf i).toNat)
  case atStart => exact ⟨0, Nat.zero_le _, rfl, hM0, hE0⟩
  case round =>
    clear hM0 hE0
    obtain ⟨k, hk, rfl, HS, HE⟩ := hrel
    obtain ⟨⟨co, o1, o2, o3⟩, x5, ⟨cw, q1, q2, q3⟩, x6, hbw, hHw⟩ := id HS.out
    by_cases hlt : k < n
    · obtain ⟨tb, off, Ak, ck, rfl, htb, hcell0, hrk⟩ := h.at_ hlt
      have hcell : wr.cell? ⟨tb, off + k, none⟩ = some (.slice Ak (len k) ck) := (hbw.cell (p := ⟨tb, off + k, none⟩) htb).trans hcell0
      have i1 : (k : Int) < (n : Int) := by omega
      have i2 : (0 : Int) ≤ (k : Int) := by omega
      have y5 : wr.cell? ⟨H + 1, 0, none⟩ = some (.slice (some ⟨H, 0, none⟩) n n) := x5.cell 0
      obtain ⟨vo, yo⟩ : ∃ v, wr.cell? ⟨H, k, none⟩ = some v := ⟨co[k]'(by omega), by rw [o1.cell, Array.getElem?_eq_getElem]⟩
      have fo := o1.frozen k
      have hlk : len k ≤ 4194304 := by have := (HLE.out k hlt).1; omega
      have HS1 := hid (HS.out.order (k := k) hlt)
      have HE1 : Hid (Blk (wr.setCell ⟨H, k, none⟩ (.int .i64 k)) w.heap.size 33 #[.int .i64 f, .int .i64 b, .slice (some ⟨tb, off, none⟩) n c]) := HE.out.far (p := ⟨H, k, none⟩) (by show w.heap.size ≠ H; omega) _
      have hrk1 : RdN (wr.setCell ⟨H, k, none⟩ (.int .i64 k)).drew (wr.setCell ⟨H, k, none⟩ (.int .i64 k)).drew.heap.size Ak (len k) (g k) := (hrk.below (hbw.setCell (p := ⟨H, k, none⟩) (by show w.heap.size ≤ H; omega) _)).more (hbw.setCell (p := ⟨H, k, none⟩) (by show w.heap.size ≤ H; omega) _).size
      clear x5 x6 o1 o2 o3 q1 q2 q3 hbw HS HE hcell0
      go_wp2_with fail
      obtain ⟨wX, hwX⟩ : ∃ x, wr.setCell ⟨H, k, none⟩ (.int .i64 k) = x := ⟨_, rfl⟩
      rw [hwX] at HS1 HE1 hrk1 ⊢
      clear hwX y5 yo fo hcell
      have HSd : Hid (SortingO w H n k (wtF pol len g) wX.drew) := by
        obtain ⟨⟨co, o1, o2, o3⟩, x5, ⟨cw, q1, q2, q3⟩, x6, hb, hH⟩ := HS1.out
        exact ⟨⟨co, o1, o2, o3⟩, x5, ⟨cw, q1, q2, q3⟩, x6, ⟨hb.os, hb.tape, hb.output, hb.size, hb.block⟩, hH⟩
      have y6 : wX.drew.cell? ⟨H + 1 + 1 + 1, 0, none⟩ = some (.slice (some ⟨H + 1 + 1, 0, none⟩) n n) := HSd.out.2.2.2.1.cell 0
      go_region_law
        (first
          | (go_simp; go_at_call 77; refine (weightOf_any pol Ak (len k) ck (g k) wX.drew hrk1 hlk (HT6.out k hlt)).mono ?_; rintro e w4 ⟨rfl, hb4⟩; have HS4 := hid (HSd.out.below hb4); have HE4 : Hid (Blk w4 w.heap.size 33 #[.int .i64 f, .int .i64 b, .slice (some ⟨tb, off, none⟩) n c]) := Blk.below (w := wX.drew) HE1.out hb4 HE1.out.lt; have z6 : w4.cell? ⟨H + 1 + 1 + 1, 0, none⟩ = some (.slice (some ⟨H + 1 + 1, 0, none⟩) n n) := HS4.out.2.2.2.1.cell 0; obtain ⟨vw, yw⟩ : ∃ v, w4.cell? ⟨H + 1 + 1, k, none⟩ = some v := (by obtain ⟨_, _, ⟨cw, q1, q2, _⟩, _⟩ := HS4.out; exact ⟨cw[k]'(by omega), by rw [q1.cell, Array.getElem?_eq_getElem]⟩); have fw : w4.frozen? ⟨H + 1 + 1, k, none⟩ = false := (by obtain ⟨_, _, ⟨cw, q1, q2, _⟩, _⟩ := HS4.out; exact q1.frozen k)))
      all_goals
        go_wp2_with fail
        go_roundw
        case rel => exact ⟨k + 1, by omega, by go_num, HS4.out.weight hlt rfl, HE4.out.far (p := ⟨H + 1 + 1, k, none⟩) (by show w.heap.size ≠ H + 1 + 1; have := HS4.out.2.2.2.2.2; omega) _⟩
        case measure => simp [intOf]; omega
    · obtain rfl : k = n := by omega
      have y5 : wr.cell? ⟨H + 1, 0, none⟩ = some (.slice (some ⟨H, 0, none⟩) k k) := x5.cell 0
      clear x5 x6 o1 o2 o3 q1 q2 q3 hbw HE
      go_wp2_with fail
      refine (sort_any w wr H k (wtF pol len g) HS.out hn12).mono ?_
      rintro e w9 ⟨rfl, ⟨cs, r1, r2, r3⟩, r5, hb9⟩
      have z5 : w9.cell? ⟨H + 1, 0, none⟩ = some (.slice (some ⟨H, 0, none⟩) k k) := r5.cell 0
      have HR := hid r3
      clear r3 y5 HS
      go_wp2_with fail
      go_ret
      exact ⟨some ⟨H, 0, none⟩, k, rfl, own_raw (skip := k) ⟨cs, r1, r2, Nat.le_refl _, by unfold maxLen; omega, fun p hp _ => HR.out p hp, fun p hp => ⟨_, HR.out p hp⟩⟩ (by omega) (Nat.le_refl _), hb9⟩

/-! ### OrE -/
def polB (f b pol : Int) (n : Nat) (len : Nat → Nat) (g : Nat → Nat → Nd) : Bool := ensB f b n len g && (decide (1 ≤ pol) && decide (pol ≤ 3))
def oN (Y : Bool) (n : Nat) : Nat := if Y = true then n else 0
/-- What OrderOf leaves. -/
def OrdPost (Y : Bool) (w : World) (pol : Int) (n : Nat) (len : Nat → Nat) (g : Nat → Nat → Nd) (e : Ending) (w' : World) : Prop :=
  ∃ (A' : Option Addr) (c' : Nat), e = .returned (.slice A' (oN Y n) c') ∧ w'.ownsRow w.heap.size 2 1 (.slice A' (oN Y n) c') (oN Y n) (numsOf (oN Y n) (ordZ pol len g n)) ∧ Below w.heap.size w w'

set_option maxRecDepth 100000 in
set_option maxHeartbeats 4000000 in
theorem iOrder_no (f b pol : Int) (A : Option Addr) (n c : Nat) (len : Nat → Nat) (g : Nat → Nat → Nd) (w : World) (h : RdT w w.heap.size A n len g) (hn : n ≤ 4194304) (hlen : Hid (∀ i, i < n → len i ≤ 4194304)) (hy : polB f b pol n len g = false) :
    Calls Try.prog 25 #[enV f b A n c, .int .i64 pol] w (OrdPost false w pol n len g) := by
  have hP := Blk.new w 33 #[.int .i64 f, .int .i64 b, .slice A n c]
  have hb0 := (Below.refl w.heap.size w).alloc (Nat.le_refl _) (.cells #[.int .i64 f, .int .i64 b, .slice A n c] 33)
  unfold polB at hy
  cases hE : ensB f b n len g with
  | false =>
    have HE := hid hE
    clear hE hy
    go_enter Try.func25, Try.ntmps25
    go_wp2_with fail
    refine (iEnsOk_any f b A n c len g _ (h.to hb0 hb0.size) hn hlen).mono ?_
    rintro e w1 ⟨rfl, hb1⟩
    rw [HE.out]
    have hw1 := hb0.trans (hb1.mono hb0.size)
    clear hb0 hb1 hP
    go_wp2_with fail
    go_ret
    exact ⟨none, 0, rfl, ⟨rfl, .inl ⟨rfl, rfl⟩⟩, hw1⟩
  | true =>
    have HE := hid hE
    rw [hE, Bool.true_and] at hy
    clear hE
    by_cases p1 : pol < 1
    · clear hy
      go_enter Try.func25, Try.ntmps25
      go_wp2_with fail
      refine (iEnsOk_any f b A n c len g _ (h.to hb0 hb0.size) hn hlen).mono ?_
      rintro e w1 ⟨rfl, hb1⟩
      rw [HE.out]
      have hw1 := hb0.trans (hb1.mono hb0.size)
      clear hb0 hb1 hP
      go_wp2_with fail
      go_ret
      exact ⟨none, 0, rfl, ⟨rfl, .inl ⟨rfl, rfl⟩⟩, hw1⟩
    · have p3 : 3 < pol := by
        rcases Int.lt_or_le 3 pol with q | q
        · exact q
        · rw [decide_eq_true (show 1 ≤ pol by omega), decide_eq_true q] at hy
          cases hy
      clear hy
      go_enter Try.func25, Try.ntmps25
      go_wp2_with fail
      refine (iEnsOk_any f b A n c len g _ (h.to hb0 hb0.size) hn hlen).mono ?_
      rintro e w1 ⟨rfl, hb1⟩
      rw [HE.out]
      have hw1 := hb0.trans (hb1.mono hb0.size)
      clear hb0 hb1 hP
      go_wp2_with fail
      go_ret
      exact ⟨none, 0, rfl, ⟨rfl, .inl ⟨rfl, rfl⟩⟩, hw1⟩
theorem polB_true {f b pol : Int} {n : Nat} {len : Nat → Nat} {g : Nat → Nat → Nd} (h : polB f b pol n len g = true) : ensB f b n len g = true ∧ 1 ≤ pol ∧ pol ≤ 3 := by
  unfold polB at h
  simp only [Bool.and_eq_true, decide_eq_true_eq] at h
  exact h
theorem iOrder_any (f b pol : Int) (A : Option Addr) (n c : Nat) (len : Nat → Nat) (g : Nat → Nat → Nd) (w : World) (h : RdT w w.heap.size A n len g) (hn : n ≤ 4194304) (hlen : Hid (∀ i, i < n → len i ≤ 4194304)) (Y : Bool) (hY : polB f b pol n len g = Y) :
    Calls Try.prog 25 #[enV f b A n c, .int .i64 pol] w (OrdPost Y w pol n len g) := by
  cases Y with
  | true =>
    obtain ⟨h1, h2, h3⟩ := polB_true hY
    exact iOrder_yes f b pol A n c len g w h hn hlen h1 h2 h3
  | false => exact iOrder_no f b pol A n c len g w h hn hlen hY
theorem sOrder_any (f b pol : Int) (A : Option Addr) (n c : Nat) (len : Nat → Nat) (g : Nat → Nat → Nd) (w : World) (h : RdT w w.heap.size A n len g) (hn : n ≤ 4194304) (hlen : Hid (∀ i, i < n → len i ≤ 4194304)) (Y : Bool) (hY : polB f b pol n len g = Y) :
    Calls Try.prog 24 #[enV f b A n c, .int .i64 pol] w (OrdPost Y w pol n len g) := by
  cases Y with
  | true =>
    obtain ⟨h1, h2, h3⟩ := polB_true hY
    exact sOrder_yes f b pol A n c len g w h hn hlen h1 h2 h3
  | false => exact sOrder_no f b pol A n c len g w h hn hlen hY

/-! ### Marks -/
/-- What a mark writes into nodes, from number k on. -/
def mkN (k : Int) : Nat → Nd := fun i => ⟨k + 6 * i, k + 6 * i + 1, k + 6 * i + 2, k + 6 * i + 3, (k + 6 * i + 4) % 3 == 0, k + 6 * i + 5⟩
theorem mkN_at {k0 q : Int} {m : Nat} (hq : q = k0 + 6 * m) : mkN k0 m = ⟨q, q + 1, q + 1 + 1, q + 1 + 1 + 1, (q + 1 + 1 + 1 + 1) % 3 == 0, q + 1 + 1 + 1 + 1 + 1⟩ := by
  have e4 : k0 + 6 * (m : Int) + 4 = q + 1 + 1 + 1 + 1 := by omega
  unfold mkN
  rw [e4]
  simp only [Nd.mk.injEq]
  refine ⟨by omega, by omega, by omega, by omega, trivial, by omega⟩

set_option maxRecDepth 100000 in
set_option maxHeartbeats 2000000 in
theorem markK_any (n cap b : Nat) (g : Nat → Nd) (k0 : Int) (w : World) (h : RowN w 135 b n g) (hn : n ≤ 4194304) (h0 : 0 ≤ k0) (h1 : k0 ≤ 100000000000000) :
    Calls Try.prog 130 #[.slice (some ⟨b, 0, none⟩) n cap, .int .i64 k0] w fun e w' =>
      e = .returned (.int .i64 (k0 + 6 * n)) ∧ RowN w' 135 b n (mkN k0) ∧ w.grownBy w' (some b) := by
  obtain ⟨cs, hB, hsz, _⟩ := h
  go_enter Try.func130, Try.ntmps130
  go_wp2_with fail
  go_loopw [1, 5] (fun k i wr => ∃ (m : Nat) (cs : Array Value) (q : Int), m ≤ n ∧ i = .int .i64 m ∧ k = .int .i64 q ∧ Hid (q = k0 + 6 * m) ∧ Blk wr b 135 cs ∧ n * 6 ≤ cs.size ∧ Hid (∀ i, i < m → ∀ j, j < 6 → cs[i * 6 + j]? = (ndC (mkN k0 i))[j]?) ∧ Hid (w.grownBy wr (some b)))
    (fun _ i _ => n - (intOf i).toNat)
  case atStart => exact ⟨0, cs, k0, Nat.zero_le _, rfl, rfl, by show k0 = k0 + 6 * ((0 : Nat) : Int); omega, hB, hsz, fun i hi => by omega, World.grownBy.refl _ _⟩
  case round =>
    obtain ⟨m, cs, q, hm, rfl, rfl, hq, hB, hsz, hf, hg⟩ := hrel
    by_cases hlt : m < n
    · have hl : (m : Int) < (n : Int) := by omega
      have hqo := hq.out
      have q0 : 0 ≤ q := by omega
      have q1 : q ≤ 200000000000000 := by omega
      clear hqo
      have s0 : wr.cell? ⟨b, m * 6, none⟩ = some (cs[m * 6]'(by omega)) := by rw [hB.cell, Array.getElem?_eq_getElem]
      have s1 : wr.cell? ⟨b, m * 6 + 1, none⟩ = some (cs[m * 6 + 1]'(by omega)) := by rw [hB.cell, Array.getElem?_eq_getElem]
      have s2 : wr.cell? ⟨b, m * 6 + 2, none⟩ = some (cs[m * 6 + 2]'(by omega)) := by rw [hB.cell, Array.getElem?_eq_getElem]
      have s3 : wr.cell? ⟨b, m * 6 + 3, none⟩ = some (cs[m * 6 + 3]'(by omega)) := by rw [hB.cell, Array.getElem?_eq_getElem]
      have s4 : wr.cell? ⟨b, m * 6 + 4, none⟩ = some (cs[m * 6 + 4]'(by omega)) := by rw [hB.cell, Array.getElem?_eq_getElem]
      have s5 : wr.cell? ⟨b, m * 6 + 5, none⟩ = some (cs[m * 6 + 5]'(by omega)) := by rw [hB.cell, Array.getElem?_eq_getElem]
      have f0 := hB.frozen (m * 6); have f1 := hB.frozen (m * 6 + 1); have f2 := hB.frozen (m * 6 + 2); have f3 := hB.frozen (m * 6 + 3); have f4 := hB.frozen (m * 6 + 4); have f5 := hB.frozen (m * 6 + 5)
      go_wp2_with fail
      go_roundw
      case rel =>
        have e := mkN_at hq.out
        refine ⟨m + 1, put6 cs m ⟨q, q + 1, q + 1 + 1, q + 1 + 1 + 1, (q + 1 + 1 + 1 + 1) % 3 == 0, q + 1 + 1 + 1 + 1 + 1⟩, _, by omega, by go_num, rfl, ?_, blk_put6 hB m ⟨q, q + 1, q + 1 + 1, q + 1 + 1 + 1, (q + 1 + 1 + 1 + 1) % 3 == 0, q + 1 + 1 + 1 + 1 + 1⟩, by rw [put6_size]; exact hsz, fun i hi j hj => ?_, ?_⟩
        · show _ = k0 + 6 * ((m + 1 : Nat) : Int)
          have := hq.out
          omega
        · by_cases ei : i = m
          · subst ei
            rw [put6_in _ (by omega) j hj, e]
          · rw [put6_out _ _ (by omega)]
            exact hf.out i (by omega) j hj
        · exact grown_trans (grown_trans (grown_trans (grown_trans (grown_trans (grown_trans hg.out (grown_set _)) (grown_set _)) (grown_set _)) (grown_set _)) (grown_set _)) (grown_set _)
      case measure => simp [intOf]; omega
    · obtain rfl : m = n := by omega
      go_wp2_with fail
      go_ret
      exact ⟨congrArg (fun x => Ending.returned (.int .i64 x)) hq.out, ⟨cs, hB, hsz, hf.out⟩, hg.out⟩

set_option maxRecDepth 100000 in
set_option maxHeartbeats 2000000 in
theorem heldK_any (n cap b : Nat) (k0 : Int) (w : World) (h : RowN w 135 b n (mkN k0)) (hn : n ≤ 4194304) (h0 : 0 ≤ k0) (h1 : k0 ≤ 100000000000000) :
    Calls Try.prog 140 #[.slice (some ⟨b, 0, none⟩) n cap, .int .i64 k0] w fun e w' => e = .returned (.int .i64 (k0 + 6 * n)) ∧ w = w' := by
  go_enter Try.func140, Try.ntmps140
  go_wp2_with fail
  go_loopw [1, 5] (fun k i wr => ∃ (m : Nat) (q : Int), m ≤ n ∧ i = .int .i64 m ∧ k = .int .i64 q ∧ Hid (q = k0 + 6 * m) ∧ w = wr)
    (fun _ i _ => n - (intOf i).toNat)
  case atStart => exact ⟨0, k0, Nat.zero_le _, rfl, rfl, by show k0 = k0 + 6 * ((0 : Nat) : Int); omega, rfl⟩
  case round =>
    obtain ⟨m, q, hm, rfl, rfl, hq, rfl⟩ := hrel
    by_cases hlt : m < n
    · have hl : (m : Int) < (n : Int) := by omega
      have hl0 : (0 : Int) ≤ (m : Int) := by omega
      have hqo := hq.out
      have q0 : 0 ≤ q := by omega
      have q1 : q ≤ 200000000000000 := by omega
      obtain ⟨c0, c1, c2, c3, c4, c5⟩ := h.ndAt hlt
      rw [mkN_at hqo] at c0 c1 c2 c3 c4 c5
      clear hqo
      go_wp2_with fail
      go_roundw
      case rel => exact ⟨m + 1, _, by omega, by go_num, rfl, (by show _ = k0 + 6 * ((m + 1 : Nat) : Int); have := hq.out; omega), trivial⟩
      case measure => simp [intOf]; omega
    · obtain rfl : m = n := by omega
      go_wp2_with fail
      go_ret
      exact ⟨congrArg (fun x => Ending.returned (.int .i64 x)) hq.out, rfl⟩

/-- How many nodes the first k trees have. -/
def cumL (len : Nat → Nat) : Nat → Nat
  | 0 => 0
  | k + 1 => cumL len k + len k
theorem cumL_le {len : Nat → Nat} {n M : Nat} (h : ∀ i, i < n → len i ≤ M) : ∀ k, k ≤ n → cumL len k ≤ k * M := by
  intro k
  induction k with
  | zero => intro _; simp [cumL]
  | succ k ih =>
    intro hk
    have := ih (by omega)
    have := h k (by omega)
    rw [Nat.succ_mul]
    simp only [cumL]
    omega
theorem cumL_mono {len : Nat → Nat} {n : Nat} : ∀ k, k ≤ n → cumL len k ≤ cumL len n := by
  intro k hk
  induction n with
  | zero => have : k = 0 := by omega
            subst this; exact Nat.le_refl _
  | succ n ih =>
    by_cases e : k = n + 1
    · subst e; exact Nat.le_refl _
    · have := ih (by omega)
      simp only [cumL]
      omega

/-- Trees whose blocks lie from L to H, each of its own. -/
def Laid (w : World) (L H : Nat) (A : Option Addr) (n : Nat) (len : Nat → Nat) (g : Nat → Nat → Nd) : Prop :=
  ∃ (gg : Nat) (bl cp : Nat → Nat), (0 < n → A = some ⟨gg, 0, none⟩ ∧ L ≤ gg ∧ gg < H ∧ (∃ cs, Blk w gg 74 cs) ∧ ∀ i, i < n → w.cell? ⟨gg, i, none⟩ = some (.slice (some ⟨bl i, 0, none⟩) (len i) (cp i))) ∧
    ∀ i, i < n → L ≤ bl i ∧ bl i < H ∧ RowN w 135 (bl i) (len i) (g i) ∧ ∀ j, j < i → bl j ≠ bl i
theorem Laid.keep {w w' : World} {L H n : Nat} {A : Option Addr} {len : Nat → Nat} {g : Nat → Nat → Nd} (h : Laid w L H A n len g) (hk : ∀ x, L ≤ x → x < H → w'.heap[x]? = w.heap[x]?) : Laid w' L H A n len g := by
  obtain ⟨gg, bl, cp, h1, h2⟩ := h
  refine ⟨gg, bl, cp, fun h0 => ?_, fun i hi => ?_⟩
  · obtain ⟨a, b, c, ⟨cs, d⟩, e⟩ := h1 h0
    exact ⟨a, b, c, ⟨cs, (hk gg b c).trans d⟩, fun i hi => (World.cell?_of_block (hk gg b c)).trans (e i hi)⟩
  · obtain ⟨a, b, c, d⟩ := h2 i hi
    exact ⟨a, b, c.keep (hk _ a b), d⟩
theorem Laid.less {w : World} {L L' H H' n : Nat} {A : Option Addr} {len : Nat → Nat} {g : Nat → Nat → Nd} (h : Laid w L H A n len g) (hL : L' ≤ L) (hH : H ≤ H') : Laid w L' H' A n len g := by
  obtain ⟨gg, bl, cp, h1, h2⟩ := h
  refine ⟨gg, bl, cp, fun h0 => ?_, fun i hi => ?_⟩
  · obtain ⟨a, b, c, d⟩ := h1 h0
    exact ⟨a, by omega, by omega, d⟩
  · obtain ⟨a, b, c⟩ := h2 i hi
    exact ⟨by omega, by omega, c⟩
theorem Laid.below {w w' : World} {L H n : Nat} {A : Option Addr} {len : Nat → Nat} {g : Nat → Nat → Nd} (h : Laid w L H A n len g) (hb : Below w.heap.size w w') (hH : H ≤ w.heap.size) : Laid w' L H A n len g :=
  h.keep fun x _ hx => hb.block x (by omega)
theorem Laid.rdT {w : World} {L H n : Nat} {A : Option Addr} {len : Nat → Nat} {g : Nat → Nat → Nd} (h : Laid w L H A n len g) : RdT w w.heap.size A n len g := fun hn => by
  obtain ⟨gg, bl, cp, h1, h2⟩ := h
  obtain ⟨hA, _, _, ⟨cs, hB⟩, hc⟩ := h1 hn
  exact ⟨gg, 0, hA, Blk.lt hB, fun i hi => ⟨some ⟨bl i, 0, none⟩, cp i, by rw [Nat.zero_add]; exact hc i hi, rdN_of (h2 i hi).2.2.1⟩⟩
theorem laid_none {w : World} {L H : Nat} {A : Option Addr} {len : Nat → Nat} {g : Nat → Nat → Nd} : Laid w L H A 0 len g := ⟨0, fun _ => 0, fun _ => 0, fun h => absurd h (by omega), fun i hi => by omega⟩

/-- Only what lies from L to H was written. -/
def KeptR (L H : Nat) (w w' : World) : Prop := w'.os = w.os ∧ w'.tape = w.tape ∧ w'.output = w.output ∧ w.heap.size ≤ w'.heap.size ∧ ∀ x, x < w.heap.size → (x < L ∨ H ≤ x) → w'.heap[x]? = w.heap[x]?
theorem KeptR.refl (L H : Nat) (w : World) : KeptR L H w w := ⟨rfl, rfl, rfl, Nat.le_refl _, fun _ _ _ => rfl⟩
theorem KeptR.grown {L H b : Nat} {w w1 w2 : World} (h : KeptR L H w w1) (hg : w1.grownBy w2 (some b)) (hb : L ≤ b ∧ b < H) : KeptR L H w w2 :=
  ⟨hg.os.trans h.1, hg.tape.trans h.2.1, hg.output.trans h.2.2.1, Nat.le_trans h.2.2.2.1 hg.size, fun x hx hr => (hg.block x (Nat.lt_of_lt_of_le hx h.2.2.2.1) (by intro e; injection e with e; omega)).trans (h.2.2.2.2 x hx hr)⟩
theorem KeptR.after {L H : Nat} {w w1 w2 : World} (hb : Below w.heap.size w w1) (h : KeptR L H w1 w2) : KeptR L H w w2 :=
  ⟨h.1.trans hb.os, h.2.1.trans hb.tape, h.2.2.1.trans hb.output, Nat.le_trans hb.size h.2.2.2.1, fun x hx hr => (h.2.2.2.2 x (Nat.lt_of_lt_of_le hx hb.size) hr).trans (hb.block x hx)⟩
theorem KeptR.below {L H B : Nat} {a w w' : World} (h : KeptR L H w w') (hb : Below B a w) (hBL : B ≤ L) (hs : B ≤ w.heap.size) : Below B a w' :=
  ⟨h.1.trans hb.os, h.2.1.trans hb.tape, h.2.2.1.trans hb.output, Nat.le_trans hb.size h.2.2.2.1, fun x hx => (h.2.2.2.2 x (by omega) (.inl (by omega))).trans (hb.block x hx)⟩

/-- The content that a mark writes. -/
def mkT (k0 : Int) (len : Nat → Nat) : Nat → Nat → Nd := fun i => mkN (k0 + 6 * (cumL len i : Nat))

set_option maxRecDepth 100000 in
set_option maxHeartbeats 2000000 in
theorem markT_any (L H n c : Nat) (A : Option Addr) (len : Nat → Nat) (g : Nat → Nat → Nd) (k0 : Int) (w : World) (h : Laid w L H A n len g) (hn : n ≤ 4194304) (hlen : Hid (∀ i, i < n → len i ≤ 1048576)) (h0 : 0 ≤ k0) (h1 : k0 ≤ 50000000000000) (hcum : cumL len n ≤ 5000000000000) :
    Calls Try.prog 80 #[.slice A n c, .int .i64 k0] w fun e w' =>
      e = .returned (.int .i64 (k0 + 6 * (cumL len n : Nat))) ∧ Laid w' L H A n len (mkT k0 len) ∧ KeptR L H w w' := by
  obtain ⟨gg, bl, cp, hh, ht⟩ := h
  have HH := hid hh
  have HT := hid ht
  clear hh ht
  go_enter Try.func80, Try.ntmps80
  go_wp2_with fail
  go_loopw [1, 5] (fun k i wr => ∃ (m : Nat) (q : Int), m ≤ n ∧ i = .int .i64 m ∧ k = .int .i64 q ∧ Hid (q = k0 + 6 * (cumL len m : Nat)) ∧ Hid (∀ i, i < n → RowN wr 135 (bl i) (len i) (if i < m then mkT k0 len i else g i)) ∧ Hid (∀ x, (∀ i, i < n → x ≠ bl i) → x < w.heap.size → wr.heap[x]? = w.heap[x]?) ∧ Hid (KeptR L H w wr))
    (fun _ i _ => n - (intOf i).toNat)
  case atStart => exact ⟨0, k0, Nat.zero_le _, rfl, rfl, by show k0 = k0 + 6 * ((0 : Nat) : Int); omega, fun i hi => by rw [if_neg (by omega)]; exact (HT.out i hi).2.2.1, fun _ _ _ => rfl, KeptR.refl L H w⟩
  case round =>
    obtain ⟨m, q, hm, rfl, rfl, hq, hrow, hkp, hkr⟩ := hrel
    by_cases hlt : m < n
    · obtain ⟨hA, hg1, hg2, ⟨cs, hgB⟩, hc⟩ := HH.out (by omega)
      subst hA
      have hl : (m : Int) < (n : Int) := by omega
      have hl0 : (0 : Int) ≤ (m : Int) := by omega
      have hgne : ∀ i, i < n → gg ≠ bl i := fun i hi => by
        obtain ⟨cs', hB', _⟩ := (HT.out i hi).2.2.1
        exact hgB.ne_ hB' (by decide)
      have hcell : wr.cell? ⟨gg, m, none⟩ = some (.slice (some ⟨bl m, 0, none⟩) (len m) (cp m)) := (World.cell?_of_block (hkp.out gg hgne (Blk.lt hgB))).trans (hc m hlt)
      have hR := hrow.out m hlt
      rw [if_neg (Nat.lt_irrefl m)] at hR
      have hqo := hq.out
      have hcm := cumL_mono (len := len) (n := n) m (by omega)
      have q0 : 0 ≤ q := by omega
      have q1 : q ≤ 100000000000000 := by omega
      have hlm := hlen.out m hlt
      have hbL := (HT.out m hlt).1
      have hbH := (HT.out m hlt).2.1
      clear hqo hcm hc
      go_wp2_with fail
      refine (markK_any (len m) (cp m) (bl m) (g m) q _ hR (by omega) q0 q1).mono ?_
      rintro e w1 ⟨rfl, hR1, hg1'⟩
      have hrow1 : Hid (∀ i, i < n → RowN w1 135 (bl i) (len i) (if i < m + 1 then mkT k0 len i else g i)) := fun i hi => by
        by_cases e : i = m
        · subst e
          rw [if_pos (by omega)]
          have e2 : mkT k0 len i = mkN q := by unfold mkT; rw [← hq.out]
          rw [e2]
          exact hR1
        · have h5 := hrow.out i hi
          have hne : bl i ≠ bl m := by
            by_cases hi2 : i < m
            · exact (HT.out m hlt).2.2.2 i hi2
            · exact fun e' => (HT.out i hi).2.2.2 m (by omega) e'.symm
          have h6 := rowN_grown h5 hg1' hne
          by_cases e3 : i < m
          · rw [if_pos e3] at h6; rw [if_pos (by omega)]; exact h6
          · rw [if_neg e3] at h6; rw [if_neg (by omega)]; exact h6
      have hkp1 : Hid (∀ x, (∀ i, i < n → x ≠ bl i) → x < w.heap.size → w1.heap[x]? = w.heap[x]?) := fun x hx hs => (hg1'.block x (Nat.lt_of_lt_of_le hs hkr.out.2.2.2.1) (by intro e; injection e with e; exact hx m hlt e)).trans (hkp.out x hx hs)
      have hkr1 := hid (hkr.out.grown hg1' ⟨hbL, hbH⟩)
      clear hrow hkp hkr hR hR1 hg1'
      go_wp2_with fail
      go_roundw
      case rel => exact ⟨m + 1, _, by omega, by go_num, rfl, (by show _ = k0 + 6 * ((cumL len (m + 1) : Nat) : Int); have := hq.out; simp only [cumL]; omega), hrow1, hkp1, hkr1⟩
      case measure => simp [intOf]; omega
    · obtain rfl : m = n := by omega
      go_wp2_with fail
      go_ret
      refine ⟨congrArg (fun x => Ending.returned (.int .i64 x)) hq.out, ⟨gg, bl, cp, fun h0 => ?_, fun i hi => ?_⟩, hkr.out⟩
      · obtain ⟨a1, a2, a3, ⟨cs, hgB⟩, a5⟩ := HH.out h0
        have hgne : ∀ i, i < m → gg ≠ bl i := fun i hi => by
          obtain ⟨cs', hB', _⟩ := (HT.out i hi).2.2.1
          exact hgB.ne_ hB' (by decide)
        have hk := hkp.out gg hgne (Blk.lt hgB)
        exact ⟨a1, a2, a3, ⟨cs, hk.trans hgB⟩, fun i hi => (World.cell?_of_block hk).trans (a5 i hi)⟩
      · obtain ⟨b1, b2, _, b4⟩ := HT.out i hi
        have := hrow.out i hi
        rw [if_pos hi] at this
        exact ⟨b1, b2, this, b4⟩

set_option maxRecDepth 100000 in
set_option maxHeartbeats 2000000 in
theorem heldT_any (L H n c : Nat) (A : Option Addr) (len : Nat → Nat) (k0 : Int) (w : World) (h : Laid w L H A n len (mkT k0 len)) (hn : n ≤ 4194304) (hlen : Hid (∀ i, i < n → len i ≤ 1048576)) (h0 : 0 ≤ k0) (h1 : k0 ≤ 50000000000000) (hcum : cumL len n ≤ 5000000000000) :
    Calls Try.prog 89 #[.slice A n c, .int .i64 k0] w fun e w' => e = .returned (.int .i64 (k0 + 6 * (cumL len n : Nat))) ∧ w = w' := by
  obtain ⟨gg, bl, cp, hh, ht⟩ := h
  have HH := hid hh
  have HT := hid ht
  clear hh ht
  go_enter Try.func89, Try.ntmps89
  go_wp2_with fail
  go_loopw [1, 5] (fun k i wr => ∃ (m : Nat) (q : Int), m ≤ n ∧ i = .int .i64 m ∧ k = .int .i64 q ∧ Hid (q = k0 + 6 * (cumL len m : Nat)) ∧ w = wr)
    (fun _ i _ => n - (intOf i).toNat)
  case atStart => exact ⟨0, k0, Nat.zero_le _, rfl, rfl, by show k0 = k0 + 6 * ((0 : Nat) : Int); omega, rfl⟩
  case round =>
    obtain ⟨m, q, hm, rfl, rfl, hq, rfl⟩ := hrel
    by_cases hlt : m < n
    · obtain ⟨hA, hg1, hg2, ⟨cs, hgB⟩, hc⟩ := HH.out (by omega)
      subst hA
      have hl : (m : Int) < (n : Int) := by omega
      have hl0 : (0 : Int) ≤ (m : Int) := by omega
      have hcell := hc m hlt
      have hR := (HT.out m hlt).2.2.1
      have e2 : mkT k0 len m = mkN q := by unfold mkT; rw [← hq.out]
      rw [e2] at hR
      have hqo := hq.out
      have hcm := cumL_mono (len := len) (n := n) m (by omega)
      have q0 : 0 ≤ q := by omega
      have q1 : q ≤ 100000000000000 := by omega
      have hlm := hlen.out m hlt
      clear hqo hcm hc e2
      go_wp2_with fail
      refine (heldK_any (len m) (cp m) (bl m) q _ hR (by omega) q0 q1).mono ?_
      rintro e w1 ⟨rfl, rfl⟩
      have q2 : ¬ q + 6 * (len m : Int) < 0 := by omega
      go_wp2_with fail
      go_roundw
      case rel => exact ⟨m + 1, _, by omega, by go_num, rfl, (by show _ = k0 + 6 * ((cumL len (m + 1) : Nat) : Int); have := hq.out; simp only [cumL]; omega), trivial⟩
      case measure => simp [intOf]; omega
    · obtain rfl : m = n := by omega
      go_wp2_with fail
      go_ret
      exact ⟨congrArg (fun x => Ending.returned (.int .i64 x)) hq.out, rfl⟩

theorem markE_any (f b : Int) (L H n c : Nat) (A : Option Addr) (len : Nat → Nat) (g : Nat → Nat → Nd) (k0 : Int) (w : World) (h : Laid w L H A n len g) (hH : H ≤ w.heap.size) (hn : n ≤ 4194304) (hlen : Hid (∀ i, i < n → len i ≤ 1048576)) (h0 : 0 ≤ k0) (h1 : k0 ≤ 50000000000000) (hcum : cumL len n ≤ 5000000000000) :
    Calls Try.prog 27 #[enV f b A n c, .int .i64 k0] w fun e w' =>
      e = .returned (.int .i64 (k0 + 6 * (cumL len n : Nat))) ∧ Laid w' L H A n len (mkT k0 len) ∧ KeptR L H w w' := by
  have hb1 := (Below.refl w.heap.size w).alloc (Nat.le_refl _) (.cells #[.int .i64 f, .int .i64 b, .slice A n c] 33)
  have h2 := h.below hb1 hH
  go_enter Try.func27, Try.ntmps27
  go_wp2_with fail
  refine (markT_any L H n c A len g k0 _ h2 hn hlen h0 h1 hcum).mono ?_
  rintro e w2 ⟨rfl, hl, hk⟩
  have hk2 := hk.after hb1
  obtain ⟨q, hq⟩ : ∃ q, k0 + 6 * ((cumL len n : Nat) : Int) = q := ⟨_, rfl⟩
  rw [hq]
  have HQ := hid hq
  clear hq
  go_wp2_with fail
  go_ret
  exact ⟨congrArg (fun x => Ending.returned (.int .i64 x)) HQ.out.symm, hl, hk2⟩
theorem heldE_any (f b : Int) (L H n c : Nat) (A : Option Addr) (len : Nat → Nat) (k0 : Int) (w : World) (h : Laid w L H A n len (mkT k0 len)) (hH : H ≤ w.heap.size) (hn : n ≤ 4194304) (hlen : Hid (∀ i, i < n → len i ≤ 1048576)) (h0 : 0 ≤ k0) (h1 : k0 ≤ 50000000000000) (hcum : cumL len n ≤ 5000000000000) :
    Calls Try.prog 43 #[enV f b A n c, .int .i64 k0] w fun e w' => e = .returned (.int .i64 (k0 + 6 * (cumL len n : Nat))) ∧ Below w.heap.size w w' := by
  have hb1 := (Below.refl w.heap.size w).alloc (Nat.le_refl _) (.cells #[.int .i64 f, .int .i64 b, .slice A n c] 33)
  have h2 := h.below hb1 hH
  have hq0 : ¬ k0 + 6 * ((cumL len n : Nat) : Int) < 0 := by omega
  go_enter Try.func43, Try.ntmps43
  go_wp2_with fail
  refine (heldT_any L H n c A len k0 _ h2 hn hlen h0 h1 hcum).mono ?_
  rintro e w2 ⟨rfl, rfl⟩
  obtain ⟨q, hq⟩ : ∃ q, k0 + 6 * ((cumL len n : Nat) : Int) = q := ⟨_, rfl⟩
  rw [hq] at hq0 ⊢
  have HQ := hid hq
  clear hq
  go_wp2_with fail
  go_ret
  exact ⟨congrArg (fun x => Ending.returned (.int .i64 x)) HQ.out.symm, hb1⟩

set_option maxHeartbeats 2000000 in
theorem toTJ_any (A : Option Addr) (n cap : Nat) (len : Nat → Nat) (g : Nat → Nat → Nd) (w : World) (h : RdT w w.heap.size A n len g) (hn : n ≤ 4194304) (hlen : Hid (∀ i, i < n → len i ≤ 4194304)) :
    Calls Try.prog 70 #[.slice A n cap] w fun e w' =>
      ∃ b, e = .returned (.slice (some ⟨b, 0, none⟩) n n) ∧ w.heap.size ≤ b ∧ Laid w' w.heap.size w'.heap.size (some ⟨b, 0, none⟩) n len g ∧ Below w.heap.size w w' := by
  obtain ⟨i0, hi0, hz0, hz1, hz2⟩ := info_parts info_nodes
  have hmk := fun wx => run_make_rowN (P := Try.prog) 31 74 i0 _ Try.underlying31 hi0 hz0 .i64 .i64 n n (Nat.le_refl _) (by rw [hz2]; omega) (by omega) wx
  rw [hz1] at hmk
  clear hz0 hz1 hz2 hi0
  go_enter Try.func70, Try.ntmps70
  go_wp2_with fail
  go_loopw [4] (fun i wr => ∃ (k : Nat) (cs : Array Value), k ≤ n ∧ i = .int .i64 k ∧ Blk wr w.heap.size 74 cs ∧ n ≤ cs.size ∧ Hid (∃ bl : Nat → Nat, ∀ i, i < k → cs[i]? = some (.slice (some ⟨bl i, 0, none⟩) (len i) (len i)) ∧ w.heap.size ≤ bl i ∧ RowN wr 135 (bl i) (len i) (g i) ∧ ∀ j, j < i → bl j ≠ bl i) ∧ Below w.heap.size w wr)
    (fun i _ => n - (intOf i).toNat)
  case atStart => exact ⟨0, _, Nat.zero_le _, rfl, Blk.new _ _ _, by simp [madeCells], ⟨fun _ => 0, fun j hj => by omega⟩, (Below.refl _ _).alloc (Nat.le_refl _) _⟩
  case round =>
    obtain ⟨k, cs, hk, rfl, hB, hsz, hcs, hbl⟩ := hrel
    by_cases hlt : k < n
    · obtain ⟨b, off, Ai, ci, rfl, hb, hc, hrd⟩ := (h.below hbl).at_ hlt
      have hl : (k : Int) < (n : Int) := by omega
      have hl0 : (0 : Int) ≤ (k : Int) := by omega
      go_wp2_with fail
      refine (toN_any Ai (len k) ci (g k) _ (hrd.more hbl.size) (hlen.out k hlt)).mono ?_
      rintro e w1 ⟨bk, rfl, hbk, hrow, hb1⟩
      have hB1 := hB.below hb1 hB.lt
      have hcs1 : Hid (∃ bl : Nat → Nat, ∀ i, i < k → cs[i]? = some (.slice (some ⟨bl i, 0, none⟩) (len i) (len i)) ∧ w.heap.size ≤ bl i ∧ RowN w1 135 (bl i) (len i) (g i) ∧ bl i < bk ∧ ∀ j, j < i → bl j ≠ bl i) := by
        obtain ⟨bl, hq⟩ := hcs.out
        refine ⟨bl, fun i hi => ?_⟩
        obtain ⟨h1, h3, h2, h4⟩ := hq i hi
        exact ⟨h1, h3, h2.below hb1 h2.lt, Nat.lt_of_lt_of_le h2.lt hbk, h4⟩
      have hbl1 := hbl.trans (hb1.mono hbl.size)
      have hbk' := Nat.le_trans hbl.size hbk
      clear hcs hb1 hB hbl hrd hc
      have s0 : w1.cell? ⟨w.heap.size, k, none⟩ = some (cs[k]'(by omega)) := by rw [hB1.cell, Array.getElem?_eq_getElem]
      have f0 := hB1.frozen k
      have HROW := hid hrow
      clear hrow
      go_wp2_with fail
      go_roundw
      case rel =>
        have hfar : ∀ {bi : Nat} {m : Nat} {gi : Nat → Nd}, RowN w1 135 bi m gi → RowN (w1.setCell ⟨w.heap.size, k, none⟩ (.slice (some ⟨bk, 0, none⟩) (len k) (len k))) 135 bi m gi := fun {bi m gi} hr => by
          obtain ⟨cs', hB', hs', hc'⟩ := hr
          exact ⟨cs', hB'.far (p := ⟨w.heap.size, k, none⟩) (Blk.ne_ hB' hB1 (by decide)) _, hs', hc'⟩
        obtain ⟨bl, hq⟩ := hcs1.out
        refine ⟨k + 1, _, by omega, by go_num, hB1.set_ k _, by simpa using hsz, ⟨setN bl k bk, fun j hj => ?_⟩, hbl1.setCell (p := ⟨w.heap.size, k, none⟩) (Nat.le_refl _) _⟩
        by_cases e : j = k
        · subst e
          rw [setN_same]
          refine ⟨by rw [Array.getElem?_setIfInBounds_self_of_lt (by omega)], hbk', hfar HROW.out, fun i hi => ?_⟩
          rw [setN_other (by omega)]
          exact Nat.ne_of_lt (hq i hi).2.2.2.1
        · rw [setN_other e]
          obtain ⟨h1, h3, h2, _, h4⟩ := hq j (by omega)
          refine ⟨by rw [Array.getElem?_setIfInBounds_ne (by omega)]; exact h1, h3, hfar h2, fun i hi => ?_⟩
          rw [setN_other (by omega)]
          exact h4 i hi
      case measure => simp [intOf]; omega
    · have e : k = n := by omega
      go_wp2_with fail
      go_ret
      subst e
      obtain ⟨bl, hq⟩ := hcs.out
      refine ⟨_, rfl, Nat.le_refl _, ⟨w.heap.size, bl, len, fun hn0 => ⟨rfl, Nat.le_refl _, hB.lt, ⟨_, hB⟩, fun i hi => by rw [hB.cell]; exact (hq i hi).1⟩, fun i hi => ⟨(hq i hi).2.1, (hq i hi).2.2.1.lt, (hq i hi).2.2.1, (hq i hi).2.2.2⟩⟩, hbl⟩

set_option maxRecDepth 100000 in
set_option maxHeartbeats 2000000 in
theorem toEJ_any (f b : Int) (A : Option Addr) (n c : Nat) (len : Nat → Nat) (g : Nat → Nat → Nd) (w : World) (h : RdT w w.heap.size A n len g) (hn : n ≤ 4194304) (hlen : Hid (∀ i, i < n → len i ≤ 4194304)) :
    Calls Try.prog 19 #[enV f b A n c] w fun e w' =>
      ∃ bt, e = .returned (enV f b (some ⟨bt, 0, none⟩) n n) ∧ w.heap.size ≤ bt ∧ Laid w' w.heap.size w'.heap.size (some ⟨bt, 0, none⟩) n len g ∧ Below w.heap.size w w' := by
  have hb3 := (((Below.refl w.heap.size w).alloc (Nat.le_refl _) (.cells #[.int .i64 f, .int .i64 b, .slice A n c] 24)).alloc (by simp) (.cells #[.int .i64 0, .int .i64 0, .slice none 0 0] 33)).alloc (by simp; omega) (.cells #[.int .i64 f, .int .i64 b, .slice none 0 0] 33)
  have h3 := h.to hb3 hb3.size
  go_enter Try.func19, Try.ntmps19
  go_wp2_with fail
  refine (toTJ_any A n c len g _ h3 hn hlen).mono ?_
  rintro e w4 ⟨bt, rfl, hbt, hrd, hb4⟩
  have hR := ((Blk.new2 w (.cells #[.int .i64 f, .int .i64 b, .slice A n c] 24) 33 #[.int .i64 0, .int .i64 0, .slice none 0 0]).alloc (.cells #[.int .i64 f, .int .i64 b, .slice none 0 0] 33)).below hb4 (by simp)
  have hO := (Blk.new3 w (.cells #[.int .i64 f, .int .i64 b, .slice A n c] 24) (.cells #[.int .i64 0, .int .i64 0, .slice none 0 0] 33) 33 #[.int .i64 f, .int .i64 b, .slice none 0 0]).below hb4 (by simp)
  obtain ⟨o0, o1, o2, f0, f1, f2⟩ := blk_cells3 hO
  obtain ⟨r0, r1, r2, g0, g1, g2⟩ := blk_cells3 hR
  have hw4 := hb3.trans (hb4.mono hb3.size)
  clear h3 hb3
  go_wp2_with fail
  refine bodyPost_ret (results_cell_row rfl _ _ (w.heap.size + 1) 33 #[.int .i64 f, .int .i64 b, .slice (some ⟨bt, 0, none⟩) n n] (0, 0) _ rfl ((((hR.far (p := ⟨w.heap.size + 1 + 1, 2, none⟩) (by simp) (.slice (some ⟨bt, 0, none⟩) n n)).set_ 0 (.int .i64 f)).set_ 1 (.int .i64 b)).set_ 2 (.slice (some ⟨bt, 0, none⟩) n n)) Try.underlying33 rfl size_ens) rfl ?_
  have hbt' : w.heap.size ≤ bt := by simp at hbt; omega
  have hs3 : w.heap.size + 3 ≤ w4.heap.size := by simpa using hb4.size
  refine ⟨bt, rfl, hbt', ((hrd.keep fun x hx _ => ?_).less (by simp; omega) (by simp only [World.size_setCell]; exact Nat.le_refl _)), (((hw4.setCell (p := ⟨w.heap.size + 1 + 1, 2, none⟩) (by simp; omega) _).setCell (p := ⟨w.heap.size + 1, 0, none⟩) (by simp) _).setCell (p := ⟨w.heap.size + 1, 1, none⟩) (by simp) _).setCell (p := ⟨w.heap.size + 1, 2, none⟩) (by simp) _⟩
  have hx' : w.heap.size + 3 ≤ x := by simpa using hx
  exact (Below.heap_setCell _ _ _ x (by show x ≠ w.heap.size + 1; omega)).trans ((Below.heap_setCell _ _ _ x (by show x ≠ w.heap.size + 1; omega)).trans ((Below.heap_setCell _ _ _ x (by show x ≠ w.heap.size + 1; omega)).trans (Below.heap_setCell _ _ _ x (by show x ≠ w.heap.size + 1 + 1; omega))))

/-! ### FlR -/
theorem own_moreF {w : World} {B B2 : Nat} {e : TypeId} {size : Nat} {v : Value} {n : Nat} {xs : List Value} (h : w.ownsRow B2 e size v n xs) (hB : B ≤ B2) : w.ownsRow B e size v n xs := by
  refine ⟨h.1, ?_⟩
  rcases h.2 with h0 | ⟨g, cap, cur, hv, hb, rest⟩
  · exact .inl h0
  · exact .inr ⟨g, cap, cur, hv, Nat.le_trans hB hb, rest⟩
def upF {α : Type} (f : Nat → α) (j : Nat) (x : α) : Nat → α := fun i => if i = j then x else f i
theorem upF_same {α : Type} (f : Nat → α) (j : Nat) (x : α) : upF f j x j = x := if_pos rfl
theorem upF_other {α : Type} {f : Nat → α} {j i : Nat} {x : α} (h : i ≠ j) : upF f j x i = f i := if_neg h
/-- How long list j is: the first one n, the next q one more than p, the others p. -/
def nsF (n p q : Nat) : Nat → Nat
  | 0 => n
  | j + 1 => if j < q then p + 1 else p
abbrev slF (As : Nat → Option Addr) (cs : Nat → Nat) (n p q j : Nat) : Value := .slice (As j) (nsF n p q j) (cs j)
abbrev flC (f b : Int) (As : Nat → Option Addr) (cs : Nat → Nat) (n p q : Nat) : Array Value :=
  #[.int .i64 f, .int .i64 b, slF As cs n p q 0, slF As cs n p q 1, slF As cs n p q 2, slF As cs n p q 3, slF As cs n p q 4, slF As cs n p q 5, slF As cs n p q 6]
abbrev nilF : Array Value := #[.int .i64 0, .int .i64 0, .slice none 0 0, .slice none 0 0, .slice none 0 0, .slice none 0 0, .slice none 0 0, .slice none 0 0, .slice none 0 0]
/-- Seven lists of numbers, each in memory of its own. -/
def Lists (w : World) (B : Nat) (As : Nat → Option Addr) (cs : Nat → Nat) (n p q : Nat) (zs : Nat → Nat → Int) : Prop :=
  ∀ j, j < 7 → w.ownsRow B 2 1 (slF As cs n p q j) (nsF n p q j) (numsOf (nsF n p q j) (zs j)) ∧ ∀ i, i < j → ∀ x, (slF As cs n p q j).ownBlock = some x → (slF As cs n p q i).ownBlock ≠ some x
theorem nsF_old {n p q j : Nat} (h : j ≠ q + 1) : nsF n p (q + 1) j = nsF n p q j := by
  cases j with
  | zero => rfl
  | succ j => simp only [nsF]; split <;> split <;> omega
theorem nsF_new (n p q : Nat) : nsF n p (q + 1) (q + 1) = p + 1 := by simp only [nsF]; rw [if_pos (by omega)]
theorem nsF_cur (n p q : Nat) : nsF n p q (q + 1) = p := by simp only [nsF]; rw [if_neg (by omega)]
theorem nsF_full {n p j : Nat} (h : j < 7) : nsF n p 6 j = nsF n (p + 1) 0 j := by
  cases j with
  | zero => rfl
  | succ j => simp only [nsF]; rw [if_pos (by omega), if_neg (by omega)]
section
variable {w : World} {B n p q : Nat} {As : Nat → Option Addr} {cs : Nat → Nat} {zs : Nat → Nat → Int}
theorem Lists.keep {w' : World} (h : Lists w B As cs n p q zs) (hk : ∀ x c, B ≤ x → Blk w x 2 c → w'.heap[x]? = w.heap[x]?) : Lists w' B As cs n p q zs := fun j hj =>
  ⟨own_keepJ (h j hj).1 fun g hg _ ho => by
    obtain ⟨_, _, c, hc⟩ := own_ltJ (h j hj).1 g ho
    exact hk g c hg hc, (h j hj).2⟩
theorem Lists.below {w' : World} (h : Lists w B As cs n p q zs) (hb : Below w.heap.size w w') : Lists w' B As cs n p q zs := h.keep fun x _ _ hc => hb.block x hc.lt
theorem Lists.full (h : Lists w B As cs n p 6 zs) : Lists w B As cs n (p + 1) 0 zs := by
  intro j hj
  have e : ∀ i, i < 7 → slF As cs n p 6 i = slF As cs n (p + 1) 0 i := fun i hi => by show Value.slice _ _ _ = Value.slice _ _ _; rw [nsF_full hi]
  obtain ⟨h1, h2⟩ := h j hj
  rw [e j hj, nsF_full hj] at h1
  refine ⟨h1, fun i hi x hx => ?_⟩
  rw [← e j hj] at hx
  rw [← e i (by omega)]
  exact h2 i hi x hx
/-- One number more in list j. -/
theorem Lists.step {w5 : World} {n' p' q' j gg c5 m : Nat} {O : Obj} (h : Lists w B As cs n p q zs) (hj : j < 7) (hm : nsF n p q j = m) (hm' : nsF n' p' q' j = m + 1) (ho : ∀ i, i ≠ j → nsF n' p' q' i = nsF n p q i)
    (hown : w5.ownsRow B 2 1 (.slice (some ⟨gg, 0, none⟩) (m + 1) c5) (m + 1) (numsOf (m + 1) (zs j))) (hg : (w.alloc O).grownBy w5 (Value.slice (As j) m (cs j)).ownBlock) (hat : (Value.slice (As j) m (cs j)).ownBlock = some gg ∨ gg = w.heap.size + 1) :
    Lists w5 B (upF As j (some ⟨gg, 0, none⟩)) (upF cs j c5) n' p' q' zs := by
  have hs : ∀ i, i ≠ j → slF (upF As j (some ⟨gg, 0, none⟩)) (upF cs j c5) n' p' q' i = slF As cs n p q i := fun i hi => by show Value.slice _ _ _ = Value.slice _ _ _; rw [upF_other hi, upF_other hi, ho i hi]
  have hsj : slF (upF As j (some ⟨gg, 0, none⟩)) (upF cs j c5) n' p' q' j = .slice (some ⟨gg, 0, none⟩) (m + 1) c5 := by show Value.slice _ _ _ = _; rw [upF_same, upF_same, hm']
  have hcj : slF As cs n p q j = .slice (As j) m (cs j) := by show Value.slice _ _ _ = _; rw [hm]
  have hfar : ∀ i, i < 7 → i ≠ j → ∀ x, (slF As cs n p q i).ownBlock = some x → (slF As cs n p q j).ownBlock ≠ some x := by
    intro i hi hne x hx
    rcases Nat.lt_or_gt_of_ne hne with hlt | hgt
    · exact fun e => (h j hj).2 i hlt x e hx
    · exact (h i hi).2 j hgt x hx
  have hgg : ∀ i, i < 7 → i ≠ j → (slF As cs n p q i).ownBlock ≠ some gg := by
    intro i hi hne e
    rcases hat with hat | hat
    · exact hfar i hi hne gg e (by rw [hcj]; exact hat)
    · have := (own_ltJ (h i hi).1 gg e).2.1
      omega
  intro i hi
  by_cases e : i = j
  · subst e
    rw [hsj, hm']
    refine ⟨hown, fun k hk x hx => ?_⟩
    injection hx with hx
    have hx : gg = x := hx
    subst hx
    rw [hs k (by omega)]
    exact hgg k (by omega) (by omega)
  · rw [hs i e, ho i e]
    refine ⟨own_keepJ (h i hi).1 fun g _ hg2 hgo => ?_, fun k hk x hx => ?_⟩
    · refine (hg.block g (by rw [World.size_alloc]; omega) ?_).trans (Below.heap_alloc w O g hg2)
      intro e2
      exact hfar i hi e g hgo (by rw [hcj]; exact e2.symm)
    · by_cases ek : k = j
      · subst ek
        rw [hsj]
        intro e2
        injection e2 with e2
        have e2 : gg = x := e2
        subst e2
        exact hgg i hi e hx
      · rw [hs k ek]
        exact (h i hi).2 k hk x hx
end

def oneF (A : Option Addr) : Nat → Option Addr := fun j => match j with | 0 => A | _ => none
def oneC (c : Nat) : Nat → Nat := fun j => match j with | 0 => c | _ => 0
theorem Lists.less {w : World} {B B' n p q : Nat} {As : Nat → Option Addr} {cs : Nat → Nat} {zs : Nat → Nat → Int} (h : Lists w B As cs n p q zs) (hB : B' ≤ B) : Lists w B' As cs n p q zs := fun j hj => ⟨own_moreF (h j hj).1 hB, (h j hj).2⟩
theorem own_rdF {w : World} {B n c : Nat} {A : Option Addr} {z : Nat → Int} (h : w.ownsRow B 2 1 (.slice A n c) n (numsOf n z)) : Rd w w.heap.size A n z := fun hn => by
  obtain ⟨g, c', e, _, hr⟩ := own_row h hn
  injection e with e1 e2 e3
  subst e1
  exact hr.rd hr.lt hn
/-- Seven lists to be read. -/
def RdL (w : World) (B : Nat) (As : Nat → Option Addr) (n p : Nat) (zs : Nat → Nat → Int) : Prop := ∀ j, j < 7 → Rd w B (As j) (nsF n p 0 j) (zs j)
theorem Lists.rdL {w : World} {B n p : Nat} {As : Nat → Option Addr} {cs : Nat → Nat} {zs : Nat → Nat → Int} (h : Lists w B As cs n p 0 zs) : RdL w w.heap.size As n p zs := fun j hj => own_rdF (h j hj).1
theorem RdL.below {w w' : World} {B n p : Nat} {As : Nat → Option Addr} {zs : Nat → Nat → Int} (h : RdL w B As n p zs) (hb : Below B w w') : RdL w' B As n p zs := fun j hj => (h j hj).below hb
theorem RdL.more {w : World} {B B' n p : Nat} {As : Nat → Option Addr} {zs : Nat → Nat → Int} (h : RdL w B As n p zs) (hB : B ≤ B') : RdL w B' As n p zs := fun j hj => (h j hj).more hB
theorem RdL.to {w w' : World} {n p : Nat} {As : Nat → Option Addr} {zs : Nat → Nat → Int} (h : RdL w w.heap.size As n p zs) (hb : Below w.heap.size w w') : RdL w' w'.heap.size As n p zs := (h.below hb).more hb.size

/-- Seven lists, each from the start of its block, the blocks from L to H and different. -/
def RowsF (w : World) (L H : Nat) (As : Nat → Option Addr) (n p : Nat) (bl : Nat → Nat) (zs : Nat → Nat → Int) : Prop :=
  ∀ j, j < 7 → 0 < nsF n p 0 j → (As j = some ⟨bl j, 0, none⟩ ∧ L ≤ bl j ∧ bl j < H ∧ Row w 2 (bl j) (nsF n p 0 j) (zs j)) ∧ ∀ i, i < 7 → i ≠ j → 0 < nsF n p 0 i → bl i ≠ bl j
theorem RowsF.keep {w w' : World} {L H n p : Nat} {As : Nat → Option Addr} {bl : Nat → Nat} {zs : Nat → Nat → Int} (h : RowsF w L H As n p bl zs) (hk : ∀ x, L ≤ x → x < H → w'.heap[x]? = w.heap[x]?) : RowsF w' L H As n p bl zs := fun j hj hp => by
  obtain ⟨⟨h1, h2, h3, h4⟩, h5⟩ := h j hj hp
  exact ⟨⟨h1, h2, h3, h4.keep (hk _ h2 h3)⟩, h5⟩
theorem RowsF.congr {w : World} {L H n p : Nat} {As : Nat → Option Addr} {bl : Nat → Nat} {zs ys : Nat → Nat → Int} (h : RowsF w L H As n p bl zs) (he : ∀ j, j < 7 → ∀ i, i < nsF n p 0 j → zs j i = ys j i) : RowsF w L H As n p bl ys := fun j hj hp => by
  obtain ⟨⟨h1, h2, h3, h4⟩, h5⟩ := h j hj hp
  exact ⟨⟨h1, h2, h3, h4.congr (he j hj)⟩, h5⟩
theorem Lists.rows {w : World} {B n p : Nat} {As : Nat → Option Addr} {cs : Nat → Nat} {zs : Nat → Nat → Int} (h : Lists w B As cs n p 0 zs) : ∃ bl, RowsF w B w.heap.size As n p bl zs := by
  refine ⟨fun j => match As j with | some a => a.block | none => 0, fun j hj hp => ?_⟩
  obtain ⟨g, c, e, hb, hr⟩ := own_row (h j hj).1 hp
  injection e with e1 e2 e3
  have hbl : (match As j with | some a => a.block | none => 0) = g := by rw [e1]
  simp only [hbl]
  refine ⟨⟨e1, hb, hr.lt, hr⟩, fun i hi hne hpi => ?_⟩
  obtain ⟨g2, c2, f, hb2, hr2⟩ := own_row (h i hi).1 hpi
  injection f with f1 f2 f3
  rw [f1]
  intro eg
  have eg : g2 = g := eg
  subst eg
  rcases Nat.lt_or_gt_of_ne hne with hlt | hgt
  · exact (h j hj).2 i hlt g2 (by show Value.ownBlock (Value.slice (As j) _ _) = _; rw [e1]; rfl) (by show Value.ownBlock (Value.slice (As i) _ _) = _; rw [f1]; rfl)
  · exact (h i hi).2 j hgt g2 (by show Value.ownBlock (Value.slice (As i) _ _) = _; rw [f1]; rfl) (by show Value.ownBlock (Value.slice (As j) _ _) = _; rw [e1]; rfl)
theorem RowsF.rdL {w : World} {L H n p : Nat} {As : Nat → Option Addr} {bl : Nat → Nat} {zs : Nat → Nat → Int} (h : RowsF w L H As n p bl zs) : RdL w H As n p zs := fun j hj hp => by
  obtain ⟨⟨h1, h2, h3, h4⟩, _⟩ := h j hj hp
  rw [h1]
  exact h4.rd h3 hp
def MarkK (L H : Nat) (w w' : World) : Prop := KeptR L H w w' ∧ ∀ (x : Nat) (t : TypeId) (c : Array Value), 2 ≠ t → Blk w x t c → Blk w' x t c
theorem MarkK.trans {L H : Nat} {a b d : World} (h : MarkK L H a b) (k : MarkK L H b d) : MarkK L H a d := by
  obtain ⟨⟨h1, h2, h3, h4, h5⟩, h6⟩ := h
  obtain ⟨⟨k1, k2, k3, k4, k5⟩, k6⟩ := k
  exact ⟨⟨k1.trans h1, k2.trans h2, k3.trans h3, Nat.le_trans h4 k4, fun x hx hr => (k5 x (by omega) hr).trans (h5 x hx hr)⟩, fun x t c hne hb => k6 x t c hne (h6 x t c hne hb)⟩
theorem MarkK.alloc {L H : Nat} {w : World} (_hH : H ≤ w.heap.size) (o : Obj) : MarkK L H w (w.alloc o) :=
  ⟨⟨rfl, rfl, rfl, by rw [World.size_alloc]; omega, fun x hx _ => Below.heap_alloc w o x hx⟩, fun _ _ _ _ hb => hb.alloc o⟩
/-- The numbers that a mark writes. -/
def mkS (k0 : Int) (n p : Nat) : Nat → Int
  | 0 => k0
  | 1 => k0 + n
  | 2 => k0 + n + p
  | 3 => k0 + n + p + p
  | 4 => k0 + n + p + p + p
  | 5 => k0 + n + p + p + p + p
  | _ => k0 + n + p + p + p + p + p
def mkZ (k0 : Int) (n p : Nat) (j i : Nat) : Int := mkS k0 n p j + i

theorem mark1_any (j : Nat) (hj : j < 7) (L H : Nat) (As : Nat → Option Addr) (cs bl : Nat → Nat) (n p : Nat) (zs : Nat → Nat → Int) (k : Int) (w : World) (h : RowsF w L H As n p bl zs) (hH : H ≤ w.heap.size) (hn : n ≤ 12) (hp : p ≤ 180) (h0 : 0 ≤ k) (h1 : k ≤ 2000000) :
    Calls Try.prog 28 #[.slice (As j) (nsF n p 0 j) (cs j), .int .i64 k] w fun e w' => e = .returned (.int .i64 (k + nsF n p 0 j)) ∧ RowsF w' L H As n p bl (upF zs j (fun i => k + i)) ∧ MarkK L H w w' := by
  have hns : nsF n p 0 j ≤ 180 := by cases j <;> simp only [nsF] <;> (try split) <;> omega
  by_cases hpos : 0 < nsF n p 0 j
  · obtain ⟨⟨e1, e2, e3, e4⟩, e5⟩ := h j hj hpos
    refine (mark_any (As j) (nsF n p 0 j) (cs j) (bl j) (zs j) k w (fun _ => ⟨e1, e4⟩) (by omega) h0 (by omega)).mono ?_
    rintro e w' ⟨rfl, hg, hr⟩
    refine ⟨rfl, fun i hi hpi => ?_, (KeptR.refl L H w).grown hg ⟨e2, e3⟩, fun x t c hne hb => ?_⟩
    · by_cases eij : i = j
      · subst eij
        rw [upF_same]
        exact ⟨⟨e1, e2, e3, hr hpos⟩, e5⟩
      · rw [upF_other eij]
        obtain ⟨⟨i1, i2, i3, i4⟩, i5⟩ := h i hi hpi
        exact ⟨⟨i1, i2, i3, i4.keep (hg.block _ (by omega) (by intro q; injection q with q; exact e5 i hi eij hpi q))⟩, i5⟩
    · obtain ⟨c', hc', _⟩ := e4
      exact hb.grown hg (by intro q; injection q with q; subst q; exact (hc'.ne_ hb hne) rfl)
  · refine (mark_any (As j) (nsF n p 0 j) (cs j) w.heap.size (zs j) k w (fun q => absurd q hpos) (by omega) h0 (by omega)).mono ?_
    rintro e w' ⟨rfl, hg, _⟩
    have hk : ∀ x, x < w.heap.size → w'.heap[x]? = w.heap[x]? := fun x hx => hg.block x hx (by intro q; injection q with q; omega)
    refine ⟨rfl, fun i hi hpi => ?_, ⟨hg.os, hg.tape, hg.output, hg.size, fun x hx _ => hk x hx⟩, fun x t c _ hb => (hk x hb.lt).trans hb⟩
    have eij : i ≠ j := by intro q; subst q; exact hpos hpi
    rw [upF_other eij]
    exact h.keep (fun x _ hx => hk x (by omega)) i hi hpi
theorem held1_any (j : Nat) (hj : j < 7) (L H : Nat) (As : Nat → Option Addr) (cs bl : Nat → Nat) (n p : Nat) (zs : Nat → Nat → Int) (k : Int) (w : World) (h : RowsF w L H As n p bl zs) (hz : ∀ i, zs j i = k + i) (hn : n ≤ 12) (hp : p ≤ 180) (h0 : 0 ≤ k) (h1 : k ≤ 2000000) :
    Calls Try.prog 29 #[.slice (As j) (nsF n p 0 j) (cs j), .int .i64 k] w fun e w' => e = .returned (.int .i64 (k + nsF n p 0 j)) ∧ w = w' := by
  have hns : nsF n p 0 j ≤ 180 := by cases j <;> simp only [nsF] <;> (try split) <;> omega
  refine held_any (As j) (nsF n p 0 j) (cs j) (bl j) k w (fun hpos => ?_) (by omega) h0 (by omega)
  obtain ⟨⟨e1, _, _, e4⟩, _⟩ := h j hj hpos
  exact ⟨e1, e4.congr fun i _ => hz i⟩

theorem RdL.keepH {w w' : World} {B n p : Nat} {As : Nat → Option Addr} {zs : Nat → Nat → Int} (h : RdL w B As n p zs) (hk : ∀ x, x < B → w'.heap[x]? = w.heap[x]?) : RdL w' B As n p zs := fun j hj => (h j hj).keep fun p hp => World.cell?_of_block (hk p.block hp)

/-! ### OrX -/
theorem lists_one {w : World} {B n c : Nat} {A : Option Addr} {z : Nat → Int} (ho : w.ownsRow B 2 1 (.slice A n c) n (numsOf n z)) : Lists w B (oneF A) (oneC c) n 0 0 (fun _ => z) := fun j hj => by
  cases j with
  | zero => exact ⟨ho, fun i hi => absurd hi (by omega)⟩
  | succ j =>
    have e : nsF n 0 0 (j + 1) = 0 := by simp only [nsF]; rw [if_neg (by omega)]
    have e2 : slF (oneF A) (oneC c) n 0 0 (j + 1) = .slice none 0 0 := by show Value.slice none _ 0 = _; rw [e]
    rw [e2, e]
    exact ⟨⟨rfl, .inl ⟨rfl, rfl⟩⟩, fun i _ x hx => by cases hx⟩

set_option maxRecDepth 100000 in
set_option maxHeartbeats 8000000 in
theorem lawOrderOf (f b : Int) (A : Option Addr) (n c : Nat) (len : Nat → Nat) (g : Nat → Nat → Nd) (pol : Int) (w : World) (h : RdT w w.heap.size A n len g) (hn : n ≤ 9223372036854775807) (hlen : ∀ i, i < n → len i ≤ 9223372036854775807) :
    Calls Try.prog 4 #[enV f b A n c, .int .i64 pol] w fun e w' => e = .returned (.bool true) ∧ Below w.heap.size w w' := by
  have HL := hid hlen
  clear hlen
  have hb1 := (Below.refl w.heap.size w).alloc (Nat.le_refl _) (.cells #[.int .i64 f, .int .i64 b, .slice A n c] 24)
  have BE_0 := Blk.new w 24 #[.int .i64 f, .int .i64 b, .slice A n c]
  go_enter Try.func4, Try.ntmps4
  go_wp2_with fail
  refine (szE_any f b A n c len g 1048576 _ (h.to hb1 hb1.size) hn HL (by omega) (by omega)).mono ?_
  rintro e w2 ⟨y, rfl, hy, hb2⟩
  have hw_0 := hb1
  have BE_1 := BE_0.below hb2 BE_0.lt
  have hw_1 := hw_0.trans (hb2.mono hw_0.size)
  clear BE_0 hw_0
  clear hb1 hb2
  by_cases hneg : y < 0
  · clear hy
    go_wp2_with fail
    go_ret
    exact ⟨rfl, hw_1⟩
  have hsm : n ≤ 1048576 ∧ ∀ i, i < n → len i ≤ 1048576 := by
    rcases hy with h | h
    · exact absurd h hneg
    · exact h.2.2
  obtain ⟨hn1, hlm⟩ := hsm
  have hn2 : n ≤ 4194304 := by omega
  have hcm := cumL_le hlm n (Nat.le_refl n)
  have hcu : cumL len n ≤ 5000000000000 := Nat.le_trans hcm (Nat.le_trans (Nat.mul_le_mul hn1 (Nat.le_refl _)) (by omega))
  have S1 := hid hlm
  have hl2 : Hid (∀ i, i < n → len i ≤ 4194304) := fun i hi => by have := S1.out i hi; omega
  clear hy hlm hn HL hcm
  obtain ⟨Y, hYe⟩ : ∃ Y, polB f b pol n len g = Y := ⟨_, rfl⟩
  have HY := hid hYe
  clear hYe
  obtain ⟨N, hN⟩ : ∃ x, oN Y n = x := ⟨_, rfl⟩
  have hN12 : N ≤ 12 := by
    cases Y with
    | false => subst hN; exact Nat.zero_le _
    | true => subst hN; exact (ensB_iff.1 (polB_true HY.out).1).2.2.1
  have HN := hid hN
  clear hN
  obtain ⟨zo, hzs⟩ : ∃ z, ordZ pol len g n = z := ⟨_, rfl⟩
  have HZ := hid hzs
  clear hzs
  obtain ⟨a0, a1, a2, _, _, _⟩ := blk_cells3 BE_1
  go_wp2_with fail
  refine (toE_any f b A n c len g _ ((h.below hw_1).more hw_1.size) hn2 hl2).mono ?_
  rintro e w3 ⟨b3, rfl, _, hr3, hb3⟩
  clear a0 a1 a2
  have BE_2 := BE_1.below hb3 BE_1.lt
  have hw_2 := hw_1.trans (hb3.mono hw_1.size)
  clear BE_1 hw_1
  clear hb3
  go_wp2_with fail
  refine (sOrder_any f b pol (some ⟨b3, 0, none⟩) n n len g _ hr3 hn2 hl2 Y HY.out).mono ?_
  rintro e w4 ⟨A1, c1, rfl, hLs, hb4⟩
  rw [HN.out]
  rw [HN.out, HZ.out] at hLs
  clear hr3
  have BE_3 := BE_2.below hb4 BE_2.lt
  have hw_3 := hw_2.trans (hb4.mono hw_2.size)
  clear BE_2 hw_2
  clear hb4
  have RA_3 := (lists_one hLs).rdL
  have zA_3 := Nat.le_refl w4.heap.size
  clear hLs
  have hw4s := hw_3.size
  have hEw4 : w.heap.size < w4.heap.size := BE_3.lt
  obtain ⟨a0, a1, a2, _, _, _⟩ := blk_cells3 BE_3
  go_wp2_with fail
  refine (toEJ_any f b A n c len g _ ((h.below hw_3).more hw_3.size) hn2 hl2).mono ?_
  rintro e w6 ⟨bt, rfl, _, ld, hb6⟩
  clear a0 a1 a2
  have BE_4 := BE_3.below hb6 BE_3.lt
  have hw_4 := hw_3.trans (hb6.mono hw_3.size)
  have RA_4 := RA_3.keepH fun x hx => hb6.block x (by omega)
  have zA_4 := Nat.le_trans zA_3 hb6.size
  clear BE_3 hw_3 RA_3 zA_3
  have hs6 : w4.heap.size ≤ w6.heap.size := hb6.size
  clear hb6
  have LX_4 := ld
  clear ld
  have zX_4 := Nat.le_refl w6.heap.size
  have BE_5 := BE_4.alloc (.cells #[.int .i64 f, .int .i64 b, .slice (some ⟨bt, 0, none⟩) n n] 33)
  have hw_5 := hw_4.alloc hw_4.size (.cells #[.int .i64 f, .int .i64 b, .slice (some ⟨bt, 0, none⟩) n n] 33)
  have RA_5 := RA_4.keepH fun x hx => Below.heap_alloc w6 (.cells #[.int .i64 f, .int .i64 b, .slice (some ⟨bt, 0, none⟩) n n] 33) x (by omega)
  have zA_5 := Nat.le_trans zA_4 (show w6.heap.size ≤ (World.alloc w6 (.cells #[.int .i64 f, .int .i64 b, .slice (some ⟨bt, 0, none⟩) n n] 33)).heap.size by rw [World.size_alloc]; exact Nat.le_succ _)
  have LX_5 := LX_4.keep fun x _ hx => Below.heap_alloc w6 (.cells #[.int .i64 f, .int .i64 b, .slice (some ⟨bt, 0, none⟩) n n] 33) x (by omega)
  have zX_5 := Nat.le_trans zX_4 (show w6.heap.size ≤ (World.alloc w6 (.cells #[.int .i64 f, .int .i64 b, .slice (some ⟨bt, 0, none⟩) n n] 33)).heap.size by rw [World.size_alloc]; exact Nat.le_succ _)
  clear BE_4 hw_4 RA_4 zA_4 LX_4 zX_4
  have BX_5 := Blk.new w6 33 #[.int .i64 f, .int .i64 b, .slice (some ⟨bt, 0, none⟩) n n]
  obtain ⟨a0, a1, a2, _, _, _⟩ := blk_cells3 BX_5
  go_wp2_with fail
  refine (iOrder_any f b pol (some ⟨bt, 0, none⟩) n n len g _ (LX_5.rdT) hn2 hl2 Y HY.out).mono ?_
  rintro e w8 ⟨Ag, cg, rfl, hLg, hb8⟩
  rw [HN.out]
  rw [HN.out, HZ.out] at hLg
  clear a0 a1 a2
  have BE_6 := BE_5.below hb8 BE_5.lt
  have hw_6 := hw_5.trans (hb8.mono hw_5.size)
  have RA_6 := RA_5.keepH fun x hx => hb8.block x (by omega)
  have zA_6 := Nat.le_trans zA_5 hb8.size
  have LX_6 := LX_5.keep fun x _ hx => hb8.block x (by omega)
  have zX_6 := Nat.le_trans zX_5 hb8.size
  have BX_6 := BX_5.below hb8 BX_5.lt
  clear BE_5 hw_5 RA_5 zA_5 LX_5 zX_5 BX_5
  have hs8 : w6.heap.size + 1 ≤ w8.heap.size := by have := hb8.size; rw [World.size_alloc] at this; exact this
  clear hb8
  obtain ⟨bl, QG_6⟩ := ((lists_one hLg).less (B' := w6.heap.size + 1) (by rw [World.size_alloc]; exact Nat.le_refl _)).rows
  clear hLg
  have zG_6 := Nat.le_refl w8.heap.size
  go_wp2_with fail
  refine (eqI_any Ag A1 N cg c1 zo zo _ ((QG_6.rdL.more zG_6) 0 (by decide)) ((RA_6.more zA_6) 0 (by decide)) (fun _ _ => rfl) (by omega)).mono ?_
  rintro e w10 ⟨rfl, mq, hwq⟩
  have hbq : Below w8.heap.size w8 w10 := by rw [hwq]; exact below_drewN (Below.refl _ _) _
  clear hwq
  have BE_7 := BE_6.below hbq BE_6.lt
  have hw_7 := hw_6.trans (hbq.mono hw_6.size)
  have RA_7 := RA_6.keepH fun x hx => hbq.block x (by omega)
  have zA_7 := Nat.le_trans zA_6 hbq.size
  have LX_7 := LX_6.keep fun x _ hx => hbq.block x (by omega)
  have zX_7 := Nat.le_trans zX_6 hbq.size
  have BX_7 := BX_6.below hbq BX_6.lt
  have QG_7 := QG_6.keep fun x _ hx => hbq.block x (by omega)
  have zG_7 := Nat.le_trans zG_6 hbq.size
  clear BE_6 hw_6 RA_6 zA_6 LX_6 zX_6 BX_6 QG_6 zG_6
  clear hbq
  obtain ⟨c0, c1', c2, _, _, _⟩ := blk_cells3 BE_7
  obtain ⟨x0, x1, x2, _, _, _⟩ := blk_cells3 BX_7
  have hEl : w.heap.size < w10.heap.size := BE_7.lt
  have hXl : w6.heap.size < w10.heap.size := BX_7.lt
  have h7d : RdT w10.drew w10.drew.heap.size A n len g := ((h.below hw_7).more hw_7.size)
  have hr7 : RdT w10.drew w10.drew.heap.size (some ⟨bt, 0, none⟩) n len g := LX_7.rdT
  go_wp2_with fail
  go_region_held3 (fun w' => w'.cell? ⟨w.heap.size, 0, none⟩ = some (.int .i64 f) ∧ w'.cell? ⟨w.heap.size, 1, none⟩ = some (.int .i64 b) ∧ w'.cell? ⟨w.heap.size, 2, none⟩ = some (.slice A n c) ∧ w'.cell? ⟨w6.heap.size, 0, none⟩ = some (.int .i64 f) ∧ w'.cell? ⟨w6.heap.size, 1, none⟩ = some (.int .i64 b) ∧ w'.cell? ⟨w6.heap.size, 2, none⟩ = some (.slice (some ⟨bt, 0, none⟩) n n))
    (first | exact ⟨e0, e1, e2, y0, y1, y2⟩ | exact ⟨i0, i1, i2, z0, z1, z2⟩ | (simp [go_sem]; done) | (simp [go_sem, *]; done))
    (first
      | (go_at_call 19; refine (toE_any f b A n c len g w10.drew h7d hn2 hl2).mono ?_; rintro e w11 ⟨b8, rfl, _, hr8, hb11⟩; obtain ⟨hc8, hf8⟩ := bcell hb11; have e0 := (hc8 w.heap.size _ hEl).trans c0; have e1 := (hc8 w.heap.size _ hEl).trans c1'; have e2 := (hc8 w.heap.size _ hEl).trans c2; have y0 := (hc8 w6.heap.size _ hXl).trans x0; have y1 := (hc8 w6.heap.size _ hXl).trans x1; have y2 := (hc8 w6.heap.size _ hXl).trans x2; have hr78 := RdT.to (w := w10.drew) hr7 hb11 hb11.size)
      | (go_at_call 22; refine (eqE_any f b _ _ n n n len g _ hr78 hr8 hn2 hl2).mono ?_; rintro e w12 ⟨rfl, hb12⟩; obtain ⟨hc9, hf9⟩ := bcell hb12; have hlE : w.heap.size < w11.heap.size := Nat.lt_of_lt_of_le hEl hb11.size; have hlX : w6.heap.size < w11.heap.size := Nat.lt_of_lt_of_le hXl hb11.size; have i0 := (hc9 w.heap.size _ hlE).trans e0; have i1 := (hc9 w.heap.size _ hlE).trans e1; have i2 := (hc9 w.heap.size _ hlE).trans e2; have z0 := (hc9 w6.heap.size _ hlX).trans y0; have z1 := (hc9 w6.heap.size _ hlX).trans y1; have z2 := (hc9 w6.heap.size _ hlX).trans y2))
  have hb1012 : Below w10.heap.size w10 w12 := ((Below.refl w10.heap.size w10).drew.trans hb11).trans (hb12.mono hb11.size)
  clear hb11 hb12 e0 e1 e2 y0 y1 y2 i0 i1 i2 z0 z1 z2 c0 c1' c2 x0 x1 x2 hc8 hf8 hc9 hf9 hr78 hr8 hr7 h7d hEl hXl hlE hlX
  have BE_8 := BE_7.below hb1012 BE_7.lt
  have hw_8 := hw_7.trans (hb1012.mono hw_7.size)
  have RA_8 := RA_7.keepH fun x hx => hb1012.block x (by omega)
  have zA_8 := Nat.le_trans zA_7 hb1012.size
  have LX_8 := LX_7.keep fun x _ hx => hb1012.block x (by omega)
  have zX_8 := Nat.le_trans zX_7 hb1012.size
  have BX_8 := BX_7.below hb1012 BX_7.lt
  have QG_8 := QG_7.keep fun x _ hx => hb1012.block x (by omega)
  have zG_8 := Nat.le_trans zG_7 hb1012.size
  clear BE_7 hw_7 RA_7 zA_7 LX_7 zX_7 BX_7 QG_7 zG_7
  clear hb1012
  obtain ⟨a0, a1, a2, _, _, _⟩ := blk_cells3 BX_8
  go_wp2_with fail
  refine (markE_any f b w4.heap.size w6.heap.size n n (some ⟨bt, 0, none⟩) len g 1 _ LX_8 zX_8 hn2 S1 (by omega) (by omega) hcu).mono ?_
  rintro e w13 ⟨rfl, _, hk⟩
  clear a0 a1 a2
  obtain ⟨q, hq⟩ : ∃ q : Int, 1 + 6 * ((cumL len n : Nat) : Int) = q := ⟨_, rfl⟩
  rw [hq]
  have q1 : ¬ q < 0 := by omega
  clear hq
  have bEl : w.heap.size < w4.heap.size := hEw4
  have BE_9 : Blk _ _ _ _ := (hk.2.2.2.2 _ BE_8.lt (by omega)).trans BE_8
  have hw_9 := hk.below hw_8 (by omega) hw_8.size
  have RA_9 := RA_8.keepH fun x hx => hk.2.2.2.2 x (by omega) (by omega)
  have zA_9 := Nat.le_trans zA_8 hk.2.2.2.1
  have QG_9 := QG_8.keep fun x _ hx => hk.2.2.2.2 x (by omega) (by omega)
  have zG_9 := Nat.le_trans zG_8 hk.2.2.2.1
  clear BE_8 hw_8 RA_8 zA_8 LX_8 zX_8 BX_8 QG_8 zG_8
  clear hk
  go_wp2_with fail
  refine (eqI_any Ag A1 N cg c1 zo zo _ ((QG_9.rdL.more zG_9) 0 (by decide)) ((RA_9.more zA_9) 0 (by decide)) (fun _ _ => rfl) (by omega)).mono ?_
  rintro e w14 ⟨rfl, mq, hwq⟩
  have hbq : Below w13.heap.size w13 w14 := by rw [hwq]; exact below_drewN (Below.refl _ _) _
  clear hwq
  have BE_10 := BE_9.below hbq BE_9.lt
  have hw_10 := hw_9.trans (hbq.mono hw_9.size)
  have RA_10 := RA_9.keepH fun x hx => hbq.block x (by omega)
  have zA_10 := Nat.le_trans zA_9 hbq.size
  have QG_10 := QG_9.keep fun x _ hx => hbq.block x (by omega)
  have zG_10 := Nat.le_trans zG_9 hbq.size
  clear BE_9 hw_9 RA_9 zA_9 QG_9 zG_9
  clear hbq
  go_wp2_with fail
  refine (mark1_any 0 (by decide) (w6.heap.size + 1) w8.heap.size (oneF Ag) (oneC cg) bl N 0 (fun _ => zo) 1 _ QG_10 zG_10 hN12 (by omega) (by omega) (by omega)).mono ?_
  rintro e w15 ⟨rfl, QN, hk⟩
  have BE_11 := hk.2 _ _ _ (by decide) BE_10
  have hw_11 := hk.1.below hw_10 (by omega) hw_10.size
  have RA_11 := RA_10.keepH fun x hx => hk.1.2.2.2.2 x (by omega) (by omega)
  have zA_11 := Nat.le_trans zA_10 hk.1.2.2.2.1
  have zG_11 := Nat.le_trans zG_10 hk.1.2.2.2.1
  clear BE_10 hw_10 RA_10 zA_10 QG_10 zG_10
  have QG_11 := QN
  clear hk QN
  go_wp2_with fail
  refine (held1_any 0 (by decide) (w6.heap.size + 1) w8.heap.size (oneF Ag) (oneC cg) bl N 0 _ 1 _ QG_11 (fun _ => rfl) hN12 (by omega) (by omega) (by omega)).mono ?_
  rintro e w16 ⟨rfl, hwq⟩
  have hbq : Below w15.heap.size w15 w16 := by rw [← hwq]; exact Below.refl _ _
  clear hwq
  have BE_12 := BE_11.below hbq BE_11.lt
  have hw_12 := hw_11.trans (hbq.mono hw_11.size)
  have RA_12 := RA_11.keepH fun x hx => hbq.block x (by omega)
  have zA_12 := Nat.le_trans zA_11 hbq.size
  have zG_12 := Nat.le_trans zG_11 hbq.size
  have QG_12 := QG_11.keep fun x _ hx => hbq.block x (by omega)
  clear BE_11 hw_11 RA_11 zA_11 zG_11 QG_11
  clear hbq
  obtain ⟨m, hm⟩ : ∃ m : Int, (1 : Int) + ((nsF N 0 0 0 : Nat) : Int) = m := ⟨_, rfl⟩
  rw [hm]
  have HM := hid hm
  have m1 : ¬ m < 0 := by omega
  have m2 : (m != m) = false := by simp
  clear hm
  obtain ⟨a0, a1, a2, _, _, _⟩ := blk_cells3 BE_12
  go_wp2_with fail
  refine (toE_any f b A n c len g _ ((h.below hw_12).more hw_12.size) hn2 hl2).mono ?_
  rintro e w17 ⟨b17, rfl, _, hr17, hb17⟩
  clear a0 a1 a2
  have BE_13 := BE_12.below hb17 BE_12.lt
  have hw_13 := hw_12.trans (hb17.mono hw_12.size)
  have RA_13 := RA_12.keepH fun x hx => hb17.block x (by omega)
  have zA_13 := Nat.le_trans zA_12 hb17.size
  have zG_13 := Nat.le_trans zG_12 hb17.size
  have QG_13 := QG_12.keep fun x _ hx => hb17.block x (by omega)
  clear BE_12 hw_12 RA_12 zA_12 zG_12 QG_12
  clear hb17
  go_wp2_with fail
  refine (iOrder_any f b pol (some ⟨b17, 0, none⟩) n n len g _ hr17 hn2 hl2 Y HY.out).mono ?_
  rintro e w18 ⟨Ah, ch, rfl, hLh, hb18⟩
  rw [HN.out]
  rw [HN.out, HZ.out] at hLh
  clear hr17
  have BE_14 := BE_13.below hb18 BE_13.lt
  have hw_14 := hw_13.trans (hb18.mono hw_13.size)
  have RA_14 := RA_13.keepH fun x hx => hb18.block x (by omega)
  have zA_14 := Nat.le_trans zA_13 hb18.size
  have zG_14 := Nat.le_trans zG_13 hb18.size
  have QG_14 := QG_13.keep fun x _ hx => hb18.block x (by omega)
  clear BE_13 hw_13 RA_13 zA_13 zG_13 QG_13
  clear hb18
  have RH_14 := (lists_one hLh).rdL
  have zH_14 := Nat.le_refl w18.heap.size
  clear hLh
  go_wp2_with fail
  refine (eqI_any Ah A1 N ch c1 zo zo _ ((RH_14.more zH_14) 0 (by decide)) ((RA_14.more zA_14) 0 (by decide)) (fun _ _ => rfl) (by omega)).mono ?_
  rintro e w20 ⟨rfl, mq, hwq⟩
  have hbq : Below w18.heap.size w18 w20 := by rw [hwq]; exact below_drewN (Below.refl _ _) _
  clear hwq
  have BE_15 := BE_14.below hbq BE_14.lt
  have hw_15 := hw_14.trans (hbq.mono hw_14.size)
  have RA_15 := RA_14.keepH fun x hx => hbq.block x (by omega)
  have zA_15 := Nat.le_trans zA_14 hbq.size
  have zG_15 := Nat.le_trans zG_14 hbq.size
  have QG_15 := QG_14.keep fun x _ hx => hbq.block x (by omega)
  have RH_15 := RH_14.keepH fun x hx => hbq.block x (by omega)
  have zH_15 := Nat.le_trans zH_14 hbq.size
  clear BE_14 hw_14 RA_14 zA_14 zG_14 QG_14 RH_14 zH_14
  clear hbq
  go_wp2_with fail
  refine (held1_any 0 (by decide) (w6.heap.size + 1) w8.heap.size (oneF Ag) (oneC cg) bl N 0 _ 1 _ QG_15 (fun _ => rfl) hN12 (by omega) (by omega) (by omega)).mono ?_
  rintro e w21 ⟨rfl, hwq⟩
  have hbq : Below w20.heap.size w20 w21 := by rw [← hwq]; exact Below.refl _ _
  clear hwq
  have BE_16 := BE_15.below hbq BE_15.lt
  have hw_16 := hw_15.trans (hbq.mono hw_15.size)
  have RA_16 := RA_15.keepH fun x hx => hbq.block x (by omega)
  have zA_16 := Nat.le_trans zA_15 hbq.size
  have zG_16 := Nat.le_trans zG_15 hbq.size
  have QG_16 := QG_15.keep fun x _ hx => hbq.block x (by omega)
  have RH_16 := RH_15.keepH fun x hx => hbq.block x (by omega)
  have zH_16 := Nat.le_trans zH_15 hbq.size
  clear BE_15 hw_15 RA_15 zA_15 zG_15 QG_15 RH_15 zH_15
  clear hbq
  rw [HM.out]
  go_wp2_with fail
  go_ret
  exact ⟨rfl, hw_16⟩
end Go.Proofs.Ytmpgefpaoogoiaa
