/- Trees on both sides. -/
import Derived.Test.YthdljfidcoblfaaK2
import Derived.Test.YthdljfidcoblfaaK0
import Derived.Deep.RegionHeld3
import Derived.Deep.RegionWith
import Derived.WalkSmall
namespace Go.Proofs.Ythdljfidcoblfaa

/-! ### TreeE -/
section
set_option linter.unusedVariables false
set_option linter.unusedSimpArgs false
open Go.RowKit Go.Deep

open Classical in
/-- What belongs to no split behind the work on the nodes from m on. -/
noncomputable def restC (g : Nat → Nd) (n m : Nat) (P : Nat → Nat) : Nat → Option Addr := fun j => if Hd g n m j then some ⟨P j, 0, none⟩ else none
theorem restC_yes {g : Nat → Nd} {n m j : Nat} {P : Nat → Nat} (h : Hd g n m j) : restC g n m P j = some ⟨P j, 0, none⟩ := if_pos h
theorem restC_no {g : Nat → Nd} {n m j : Nat} {P : Nat → Nat} (h : ¬ Hd g n m j) : restC g n m P j = none := if_neg h
theorem restC_some {g : Nat → Nd} {n m j : Nat} {P : Nat → Nat} (h : (restC g n m P j).isSome = true) : Hd g n m j := by
  by_cases hh : Hd g n m j
  · exact hh
  · rw [restC_no hh] at h; cases h

/-- The two twigs behind node d. -/
def kidL (d : Nd) (P : Nat → Nat) : Option Addr := if d.left = 0 then none else some ⟨P d.left.toNat, 0, none⟩
def kidR (d : Nd) (P : Nat → Nat) : Option Addr := if d.left = 0 then none else some ⟨P d.right.toNat, 0, none⟩
theorem takeV_some {c : Nat → Option Addr} {z : Int} (h : (takeV c z).isSome = true) : ∃ l : Nat, z = l ∧ l < 15 ∧ takeV c z = c l := by
  unfold takeV at h ⊢
  by_cases hz : 0 ≤ z ∧ z < 15
  · rw [if_pos hz]
    exact ⟨z.toNat, by omega, by omega, rfl⟩
  · rw [if_neg hz] at h; cases h
theorem takeV_nat (c : Nat → Option Addr) (l : Nat) (hl : l < 15) : takeV c l = c l := by
  unfold takeV
  rw [if_pos (by omega)]
  rfl

theorem split_step {g : Nat → Nd} {n k : Nat} {f : Int} {P : Nat → Nat} (hn : n ≤ 15) (h0 : ¬ (g k).left = 0) :
    splitP f (g k) (takeV (restC g n (k + 1) P) (g k).left) (takeV (takeC (restC g n (k + 1) P) (g k).left) (g k).right) = true ↔ Step g n f k := by
  unfold splitP Step
  rw [if_neg h0]
  simp only [Bool.and_eq_true]
  constructor
  · rintro ⟨hs, hp, hq⟩
    obtain ⟨l, hl, hl15, el⟩ := takeV_some hp
    obtain ⟨r, hr, hr15, er⟩ := takeV_some hq
    rw [el] at hp
    rw [er] at hq
    have hne : l ≠ r := by
      rintro rfl
      unfold takeC at hq
      rw [if_pos (by omega)] at hq
      cases hq
    unfold takeC at hq
    rw [if_neg (by omega)] at hq
    exact ⟨l, r, hl, hr, restC_some hp, restC_some hq, hne, hs⟩
  · rintro ⟨l, r, hl, hr, hL, hR, hne, hs⟩
    have hl15 : l < 15 := by have := hL.2.1; omega
    have hr15 : r < 15 := by have := hR.2.1; omega
    rw [hl, hr, takeV_nat _ l hl15, takeV_nat _ r hr15, restC_yes hL]
    unfold takeC
    rw [if_neg (by omega), restC_yes hR]
    exact ⟨hs, rfl, rfl⟩

theorem split_kids {g : Nat → Nd} {n k : Nat} {f : Int} {P : Nat → Nat} (hn : n ≤ 15) (h0 : ¬ (g k).left = 0) (h : Step g n f k) :
    takeV (restC g n (k + 1) P) (g k).left = kidL (g k) P ∧ takeV (takeC (restC g n (k + 1) P) (g k).left) (g k).right = kidR (g k) P ∧
    ((g k).left.toNat ≠ k ∧ (g k).right.toNat ≠ k) := by
  unfold Step at h
  rw [if_neg h0] at h
  obtain ⟨l, r, hl, hr, hL, hR, hne, hs⟩ := h
  have hl15 : l < 15 := by have := hL.2.1; omega
  have hr15 : r < 15 := by have := hR.2.1; omega
  unfold kidL kidR
  rw [if_neg h0, if_neg h0]
  rw [hl, hr, takeV_nat _ l hl15, takeV_nat _ r hr15, restC_yes hL]
  unfold takeC
  rw [if_neg (by omega), restC_yes hR]
  have := hL.1
  have := hR.1
  exact ⟨rfl, rfl, by simp; omega, by simp; omega⟩

/-- The pointers with one more. -/
def setP (P : Nat → Nat) (k b : Nat) : Nat → Nat := fun j => if j = k then b else P j
theorem setP_at (P : Nat → Nat) (k b : Nat) : setP P k b k = b := if_pos rfl
theorem setP_ne {P : Nat → Nat} {k b j : Nat} (h : j ≠ k) : setP P k b j = P j := if_neg h

theorem rest_leaf {g : Nat → Nd} {n k b : Nat} {P : Nat → Nat} (hk : k < n) (h0 : (g k).left = 0) (j : Nat) :
    (fun j => if j = k then some ⟨b, 0, none⟩ else restC g n (k + 1) P j) j = restC g n k (setP P k b) j := by
  show (if j = k then some ⟨b, 0, none⟩ else restC g n (k + 1) P j) = _
  have hp : par (g k) j = 0 := by unfold par; rw [if_neg (by omega)]
  by_cases e : j = k
  · subst e
    rw [if_pos rfl, restC_yes ((hd_step g n j j hk).2 (.inl rfl)), setP_at]
  · rw [if_neg e]
    by_cases hh : Hd g n (k + 1) j
    · rw [restC_yes hh, restC_yes ((hd_step g n k j hk).2 (.inr ⟨hh, hp⟩)), setP_ne e]
    · rw [restC_no hh, restC_no]
      intro h'
      rcases (hd_step g n k j hk).1 h' with h' | h'
      · exact e h'
      · exact hh h'.1
theorem rest_split {g : Nat → Nd} {n k b : Nat} {f : Int} {P : Nat → Nat} (hk : k < n) (h0 : ¬ (g k).left = 0) (h : Step g n f k) (j : Nat) :
    (fun j => if j = k then some ⟨b, 0, none⟩ else takeC (takeC (restC g n (k + 1) P) (g k).left) (g k).right j) j = restC g n k (setP P k b) j := by
  show (if j = k then some ⟨b, 0, none⟩ else takeC (takeC (restC g n (k + 1) P) (g k).left) (g k).right j) = _
  by_cases e : j = k
  · subst e
    rw [if_pos rfl, restC_yes ((hd_step g n j j hk).2 (.inl rfl)), setP_at]
  · rw [if_neg e]
    unfold Step at h
    rw [if_neg h0] at h
    obtain ⟨l, r, hl, hr, hL, hR, hne, hs⟩ := h
    have hl1 := hL.1
    unfold takeC
    rw [hl, hr]
    by_cases e1 : j = r
    · subst e1
      rw [if_pos rfl, restC_no]
      intro h'
      rcases (hd_step g n k j hk).1 h' with h' | h'
      · exact e h'
      · have := h'.2; unfold par at this; rw [if_pos (by omega), if_pos hr] at this; omega
    · rw [if_neg (by omega)]
      by_cases e2 : j = l
      · subst e2
        rw [if_pos rfl, restC_no]
        intro h'
        rcases (hd_step g n k j hk).1 h' with h' | h'
        · exact e h'
        · have := h'.2; unfold par at this; rw [if_pos (by omega), if_pos hl] at this; omega
      · rw [if_neg (by omega)]
        have hp : par (g k) j = 0 := by unfold par; rw [if_pos (by omega), if_neg (by omega), if_neg (by omega)]
        by_cases hh : Hd g n (k + 1) j
        · rw [restC_yes hh, restC_yes ((hd_step g n k j hk).2 (.inr ⟨hh, hp⟩)), setP_ne e]
        · rw [restC_no hh, restC_no]
          intro h'
          rcases (hd_step g n k j hk).1 h' with h' | h'
          · exact e h'
          · exact hh h'.1

theorem kid_set {g : Nat → Nd} {n k b j : Nat} {f : Int} {P : Nat → Nat} (hj : k < j) (h : Step g n f j) : kidL (g j) (setP P k b) = kidL (g j) P ∧ kidR (g j) (setP P k b) = kidR (g j) P := by
  unfold kidL kidR
  by_cases h0 : (g j).left = 0
  · rw [if_pos h0, if_pos h0, if_pos h0, if_pos h0]; exact ⟨rfl, rfl⟩
  · unfold Step at h
    rw [if_neg h0] at h
    obtain ⟨l, r, hl, hr, hL, hR, _⟩ := h
    have := hL.1
    have := hR.1
    rw [if_neg h0, if_neg h0, if_neg h0, if_neg h0, setP_ne (by omega), setP_ne (by omega)]
    exact ⟨rfl, rfl⟩
theorem kid_self {g : Nat → Nd} {n k b : Nat} {f : Int} {P : Nat → Nat} (h : Step g n f k) : kidL (g k) (setP P k b) = kidL (g k) P ∧ kidR (g k) (setP P k b) = kidR (g k) P := by
  unfold kidL kidR
  by_cases h0 : (g k).left = 0
  · rw [if_pos h0, if_pos h0, if_pos h0, if_pos h0]; exact ⟨rfl, rfl⟩
  · unfold Step at h
    rw [if_neg h0] at h
    obtain ⟨l, r, hl, hr, hL, hR, _⟩ := h
    have := hL.1
    have := hR.1
    rw [if_neg h0, if_neg h0, if_neg h0, if_neg h0, setP_ne (by omega), setP_ne (by omega)]
    exact ⟨rfl, rfl⟩

end

/-! ### TreeF -/
section
set_option linter.unusedVariables false
set_option linter.unusedSimpArgs false
open Go.RowKit Go.Deep

/-- Are all fifteen nil? -/
def noneB (c : Nat → Option Addr) : Bool := (c 0).isNone && ((c 1).isNone && ((c 2).isNone && ((c 3).isNone && ((c 4).isNone && ((c 5).isNone && ((c 6).isNone && ((c 7).isNone && ((c 8).isNone && ((c 9).isNone && ((c 10).isNone && ((c 11).isNone && ((c 12).isNone && ((c 13).isNone && ((c 14).isNone))))))))))))))
theorem noneB_iff (c : Nat → Option Addr) : noneB c = true ↔ ∀ j, j < 15 → c j = none := by
  unfold noneB
  simp only [Bool.and_eq_true, Option.isNone_iff_eq_none]
  constructor
  · rintro ⟨h0, h1, h2, h3, h4, h5, h6, h7, h8, h9, h10, h11, h12, h13, h14⟩ j hj
    obtain rfl | rfl | rfl | rfl | rfl | rfl | rfl | rfl | rfl | rfl | rfl | rfl | rfl | rfl | rfl : j = 0 ∨ j = 1 ∨ j = 2 ∨ j = 3 ∨ j = 4 ∨ j = 5 ∨ j = 6 ∨ j = 7 ∨ j = 8 ∨ j = 9 ∨ j = 10 ∨ j = 11 ∨ j = 12 ∨ j = 13 ∨ j = 14 := by omega
    all_goals assumption
  · intro h
    exact ⟨h 0 (by omega), h 1 (by omega), h 2 (by omega), h 3 (by omega), h 4 (by omega), h 5 (by omega), h 6 (by omega), h 7 (by omega), h 8 (by omega), h 9 (by omega), h 10 (by omega), h 11 (by omega), h 12 (by omega), h 13 (by omega), h 14 (by omega)⟩

theorem not_tree {g : Nat → Nd} {n k : Nat} {f : Int} (hk : k < n) (h : ¬ Step g n f k) : treeB g n f = false := by
  cases ht : treeB g n f with
  | false => rfl
  | true => exact absurd ((tree_built ((treeB_iff g n f).1 ht)).2.2.1 k hk) h

end

/-! ### TreeG -/
section
set_option linter.unusedVariables false
set_option linter.unusedSimpArgs false
open Go.RowKit Go.Deep

theorem kid_leaf {d : Nd} {P : Nat → Nat} (h : d.left = 0) : kidL d P = none ∧ kidR d P = none := ⟨if_pos h, if_pos h⟩

end

/-! ### TreeH -/
section
set_option linter.unusedVariables false
set_option linter.unusedSimpArgs false
open Go.RowKit Go.Deep

theorem go_min (a b : Int) : (if b < a then b else a) = min a b := by split <;> omega
theorem go_max (a b : Int) : (if a < b then b else a) = max a b := by split <;> omega

theorem ret_two {a b c d : Int} (h1 : a = c) (h2 : b = d) : Ending.returned (.tuple #[.int .i64 a, .int .i64 b]) = .returned (.tuple #[.int .i64 c, .int .i64 d]) := by rw [h1, h2]
theorem ret_int {k : IntKind} {a b : Int} (h : a = b) : Ending.returned (.int k a) = .returned (.int k b) := by rw [h]

end

/-! ### TreeI -/
section
set_option linter.unusedVariables false
set_option linter.unusedSimpArgs false
open Go.RowKit Go.Deep

theorem dep_bd (g : Nat → Nd) : ∀ f i, 0 ≤ dep g f i ∧ dep g f i ≤ f := by
  intro f
  induction f with
  | zero => intro i; simp [dep]
  | succ f ih =>
    intro i
    unfold dep
    have h1 := ih (g i).left.toNat
    have h2 := ih (g i).right.toNat
    split <;> omega

end

/-! ### TreeJ -/
section
set_option linter.unusedVariables false
set_option linter.unusedSimpArgs false
open Go.RowKit Go.Deep

theorem goL_gone (d : Nd) (x : Int) (h : (x == 9999999) = true) : goL d x = d.miss := by simp at h; simp [goL, h]
theorem goL_here (d : Nd) (x : Int) (h : (x == 9999999) = false) : goL d x = decide (x ≤ d.cut) := by simp at h; simp [goL, h]
def nxI (d : Nd) (x : Int) : Int := if goL d x = true then d.left else d.right
def nxP (d : Nd) (x : Int) (p q : Option Addr) : Option Addr := if goL d x = true then p else q

end

/-! ### TreeK -/
section
set_option linter.unusedVariables false
set_option linter.unusedSimpArgs false
open Go.RowKit Go.Deep

theorem nxI_nxt {g : Nat → Nd} {n a k : Nat} {z : Nat → Int} (hu : Up g n) (ha : a < n) (h0 : (g a).left ≠ 0) (hk : (g a).feat = k) : nxI (g a) (z k) = ((nxt g z a : Nat) : Int) := by
  have := hu a ha h0
  unfold nxI nxt
  rw [hk, Int.toNat_natCast]
  split <;> omega
theorem nd_eta {d : Nd} {k : Nat} (hk : d.feat = k) : (⟨(k : Int), d.cut, d.left, d.right, d.miss, d.value⟩ : Nd) = d := by cases d; simp only at hk; rw [hk]
theorem numsOf_succ (n : Nat) (z : Nat → Int) : numsOf (n + 1) z = numsOf n z ++ [.int .i64 (z n)] := by
  unfold numsOf
  rw [List.range_succ, List.map_append]
  rfl
theorem own_below {w w' : World} {base : Nat} {e : TypeId} {size : Nat} {v : Value} {n : Nat} {xs : List Value} (h : w.ownsRow base e size v n xs) (hb : Below w.heap.size w w') : w'.ownsRow base e size v n xs :=
  h.kept (row := none) ⟨hb.os, hb.tape, hb.output, hb.size, fun i hi _ => hb.block i hi⟩ (by cases hv : v.ownBlock <;> simp)
theorem own_form {w : World} {base : Nat} {e : TypeId} {size : Nat} {v : Value} {n : Nat} {xs : List Value} (h : w.ownsRow base e size v n xs) : ∃ A c, v = .slice A n c := by
  rcases h.2 with ⟨rfl, rfl⟩ | ⟨g, cap, cur, rfl, _⟩
  · exact ⟨_, _, rfl⟩
  · exact ⟨_, _, rfl⟩
def seqZ (g : Nat → Nd) (z : Nat → Int) : Nat → Int := fun t => (itr g z t : Nat)

/-- What PathOf gives for a tree and a document that fit. -/
def PathPost (g : Nat → Nd) (z : Nat → Int) (w : World) (e : Ending) (w' : World) : Prop :=
  ∃ T b c, Ends g z T ∧ T < 15 ∧ e = .returned (.slice (some ⟨b, 0, none⟩) (T + 1) c) ∧ w.heap.size ≤ b ∧ Row w' 2 b (T + 1) (seqZ g z) ∧ Below w.heap.size w w'

theorem path_false {n f : Nat} {g : Nat → Nd} {z : Nat → Int} (h : (docB f z && treeB g n f) = false) : docB f z = false ∨ (docB f z = true ∧ treeB g n f = false) := by
  cases hd : docB f z
  · exact .inl rfl
  · rw [hd] at h; exact .inr ⟨rfl, by simpa using h⟩

end

/-! ### OrB -/
section
set_option linter.unusedVariables false
set_option linter.unusedSimpArgs false
open Go.RowKit Go.Deep

theorem lo_boundO {g : Nat → Nd} {n : Nat} {f : Int} (h : treeB g n f = true) : -1000000000 ≤ loTo g n ∧ loTo g n ≤ 1000000000 := by
  have hT := (treeB_iff g n f).1 h
  rcases loTo_at g n with e | ⟨j, hj, hl, e⟩
  · omega
  · have := hT.leaf hj hl; omega
theorem hi_boundO {g : Nat → Nd} {n : Nat} {f : Int} (h : treeB g n f = true) : -1000000000 ≤ hiTo g n ∧ hiTo g n ≤ 1000000000 := by
  have hT := (treeB_iff g n f).1 h
  rcases hiTo_at g n with e | ⟨j, hj, hl, e⟩
  · omega
  · have := hT.leaf hj hl; omega
theorem tree_moreO {g : Nat → Nd} {n : Nat} {f i : Int} (h : treeB g n f = true) (h1 : f ≤ i) (h6 : i ≤ 6) : treeB g n i = true := by
  rw [treeB_iff] at h ⊢
  obtain ⟨⟨hf1, _⟩, hn, ha⟩ := h
  refine ⟨⟨by omega, h6⟩, hn, fun k hk => ⟨?_, (ha k hk).2⟩⟩
  have := (ha k hk).1
  unfold Node at this ⊢
  split
  · rename_i e; rw [if_pos e] at this; exact this
  · rename_i e
    rw [if_neg e] at this
    refine ⟨?_, this.2⟩
    have hs := this.1
    simp only [spB, Bool.and_eq_true, decide_eq_true_eq] at hs ⊢
    exact ⟨⟨⟨hs.1.1.1, by omega⟩, hs.1.2⟩, hs.2⟩
/-- The number by which a policy sorts a tree. -/
def wtN (pol : Int) (g : Nat → Nd) (n : Nat) : Int := if pol = 2 then loTo g n - hiTo g n else if pol = 3 then dep g 15 0 else 0
theorem wtN_bd (pol : Int) {g : Nat → Nd} {n : Nat} {f : Int} (h : treeB g n f = true) : -2000000000 ≤ wtN pol g n ∧ wtN pol g n ≤ 2000000000 := by
  have h1 := lo_boundO h
  have h2 := hi_boundO h
  have h3 := dep_bd g 15 0
  unfold wtN
  split
  · omega
  · split <;> omega

end

/-! ### RangeLaw -/
section
set_option linter.unusedVariables false
set_option linter.unusedSimpArgs false
open Go.RowKit Go.Deep
end

/-! ### DocWithLaw -/
section
set_option linter.unusedVariables false
set_option linter.unusedSimpArgs false
open Go.RowKit Go.Deep

/-- A slice of no element or over a row of one's own block. -/
theorem rd_of {w : World} {t : TypeId} {b n : Nat} {z : Nat → Int} (h : Row w t b n z) : Rd w w.heap.size (some ⟨b, 0, none⟩) n z := h.rd h.lt
theorem row_grown {w w' : World} {t : TypeId} {b b' n : Nat} {z : Nat → Int} (h : Row w t b n z) (hg : w.grownBy w' (some b')) (hne : b ≠ b') : Row w' t b n z :=
  h.keep (hg.block b h.lt (by simpa using hne))

theorem rd_none {w : World} {B : Nat} {A : Option Addr} {z : Nat → Int} : Rd w B A 0 z := fun h => absurd h (by omega)

end
end Go.Proofs.Ythdljfidcoblfaa
