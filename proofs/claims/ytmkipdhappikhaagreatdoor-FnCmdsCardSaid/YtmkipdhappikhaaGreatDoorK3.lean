/- Trees on both sides. -/
import Derived.Test.YtmkipdhappikhaaGreatDoorK2
import Derived.Test.YtmkipdhappikhaaGreatDoorK0
import Derived.Deep.RegionHeld3
import Derived.Deep.RegionWith
import Derived.WalkSmall
namespace Go.Proofs.YtmkipdhappikhaaGreatDoor

/-! ### TreeE -/
section
set_option linter.unusedVariables false
set_option linter.unusedSimpArgs false
open Go.RowKit Go.Deep

open Classical in
/-- What belongs to no split behind the work on the nodes from m on. -/
noncomputable def restC (g : Nat → Nd) (n m : Nat) (P : Nat → Nat) : Nat → Option Addr := fun j => if Hd g n m j then some ⟨P j, 0, none⟩ else none
theorem restC_yes {g : Nat → Nd} {n m j : Nat} {P : Nat → Nat} (h : Hd g n m j) : restC g n m P j = some ⟨P j, 0, none⟩ := if_pos h
theorem restC_no {g : Nat → Nd} {n m j : Nat} {P : Nat → Nat} (h : ¬ Hd g n m j) : restC g n m P j = none := if_neg h
theorem restC_some {g : Nat → Nd} {n m j : Nat} {P : Nat → Nat} (h : (restC g n m P j).isSome = true) : Hd g n m j := by
  by_cases hh : Hd g n m j
  · exact hh
  · rw [restC_no hh] at h; cases h

/-- The two twigs behind node d. -/
def kidL (d : Nd) (P : Nat → Nat) : Option Addr := if d.left = 0 then none else some ⟨P d.left.toNat, 0, none⟩
def kidR (d : Nd) (P : Nat → Nat) : Option Addr := if d.left = 0 then none else some ⟨P d.right.toNat, 0, none⟩
/-- The twigs of the nodes from m on lie in memory. -/
def Twigs (w : World) (g : Nat → Nd) (n m : Nat) (P : Nat → Nat) : Prop := ∀ j, m ≤ j → j < n → Tw w (P j) (g j) j (kidL (g j) P) (kidR (g j) P)

theorem takeV_some {c : Nat → Option Addr} {z : Int} (h : (takeV c z).isSome = true) : ∃ l : Nat, z = l ∧ l < 15 ∧ takeV c z = c l := by
  unfold takeV at h ⊢
  by_cases hz : 0 ≤ z ∧ z < 15
  · rw [if_pos hz]
    exact ⟨z.toNat, by omega, by omega, rfl⟩
  · rw [if_neg hz] at h; cases h
theorem takeV_nat (c : Nat → Option Addr) (l : Nat) (hl : l < 15) : takeV c l = c l := by
  unfold takeV
  rw [if_pos (by omega)]
  rfl

theorem split_step {g : Nat → Nd} {n k : Nat} {f : Int} {P : Nat → Nat} (hn : n ≤ 15) (h0 : ¬ (g k).left = 0) :
    splitP f (g k) (takeV (restC g n (k + 1) P) (g k).left) (takeV (takeC (restC g n (k + 1) P) (g k).left) (g k).right) = true ↔ Step g n f k := by
  unfold splitP Step
  rw [if_neg h0]
  simp only [Bool.and_eq_true]
  constructor
  · rintro ⟨hs, hp, hq⟩
    obtain ⟨l, hl, hl15, el⟩ := takeV_some hp
    obtain ⟨r, hr, hr15, er⟩ := takeV_some hq
    rw [el] at hp
    rw [er] at hq
    have hne : l ≠ r := by
      rintro rfl
      unfold takeC at hq
      rw [if_pos (by omega)] at hq
      cases hq
    unfold takeC at hq
    rw [if_neg (by omega)] at hq
    exact ⟨l, r, hl, hr, restC_some hp, restC_some hq, hne, hs⟩
  · rintro ⟨l, r, hl, hr, hL, hR, hne, hs⟩
    have hl15 : l < 15 := by have := hL.2.1; omega
    have hr15 : r < 15 := by have := hR.2.1; omega
    rw [hl, hr, takeV_nat _ l hl15, takeV_nat _ r hr15, restC_yes hL]
    unfold takeC
    rw [if_neg (by omega), restC_yes hR]
    exact ⟨hs, rfl, rfl⟩

theorem split_kids {g : Nat → Nd} {n k : Nat} {f : Int} {P : Nat → Nat} (hn : n ≤ 15) (h0 : ¬ (g k).left = 0) (h : Step g n f k) :
    takeV (restC g n (k + 1) P) (g k).left = kidL (g k) P ∧ takeV (takeC (restC g n (k + 1) P) (g k).left) (g k).right = kidR (g k) P ∧
    ((g k).left.toNat ≠ k ∧ (g k).right.toNat ≠ k) := by
  unfold Step at h
  rw [if_neg h0] at h
  obtain ⟨l, r, hl, hr, hL, hR, hne, hs⟩ := h
  have hl15 : l < 15 := by have := hL.2.1; omega
  have hr15 : r < 15 := by have := hR.2.1; omega
  unfold kidL kidR
  rw [if_neg h0, if_neg h0]
  rw [hl, hr, takeV_nat _ l hl15, takeV_nat _ r hr15, restC_yes hL]
  unfold takeC
  rw [if_neg (by omega), restC_yes hR]
  have := hL.1
  have := hR.1
  exact ⟨rfl, rfl, by simp; omega, by simp; omega⟩

/-- The pointers with one more. -/
def setP (P : Nat → Nat) (k b : Nat) : Nat → Nat := fun j => if j = k then b else P j
theorem setP_at (P : Nat → Nat) (k b : Nat) : setP P k b k = b := if_pos rfl
theorem setP_ne {P : Nat → Nat} {k b j : Nat} (h : j ≠ k) : setP P k b j = P j := if_neg h

theorem rest_leaf {g : Nat → Nd} {n k b : Nat} {P : Nat → Nat} (hk : k < n) (h0 : (g k).left = 0) (j : Nat) :
    (fun j => if j = k then some ⟨b, 0, none⟩ else restC g n (k + 1) P j) j = restC g n k (setP P k b) j := by
  show (if j = k then some ⟨b, 0, none⟩ else restC g n (k + 1) P j) = _
  have hp : par (g k) j = 0 := by unfold par; rw [if_neg (by omega)]
  by_cases e : j = k
  · subst e
    rw [if_pos rfl, restC_yes ((hd_step g n j j hk).2 (.inl rfl)), setP_at]
  · rw [if_neg e]
    by_cases hh : Hd g n (k + 1) j
    · rw [restC_yes hh, restC_yes ((hd_step g n k j hk).2 (.inr ⟨hh, hp⟩)), setP_ne e]
    · rw [restC_no hh, restC_no]
      intro h'
      rcases (hd_step g n k j hk).1 h' with h' | h'
      · exact e h'
      · exact hh h'.1
theorem rest_split {g : Nat → Nd} {n k b : Nat} {f : Int} {P : Nat → Nat} (hk : k < n) (h0 : ¬ (g k).left = 0) (h : Step g n f k) (j : Nat) :
    (fun j => if j = k then some ⟨b, 0, none⟩ else takeC (takeC (restC g n (k + 1) P) (g k).left) (g k).right j) j = restC g n k (setP P k b) j := by
  show (if j = k then some ⟨b, 0, none⟩ else takeC (takeC (restC g n (k + 1) P) (g k).left) (g k).right j) = _
  by_cases e : j = k
  · subst e
    rw [if_pos rfl, restC_yes ((hd_step g n j j hk).2 (.inl rfl)), setP_at]
  · rw [if_neg e]
    unfold Step at h
    rw [if_neg h0] at h
    obtain ⟨l, r, hl, hr, hL, hR, hne, hs⟩ := h
    have hl1 := hL.1
    unfold takeC
    rw [hl, hr]
    by_cases e1 : j = r
    · subst e1
      rw [if_pos rfl, restC_no]
      intro h'
      rcases (hd_step g n k j hk).1 h' with h' | h'
      · exact e h'
      · have := h'.2; unfold par at this; rw [if_pos (by omega), if_pos hr] at this; omega
    · rw [if_neg (by omega)]
      by_cases e2 : j = l
      · subst e2
        rw [if_pos rfl, restC_no]
        intro h'
        rcases (hd_step g n k j hk).1 h' with h' | h'
        · exact e h'
        · have := h'.2; unfold par at this; rw [if_pos (by omega), if_pos hl] at this; omega
      · rw [if_neg (by omega)]
        have hp : par (g k) j = 0 := by unfold par; rw [if_pos (by omega), if_neg (by omega), if_neg (by omega)]
        by_cases hh : Hd g n (k + 1) j
        · rw [restC_yes hh, restC_yes ((hd_step g n k j hk).2 (.inr ⟨hh, hp⟩)), setP_ne e]
        · rw [restC_no hh, restC_no]
          intro h'
          rcases (hd_step g n k j hk).1 h' with h' | h'
          · exact e h'
          · exact hh h'.1

theorem kid_set {g : Nat → Nd} {n k b j : Nat} {f : Int} {P : Nat → Nat} (hj : k < j) (h : Step g n f j) : kidL (g j) (setP P k b) = kidL (g j) P ∧ kidR (g j) (setP P k b) = kidR (g j) P := by
  unfold kidL kidR
  by_cases h0 : (g j).left = 0
  · rw [if_pos h0, if_pos h0, if_pos h0, if_pos h0]; exact ⟨rfl, rfl⟩
  · unfold Step at h
    rw [if_neg h0] at h
    obtain ⟨l, r, hl, hr, hL, hR, _⟩ := h
    have := hL.1
    have := hR.1
    rw [if_neg h0, if_neg h0, if_neg h0, if_neg h0, setP_ne (by omega), setP_ne (by omega)]
    exact ⟨rfl, rfl⟩
theorem kid_self {g : Nat → Nd} {n k b : Nat} {f : Int} {P : Nat → Nat} (h : Step g n f k) : kidL (g k) (setP P k b) = kidL (g k) P ∧ kidR (g k) (setP P k b) = kidR (g k) P := by
  unfold kidL kidR
  by_cases h0 : (g k).left = 0
  · rw [if_pos h0, if_pos h0, if_pos h0, if_pos h0]; exact ⟨rfl, rfl⟩
  · unfold Step at h
    rw [if_neg h0] at h
    obtain ⟨l, r, hl, hr, hL, hR, _⟩ := h
    have := hL.1
    have := hR.1
    rw [if_neg h0, if_neg h0, if_neg h0, if_neg h0, setP_ne (by omega), setP_ne (by omega)]
    exact ⟨rfl, rfl⟩

/-- One twig more. -/
theorem twigs_step {w w' : World} {g : Nat → Nd} {n k b : Nat} {f : Int} {P : Nat → Nat} (h : Twigs w g n (k + 1) P) (hs : ∀ j, k + 1 ≤ j → j < n → Step g n f j) (hk : Step g n f k)
    (hkeep : ∀ j, k + 1 ≤ j → j < n → w'.heap[P j]? = w.heap[P j]?) (ht : Tw w' b (g k) k (kidL (g k) P) (kidR (g k) P)) : Twigs w' g n k (setP P k b) := by
  intro j hj hjn
  by_cases e : j = k
  · subst e
    rw [setP_at, (kid_self (P := P) (b := b) hk).1, (kid_self (P := P) (b := b) hk).2]
    exact ht
  · rw [setP_ne e, (kid_set (k := k) (b := b) (P := P) (by omega) (hs j (by omega) hjn)).1, (kid_set (k := k) (b := b) (P := P) (by omega) (hs j (by omega) hjn)).2]
    exact (hkeep j (by omega) hjn).trans (h j (by omega) hjn)
end

/-! ### TreeF -/
section
set_option linter.unusedVariables false
set_option linter.unusedSimpArgs false
open Go.RowKit Go.Deep

/-- Are all fifteen nil? -/
def noneB (c : Nat → Option Addr) : Bool := (c 0).isNone && ((c 1).isNone && ((c 2).isNone && ((c 3).isNone && ((c 4).isNone && ((c 5).isNone && ((c 6).isNone && ((c 7).isNone && ((c 8).isNone && ((c 9).isNone && ((c 10).isNone && ((c 11).isNone && ((c 12).isNone && ((c 13).isNone && ((c 14).isNone))))))))))))))
set_option maxHeartbeats 1000000 in
theorem eq15 (c : Nat → Option Addr) (w : World) : (Op.equalIn 10000 137 (.agg #[.pointer (c 0), .pointer (c 1), .pointer (c 2), .pointer (c 3), .pointer (c 4), .pointer (c 5), .pointer (c 6), .pointer (c 7), .pointer (c 8), .pointer (c 9), .pointer (c 10), .pointer (c 11), .pointer (c 12), .pointer (c 13), .pointer (c 14)]) (.agg #[.pointer none, .pointer none, .pointer none, .pointer none, .pointer none, .pointer none, .pointer none, .pointer none, .pointer none, .pointer none, .pointer none, .pointer none, .pointer none, .pointer none, .pointer none])).run Tryz.prog w = .ok (noneB c) w := by
  have u2 := Tryz.underlying121
  have a2 := Tryz.isAgg121
  have z2 := Tryz.sizeOf121
  have hpn : ∀ (p : Option Addr) (w : World), (Op.equalIn 9999 121 (.pointer p) (.pointer none)).run Tryz.prog w = .ok p.isNone w := fun p w => run_equalIn_pointer_nil w 9998 121 p (by kernel_rfl)
  rw [show (10000 : Nat) = 9999 + 1 from rfl, Op.equalIn]
  simp only [Sem.run_bind, run_underlying Tryz.underlying137, Result.andThen_ok]
  simp only [Std.Legacy.Range.forIn_eq_forIn_range', Std.Legacy.Range.size, Nat.sub_zero, Nat.add_sub_cancel, Nat.div_one, List.range'_succ, List.range'_zero, List.forIn_cons, List.forIn_nil]
  go_simp
  unfold noneB
  rcases h0 : c 0 with _ | v0
  rotate_left
  · simp
  rcases h1 : c 1 with _ | v1
  rotate_left
  · simp
  rcases h2 : c 2 with _ | v2
  rotate_left
  · simp
  rcases h3 : c 3 with _ | v3
  rotate_left
  · simp
  rcases h4 : c 4 with _ | v4
  rotate_left
  · simp
  rcases h5 : c 5 with _ | v5
  rotate_left
  · simp
  rcases h6 : c 6 with _ | v6
  rotate_left
  · simp
  rcases h7 : c 7 with _ | v7
  rotate_left
  · simp
  rcases h8 : c 8 with _ | v8
  rotate_left
  · simp
  rcases h9 : c 9 with _ | v9
  rotate_left
  · simp
  rcases h10 : c 10 with _ | v10
  rotate_left
  · simp
  rcases h11 : c 11 with _ | v11
  rotate_left
  · simp
  rcases h12 : c 12 with _ | v12
  rotate_left
  · simp
  rcases h13 : c 13 with _ | v13
  rotate_left
  · simp
  rcases h14 : c 14 with _ | v14
  rotate_left
  · simp
  simp

theorem noneB_iff (c : Nat → Option Addr) : noneB c = true ↔ ∀ j, j < 15 → c j = none := by
  unfold noneB
  simp only [Bool.and_eq_true, Option.isNone_iff_eq_none]
  constructor
  · rintro ⟨h0, h1, h2, h3, h4, h5, h6, h7, h8, h9, h10, h11, h12, h13, h14⟩ j hj
    obtain rfl | rfl | rfl | rfl | rfl | rfl | rfl | rfl | rfl | rfl | rfl | rfl | rfl | rfl | rfl : j = 0 ∨ j = 1 ∨ j = 2 ∨ j = 3 ∨ j = 4 ∨ j = 5 ∨ j = 6 ∨ j = 7 ∨ j = 8 ∨ j = 9 ∨ j = 10 ∨ j = 11 ∨ j = 12 ∨ j = 13 ∨ j = 14 := by omega
    all_goals assumption
  · intro h
    exact ⟨h 0 (by omega), h 1 (by omega), h 2 (by omega), h 3 (by omega), h 4 (by omega), h 5 (by omega), h 6 (by omega), h 7 (by omega), h 8 (by omega), h 9 (by omega), h 10 (by omega), h 11 (by omega), h 12 (by omega), h 13 (by omega), h 14 (by omega)⟩

/-- What treeOf gives. -/
def OfPost (g : Nat → Nd) (n : Nat) (f : Int) (w : World) (e : Ending) (w' : World) : Prop :=
  ∃ q, e = .returned (.pointer q) ∧ Below w.heap.size w w' ∧ (treeB g n f = true → ∃ P, q = some ⟨P 0, 0, none⟩ ∧ Twigs w' g n 0 P) ∧ (treeB g n f = false → q = none)
theorem OfPost.bad {g : Nat → Nd} {n : Nat} {f : Int} {w w' : World} (hb : Below w.heap.size w w') (ht : treeB g n f = false) : OfPost g n f w (.returned (.pointer none)) w' :=
  ⟨none, rfl, hb, (fun h => by rw [ht] at h; cases h), fun _ => rfl⟩
theorem not_tree {g : Nat → Nd} {n k : Nat} {f : Int} (hk : k < n) (h : ¬ Step g n f k) : treeB g n f = false := by
  cases ht : treeB g n f with
  | false => rfl
  | true => exact absurd ((tree_built ((treeB_iff g n f).1 ht)).2.2.1 k hk) h

theorem treeOf_out (A : Option Addr) (n cap : Nat) (g : Nat → Nd) (f : Int) (w : World) (hn : n ≤ 4194304) (ho : f < 1 ∨ 6 < f ∨ n < 1 ∨ 15 < n) :
    Calls Tryz.prog 93 #[.slice A n cap, .int .i64 f] w (OfPost g n f w) := by
  have ht : treeB g n f = false := by
    cases h : treeB g n f with
    | false => rfl
    | true => have := (treeB_iff g n f).1 h; unfold Tree at this; omega
  have HT := hid ht
  clear ht
  by_cases h1 : f < 1
  · clear ho
    go_enter Tryz.func93, Tryz.ntmps93
    go_wp2_with fail
    go_ret
    exact OfPost.bad (Below.refl _ _) HT.out
  by_cases h2 : 6 < f
  · clear ho
    go_enter Tryz.func93, Tryz.ntmps93
    go_wp2_with fail
    go_ret
    exact OfPost.bad (Below.refl _ _) HT.out
  by_cases h3 : (n : Int) < 1
  · clear ho
    go_enter Tryz.func93, Tryz.ntmps93
    go_wp2_with fail
    go_ret
    exact OfPost.bad (Below.refl _ _) HT.out
  · have h4 : (15 : Int) < (n : Int) := by omega
    clear ho
    go_enter Tryz.func93, Tryz.ntmps93
    go_wp2_with fail
    go_ret
    exact OfPost.bad (Below.refl _ _) HT.out

theorem rest_new (w : World) (g : Nat → Nd) (n : Nat) (P : Nat → Nat) : Rest (w.alloc (.cells #[.pointer none, .pointer none, .pointer none, .pointer none, .pointer none, .pointer none, .pointer none, .pointer none, .pointer none, .pointer none, .pointer none, .pointer none, .pointer none, .pointer none, .pointer none] 137)) w.heap.size (restC g n n P) := by
  refine ⟨_, Blk.new w _ _, rfl, fun j hj => ?_⟩
  rw [restC_no (hd_end g n j)]
  obtain rfl | rfl | rfl | rfl | rfl | rfl | rfl | rfl | rfl | rfl | rfl | rfl | rfl | rfl | rfl : j = 0 ∨ j = 1 ∨ j = 2 ∨ j = 3 ∨ j = 4 ∨ j = 5 ∨ j = 6 ∨ j = 7 ∨ j = 8 ∨ j = 9 ∨ j = 10 ∨ j = 11 ∨ j = 12 ∨ j = 13 ∨ j = 14 := by omega
  all_goals rfl
end

/-! ### TreeG -/
section
set_option linter.unusedVariables false
set_option linter.unusedSimpArgs false
open Go.RowKit Go.Deep

theorem Rest.ne {w : World} {R b i : Nat} {c : Nat → Option Addr} {d : Nd} {p q : Option Addr} (h : Rest w R c) (t : Tw w b d i p q) : R ≠ b := by
  obtain ⟨cs, hb, _⟩ := h
  exact hb.ne_ t (by decide)
theorem kid_leaf {d : Nd} {P : Nat → Nat} (h : d.left = 0) : kidL d P = none ∧ kidR d P = none := ⟨if_pos h, if_pos h⟩

/-- What a round leaves, where node k is good. -/
theorem round_good {w wr w1 : World} {R b k n : Nat} {g : Nat → Nd} {f : Int} {P : Nat → Nat} {c1 : Nat → Option Addr} (hkn : k < n) (hk15 : k < 15) (hstep : Step g n f k)
    (hR : Rest wr R (restC g n (k + 1) P)) (hst : Hid (∀ j, k + 1 ≤ j → j < n → Step g n f j)) (htw : Twigs wr g n (k + 1) P)
    (hR1 : Rest w1 R c1) (hc1 : ∀ j, (fun j => if j = k then some ⟨b, 0, none⟩ else c1 j) j = restC g n k (setP P k b) j) (hg : wr.grownBy w1 (some R))
    (hT : Tw w1 b (g k) k (kidL (g k) P) (kidR (g k) P)) (hbl : Below w.heap.size w w1) (hRw : w.heap.size ≤ R) :
    Rest (w1.setCell ⟨R, k, none⟩ (.pointer (some ⟨b, 0, none⟩))) R (restC g n k (setP P k b)) ∧ (∀ j, k ≤ j → j < n → Step g n f j) ∧
    Twigs (w1.setCell ⟨R, k, none⟩ (.pointer (some ⟨b, 0, none⟩))) g n k (setP P k b) ∧ Below w.heap.size w (w1.setCell ⟨R, k, none⟩ (.pointer (some ⟨b, 0, none⟩))) := by
  refine ⟨(hR1.set_ hk15 _).congr fun j _ => hc1 j, fun j h1 h2 => ?_, twigs_step htw hst.out hstep (fun j h1 h2 => ?_) (hT.far (hR1.ne hT).symm _), hbl.setCell hRw _⟩
  · by_cases e : j = k
    · subst e; exact hstep
    · exact hst.out j (by omega) h2
  · have hne := hR.ne (htw j h1 h2)
    exact (Below.heap_setCell _ _ _ (P j) (fun e => hne e.symm)).trans (hg.block (P j) (Blk.lt (htw j h1 h2)) (fun e => hne (by injection e with e; exact e.symm)))

set_option maxHeartbeats 4000000 in
theorem treeOf_in (A : Option Addr) (n cap : Nat) (g : Nat → Nd) (f : Int) (w : World) (h : RdN w w.heap.size A n g) (hf1 : 1 ≤ f) (hf6 : f ≤ 6) (hn1 : 1 ≤ n) (hn15 : n ≤ 15) :
    Calls Tryz.prog 93 #[.slice A n cap, .int .i64 f] w (OfPost g n f w) := by
  have i1 : ¬ f < 1 := by omega
  have i2 : ¬ 6 < f := by omega
  have i3 : ¬ (n : Int) < 1 := by omega
  have i4 : ¬ (15 : Int) < (n : Int) := by omega
  go_enter Tryz.func93, Tryz.ntmps93
  go_wp2_with fail
  go_loopw [6] (fun i wr => ∃ (m : Nat) (P : Nat → Nat) (y : Int), m ≤ n ∧ i = .int .i64 y ∧ y ≤ (m : Int) - 1 ∧ (m : Int) - 1 ≤ y ∧ Rest wr w.heap.size (restC g n m P) ∧ Hid (∀ j, m ≤ j → j < n → Step g n f j) ∧ Twigs wr g n m P ∧ Below w.heap.size w wr)
    (fun i _ => (intOf i + 1).toNat)
  case atStart => exact ⟨n, fun _ => 0, _, Nat.le_refl _, rfl, Int.le_refl _, Int.le_refl _, rest_new _ _ _ _, fun j h1 h2 => by omega, fun j h1 h2 => by omega, (Below.refl _ _).alloc (Nat.le_refl _) _⟩
  case round =>
    obtain ⟨m, P, y, hm, rfl, hy1, hy2, hR, hst, htw, hbl⟩ := hrel
    by_cases hm0 : m = 0
    · obtain rfl : y = -1 := by omega
      subst hm0
      have hd0 : Hd g n 0 0 := ⟨Nat.le_refl _, by omega, fun x _ hx => by omega⟩
      have hv : takeV (restC g n 0 P) 0 = some ⟨P 0, 0, none⟩ := (takeV_nat _ 0 (by omega)).trans (restC_yes hd0)
      have HV := hid hv
      clear hv hd0
      go_wp2_with fail
      refine (take_any w.heap.size (restC g n 0 P) 0 _ hR).mono ?_
      rintro e w1 ⟨rfl, hR2, hg1⟩
      have htw1 : Twigs w1 g n 0 P := fun j h1 h2 => (hg1.block (P j) (Blk.lt (htw j h1 h2)) (fun e => hR.ne (htw j h1 h2) (by injection e with e; exact e.symm))).trans (htw j h1 h2)
      have hbl1 : Below w.heap.size w w1 := hbl.grown hg1 hbl.size (fun x hx => by injection hx with hx; omega)
      clear hR hg1 htw hbl
      rw [HV.out]
      generalize hcc : takeC (restC g n 0 P) 0 = c' at hR2
      have q0 := hR2.cell (j := 0) (by omega)
      have q1 := hR2.cell (j := 1) (by omega)
      have q2 := hR2.cell (j := 2) (by omega)
      have q3 := hR2.cell (j := 3) (by omega)
      have q4 := hR2.cell (j := 4) (by omega)
      have q5 := hR2.cell (j := 5) (by omega)
      have q6 := hR2.cell (j := 6) (by omega)
      have q7 := hR2.cell (j := 7) (by omega)
      have q8 := hR2.cell (j := 8) (by omega)
      have q9 := hR2.cell (j := 9) (by omega)
      have q10 := hR2.cell (j := 10) (by omega)
      have q11 := hR2.cell (j := 11) (by omega)
      have q12 := hR2.cell (j := 12) (by omega)
      have q13 := hR2.cell (j := 13) (by omega)
      have q14 := hR2.cell (j := 14) (by omega)
      have he := fun wx => eq15 c' wx
      cases hnb : noneB c'
      · have hns : treeB g n f = false := by
          cases ht : treeB g n f with
          | false => rfl
          | true =>
            have hB := tree_built ((treeB_iff g n f).1 ht)
            have : noneB c' = true := (noneB_iff c').2 fun j hj => by
              rw [← hcc]
              unfold takeC
              by_cases e : j = 0
              · subst e; rfl
              · rw [if_neg (by omega)]
                exact restC_no fun hH => hB.2.2.2 j (by omega) hH.2.1 hH
            rw [hnb] at this
            cases this
        have HT := hid hns
        clear hns hcc
        rw [hnb] at he
        go_wp2_with fail
        go_ret
        exact OfPost.bad hbl1 HT.out
      · have hB : Built g n f := ⟨⟨hf1, hf6⟩, ⟨hn1, hn15⟩, fun j hj => hst.out j (by omega) hj, fun j h0 hj hH => by
          have h1 := (noneB_iff c').1 hnb j (by omega)
          rw [← hcc] at h1
          unfold takeC at h1
          rw [if_neg (by omega), restC_yes hH] at h1
          cases h1⟩
        have hyes : treeB g n f = true := (treeB_iff g n f).2 (built_tree hB)
        have HT := hid hyes
        clear hyes hB hcc
        rw [hnb] at he
        go_wp2_with fail
        go_ret
        exact ⟨_, rfl, hbl1, (fun _ => ⟨P, rfl, htw1⟩), fun h => by rw [HT.out] at h; cases h⟩
    · obtain ⟨k, rfl⟩ : ∃ k, m = k + 1 := ⟨m - 1, by omega⟩
      obtain rfl : y = (k : Int) := by omega
      have hkn : k < n := by omega
      have hk15 : k < 15 := by omega
      obtain ⟨b, off, rfl, hb, c0, c1, c2, c3, c4, c5⟩ := (h.below hbl).at_ hkn
      have j1 : (k : Int) < (n : Int) := by omega
      have j2 : (k : Int) < 15 := by omega
      have j3 : (0 : Int) ≤ (k : Int) := by omega
      go_wp2_with fail
      cases h0 : ((g k).left == 0)
      · refine (twigOf_split (g k) k f w.heap.size _ _ hR h0).mono ?_
        rintro e w1 ⟨rfl, hT, hR1, hg1⟩
        have h0' : ¬ (g k).left = 0 := by simpa using h0
        have hbl1 : Below w.heap.size w w1 := hbl.grown hg1 hbl.size (fun x hx => by injection hx with hx; omega)
        have hcR := hR1.cell hk15
        have hfR := hR1.frozen k
        clear c0 c1 c2 c3 c4 c5
        by_cases hstep : Step g n f k
        · have hkids := split_kids (P := P) hn15 h0' hstep
          have hq : twP (wr.heap.size + 1) f (g k) (takeV (restC g n (k + 1) P) (g k).left) (takeV (takeC (restC g n (k + 1) P) (g k).left) (g k).right) = some ⟨wr.heap.size + 1, 0, none⟩ := by
            unfold twP
            rw [if_pos ((split_step (P := P) hn15 h0').2 hstep)]
          rw [hq]
          rw [hkids.1, hkids.2.1] at hT
          have hG := round_good (b := wr.heap.size + 1) (P := P) (w := w) hkn hk15 hstep hR hst htw hR1 (rest_split hkn h0' hstep) hg1 hT hbl1 (Nat.le_refl _)
          have HG := hid hG
          clear hG hq hkids h0' h0
          go_wp2_with fail
          go_roundw
          case rel => exact ⟨k, _, _, by omega, rfl, Int.le_refl _, Int.le_refl _, HG.out.1, HG.out.2.1, HG.out.2.2.1, HG.out.2.2.2⟩
          case measure => simp [intOf]
        · have hq : twP (wr.heap.size + 1) f (g k) (takeV (restC g n (k + 1) P) (g k).left) (takeV (takeC (restC g n (k + 1) P) (g k).left) (g k).right) = none := by
            unfold twP
            rw [if_neg (fun h' => hstep ((split_step (P := P) hn15 h0').1 h'))]
          rw [hq]
          have hns : treeB g n f = false := not_tree hkn hstep
          have HT := hid hns
          clear hns hq hstep
          go_wp2_with fail
          go_ret
          exact OfPost.bad (hbl1.setCell (Nat.le_refl _) _) HT.out
      · refine (twigOf_leaf (g k) k f w.heap.size _ h0).mono ?_
        rintro e w1 ⟨rfl, hT, hb1⟩
        have hR1 := hR.below hb1 hR.lt
        have hbl1 := hbl.trans (hb1.mono hbl.size)
        have hcR := hR1.cell hk15
        have hfR := hR1.frozen k
        clear c0 c1 c2 c3 c4 c5
        cases hl : lfB (g k)
        · have hns : treeB g n f = false := not_tree hkn (by unfold Step; rw [if_pos (by simpa using h0), hl]; simp)
          have HT := hid hns
          clear hns
          go_wp2_with fail
          go_ret
          exact OfPost.bad (hbl1.setCell (Nat.le_refl _) _) HT.out
        · have h0' : (g k).left = 0 := by simpa using h0
          have hstep : Step g n f k := by unfold Step; rw [if_pos h0']; exact hl
          have hG := round_good (b := wr.heap.size + 1) (P := P) (w := w) hkn hk15 hstep hR hst htw hR1 (rest_leaf hkn h0') ⟨hb1.os, hb1.tape, hb1.output, hb1.size, fun j hj _ => hb1.block j hj⟩ (by rw [(kid_leaf h0').1, (kid_leaf h0').2]; exact hT) hbl1 (Nat.le_refl _)
          have HG := hid hG
          clear hG hstep h0' hl h0
          go_wp2_with fail
          go_roundw
          case rel => exact ⟨k, _, _, by omega, rfl, Int.le_refl _, Int.le_refl _, HG.out.1, HG.out.2.1, HG.out.2.2.1, HG.out.2.2.2⟩
          case measure => simp [intOf]

theorem treeOf_any (A : Option Addr) (n cap : Nat) (g : Nat → Nd) (f : Int) (w : World) (h : RdN w w.heap.size A n g) (hn : n ≤ 4194304) :
    Calls Tryz.prog 93 #[.slice A n cap, .int .i64 f] w (OfPost g n f w) := by
  by_cases ho : f < 1 ∨ 6 < f ∨ n < 1 ∨ 15 < n
  · exact treeOf_out A n cap g f w hn ho
  · exact treeOf_in A n cap g f w h (by omega) (by omega) (by omega) (by omega)

theorem iTreeOk_any (A : Option Addr) (n cap : Nat) (g : Nat → Nd) (f : Int) (w : World) (h : RdN w w.heap.size A n g) (hn : n ≤ 4194304) :
    Calls Tryz.prog 56 #[.slice A n cap, .int .i64 f] w fun e w' => e = .returned (.bool (treeB g n f)) ∧ Below w.heap.size w w' := by
  go_enter Tryz.func56, Tryz.ntmps56
  go_wp2_with fail
  refine (treeOf_any A n cap g f _ h hn).mono ?_
  rintro e w1 ⟨q, rfl, hb, hy, hno⟩
  cases ht : treeB g n f
  · obtain rfl := hno ht
    clear hy hno
    go_wp2_with fail
    go_ret
    exact ⟨by rw [ht]; rfl, hb⟩
  · obtain ⟨P, rfl, _⟩ := hy ht
    clear hno
    go_wp2_with fail
    go_ret
    exact ⟨by rw [ht]; rfl, hb⟩
end

/-! ### TreeH -/
section
set_option linter.unusedVariables false
set_option linter.unusedSimpArgs false
open Go.RowKit Go.Deep

theorem Twigs.below {w w' : World} {g : Nat → Nd} {n m : Nat} {P : Nat → Nat} (h : Twigs w g n m P) (hb : Below w.heap.size w w') : Twigs w' g n m P :=
  fun j h1 h2 => Blk.below (h j h1 h2) hb (Blk.lt (h j h1 h2))
theorem tw_cells {w : World} {b i : Nat} {d : Nd} {p q : Option Addr} (h : Tw w b d i p q) :
    w.cell? ⟨b, 0, none⟩ = some (.int .i64 d.feat) ∧ w.cell? ⟨b, 1, none⟩ = some (.int .i64 d.cut) ∧ w.cell? ⟨b, 2, none⟩ = some (.int .i64 d.left) ∧ w.cell? ⟨b, 3, none⟩ = some (.int .i64 d.right) ∧
    w.cell? ⟨b, 4, none⟩ = some (.bool d.miss) ∧ w.cell? ⟨b, 5, none⟩ = some (.int .i64 d.value) ∧ w.cell? ⟨b, 6, none⟩ = some (.int .i64 i) ∧ w.cell? ⟨b, 7, none⟩ = some (.pointer p) ∧ w.cell? ⟨b, 8, none⟩ = some (.pointer q) :=
  ⟨h.cell 0, h.cell 1, h.cell 2, h.cell 3, h.cell 4, h.cell 5, h.cell 6, h.cell 7, h.cell 8⟩
theorem go_min (a b : Int) : (if b < a then b else a) = min a b := by split <;> omega
theorem go_max (a b : Int) : (if a < b then b else a) = max a b := by split <;> omega

theorem ret_two {a b c d : Int} (h1 : a = c) (h2 : b = d) : Ending.returned (.tuple #[.int .i64 a, .int .i64 b]) = .returned (.tuple #[.int .i64 c, .int .i64 d]) := by rw [h1, h2]
theorem ret_int {k : IntKind} {a b : Int} (h : a = b) : Ending.returned (.int k a) = .returned (.int k b) := by rw [h]

end

/-! ### TreeI -/
section
set_option linter.unusedVariables false
set_option linter.unusedSimpArgs false
open Go.RowKit Go.Deep

theorem dep_bd (g : Nat → Nd) : ∀ f i, 0 ≤ dep g f i ∧ dep g f i ≤ f := by
  intro f
  induction f with
  | zero => intro i; simp [dep]
  | succ f ih =>
    intro i
    unfold dep
    have h1 := ih (g i).left.toNat
    have h2 := ih (g i).right.toNat
    split <;> omega

end

/-! ### TreeJ -/
section
set_option linter.unusedVariables false
set_option linter.unusedSimpArgs false
open Go.RowKit Go.Deep

theorem goL_gone (d : Nd) (x : Int) (h : (x == 9999999) = true) : goL d x = d.miss := by simp at h; simp [goL, h]
theorem goL_here (d : Nd) (x : Int) (h : (x == 9999999) = false) : goL d x = decide (x ≤ d.cut) := by simp at h; simp [goL, h]
def nxI (d : Nd) (x : Int) : Int := if goL d x = true then d.left else d.right
def nxP (d : Nd) (x : Int) (p q : Option Addr) : Option Addr := if goL d x = true then p else q

end

/-! ### TreeK -/
section
set_option linter.unusedVariables false
set_option linter.unusedSimpArgs false
open Go.RowKit Go.Deep

theorem nxI_nxt {g : Nat → Nd} {n a k : Nat} {z : Nat → Int} (hu : Up g n) (ha : a < n) (h0 : (g a).left ≠ 0) (hk : (g a).feat = k) : nxI (g a) (z k) = ((nxt g z a : Nat) : Int) := by
  have := hu a ha h0
  unfold nxI nxt
  rw [hk, Int.toNat_natCast]
  split <;> omega
theorem nd_eta {d : Nd} {k : Nat} (hk : d.feat = k) : (⟨(k : Int), d.cut, d.left, d.right, d.miss, d.value⟩ : Nd) = d := by cases d; simp only at hk; rw [hk]
theorem numsOf_succ (n : Nat) (z : Nat → Int) : numsOf (n + 1) z = numsOf n z ++ [.int .i64 (z n)] := by
  unfold numsOf
  rw [List.range_succ, List.map_append]
  rfl
theorem own_below {w w' : World} {base : Nat} {e : TypeId} {size : Nat} {v : Value} {n : Nat} {xs : List Value} (h : w.ownsRow base e size v n xs) (hb : Below w.heap.size w w') : w'.ownsRow base e size v n xs :=
  h.kept (row := none) ⟨hb.os, hb.tape, hb.output, hb.size, fun i hi _ => hb.block i hi⟩ (by cases hv : v.ownBlock <;> simp)
theorem own_form {w : World} {base : Nat} {e : TypeId} {size : Nat} {v : Value} {n : Nat} {xs : List Value} (h : w.ownsRow base e size v n xs) : ∃ A c, v = .slice A n c := by
  rcases h.2 with ⟨rfl, rfl⟩ | ⟨g, cap, cur, rfl, _⟩
  · exact ⟨_, _, rfl⟩
  · exact ⟨_, _, rfl⟩
def seqZ (g : Nat → Nd) (z : Nat → Int) : Nat → Int := fun t => (itr g z t : Nat)

/-- What PathOf gives for a tree and a document that fit. -/
def PathPost (g : Nat → Nd) (z : Nat → Int) (w : World) (e : Ending) (w' : World) : Prop :=
  ∃ T b c, Ends g z T ∧ T < 15 ∧ e = .returned (.slice (some ⟨b, 0, none⟩) (T + 1) c) ∧ w.heap.size ≤ b ∧ Row w' 2 b (T + 1) (seqZ g z) ∧ Below w.heap.size w w'

theorem path_false {n f : Nat} {g : Nat → Nd} {z : Nat → Int} (h : (docB f z && treeB g n f) = false) : docB f z = false ∨ (docB f z = true ∧ treeB g n f = false) := by
  cases hd : docB f z
  · exact .inl rfl
  · rw [hd] at h; exact .inr ⟨rfl, by simpa using h⟩

end

/-! ### OrB -/
section
set_option linter.unusedVariables false
set_option linter.unusedSimpArgs false
open Go.RowKit Go.Deep

theorem lo_boundO {g : Nat → Nd} {n : Nat} {f : Int} (h : treeB g n f = true) : -1000000000 ≤ loTo g n ∧ loTo g n ≤ 1000000000 := by
  have hT := (treeB_iff g n f).1 h
  rcases loTo_at g n with e | ⟨j, hj, hl, e⟩
  · omega
  · have := hT.leaf hj hl; omega
theorem hi_boundO {g : Nat → Nd} {n : Nat} {f : Int} (h : treeB g n f = true) : -1000000000 ≤ hiTo g n ∧ hiTo g n ≤ 1000000000 := by
  have hT := (treeB_iff g n f).1 h
  rcases hiTo_at g n with e | ⟨j, hj, hl, e⟩
  · omega
  · have := hT.leaf hj hl; omega
theorem tree_moreO {g : Nat → Nd} {n : Nat} {f i : Int} (h : treeB g n f = true) (h1 : f ≤ i) (h6 : i ≤ 6) : treeB g n i = true := by
  rw [treeB_iff] at h ⊢
  obtain ⟨⟨hf1, _⟩, hn, ha⟩ := h
  refine ⟨⟨by omega, h6⟩, hn, fun k hk => ⟨?_, (ha k hk).2⟩⟩
  have := (ha k hk).1
  unfold Node at this ⊢
  split
  · rename_i e; rw [if_pos e] at this; exact this
  · rename_i e
    rw [if_neg e] at this
    refine ⟨?_, this.2⟩
    have hs := this.1
    simp only [spB, Bool.and_eq_true, decide_eq_true_eq] at hs ⊢
    exact ⟨⟨⟨hs.1.1.1, by omega⟩, hs.1.2⟩, hs.2⟩
/-- The number by which a policy sorts a tree. -/
def wtN (pol : Int) (g : Nat → Nd) (n : Nat) : Int := if pol = 2 then loTo g n - hiTo g n else if pol = 3 then dep g 15 0 else 0
theorem wtN_bd (pol : Int) {g : Nat → Nd} {n : Nat} {f : Int} (h : treeB g n f = true) : -2000000000 ≤ wtN pol g n ∧ wtN pol g n ≤ 2000000000 := by
  have h1 := lo_boundO h
  have h2 := hi_boundO h
  have h3 := dep_bd g 15 0
  unfold wtN
  split
  · omega
  · split <;> omega

end

/-! ### RangeLaw -/
section
set_option linter.unusedVariables false
set_option linter.unusedSimpArgs false
open Go.RowKit Go.Deep
end

/-! ### DocWithLaw -/
section
set_option linter.unusedVariables false
set_option linter.unusedSimpArgs false
open Go.RowKit Go.Deep

/-- A slice of no element or over a row of one's own block. -/
theorem rd_of {w : World} {t : TypeId} {b n : Nat} {z : Nat → Int} (h : Row w t b n z) : Rd w w.heap.size (some ⟨b, 0, none⟩) n z := h.rd h.lt
theorem row_grown {w w' : World} {t : TypeId} {b b' n : Nat} {z : Nat → Int} (h : Row w t b n z) (hg : w.grownBy w' (some b')) (hne : b ≠ b') : Row w' t b n z :=
  h.keep (hg.block b h.lt (by simpa using hne))

theorem rd_none {w : World} {B : Nat} {A : Option Addr} {z : Nat → Int} : Rd w B A 0 z := fun h => absurd h (by omega)

end
end Go.Proofs.YtmkipdhappikhaaGreatDoor
