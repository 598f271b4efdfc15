/- Documents in rows and commands, drawn. -/
import Derived.Test.YtmkipdhappikhaaGreatDoorSdU
import Derived.Test.YtmkipdhappikhaaGreatDoorEnsX
import Derived.Test.YtmkipdhappikhaaGreatDoorCmQ
import Derived.Test.YtmkipdhappikhaaGreatDoorCmS
import Derived.Test.YtmkipdhappikhaaGreatDoorEnD
import Derived.Deep.DeepCutAuto
import Derived.Deep.CutBlock
namespace Go.Proofs.YtmkipdhappikhaaGreatDoor

/-! ### SdV -/
section
set_option linter.unusedVariables false
set_option linter.unusedSimpArgs false
open Go.RowKit Go.Deep
set_option linter.unusedVariables false
set_option linter.unusedSimpArgs false

set_option maxHeartbeats 2000000 in
theorem nearW_draw (R n cap : Nat) (A : Option Addr) (lo hi : Int) (w : World) (h : Rs w R A n cap) (h1 : -200000000000 ≤ lo) (h2 : hi ≤ 200000000000) :
    Calls Tryz.prog 99 #[.pointer (some ⟨R, 0, none⟩), .int .i64 lo, .int .i64 hi] w fun e w' =>
      ∃ x : Int, e = .returned (.int .i64 x) ∧ Rs w' R A n cap ∧ w.grownBy w' (some R) := by
  go_enter Tryz.func99, Tryz.ntmps99
  go_wp2_with fail
  refine (below_draw R n cap A 8 _ h (by omega) (by omega)).mono ?_
  rintro e w1 ⟨k, rfl, hk0, hk1, hR1, hg1⟩
  by_cases hk : k = 0
  · subst hk
    go_wp2_with fail
    go_ret
    exact ⟨lo, rfl, hR1, hg1⟩
  by_cases hk' : k = 1
  · subst hk'
    go_wp2_with fail
    go_ret
    exact ⟨hi, rfl, hR1, hg1⟩
  by_cases hlt : hi < lo
  · go_wp2_with fail
    go_ret
    exact ⟨lo, rfl, hR1, hg1⟩
  · go_wp2_with fail
    refine (word_draw R n cap A _ hR1).mono ?_
    rintro e w2 ⟨x, rfl, hx0, hx1, hR2, hg2⟩
    have i1 : (0 : Int) < hi - lo + 1 := by omega
    go_wp2_with fail
    go_ret
    exact ⟨_, rfl, hR2, grown_trans hg1 hg2⟩
set_option maxHeartbeats 2000000 in
theorem offW_draw (R n cap : Nat) (A : Option Addr) (lo hi : Int) (w : World) (h : Rs w R A n cap) (h1 : -200000000000 ≤ lo) (h2 : hi ≤ 200000000000) (h3 : lo ≤ 200000000000) (h4 : -200000000000 ≤ hi) :
    Calls Tryz.prog 64 #[.pointer (some ⟨R, 0, none⟩), .int .i64 lo, .int .i64 hi] w fun e w' =>
      ∃ x : Int, e = .returned (.int .i64 x) ∧ Rs w' R A n cap ∧ w.grownBy w' (some R) := by
  go_enter Tryz.func64, Tryz.ntmps64
  go_wp2_with fail
  refine (once_draw R n cap A 24 _ h (by omega) (by omega)).mono ?_
  rintro e w1 ⟨q, rfl, hR1, hg1⟩
  cases q
  · go_wp2_with fail
    refine (nearW_draw R n cap A lo hi _ hR1 h1 h2).mono ?_
    rintro e w2 ⟨x, rfl, hR2, hg2⟩
    go_wp2_with fail
    go_ret
    exact ⟨x, rfl, hR2, grown_trans hg1 hg2⟩
  · have hRlt := hR1.lt
    go_wp2_with fail
    refine (below_draw R n cap A 4 _ (hR1.alloc _) (by omega) (by omega)).mono ?_
    rintro e w2 ⟨k, rfl, hk0, hk1, hR2, hg2⟩
    have hB := Blk.grown (Blk.new w1 _ _) hg2 (by simp; omega)
    have c0 := hB.cell 0; have c1 := hB.cell 1; have c2 := hB.cell 2; have c3 := hB.cell 3
    simp at c0 c1 c2 c3
    have hgg := grown_trans hg1 (grown_trans (World.grownBy_alloc w1 _ (some R)) hg2)
    have hGG := hid hgg
    clear hB hg2 hgg
    obtain rfl | rfl | rfl | rfl : k = 0 ∨ k = 1 ∨ k = 2 ∨ k = 3 := by omega
    all_goals
      go_wp2_with fail
      go_ret
      exact ⟨_, rfl, hR2, hGG.out⟩
set_option maxRecDepth 100000 in
set_option maxHeartbeats 2000000 in
theorem size512_draw (R n cap : Nat) (A : Option Addr) (w : World) (h : Rs w R A n cap) :
    Calls Tryz.prog 62 #[.pointer (some ⟨R, 0, none⟩), .int .i64 5, .int .i64 12] w fun e w' =>
      ∃ x : Nat, e = .returned (.int .i64 x) ∧ x ≤ 12 ∧ Rs w' R A n cap ∧ w.grownBy w' (some R) := by
  obtain ⟨⟨p, hp, hb⟩, hbs, hn⟩ := id h
  have c0 : w.cell? ⟨R, 0, none⟩ = some (.slice A n cap) := hb.cell 0
  have hq0 : 0 ≤ (n : Int) / 5 := by omega
  have hq1 : (n : Int) / 5 ≤ 2000000 := by omega
  clear hb hp
  go_enter Tryz.func62, Tryz.ntmps62
  by_cases h8 : (12 : Int) < 1 + (n : Int) / 5
  · go_wp2_with fail
    refine (below_any R n cap A 12 _ h (by omega) (by omega)).mono ?_
    rintro e w1 ⟨x, rfl, hx0, hx1, hR1, hg1⟩
    obtain ⟨x, rfl⟩ := Int.eq_ofNat_of_zero_le hx0
    go_wp2_with fail
    go_ret
    exact ⟨1 + x, by simp, by omega, hR1, hg1⟩
  · go_wp2_with fail
    refine (below_any R n cap A (1 + (n : Int) / 5) _ h (by omega) (by omega)).mono ?_
    rintro e w1 ⟨x, rfl, hx0, hx1, hR1, hg1⟩
    obtain ⟨x, rfl⟩ := Int.eq_ofNat_of_zero_le hx0
    go_wp2_with fail
    go_ret
    exact ⟨1 + x, by simp, by omega, hR1, hg1⟩

/-- Rows of drawn documents, each a row of its own from B on. -/
def OwnQ (w : World) (B n : Nat) (Ad : Nat → Option Addr) (len cp : Nat → Nat) (z : Nat → Nat → Int) : Prop :=
  ∀ i, i < n → w.ownsRow B 2 1 (.slice (Ad i) (len i) (cp i)) (len i) (numsOf (len i) (z i)) ∧ ∀ j, j < i → (Value.slice (Ad j) (len j) (cp j)).ownBlock = none ∨ (Value.slice (Ad j) (len j) (cp j)).ownBlock ≠ (Value.slice (Ad i) (len i) (cp i)).ownBlock
end

/-! ### SdW -/
section
set_option linter.unusedVariables false
set_option linter.unusedSimpArgs false
open Go.RowKit Go.Deep
set_option linter.unusedVariables false
set_option linter.unusedSimpArgs false

/-- All blocks are as they were, but R and ob. -/
def KeptO (ob : Option Nat) (R : Nat) (w w' : World) : Prop := ∀ k, k < w.heap.size → k ≠ R → some k ≠ ob → w'.heap[k]? = w.heap[k]?
theorem KeptO.trans {ob : Option Nat} {R : Nat} {a b c : World} (h : KeptO ob R a b) (hs : a.heap.size ≤ b.heap.size) (h' : KeptO ob R b c) : KeptO ob R a c := fun k hk hne ho => (h' k (Nat.lt_of_lt_of_le hk hs) hne ho).trans (h k hk hne ho)
theorem keptO_grown {ob : Option Nat} {R : Nat} {w w' : World} (h : w.grownBy w' (some R)) : KeptO ob R w w' := fun k hk hne _ => h.block k hk (by intro e; injection e with e; exact hne e)
theorem keptO_row {ob : Option Nat} {R : Nat} {w w' : World} (h : w.grownBy w' ob) : KeptO ob R w w' := fun k hk _ ho => h.block k hk ho
theorem keptO_alloc {ob : Option Nat} {R : Nat} (w : World) (o : Obj) : KeptO ob R w (w.alloc o) := fun k hk _ _ => Below.heap_alloc w o k hk
theorem keptO_set {ob : Option Nat} {R : Nat} (w : World) {p : Addr} (hp : ob = some p.block) (u : Value) : KeptO ob R w (w.setCell p u) := fun k hk _ ho => Below.heap_setCell _ _ _ k (fun e => ho (by rw [hp, e]))
section
set_option maxRecDepth 100000
set_option maxHeartbeats 4000000
theorem hurtDoc_keptO (R n cap B : Nat) (A A' : Option Addr) (m c : Nat) (z : Nat → Int) (w : World) (h : Rs w R A n cap) (hB : R < B) (hBw : B ≤ w.heap.size) (hm : m ≤ 16) (hown : w.ownsRow B 2 1 (.slice A' m c) m (numsOf m z)) :
    Calls Tryz.prog 106 #[.pointer (some ⟨R, 0, none⟩), .slice A' m c] w (fun e w' => DocDrawn R n cap A w e w' ∧ KeptO (Value.slice A' m c).ownBlock R w w') := by
  obtain ⟨i0, hi0, hz0, hz1, hz2⟩ := info_parts info_int
  have hRw := h.lt
  go_enter Tryz.func106, Tryz.ntmps106
  go_wp2_with fail
  refine (below_draw R n cap A 30 _ h (by omega) (by omega)).mono ?_
  rintro e w1 ⟨k, rfl, hk0, hk1, hR1, hg1⟩
  have hown1 := own_grown hown hg1 hB
  have hb1 := below_grown hg1 hRw
  have hRw1 := hR1.lt
  have hs1 := hg1.size
  have hq1 := keptO_grown (ob := (Value.slice A' m c).ownBlock) hg1
  clear hg1 hown
  by_cases e0 : k = 0
  · subst e0
    go_wp2_with (at_builtin; refine wpList_append_own _ rfl (.tmp 9) (.tmp 10) 67 rfl B 2 i0 (.int .i64 0) 1 8 Tryz.underlying67 hi0 hz0 hz1 hz2 rfl (by decide) _ m _ rfl (hown1.alloc _) ⟨w1.heap.size, 0, none⟩ 1 1 [.int .i64 0] rfl rfl (cell_one_new _ _ _) (by intro u hu; simp at hu; subst hu; rfl) (by unfold maxLen; omega) (by omega) (by simp; omega) ?_)
    intro v' w3 hown3 hg3 _
    have hR3 := rs_own (B := B) hR1 _ hg3 (fun x hx => (hown1.lt x hx).1) hB
    have hb3 : Below R w1 w3 := ((Below.refl R w1).alloc (by omega) _).grown hg3 (by simp; omega) (fun x hx => by have := (hown1.lt x hx).1; omega)
    obtain ⟨A3, c3, rfl⟩ := own_form hown3
    have hk3 : KeptO (Value.slice A' m c).ownBlock R w1 w3 := (keptO_alloc w1 _).trans (by simp) (keptO_row hg3)
    clear hg3
    go_wp2_with fail
    go_ret
    exact ⟨⟨m + 1, ext z m 0, A3, c3, by omega, rfl, rd_own hB (by rw [numsOf_ext]; exact hown3), hR3, hb1.trans hb3⟩, hq1.trans hs1 hk3⟩
  by_cases e1 : k = 1
  · subst e1
    go_wp2_with fail
    go_ret
    exact ⟨⟨0, nul, none, 0, by omega, rfl, (fun h => absurd h (by omega)), hR1, hb1⟩, hq1⟩
  by_cases e2 : k = 2
  · subst e2
    by_cases hm0 : 0 < m
    · have i1 : (0 : Int) < (m : Int) := by omega
      go_wp2_with fail
      refine (off_draw R n cap A (-1000000) 1000000 _ hR1 (by omega) (by omega) (by omega) (by omega)).mono ?_
      rintro e w2 ⟨x, rfl, hR2, hg2⟩
      have hown2 := own_grown hown1 hg2 hB
      have hb2 := below_grown hg2 hRw1
      obtain ⟨g, c', hv, hgB, hr⟩ := own_row hown2 hm0
      injection hv with ev1 ev2 ev3
      subst ev1
      have hc := hr.cell hm0
      have hf := hr.frozen 0
      have hbb := hb1.trans hb2
      have hkk := hq1.trans hs1 (keptO_grown hg2)
      have hne : R < g := by omega
      have hss2 := hg2.size
      clear hg2 hown2 hown1 hb1 hb2
      go_wp2_with fail
      go_ret
      refine ⟨⟨m, _, _, _, by omega, rfl, (fun _ => ⟨g, rfl, by omega, hr.set_ (i := 0) x⟩), ?_, hbb.setCell (by simp; omega) _⟩, hkk.trans (Nat.le_trans hs1 hss2) (keptO_set _ rfl _)⟩
      exact hR2.keep fun b hb => Below.heap_setCell _ _ _ b (by simp; omega)
    · have i1 : ¬ (0 : Int) < (m : Int) := by omega
      have hm00 : m = 0 := by omega
      subst hm00
      go_wp2_with fail
      go_ret
      exact ⟨⟨0, nul, _, c, by omega, rfl, (fun h => absurd h (by omega)), hR1, hb1⟩, hq1⟩
  by_cases e3 : k = 3
  · subst e3
    have hmk6 := run_make_row' (P := Tryz.prog) 67 2 (.int .i64 0) 8 Tryz.underlying67 info_int rfl .i64 .i64 6 (by omega) (by omega)
    have hmk7 := run_make_row' (P := Tryz.prog) 67 2 (.int .i64 0) 8 Tryz.underlying67 info_int rfl .i64 .i64 7 (by omega) (by omega)
    simp only [Int.cast_ofNat_Int] at hmk6 hmk7
    go_wp2_with fail
    refine (below_draw R n cap A 2 _ hR1 (by omega) (by omega)).mono ?_
    rintro e w2 ⟨x, rfl, hx0, hx1, hR2, hg2⟩
    have hbb := hb1.trans (below_grown hg2 hRw1)
    have hkk := hq1.trans hs1 (keptO_grown hg2)
    have hs2 := hg2.size
    have hRw2 := hR2.lt
    clear hg2 hb1
    obtain rfl | rfl : x = 0 ∨ x = 1 := by omega
    · clear hmk7
      go_wp2_with fail
      go_ret
      exact ⟨⟨6, nul, _, 6, by omega, rfl, (fun _ => ⟨_, rfl, hRw2, _, Blk.new w2 _ _, by simp [madeCells], fun j hj => by simp [madeCells, hj, nul, Nat.mod_one]⟩), hR2.alloc _, hbb.alloc (by omega) _⟩, hkk.trans (Nat.le_trans hs1 hs2) (keptO_alloc _ _)⟩
    · clear hmk6
      go_wp2_with fail
      go_ret
      exact ⟨⟨7, nul, _, 7, by omega, rfl, (fun _ => ⟨_, rfl, hRw2, _, Blk.new w2 _ _, by simp [madeCells], fun j hj => by simp [madeCells, hj, nul, Nat.mod_one]⟩), hR2.alloc _, hbb.alloc (by omega) _⟩, hkk.trans (Nat.le_trans hs1 hs2) (keptO_alloc _ _)⟩
  · go_wp2_with fail
    go_ret
    exact ⟨⟨m, z, A', c, by omega, rfl, rd_own hB hown1, hR1, hb1⟩, hq1⟩
end
section
variable {w w' : World} {B n R : Nat} {Ad : Nat → Option Addr} {len cp : Nat → Nat} {z : Nat → Nat → Int}
theorem ownQ_nil : OwnQ w B 0 Ad len cp z := fun i hi => absurd hi (Nat.not_lt_zero i)
theorem OwnQ.grown (h : OwnQ w B n Ad len cp z) (hg : w.grownBy w' (some R)) (hR : R < B) : OwnQ w' B n Ad len cp z := fun i hi => ⟨own_grown (h i hi).1 hg hR, (h i hi).2⟩
theorem OwnQ.alloc (h : OwnQ w B n Ad len cp z) (o : Obj) : OwnQ (w.alloc o) B n Ad len cp z := fun i hi => ⟨(h i hi).1.alloc o, (h i hi).2⟩
theorem OwnQ.row {B2 m : Nat} {v : Value} {xs : List Value} (h : OwnQ w B n Ad len cp z) (hown : w.ownsRow B2 67 1 v m xs) (hg : w.grownBy w' v.ownBlock) : OwnQ w' B n Ad len cp z := fun i hi => ⟨(h i hi).1.kept hg (own_apart (h i hi).1 hown (by decide)), (h i hi).2⟩
theorem OwnQ.push {A : Option Addr} {m c : Nat} {y : Nat → Int} (h : OwnQ w B n Ad len cp z) (hA : w.ownsRow B 2 1 (.slice A m c) m (numsOf m y)) (hne : ∀ i, i < n → (Value.slice (Ad i) (len i) (cp i)).ownBlock = none ∨ (Value.slice (Ad i) (len i) (cp i)).ownBlock ≠ (Value.slice A m c).ownBlock) : OwnQ w B (n + 1) (updQ Ad n A) (updQ len n m) (updQ cp n c) (updQ z n y) := fun i hi => by
  by_cases e : i = n
  · subst e
    rw [updQ_same, updQ_same, updQ_same, updQ_same]
    refine ⟨hA, fun j hj => ?_⟩
    rw [updQ_other (by omega), updQ_other (by omega), updQ_other (by omega)]
    exact hne j hj
  · rw [updQ_other e, updQ_other e, updQ_other e, updQ_other e]
    refine ⟨(h i (by omega)).1, fun j hj => ?_⟩
    rw [updQ_other (by omega), updQ_other (by omega), updQ_other (by omega)]
    exact (h i (by omega)).2 j hj
theorem own_new {w1 : World} {B1 B2 m m2 : Nat} {e e2 : TypeId} {s1 s2 : Nat} {v v2 : Value} {xs xs2 : List Value} (h : w.ownsRow B1 e s1 v m xs) (h2 : w1.ownsRow B2 e2 s2 v2 m2 xs2) (hB : w.heap.size ≤ B2) : v.ownBlock = none ∨ v.ownBlock ≠ v2.ownBlock := by
  cases hv : v.ownBlock with
  | none => exact .inl rfl
  | some x =>
    refine .inr fun e => ?_
    have h1 := (h.lt x hv).2
    have h3 := (h2.lt x e.symm).1
    omega
end
/-- What is known while documents are drawn in rows. -/
structure GT (w0 : World) (R n cap : Nat) (A : Option Addr) (D : Option Addr) (m c : Nat) (Ad : Nat → Option Addr) (len cp : Nat → Nat) (z : Nat → Nat → Int) (W : World) : Prop where
  rows : W.ownsRow w0.heap.size 67 1 (.slice D m c) m (hdQ m Ad len cp)
  docs : OwnQ W w0.heap.size m Ad len cp z
  lens : ∀ i, i < m → len i ≤ 16
  rs : Rs W R A n cap
  gr : w0.grownBy W (some R)
end

/-! ### SdX -/
section
set_option linter.unusedVariables false
set_option linter.unusedSimpArgs false
open Go.RowKit Go.Deep
set_option linter.unusedVariables false
set_option linter.unusedSimpArgs false

section
variable {w0 W W1 w3 : World} {R n cap : Nat} {A D D3 : Option Addr} {m c : Nat} {Ad : Nat → Option Addr} {len cp : Nat → Nat} {z : Nat → Nat → Int}
theorem GT.grownR (h : GT w0 R n cap A D m c Ad len cp z W) (hR1 : Rs W1 R A n cap) (hg : W.grownBy W1 (some R)) (hRw : R < w0.heap.size) : GT w0 R n cap A D m c Ad len cp z W1 := ⟨own_grown h.rows hg hRw, h.docs.grown hg hRw, h.lens, hR1, grown_trans h.gr hg⟩
theorem GT.push (h : GT w0 R n cap A D m c Ad len cp z W) {A4 : Option Addr} {f c3 c4 : Nat} {y : Nat → Int} (hA : W.ownsRow w0.heap.size 2 1 (.slice A4 f c4) f (numsOf f y)) (hne : ∀ i, i < m → (Value.slice (Ad i) (len i) (cp i)).ownBlock = none ∨ (Value.slice (Ad i) (len i) (cp i)).ownBlock ≠ (Value.slice A4 f c4).ownBlock) (hf : f ≤ 16) (O : Obj)
    (hown3 : w3.ownsRow w0.heap.size 67 1 (.slice D3 (m + 1) c3) (m + 1) (hdQ m Ad len cp ++ [.slice A4 f c4])) (hg3 : (W.alloc O).grownBy w3 (Value.slice D m c).ownBlock) (hRw : R < w0.heap.size) :
    GT w0 R n cap A D3 (m + 1) c3 (updQ Ad m A4) (updQ len m f) (updQ cp m c4) (updQ z m y) w3 := by
  have hlo : ∀ x, (Value.slice D m c).ownBlock = some x → w0.heap.size ≤ x := fun x hx => (h.rows.lt x hx).1
  refine ⟨?_, ((h.docs.push hA hne).alloc O).row (h.rows.alloc O) hg3, fun i hi => ?_, rs_own (B := w0.heap.size) h.rs O hg3 hlo hRw, grown_own h.gr O hg3 hlo⟩
  · rw [hdQ_push]; exact hown3
  · by_cases e : i = m
    · subst e; rw [updQ_same]; exact hf
    · rw [updQ_other e]; exact h.lens i (by omega)
end
theorem GT.alloc {w0 W : World} {R n cap : Nat} {A D : Option Addr} {m c : Nat} {Ad : Nat → Option Addr} {len cp : Nat → Nat} {z : Nat → Nat → Int} (h : GT w0 R n cap A D m c Ad len cp z W) (O : Obj) : GT w0 R n cap A D m c Ad len cp z (W.alloc O) := ⟨h.rows.alloc O, h.docs.alloc O, h.lens, h.rs.alloc O, grown_trans h.gr (World.grownBy_alloc W O _)⟩
theorem made_own (W : World) {base : Nat} (f : Nat) (hb : base ≤ W.heap.size) (hf : f ≤ 16) : (W.alloc (.cells (madeCells #[.int .i64 0] f) 2)).ownsRow base 2 1 (.slice (some ⟨W.heap.size, 0, none⟩) f f) f (numsOf f nul) := by
  have h := World.ownsRow_lit (base := base) (e := 2) (size := 1) W (madeCells #[.int .i64 0] f) f hb (by unfold maxLen; omega) (by simp [madeCells])
  have e : (madeCells #[.int .i64 0] f).toList = numsOf f nul := by
    rw [toList_madeCells_one]
    apply List.ext_getElem?
    intro i
    unfold numsOf nul
    by_cases hi : i < f
    · simp [hi]
    · simp [hi]
  rw [e] at h
  exact h
def DocsDrawn (R n cap : Nat) (A : Option Addr) (w : World) (e : Ending) (w' : World) : Prop :=
  ∃ (m : Nat) (D : Option Addr) (c : Nat) (Ad : Nat → Option Addr) (len cp : Nat → Nat) (z : Nat → Nat → Int), m ≤ 21 ∧ e = .returned (.slice D m c) ∧ GT w R n cap A D m c Ad len cp z w'

set_option maxRecDepth 100000 in
set_option maxHeartbeats 4000000 in
theorem docs_draw (R n cap : Nat) (A : Option Addr) (f : Nat) (w : World) (h : Rs w R A n cap) (hf : f ≤ 16) :
    Calls Tryz.prog 82 #[.pointer (some ⟨R, 0, none⟩), .int .i64 f] w (DocsDrawn R n cap A w) := by
  obtain ⟨i0, hi0, hz0, hz1, hz2⟩ := info_intsQ
  have hRw := h.lt
  go_enter Tryz.func82, Tryz.ntmps82
  go_wp2_with fail
  refine (size512_draw R n cap A _ (h.alloc _)).mono ?_
  rintro e w1 ⟨x, rfl, hx, hR1, hg1⟩
  have HG1 : Hid (GT w R n cap A (some ⟨w.heap.size, 0, none⟩) 0 0 (fun _ => none) (fun _ => 0) (fun _ => 0) (fun _ _ => 0) w1) :=
    ⟨own_grown (World.ownsRow_made w #[] 0 (Nat.le_refl _) (by unfold maxLen; omega) rfl) hg1 hRw, ownQ_nil, fun i hi => absurd hi (Nat.not_lt_zero i), hR1, grown_trans (World.grownBy_alloc w _ _) hg1⟩
  clear hR1 hg1
  go_wp2_with fail
  go_loopw [5, 6] (fun o i wr => ∃ (m r : Nat) (D : Option Addr) (c : Nat) (Ad : Nat → Option Addr) (len cp : Nat → Nat) (z : Nat → Nat → Int), m + r ≤ 12 ∧ i = .int .i64 r ∧ o = .slice D m c ∧ Hid (GT w R n cap A D m c Ad len cp z wr)) (fun _ i _ => (intOf i).toNat)
  case atStart => exact ⟨0, x, _, _, _, _, _, _, by omega, rfl, rfl, HG1⟩
  case round =>
    clear HG1
    obtain ⟨m, r, D, c, Ad, len, cp, z, hmr, rfl, rfl, hG⟩ := hrel
    by_cases hr : 0 < r
    · obtain ⟨r, rfl⟩ : ∃ r', r = r' + 1 := ⟨r - 1, by omega⟩
      have i1 : (0 : Int) < ((r + 1 : Nat) : Int) := by omega
      have hR := hG.out.rs
      go_wp2_with fail
      refine (doc_draw R n cap A f _ hR hf).mono ?_
      rintro e w2 ⟨y, A4, c4, rfl, hown4, hR2, hg2⟩
      have hG2 := hG.out.grownR hR2 hg2 hRw
      have hne : ∀ i, i < m → (Value.slice (Ad i) (len i) (cp i)).ownBlock = none ∨ (Value.slice (Ad i) (len i) (cp i)).ownBlock ≠ (Value.slice A4 f c4).ownBlock := fun i hi => own_new (hG.out.docs i hi).1 hown4 (Nat.le_refl _)
      have hA := own_weak hown4 hG.out.gr.size
      have hsw : w.heap.size ≤ w2.heap.size := hG2.gr.size
      have HG2 := hid hG2
      have HA := hid hA
      have HNE := hid hne
      clear hG hR hown4 hR2 hg2 hG2 hA hne
      go_wp2_with (at_builtin; refine wpList_append_own _ rfl (.tmp 14) (.tmp 18) 33 rfl w.heap.size 67 i0 (.slice none 0 0) 1 24 Tryz.underlying33 hi0 hz0 hz1 hz2 rfl (by decide) _ m _ rfl (HG2.out.rows.alloc _) ⟨w2.heap.size, 0, none⟩ 1 1 [.slice A4 f c4] rfl rfl (cell_one_new _ _ _) (by intro u hu; simp at hu; subst hu; rfl) (by unfold maxLen; omega) (by omega) (by simp; omega) ?_)
      intro v' w3 hown3 hg3 _
      obtain ⟨A3, c3, rfl⟩ := own_form hown3
      have HG3 := hid (HG2.out.push HA.out HNE.out hf _ hown3 hg3 hRw)
      clear hown3 hg3 HG2 HA HNE
      go_wp2_with fail
      go_roundw
      case rel => exact ⟨m + 1, r, A3, c3, _, _, _, _, by omega, by go_num, rfl, HG3⟩
      case measure => simp [intOf]
    · obtain rfl : r = 0 := by omega
      have hR := hG.out.rs
      go_wp2_with fail
      refine (once_draw R n cap A 30 _ hR (by omega) (by omega)).mono ?_
      rintro e w2 ⟨q, rfl, hR2, hg2⟩
      have HG2 := hid (hG.out.grownR hR2 hg2 hRw)
      have hm12 : m ≤ 12 := by omega
      clear hG hR hR2 hg2 hmr
      cases q
      · go_wp2_with fail
        go_ret
        exact ⟨m, D, c, Ad, len, cp, z, by omega, rfl, HG2.out⟩
      · go_wp2_with fail
        go_loopw [5] (fun o wr => ∃ (m : Nat) (D : Option Addr) (c : Nat) (Ad : Nat → Option Addr) (len cp : Nat → Nat) (z : Nat → Nat → Int), m ≤ 21 ∧ o = .slice D m c ∧ Hid (GT w R n cap A D m c Ad len cp z wr)) (fun o _ => match o with | .slice _ m _ => 21 - m | _ => 0)
        case atStart => exact ⟨m, D, c, Ad, len, cp, z, by omega, rfl, HG2⟩
        case round =>
          clear HG2
          obtain ⟨m, D, c, Ad, len, cp, z, hm, rfl, hG⟩ := hrel
          obtain ⟨⟨p, hp, hb⟩, hbs, hn⟩ := id hG.out.rs
          have c0 : wr.cell? ⟨R, 0, none⟩ = some (.slice A n cap) := hb.cell 0
          have hq0 : 0 ≤ (n : Int) % 3 := by omega
          have hq1 : (n : Int) % 3 < 3 := by omega
          clear hb hp hbs hn
          by_cases hlt : (m : Int) < 19 + (n : Int) % 3
          · have hmk := run_make_row' (P := Tryz.prog) 67 2 (.int .i64 0) 8 Tryz.underlying67 info_int rfl .i64 .i64 f (by omega) (by omega)
            have hsw : w.heap.size ≤ wr.heap.size := hG.out.gr.size
            have HG2 := hid (hG.out.alloc (.cells (madeCells #[.int .i64 0] f) 2))
            have HA := hid (made_own wr f hsw hf)
            have HNE : Hid (∀ i, i < m → (Value.slice (Ad i) (len i) (cp i)).ownBlock = none ∨ (Value.slice (Ad i) (len i) (cp i)).ownBlock ≠ (Value.slice (some ⟨wr.heap.size, 0, none⟩) f f).ownBlock) := fun i hi => own_new (hG.out.docs i hi).1 (made_own wr f (Nat.le_refl _) hf) (Nat.le_refl _)
            have hm21 : m + 1 ≤ 21 := by omega
            clear hG
            go_wp2_with (at_builtin; refine wpList_append_own _ rfl (.tmp 32) (.tmp 35) 33 rfl w.heap.size 67 i0 (.slice none 0 0) 1 24 Tryz.underlying33 hi0 hz0 hz1 hz2 rfl (by decide) _ m _ rfl (HG2.out.rows.alloc _) ⟨wr.heap.size + 1, 0, none⟩ 1 1 [.slice (some ⟨wr.heap.size, 0, none⟩) f f] rfl rfl (by have := cell_one_new (wr.alloc (.cells (madeCells #[.int .i64 0] f) 2)) (.slice (some ⟨wr.heap.size, 0, none⟩) f f) 67; rw [World.size_alloc] at this; exact this) (by intro u hu; simp at hu; subst hu; rfl) (by unfold maxLen; omega) (by omega) (by simp; omega) ?_)
            intro v' w3 hown3 hg3 _
            obtain ⟨A3, c3, rfl⟩ := own_form hown3
            have HG3 := hid (HG2.out.push HA.out HNE.out hf _ hown3 hg3 hRw)
            clear hown3 hg3 HG2 HA HNE
            go_wp2_with fail
            go_roundw
            case rel => exact ⟨m + 1, A3, c3, _, _, _, _, hm21, rfl, HG3⟩
            case measure => simp; omega
          · go_wp2_with fail
            go_ret
            exact ⟨m, D, c, Ad, len, cp, z, by omega, rfl, hG.out⟩
end

/-! ### SdY -/
section
set_option linter.unusedVariables false
set_option linter.unusedSimpArgs false
open Go.RowKit Go.Deep
set_option linter.unusedVariables false
set_option linter.unusedSimpArgs false

/-- A slice of drawn documents. -/
def DQ (W : World) (R : Nat) (D : Option Addr) (m c : Nat) : Prop :=
  ∃ (B : Nat) (Ad : Nat → Option Addr) (len cp : Nat → Nat) (z : Nat → Nat → Int), R < B ∧ B ≤ W.heap.size ∧ m ≤ 21 ∧ m ≤ c ∧ (∀ i, i < m → len i ≤ 16) ∧ OwnQ W B m Ad len cp z ∧
    (0 < m → ∃ gg off cs, D = some ⟨gg, off, none⟩ ∧ R < gg ∧ Blk W gg 67 cs ∧ ∀ i, i < m → W.cell? ⟨gg, off + i, none⟩ = some (.slice (Ad i) (len i) (cp i)))
section
variable {W W' w0 : World} {R n cap m c g : Nat} {A D : Option Addr} {cs : Array Value}
theorem dq_nil (hR : R < W.heap.size) : DQ W R none 0 0 := ⟨W.heap.size, fun _ => none, fun _ => 0, fun _ => 0, fun _ _ => 0, hR, Nat.le_refl _, by omega, Nat.le_refl _, fun i hi => absurd hi (Nat.not_lt_zero i), ownQ_nil, fun h => absurd h (by omega)⟩
theorem DQ.grown (h : DQ W R D m c) (hg : W.grownBy W' (some R)) : DQ W' R D m c := by
  obtain ⟨B, Ad, len, cp, z, h1, hB, h2, h3, h4, h5, h6⟩ := h
  refine ⟨B, Ad, len, cp, z, h1, Nat.le_trans hB hg.size, h2, h3, h4, h5.grown hg h1, fun h0 => ?_⟩
  obtain ⟨gg, off, cs, e, hlt, hb, hc⟩ := h6 h0
  have hk := hg.block gg hb.lt (by intro e; injection e with e; omega)
  exact ⟨gg, off, cs, e, hlt, hk.trans hb, fun i hi => (World.cell?_of_block hk).trans (hc i hi)⟩
theorem DQ.far (h : DQ W R D m c) (hg : Blk W g 35 cs) (hs : W'.heap.size = W.heap.size) (hk : ∀ x, x ≠ g → W'.heap[x]? = W.heap[x]?) : DQ W' R D m c := by
  obtain ⟨B, Ad, len, cp, z, h1, hB, h2, h3, h4, h5, h6⟩ := h
  refine ⟨B, Ad, len, cp, z, h1, by omega, h2, h3, h4, fun i hi => ⟨own_keepJ (h5 i hi).1 fun x _ _ hx => hk x fun e => own_ne_blk (h5 i hi).1 hg (by decide) (by rw [hx, e]), (h5 i hi).2⟩, fun h0 => ?_⟩
  obtain ⟨gg, off, cs', e, hlt, hb, hc⟩ := h6 h0
  have hq := hk gg (hb.ne_ hg (by decide))
  exact ⟨gg, off, cs', e, hlt, hq.trans hb, fun i hi => (World.cell?_of_block hq).trans (hc i hi)⟩
theorem DQ.alloc (h : DQ W R D m c) (O : Obj) : DQ (W.alloc O) R D m c := h.grown (World.grownBy_alloc W O _)
theorem DQ.tail {gg off : Nat} (h : DQ W R (some ⟨gg, off, none⟩) (m + 1) c) : DQ W R (some ⟨gg, off + 1, none⟩) m (c - 1) := by
  obtain ⟨B, Ad, len, cp, z, h1, hB, h2, h3, h4, h5, h6⟩ := h
  obtain ⟨g', off', cs, e, hlt, hb, hc⟩ := h6 (Nat.succ_pos _)
  injection e with e
  injection e with e1 e2 _
  subst e1 e2
  refine ⟨B, fun i => Ad (i + 1), fun i => len (i + 1), fun i => cp (i + 1), fun i => z (i + 1), h1, hB, by omega, by omega, fun i hi => h4 (i + 1) (by omega), fun i hi => ⟨(h5 (i + 1) (by omega)).1, fun j hj => (h5 (i + 1) (by omega)).2 (j + 1) (by omega)⟩, fun _ => ⟨gg, off + 1, cs, rfl, hlt, hb, fun i hi => ?_⟩⟩
  rw [Nat.add_assoc, Nat.add_comm 1 i]
  exact hc (i + 1) (by omega)
theorem DQ.head (h : DQ W R D m c) (h0 : 0 < m) : ∃ gg off, D = some ⟨gg, off, none⟩ := by
  obtain ⟨B, Ad, len, cp, z, _, _, _, _, _, _, h6⟩ := h
  obtain ⟨gg, off, cs, e, _⟩ := h6 h0
  exact ⟨gg, off, e⟩
theorem DQ.le (h : DQ W R D m c) : m ≤ 21 ∧ m ≤ c := by
  obtain ⟨B, Ad, len, cp, z, _, _, h2, h3, _⟩ := h
  exact ⟨h2, h3⟩
theorem DQ.rdq (h : DQ W R D m c) : ∃ len z, RdQ W W.heap.size D m len z ∧ ∀ i, i < m → len i ≤ 16 := by
  obtain ⟨B, Ad, len, cp, z, h1, hB, h2, h3, h4, h5, h6⟩ := h
  refine ⟨len, z, fun h0 => ?_, h4⟩
  obtain ⟨gg, off, cs, e, hlt, hb, hc⟩ := h6 h0
  refine ⟨gg, off, e, hb.lt, fun i hi => ⟨Ad i, cp i, hc i hi, fun hl => ?_⟩⟩
  obtain ⟨g', c', hv, hg, hr⟩ := own_row (h5 i hi).1 hl
  injection hv with e1 _ _
  rw [e1]
  exact (rd_of hr) hl
theorem GT.dq {Ad : Nat → Option Addr} {len cp : Nat → Nat} {z : Nat → Nat → Int} (h : GT w0 R n cap A D m c Ad len cp z W) (hm : m ≤ 21) (hR : R < w0.heap.size) : DQ W R D m c := by
  refine ⟨w0.heap.size, Ad, len, cp, z, hR, h.gr.size, hm, ?_, h.lens, h.docs, fun h0 => ?_⟩
  · rcases h.rows.2 with ⟨hv, h0⟩ | ⟨gg, cap, cur, hv, _, _, hc, _⟩
    · omega
    · injection hv with _ _ hC
      omega
  · obtain ⟨gb, e, hb, hlt, hc⟩ := own_at1 h.rows h0
    rcases h.rows.2 with ⟨_, hz⟩ | ⟨gb', cap', cur, hv, _, hh, _⟩
    · omega
    · injection hv with hA _ _
      have : gb = gb' := by rw [e] at hA; injection hA with hA; injection hA
      subst this
      exact ⟨gb, 0, cur, e, by omega, hh, fun i hi => by rw [Nat.zero_add]; exact hc i _ (hdQ_at hi)⟩
end
/-- What is known while a command is drawn. -/
structure GB (w0 : World) (R n cap : Nat) (A : Option Addr) (q : Nat) (k a b t : Int) (D : Option Addr) (m c : Nat) (x : ByteArray) (W : World) : Prop where
  res : Blk W w0.heap.size 35 zC
  cmd : Blk W q 35 (cmC k a b t D m c x)
  lt0 : w0.heap.size < q
  rs : Rs W R A n cap
  dq : DQ W R D m c
  gr : w0.grownBy W (some R)
section
variable {w0 W W1 : World} {R n cap q m c : Nat} {A D : Option Addr} {k a b t : Int} {x : ByteArray}
theorem GB.grown (h : GB w0 R n cap A q k a b t D m c x W) (hR1 : Rs W1 R A n cap) (hg : W.grownBy W1 (some R)) (hRw : R < w0.heap.size) : GB w0 R n cap A q k a b t D m c x W1 :=
  have h0 := h.lt0
  ⟨h.res.grown hg (by intro e; injection e with e; omega), h.cmd.grown hg (by intro e; injection e with e; omega), h0, hR1, h.dq.grown hg, grown_trans h.gr hg⟩
theorem GB.set (h : GB w0 R n cap A q k a b t D m c x W) (hRw : R < w0.heap.size) (o : Nat) (v : Value) {k' a' b' t' : Int} {D' : Option Addr} {m' c' : Nat} {x' : ByteArray} (hv : (cmC k a b t D m c x).setIfInBounds o v = cmC k' a' b' t' D' m' c' x') (hd : DQ W R D' m' c') : GB w0 R n cap A q k' a' b' t' D' m' c' x' (W.setCell ⟨q, o, none⟩ v) := by
  have h0 := h.lt0
  refine ⟨h.res.far (p := ⟨q, o, none⟩) (by show w0.heap.size ≠ q; omega) _, ?_, h0, rs_set h.rs (p := ⟨q, o, none⟩) (by show R < q; omega) _, hd.far h.cmd (by simp [World.setCell]) (fun y hy => Below.heap_setCell _ _ _ y hy), grown_setNew h.gr (p := ⟨q, o, none⟩) (by show w0.heap.size ≤ q; omega) _⟩
  rw [← hv]
  exact h.cmd.set_ o v
end
end

/-! ### SdZ -/
section
set_option linter.unusedVariables false
set_option linter.unusedSimpArgs false
open Go.RowKit Go.Deep
set_option linter.unusedVariables false
set_option linter.unusedSimpArgs false

@[go_sem] theorem buildCmd2 (k : Int) (D : Option Addr) (m c : Nat) (w : World) : (Instr.build 35 #[(0, .int .i64 k), (4, .slice D m c)]).run Tryz.prog w = .ok (cmV k 0 0 0 D m c ⟨#[]⟩) w := run_build w 35 _ _ (by kernel_rfl)
def CmdDrawn (R n cap : Nat) (A : Option Addr) (w : World) (e : Ending) (w' : World) : Prop :=
  ∃ (k a b t : Int) (D : Option Addr) (m c : Nat) (x : ByteArray), e = .returned (cmV k a b t D m c x) ∧ x.size ≤ 7841 ∧ DQ w' R D m c ∧ Rs w' R A n cap ∧ w.grownBy w' (some R)
theorem GB.fin {w0 W : World} {R n cap q m c : Nat} {A D : Option Addr} {k a b t : Int} {x : ByteArray} (h : GB w0 R n cap A q k a b t D m c x W) (hRw : R < w0.heap.size) (hx : x.size ≤ 7841) (v0 v1 v2 v3 v4 v5 : Value) :
    CmdDrawn R n cap A w0 (.returned (cmV k a b t D m c x)) (set6 W w0.heap.size v0 v1 v2 v3 v4 v5) := by
  refine ⟨k, a, b, t, D, m, c, x, rfl, hx, h.dq.far h.res set6_size fun y hy => set6_far hy, h.rs.keep fun b hb => set6_far (by omega), ?_⟩
  exact grown_setNew (grown_setNew (grown_setNew (grown_setNew (grown_setNew (grown_setNew h.gr (Nat.le_refl _) _) (Nat.le_refl _) _) (Nat.le_refl _) _) (Nat.le_refl _) _) (Nat.le_refl _) _) (Nat.le_refl _) _

set_option maxRecDepth 100000 in
set_option maxHeartbeats 4000000 in
theorem cmd_draw (R n cap : Nat) (A : Option Addr) (f : Int) (hf1 : 1 ≤ f) (hf6 : f ≤ 6) (w : World) (h : Rs w R A n cap) :
    Calls Tryz.prog 43 #[.pointer (some ⟨R, 0, none⟩), .int .i64 f] w (CmdDrawn R n cap A w) := by
  have hRw := h.lt
  obtain ⟨fn, rfl⟩ := Int.eq_ofNat_of_zero_le (show 0 ≤ f by omega)
  go_enter Tryz.func43, Tryz.ntmps43
  go_wp2_with fail
  refine (below_draw R n cap A 5 _ (h.alloc _) (by omega) (by omega)).mono ?_
  rintro e w1 ⟨k0, rfl, hk0, hk1, hR1, hg1⟩
  have hB1 : Blk w1 w.heap.size 35 zC := (Blk.new w 35 zC).grown hg1 (by intro e; injection e with e; omega)
  have hw1 : w.grownBy w1 (some R) := grown_trans (World.grownBy_alloc w _ _) hg1
  clear hg1
  go_wp2_with fail
  refine (docs_draw R n cap A fn w1 hR1 (by omega)).mono ?_
  rintro e w2 ⟨m, D, c, Ad, len, cp, z, hm, rfl, hGT⟩
  have hR1w := hR1.lt
  have hdq := hGT.dq hm hR1w
  have hB2 := hB1.grown hGT.gr (by intro e; injection e with e; omega)
  have hw2 := grown_trans hw1 hGT.gr
  have hR2 := hGT.rs
  have HG3 : Hid (GB w R n cap A w2.heap.size (1 + k0) 0 0 0 D m c ⟨#[]⟩ (w2.alloc (.cells (cmC (1 + k0) 0 0 0 D m c ⟨#[]⟩) 35))) :=
    ⟨hB2.alloc _, Blk.new w2 _ _, hB2.lt, hR2.alloc _, hdq.alloc _, grown_trans hw2 (World.grownBy_alloc w2 _ _)⟩
  clear hGT hR1 hB1 hw1 hdq hB2 hw2 hR2
  go_wp2_with fail
  generalize w2.alloc (.cells (cmC (1 + k0) 0 0 0 D m c ⟨#[]⟩) 35) = W3 at HG3 ⊢
  generalize w2.heap.size = q at HG3 ⊢
  obtain ⟨k3, hk3⟩ : ∃ k3, 1 + k0 = k3 := ⟨_, rfl⟩
  rw [hk3] at HG3
  have hk31 : 1 ≤ k3 := by omega
  have hk35 : k3 ≤ 5 := by omega
  clear hk3 hk0 hk1
  refine (once_draw R n cap A 2 _ HG3.out.rs (by omega) (by omega)).mono ?_
  rintro e w4 ⟨qb, rfl, hR4, hg4⟩
  have HG4 := hid (HG3.out.grown hR4 hg4 hRw)
  clear hR4 hg4 HG3
  go_upto_if 14 with fail
  go_cut [] (fun wx => ∃ k : Int, 1 ≤ k ∧ k ≤ 5 ∧ Hid (GB w R n cap A q k 0 0 0 D m c ⟨#[]⟩ wx))
  case first =>
    cases qb
    · go_wp2_with fail
      go_meet
      exact ⟨k3, hk31, hk35, HG4⟩
    · go_wp2_with fail
      refine (below_draw R n cap A 3 _ HG4.out.rs (by omega) (by omega)).mono ?_
      rintro e w5 ⟨y, rfl, hy0, hy1, hR5, hg5⟩
      have HG5 := hid (HG4.out.grown hR5 hg5 hRw)
      have c0 := HG5.out.cmd.cell 0
      have f0 := HG5.out.cmd.frozen 0
      have HG6 : Hid (GB w R n cap A q (3 + y) 0 0 0 D m c ⟨#[]⟩ (w5.setCell ⟨q, 0, none⟩ (.int .i64 (3 + y)))) := HG5.out.set hRw 0 _ rfl HG5.out.dq
      clear hR5 hg5 HG4
      go_wp2_with fail
      go_meet
      exact ⟨3 + y, by omega, by omega, HG6⟩
  case rest =>
  clear HG4 hk31 hk35
  obtain ⟨k, hk1, hk5, hG⟩ := hcut
  obtain ⟨w5, hwc⟩ : ∃ w5, w5 = wc := ⟨_, rfl⟩
  rw [← hwc] at hG ⊢
  clear hwc
  go_wp2_with fail
  go_loopw [] (fun wr => ∃ (D : Option Addr) (m c : Nat), Hid (GB w R n cap A q k 0 0 0 D m c ⟨#[]⟩ wr)) (fun wr => match wr.cell? ⟨q, 4, none⟩ with | some (.slice _ m _) => m | _ => 0)
  case atStart => exact ⟨D, m, c, hG⟩
  case round =>
    clear hG
    obtain ⟨D, m, c, hG⟩ := hrel
    have c4 := hG.out.cmd.cell 4
    have f4 := hG.out.cmd.frozen 4
    obtain ⟨hm21, hmc⟩ := hG.out.dq.le
    by_cases hlt : (4 : Int) < (m : Int)
    · obtain ⟨m, rfl⟩ : ∃ m', m = m' + 1 := ⟨m - 1, by omega⟩
      obtain ⟨gg, off, rfl⟩ := hG.out.dq.head (by omega)
      have hc1 : ¬ c = 1 := by omega
      have HG2 : Hid (GB w R n cap A q k 0 0 0 (some ⟨gg, off + 1, none⟩) m (c - 1) ⟨#[]⟩ (wr.setCell ⟨q, 4, none⟩ (.slice (some ⟨gg, off + 1, none⟩) m (c - 1)))) := hG.out.set hRw 4 _ rfl hG.out.dq.tail
      have c4' := HG2.out.cmd.cell 4
      go_wp2_with fail
      go_roundw
      case rel => exact ⟨_, m, c - 1, HG2⟩
      case measure => simp [c4, c4']
    · have c0 := hG.out.cmd.cell 0
      obtain rfl | rfl | rfl | rfl | rfl : k = 1 ∨ k = 2 ∨ k = 3 ∨ k = 4 ∨ k = 5 := by omega
      · have HX0 : ByteArray.size (⟨#[]⟩ : ByteArray) ≤ 7841 := by decide
        have HG6 : Hid (GB w R n cap A q 1 0 0 0 none 0 0 ⟨#[]⟩ (wr.setCell ⟨q, 4, none⟩ (.slice none 0 0))) := hG.out.set hRw 4 _ rfl (dq_nil (Nat.lt_of_lt_of_le hRw hG.out.gr.size))
        have HRS := hid HG6.out.rs
        clear hm21 hmc
        go_wp2_with fail
        refine (ens_draw R n cap A fn (by omega) (by omega) _ HRS.out).mono ?_
        rintro e w7 ⟨ef, eb, ek, eA, ec, ebl, eln, ecp, eds, hek, rfl, hown, hT, hR7, hg7⟩
        have hrd : RdT w7 w7.heap.size eA ek eln (nds eds) := (hit_own hown hT).rdT (fun x hx => hx.2)
        have hl : Hid (∀ i, i < ek → eln i ≤ 4194304) := fun i hi => by have := (hT i hi).1; omega
        have HG7 := hid (HG6.out.grown hR7 hg7 hRw)
        clear HRS hown hT hR7 hg7 HG6
        go_wp2_with fail
        refine (sEnsText_any ef eb eA ek ec eln _ _ hrd (by omega) hl).mono ?_
        rintro e w8 ⟨rfl, hb8⟩
        have hsz : (ensS ef eb ek eln (nds eds)).size ≤ 7839 := ensS_any
        have HG8 := hid (HG7.out.grown (HG7.out.rs.below hb8) ⟨hb8.os, hb8.tape, hb8.output, hb8.size, fun x hx _ => hb8.block x hx⟩ hRw)
        clear hrd hb8 HG7
        generalize ensS ef eb ek eln (nds eds) = u at hsz ⊢
        have c5 := HG8.out.cmd.cell 5
        have f5 := HG8.out.cmd.frozen 5
        have HG9 : Hid (GB w R n cap A q 1 0 0 0 none 0 0 u (w8.setCell ⟨q, 5, none⟩ (.string u))) := HG8.out.set hRw 5 _ rfl HG8.out.dq
        have HRS := hid HG9.out.rs
        go_wp2_with fail
        refine (once_draw R n cap A 8 _ HRS.out (by omega) (by omega)).mono ?_
        rintro e w10 ⟨qb, rfl, hR10, hg10⟩
        have HG10 := hid (HG9.out.grown hR10 hg10 hRw)
        clear HRS hR10 hg10 HG9 HG8 c5 f5
        cases qb
        · have HX : u.size ≤ 7841 := by omega
          obtain ⟨g0, g1, g2, g3, g4, g5⟩ := blk_cells6 HG10.out.cmd
          have d0 := HG10.out.res.cell 0; have d1 := HG10.out.res.cell 1; have d2 := HG10.out.res.cell 2; have d3 := HG10.out.res.cell 3; have d4 := HG10.out.res.cell 4; have d5 := HG10.out.res.cell 5
          have r0 := HG10.out.res.frozen 0; have r1 := HG10.out.res.frozen 1; have r2 := HG10.out.res.frozen 2; have r3 := HG10.out.res.frozen 3; have r4 := HG10.out.res.frozen 4; have r5 := HG10.out.res.frozen 5
          go_wp2_with fail
          refine bodyPost_ret (results_cell_row rfl _ _ w.heap.size 35 (cmC 1 0 0 0 none 0 0 u) (0, 0) _ rfl (set6_blk HG10.out.res _ _ _ _ _ _) Tryz.underlying35 rfl size_cmd) rfl ?_
          exact HG10.out.fin hRw HX _ _ _ _ _ _
        · have c5 := HG10.out.cmd.cell 5
          go_wp2_with fail
          refine (hurtM_draw 7839 (by omega) R n cap A u _ HG10.out.rs hsz).mono ?_
          rintro e w11 ⟨v, rfl, hv, hR11, hg11⟩
          have HG11 := hid (HG10.out.grown hR11 hg11 hRw)
          have c5' := HG11.out.cmd.cell 5
          have f5' := HG11.out.cmd.frozen 5
          have HG12 : Hid (GB w R n cap A q 1 0 0 0 none 0 0 v (w11.setCell ⟨q, 5, none⟩ (.string v))) := HG11.out.set hRw 5 _ rfl HG11.out.dq
          have HX : v.size ≤ 7841 := hv
          clear hR11 hg11 HG10 c5
          obtain ⟨g0, g1, g2, g3, g4, g5⟩ := blk_cells6 HG12.out.cmd
          have d0 := HG12.out.res.cell 0; have d1 := HG12.out.res.cell 1; have d2 := HG12.out.res.cell 2; have d3 := HG12.out.res.cell 3; have d4 := HG12.out.res.cell 4; have d5 := HG12.out.res.cell 5
          have r0 := HG12.out.res.frozen 0; have r1 := HG12.out.res.frozen 1; have r2 := HG12.out.res.frozen 2; have r3 := HG12.out.res.frozen 3; have r4 := HG12.out.res.frozen 4; have r5 := HG12.out.res.frozen 5
          go_wp2_with fail
          refine bodyPost_ret (results_cell_row rfl _ _ w.heap.size 35 (cmC 1 0 0 0 none 0 0 v) (0, 0) _ rfl (set6_blk HG12.out.res _ _ _ _ _ _) Tryz.underlying35 rfl size_cmd) rfl ?_
          exact HG12.out.fin hRw HX _ _ _ _ _ _
      · have HX : ByteArray.size (⟨#[]⟩ : ByteArray) ≤ 7841 := by decide
        have HG6 : Hid (GB w R n cap A q 2 0 0 0 none 0 0 ⟨#[]⟩ (wr.setCell ⟨q, 4, none⟩ (.slice none 0 0))) := hG.out.set hRw 4 _ rfl (dq_nil (Nat.lt_of_lt_of_le hRw hG.out.gr.size))
        have HRS := hid HG6.out.rs
        clear hm21 hmc
        go_wp2_with fail
        refine (offW_draw R n cap A 1 3 _ HRS.out (by omega) (by omega) (by omega) (by omega)).mono ?_
        rintro e w7 ⟨y, rfl, hR7, hg7⟩
        have HG7 := hid (HG6.out.grown hR7 hg7 hRw)
        have c1 := HG7.out.cmd.cell 1
        have f1 := HG7.out.cmd.frozen 1
        have HG8 : Hid (GB w R n cap A q 2 y 0 0 none 0 0 ⟨#[]⟩ (w7.setCell ⟨q, 1, none⟩ (.int .i64 y))) := HG7.out.set hRw 1 _ rfl HG7.out.dq
        have HRS8 := hid HG8.out.rs
        clear hR7 hg7 HRS
        go_wp2_with fail
        refine (below_draw R n cap A 5 _ HRS8.out (by omega) (by omega)).mono ?_
        rintro e w9 ⟨v, rfl, hv0, hv1, hR9, hg9⟩
        have HG9 := hid (HG8.out.grown hR9 hg9 hRw)
        have c2 := HG9.out.cmd.cell 2
        have f2 := HG9.out.cmd.frozen 2
        have HG10 : Hid (GB w R n cap A q 2 y v 0 none 0 0 ⟨#[]⟩ (w9.setCell ⟨q, 2, none⟩ (.int .i64 v))) := HG9.out.set hRw 2 _ rfl HG9.out.dq
        clear hR9 hg9 HRS8
        obtain ⟨g0, g1, g2, g3, g4, g5⟩ := blk_cells6 HG10.out.cmd
        have d0 := HG10.out.res.cell 0; have d1 := HG10.out.res.cell 1; have d2 := HG10.out.res.cell 2; have d3 := HG10.out.res.cell 3; have d4 := HG10.out.res.cell 4; have d5 := HG10.out.res.cell 5
        have r0 := HG10.out.res.frozen 0; have r1 := HG10.out.res.frozen 1; have r2 := HG10.out.res.frozen 2; have r3 := HG10.out.res.frozen 3; have r4 := HG10.out.res.frozen 4; have r5 := HG10.out.res.frozen 5
        go_wp2_with fail
        refine bodyPost_ret (results_cell_row rfl _ _ w.heap.size 35 (cmC 2 y v 0 none 0 0 ⟨#[]⟩) (0, 0) _ rfl (set6_blk HG10.out.res _ _ _ _ _ _) Tryz.underlying35 rfl size_cmd) rfl ?_
        exact HG10.out.fin hRw HX _ _ _ _ _ _
      · obtain ⟨g0, g1, g2, g3, g4, g5⟩ := blk_cells6 hG.out.cmd
        have d0 := hG.out.res.cell 0; have d1 := hG.out.res.cell 1; have d2 := hG.out.res.cell 2; have d3 := hG.out.res.cell 3; have d4 := hG.out.res.cell 4; have d5 := hG.out.res.cell 5
        have f0 := hG.out.res.frozen 0; have f1 := hG.out.res.frozen 1; have f2 := hG.out.res.frozen 2; have f3 := hG.out.res.frozen 3; have f4' := hG.out.res.frozen 4; have f5 := hG.out.res.frozen 5
        go_wp2_with fail
        refine bodyPost_ret (results_cell_row rfl _ _ w.heap.size 35 (cmC 3 0 0 0 D m c ⟨#[]⟩) (0, 0) _ rfl (set6_blk hG.out.res _ _ _ _ _ _) Tryz.underlying35 rfl size_cmd) rfl ?_
        exact hG.out.fin hRw (by decide) _ _ _ _ _ _
      · have HX : ByteArray.size (⟨#[]⟩ : ByteArray) ≤ 7841 := by decide
        go_wp2_with fail
        refine (below_draw R n cap A 120 _ hG.out.rs (by omega) (by omega)).mono ?_
        rintro e w6 ⟨y, rfl, hy0, hy1, hR6, hg6⟩
        have HG6 := hid (hG.out.grown hR6 hg6 hRw)
        have c3 := HG6.out.cmd.cell 3
        have f3 := HG6.out.cmd.frozen 3
        have HG7 : Hid (GB w R n cap A q 4 0 0 (y - 60) D m c ⟨#[]⟩ (w6.setCell ⟨q, 3, none⟩ (.int .i64 (y - 60)))) := HG6.out.set hRw 3 _ rfl HG6.out.dq
        clear hR6 hg6
        obtain ⟨g0, g1, g2, g3, g4, g5⟩ := blk_cells6 HG7.out.cmd
        have d0 := HG7.out.res.cell 0; have d1 := HG7.out.res.cell 1; have d2 := HG7.out.res.cell 2; have d3 := HG7.out.res.cell 3; have d4 := HG7.out.res.cell 4; have d5 := HG7.out.res.cell 5
        have r0 := HG7.out.res.frozen 0; have r1 := HG7.out.res.frozen 1; have r2 := HG7.out.res.frozen 2; have r3 := HG7.out.res.frozen 3; have r4 := HG7.out.res.frozen 4; have r5 := HG7.out.res.frozen 5
        go_wp2_with fail
        refine bodyPost_ret (results_cell_row rfl _ _ w.heap.size 35 (cmC 4 0 0 (y - 60) D m c ⟨#[]⟩) (0, 0) _ rfl (set6_blk HG7.out.res _ _ _ _ _ _) Tryz.underlying35 rfl size_cmd) rfl ?_
        exact HG7.out.fin hRw HX _ _ _ _ _ _
      · have HX : ByteArray.size (⟨#[]⟩ : ByteArray) ≤ 7841 := by decide
        go_wp2_with fail
        refine (below_draw R n cap A 4 _ hG.out.rs (by omega) (by omega)).mono ?_
        rintro e w6 ⟨y, rfl, hy0, hy1, hR6, hg6⟩
        have HG6 := hid (hG.out.grown hR6 hg6 hRw)
        have c1 := HG6.out.cmd.cell 1
        have f1 := HG6.out.cmd.frozen 1
        have HG7 : Hid (GB w R n cap A q 5 y 0 0 D m c ⟨#[]⟩ (w6.setCell ⟨q, 1, none⟩ (.int .i64 y))) := HG6.out.set hRw 1 _ rfl HG6.out.dq
        clear hR6 hg6
        obtain ⟨g0, g1, g2, g3, g4, g5⟩ := blk_cells6 HG7.out.cmd
        have d0 := HG7.out.res.cell 0; have d1 := HG7.out.res.cell 1; have d2 := HG7.out.res.cell 2; have d3 := HG7.out.res.cell 3; have d4 := HG7.out.res.cell 4; have d5 := HG7.out.res.cell 5
        have r0 := HG7.out.res.frozen 0; have r1 := HG7.out.res.frozen 1; have r2 := HG7.out.res.frozen 2; have r3 := HG7.out.res.frozen 3; have r4 := HG7.out.res.frozen 4; have r5 := HG7.out.res.frozen 5
        go_wp2_with fail
        refine bodyPost_ret (results_cell_row rfl _ _ w.heap.size 35 (cmC 5 y 0 0 D m c ⟨#[]⟩) (0, 0) _ rfl (set6_blk HG7.out.res _ _ _ _ _ _) Tryz.underlying35 rfl size_cmd) rfl ?_
        exact HG7.out.fin hRw HX _ _ _ _ _ _
end
end Go.Proofs.YtmkipdhappikhaaGreatDoor
