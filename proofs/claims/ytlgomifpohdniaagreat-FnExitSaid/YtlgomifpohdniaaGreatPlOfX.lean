/- PlanOf on both sides, marks and holds of a plan, the walk of its exact law. -/
import Derived.Test.YtlgomifpohdniaaGreatPlT
import Derived.Test.YtlgomifpohdniaaGreatDrawX
import Derived.Test.YtlgomifpohdniaaGreatOrdJ
import Derived.Deep.RegionHeld3
namespace Go.Proofs.YtlgomifpohdniaaGreat

/-! ### PlH -/
section
set_option linter.unusedVariables false
set_option linter.unusedSimpArgs false
open Go.RowKit Go.Deep
set_option linter.unusedVariables false
set_option linter.unusedSimpArgs false

theorem results_cell_row_tmpP {P : Program} {fn : Func} {p u : Tmp} {ty : TypeId} (h : fn.results = #[.cell p ty, .tmp u]) (tmps : Array Value) (w : World) (g : Nat) (t : TypeId) (cs : Array Value) (fr : Nat × Nat) (d : TypeDesc)
    (hp : tmps.getD p undef = .pointer (some ⟨g, 0, none⟩)) (hg : w.heap[g]? = some (.cells cs t fr))
    (hu : P.underlying ty = some d) (hd : (match d with | .struct _ | .array _ _ => true | _ => false) = true) (hi : (P.info? ty).map (·.size) = some cs.size) :
    (results fn tmps).run P w = .ok (.tuple #[.agg cs, tmps.getD u undef]) w := by
  have hp' : tmps[p]?.getD undef = .pointer (some ⟨g, 0, none⟩) := by simpa using hp
  simp [results, h, hp', asAddr, Result.andThen, run_loadVar_row w g t ty cs fr d hg hu hd hi]
def planY (f b pol st : Int) (n : Nat) (len : Nat → Nat) (g : Nat → Nat → Nd) : Bool := polB f b pol n len g && (decide (1 ≤ st) && decide (st ≤ 12))
/-- Four lists of numbers, each in memory of its own, no two in one block. -/
structure Owns4 (w : World) (B : Nat) (A1 : Option Addr) (n1 c1 : Nat) (z1 : Nat → Int) (A2 : Option Addr) (n2 c2 : Nat) (z2 : Nat → Int) (A3 : Option Addr) (n3 c3 : Nat) (z3 : Nat → Int) (A4 : Option Addr) (n4 c4 : Nat) (z4 : Nat → Int) : Prop where
  o1 : w.ownsRow B 2 1 (.slice A1 n1 c1) n1 (numsOf n1 z1)
  o2 : w.ownsRow B 2 1 (.slice A2 n2 c2) n2 (numsOf n2 z2)
  o3 : w.ownsRow B 2 1 (.slice A3 n3 c3) n3 (numsOf n3 z3)
  o4 : w.ownsRow B 2 1 (.slice A4 n4 c4) n4 (numsOf n4 z4)
  d12 : ∀ x, (Value.slice A1 n1 c1).ownBlock = some x → (Value.slice A2 n2 c2).ownBlock ≠ some x
  d13 : ∀ x, (Value.slice A1 n1 c1).ownBlock = some x → (Value.slice A3 n3 c3).ownBlock ≠ some x
  d14 : ∀ x, (Value.slice A1 n1 c1).ownBlock = some x → (Value.slice A4 n4 c4).ownBlock ≠ some x
  d23 : ∀ x, (Value.slice A2 n2 c2).ownBlock = some x → (Value.slice A3 n3 c3).ownBlock ≠ some x
  d24 : ∀ x, (Value.slice A2 n2 c2).ownBlock = some x → (Value.slice A4 n4 c4).ownBlock ≠ some x
  d34 : ∀ x, (Value.slice A3 n3 c3).ownBlock = some x → (Value.slice A4 n4 c4).ownBlock ≠ some x
def pN (Y : Bool) (n : Nat) : Nat := if Y = true then n else 0
/-- What PlanOf leaves. -/
def PlanPost (Y : Bool) (w : World) (pol : Int) (st n : Nat) (len : Nat → Nat) (g : Nat → Nat → Nd) (e : Ending) (w' : World) : Prop :=
  ∃ (A1 : Option Addr) (c1 : Nat) (A2 : Option Addr) (c2 : Nat) (A3 : Option Addr) (c3 : Nat) (A4 : Option Addr) (c4 : Nat), e = .returned (.tuple #[plV A1 (pN Y n) c1 A2 (pN Y (endN n st)) c2 A3 (pN Y (n + 1)) c3 A4 (pN Y (n + 1)) c4, .bool Y]) ∧
    Owns4 w' w.heap.size A1 (pN Y n) c1 (ordZ pol len g n) A2 (pN Y (endN n st)) c2 (endZ n st) A3 (pN Y (n + 1)) c3 (tabLo len g (ordF (wtF pol len g) n) n) A4 (pN Y (n + 1)) c4 (tabHi len g (ordF (wtF pol len g) n) n) ∧ Below w.heap.size w w'
theorem own_more4 {w : World} {B B2 : Nat} {e : TypeId} {size : Nat} {v : Value} {n : Nat} {xs : List Value} (h : w.ownsRow B2 e size v n xs) (hB : B ≤ B2) : w.ownsRow B e size v n xs := by
  refine ⟨h.1, ?_⟩
  rcases h.2 with h0 | ⟨g, cap, cur, hv, hb, rest⟩
  · exact .inl h0
  · exact .inr ⟨g, cap, cur, hv, Nat.le_trans hB hb, rest⟩
theorem own_tb {w : World} {b n c B : Nat} {z : Nat → Int} (h : Tb w b n c z) (hB : B ≤ b) : w.ownsRow B 2 1 (.slice (some ⟨b, 0, none⟩) n c) n (numsOf n z) := by
  obtain ⟨cs, h1, h2, h3, h4, h5⟩ := h
  refine ⟨by rw [numsOf_len]; omega, .inr ⟨b, c, cs, rfl, hB, h1, h3, h4, by omega, ?_⟩⟩
  apply List.ext_getElem?
  intro p
  rw [List.getElem?_take]
  by_cases hp : p < n
  · rw [if_pos (by omega), Array.getElem?_toList, h5 p hp]
    simp [numsOf, hp]
  · rw [if_neg (by omega)]
    symm
    rw [List.getElem?_eq_none_iff, numsOf_len]
    omega
/-- Lists made one behind the other lie in blocks of their own. -/
theorem owns4_of {w : World} {B L1 L2 n1 c1 n2 c2 n3 b3 c3 b4 c4 : Nat} {A1 A2 : Option Addr} {z1 z2 z3 z4 : Nat → Int} (h1 : w.ownsRow B 2 1 (.slice A1 n1 c1) n1 (numsOf n1 z1)) (h2 : w.ownsRow B 2 1 (.slice A2 n2 c2) n2 (numsOf n2 z2))
    (t3 : Tb w b3 n3 c3 z3) (t4 : Tb w b4 n3 c4 z4) (hne : b3 ≠ b4) (l1 : ∀ x, (Value.slice A1 n1 c1).ownBlock = some x → x < L1) (h12 : L1 ≤ L2) (l2 : ∀ x, (Value.slice A2 n2 c2).ownBlock = some x → L2 ≤ x) (a3 : L1 ≤ b3) (a4 : L1 ≤ b4) (a5 : b3 < L2) (a6 : b4 < L2) (hB3 : B ≤ b3) (hB4 : B ≤ b4) :
    Owns4 w B A1 n1 c1 z1 A2 n2 c2 z2 (some ⟨b3, 0, none⟩) n3 c3 z3 (some ⟨b4, 0, none⟩) n3 c4 z4 :=
  ⟨h1, h2, own_tb t3 hB3, own_tb t4 hB4, fun x hx hy => by have := l1 x hx; have := l2 x hy; omega, fun x hx hy => by have := l1 x hx; have hy : b3 = x := Option.some.inj hy; omega, fun x hx hy => by have := l1 x hx; have hy : b4 = x := Option.some.inj hy; omega,
    fun x hx hy => by have := l2 x hx; have hy : b3 = x := Option.some.inj hy; omega, fun x hx hy => by have := l2 x hx; have hy : b4 = x := Option.some.inj hy; omega, fun x hx hy => by have hx : b3 = x := Option.some.inj hx; have hy : b4 = x := Option.some.inj hy; omega⟩
theorem rd_own1 {w : World} {B n c : Nat} {A : Option Addr} {z : Nat → Int} (h : w.ownsRow B 2 1 (.slice A n c) n (numsOf n z)) : Rd w w.heap.size A n z := fun hn => by
  obtain ⟨g, c', e, _, hr⟩ := own_row h hn
  injection e with e1 e2 e3
  subst e1
  exact hr.rd hr.lt hn
theorem own_nil (w : World) (B : Nat) (z : Nat → Int) : w.ownsRow B 2 1 (.slice none 0 0) 0 (numsOf 0 z) := ⟨rfl, .inl ⟨rfl, rfl⟩⟩
theorem owns4_nil (w : World) (B : Nat) (z1 z2 z3 z4 : Nat → Int) : Owns4 w B none 0 0 z1 none 0 0 z2 none 0 0 z3 none 0 0 z4 :=
  ⟨own_nil _ _ _, own_nil _ _ _, own_nil _ _ _, own_nil _ _ _, (fun _ h => by cases h), (fun _ h => by cases h), (fun _ h => by cases h), (fun _ h => by cases h), (fun _ h => by cases h), (fun _ h => by cases h)⟩
theorem Owns4.rdP {w : World} {B n1 c1 n2 c2 n3 c3 n4 c4 : Nat} {A1 A2 A3 A4 : Option Addr} {z1 z2 z3 z4 : Nat → Int} (h : Owns4 w B A1 n1 c1 z1 A2 n2 c2 z2 A3 n3 c3 z3 A4 n4 c4 z4) : RdP w w.heap.size A1 n1 z1 A2 n2 z2 A3 n3 z3 A4 n4 z4 :=
  ⟨rd_own1 h.o1, rd_own1 h.o2, rd_own1 h.o3, rd_own1 h.o4⟩

set_option maxRecDepth 100000 in
set_option maxHeartbeats 8000000 in
theorem iPlanOf_no (f b pol st : Int) (A : Option Addr) (n c : Nat) (len : Nat → Nat) (g : Nat → Nat → Nd) (w : World) (h : RdT w w.heap.size A n len g) (hn : n ≤ 4194304) (hlen : Hid (∀ i, i < n → len i ≤ 4194304)) (hy : planY f b pol st n len g = false) :
    Calls Tryz.prog 19 #[enV f b A n c, .int .i64 pol, .int .i64 st] w fun e w' => e = .returned (.tuple #[plV none 0 0 none 0 0 none 0 0 none 0 0, .bool false]) ∧ Below w.heap.size w w' := by
  have HY := hid hy
  clear hy
  have hE0 : Blk ((w.alloc (.cells #[.int .i64 f, .int .i64 b, .slice A n c] 26)).alloc (.cells #[.slice none 0 0, .slice none 0 0, .slice none 0 0, .slice none 0 0] 29)) w.heap.size 26 #[.int .i64 f, .int .i64 b, .slice A n c] := (Blk.new w _ _).alloc _
  have hP0 : Blk ((w.alloc (.cells #[.int .i64 f, .int .i64 b, .slice A n c] 26)).alloc (.cells #[.slice none 0 0, .slice none 0 0, .slice none 0 0, .slice none 0 0] 29)) (w.heap.size + 1) 29 #[.slice none 0 0, .slice none 0 0, .slice none 0 0, .slice none 0 0] := Blk.new2 w _ _ _
  have hB0 := ((Below.refl w.heap.size w).alloc (Nat.le_refl _) (.cells #[.int .i64 f, .int .i64 b, .slice A n c] 26)).alloc (by simp) (.cells #[.slice none 0 0, .slice none 0 0, .slice none 0 0, .slice none 0 0] 29)
  go_enter Tryz.func19, Tryz.ntmps19
  go_wp2_with fail
  refine (iEnsOk_any f b A n c len g _ ((h.below hB0).more hB0.size) hn hlen).mono ?_
  rintro e w1 ⟨rfl, hb1⟩
  have hP1 := hP0.below hb1 hP0.lt
  have hB1 := hB0.trans (hb1.mono hB0.size)
  obtain ⟨⟨p0, p1, p2, p3⟩, q0, q1, q2, q3⟩ := blk_cells4 hP1
  have HP1 := hid hP1
  have HE : Hid (ensB f b n len g = true → ¬ (1 ≤ pol ∧ pol ≤ 3 ∧ 1 ≤ st ∧ st ≤ 12)) := fun he hc => by
    have := HY.out
    unfold planY polB at this
    rw [he, decide_eq_true hc.1, decide_eq_true hc.2.1, decide_eq_true hc.2.2.1, decide_eq_true hc.2.2.2] at this
    cases this
  clear hE0 hP0 hB0 hb1 HY hP1
  cases hYe : ensB f b n len g with
  | false =>
    clear hYe
    go_wp2_with fail
    exact bodyPost_ret (results_cell_row_tmpP rfl _ _ (w.heap.size + 1) 29 #[.slice none 0 0, .slice none 0 0, .slice none 0 0, .slice none 0 0] (0, 0) _ rfl ((((HP1.out.set_ 0 (.slice none 0 0)).set_ 1 (.slice none 0 0)).set_ 2 (.slice none 0 0)).set_ 3 (.slice none 0 0)) Tryz.underlying29 rfl size_plan) rfl ⟨rfl, (((hB1.setCell (p := ⟨w.heap.size + 1, 0, none⟩) (by show w.heap.size ≤ w.heap.size + 1; omega) _).setCell (p := ⟨w.heap.size + 1, 1, none⟩) (by show w.heap.size ≤ w.heap.size + 1; omega) _).setCell (p := ⟨w.heap.size + 1, 2, none⟩) (by show w.heap.size ≤ w.heap.size + 1; omega) _).setCell (p := ⟨w.heap.size + 1, 3, none⟩) (by show w.heap.size ≤ w.heap.size + 1; omega) _⟩
  | true =>
    have hno := HE.out hYe
    clear hYe HE
    have hcase : pol < 1 ∨ (1 ≤ pol ∧ 3 < pol) ∨ (1 ≤ pol ∧ pol ≤ 3 ∧ st < 1) ∨ (1 ≤ pol ∧ pol ≤ 3 ∧ 1 ≤ st ∧ 12 < st) := by omega
    rcases hcase with h1 | ⟨h1, h2⟩ | ⟨h1, h2, h3⟩ | ⟨h1, h2, h3, h4⟩
    all_goals
      clear hno
      go_wp2_with fail
      exact bodyPost_ret (results_cell_row_tmpP rfl _ _ (w.heap.size + 1) 29 #[.slice none 0 0, .slice none 0 0, .slice none 0 0, .slice none 0 0] (0, 0) _ rfl ((((HP1.out.set_ 0 (.slice none 0 0)).set_ 1 (.slice none 0 0)).set_ 2 (.slice none 0 0)).set_ 3 (.slice none 0 0)) Tryz.underlying29 rfl size_plan) rfl ⟨rfl, (((hB1.setCell (p := ⟨w.heap.size + 1, 0, none⟩) (by show w.heap.size ≤ w.heap.size + 1; omega) _).setCell (p := ⟨w.heap.size + 1, 1, none⟩) (by show w.heap.size ≤ w.heap.size + 1; omega) _).setCell (p := ⟨w.heap.size + 1, 2, none⟩) (by show w.heap.size ≤ w.heap.size + 1; omega) _).setCell (p := ⟨w.heap.size + 1, 3, none⟩) (by show w.heap.size ≤ w.heap.size + 1; omega) _⟩

theorem heldT4 {X : World} {s p : Nat} {a b : Value} (h : Blk X s 96 #[a, b]) (hp : p ≠ s) (u0 u1 u2 u3 : Value) : ((((X.setCell ⟨p, 0, none⟩ u0).setCell ⟨p, 1, none⟩ u1).setCell ⟨p, 2, none⟩ u2).setCell ⟨p, 3, none⟩ u3).cell? ⟨s, 0, none⟩ = some a ∧ ((((X.setCell ⟨p, 0, none⟩ u0).setCell ⟨p, 1, none⟩ u1).setCell ⟨p, 2, none⟩ u2).setCell ⟨p, 3, none⟩ u3).cell? ⟨s, 1, none⟩ = some b :=
  heldT ((((h.far (p := ⟨p, 0, none⟩) (fun e => hp e.symm) u0).far (p := ⟨p, 1, none⟩) (fun e => hp e.symm) u1).far (p := ⟨p, 2, none⟩) (fun e => hp e.symm) u2).far (p := ⟨p, 3, none⟩) (fun e => hp e.symm) u3)

set_option maxRecDepth 100000 in
set_option maxHeartbeats 8000000 in
theorem iPlanOf_yes (f b pol : Int) (st : Nat) (A : Option Addr) (n c : Nat) (len : Nat → Nat) (g : Nat → Nat → Nd) (w : World) (h : RdT w w.heap.size A n len g) (hn : n ≤ 4194304) (hlen : Hid (∀ i, i < n → len i ≤ 4194304)) (hy : planY f b pol st n len g = true) :
    Calls Tryz.prog 19 #[enV f b A n c, .int .i64 pol, .int .i64 (st : Int)] w (PlanPost true w pol st n len g) := by
  have hy' := hy
  unfold planY at hy'
  rw [Bool.and_eq_true, Bool.and_eq_true, decide_eq_true_eq, decide_eq_true_eq] at hy'
  obtain ⟨hpol, hs1, hs12⟩ := hy'
  obtain ⟨hEn, hp1, hp3⟩ := polB_true hpol
  obtain ⟨hf6, _, hn12, hT⟩ := ensB_iff.1 hEn
  have HT6 : Hid (∀ i, i < n → treeB (g i) (len i) 6 = true) := fun i hi => tree_moreO (hT i hi) (by omega) (by omega)
  have HEN := hid hEn
  have HPOL := hid hpol
  clear hy hT hEn hpol
  have hE0 : Blk ((w.alloc (.cells #[.int .i64 f, .int .i64 b, .slice A n c] 26)).alloc (.cells #[.slice none 0 0, .slice none 0 0, .slice none 0 0, .slice none 0 0] 29)) w.heap.size 26 #[.int .i64 f, .int .i64 b, .slice A n c] := (Blk.new w _ _).alloc _
  have hP0 : Blk ((w.alloc (.cells #[.int .i64 f, .int .i64 b, .slice A n c] 26)).alloc (.cells #[.slice none 0 0, .slice none 0 0, .slice none 0 0, .slice none 0 0] 29)) (w.heap.size + 1) 29 #[.slice none 0 0, .slice none 0 0, .slice none 0 0, .slice none 0 0] := Blk.new2 w _ _ _
  have hB0 := ((Below.refl w.heap.size w).alloc (Nat.le_refl _) (.cells #[.int .i64 f, .int .i64 b, .slice A n c] 26)).alloc (by simp) (.cells #[.slice none 0 0, .slice none 0 0, .slice none 0 0, .slice none 0 0] 29)
  go_enter Tryz.func19, Tryz.ntmps19
  go_wp2_with fail
  refine (iEnsOk_any f b A n c len g _ ((h.below hB0).more hB0.size) hn hlen).mono ?_
  rintro e w1 ⟨rfl, hb1⟩
  rw [HEN.out]
  have hE1 := hE0.below hb1 hE0.lt
  have hP1 := hP0.below hb1 hP0.lt
  have hB1 := hB0.trans (hb1.mono hB0.size)
  have hs1' : w.heap.size + 2 ≤ w1.heap.size := hP1.lt
  have e0 : w1.cell? ⟨w.heap.size, 0, none⟩ = some (.int .i64 f) := hE1.cell 0
  have e1 : w1.cell? ⟨w.heap.size, 1, none⟩ = some (.int .i64 b) := hE1.cell 1
  have e2 : w1.cell? ⟨w.heap.size, 2, none⟩ = some (.slice A n c) := hE1.cell 2
  clear hE0 hP0 hB0 hb1
  go_wp2_with fail
  refine (iOrder_any f b pol A n c len g w1 ((h.below hB1).more hB1.size) hn hlen true HPOL.out).mono ?_
  rintro e w2 ⟨Ao, co, rfl, hown, hb2⟩
  have hown : w2.ownsRow w1.heap.size 2 1 (.slice Ao n co) n (numsOf n (ordZ pol len g n)) := hown
  have HOWN := hid hown
  have hE2 := hE1.below hb2 hE1.lt
  have hP2 := hP1.below hb2 hP1.lt
  have hB2 := hB1.trans (hb2.mono hB1.size)
  have hs2 := hb2.size
  clear e0 e1 e2 hE1 hP1 hb2 hown
  have e0 : w2.cell? ⟨w.heap.size, 0, none⟩ = some (.int .i64 f) := hE2.cell 0
  have e1 : w2.cell? ⟨w.heap.size, 1, none⟩ = some (.int .i64 b) := hE2.cell 1
  have e2 : w2.cell? ⟨w.heap.size, 2, none⟩ = some (.slice A n c) := hE2.cell 2
  have hord : Rd w2 w2.heap.size Ao n fun p => (ordF (wtF pol len g) n p : Nat) := rd_own1 HOWN.out
  go_wp2_with fail
  refine (iTables_any f b A n c len g Ao n co (ordF (wtF pol len g) n) w2 ((h.below hB2).more hB2.size) hn hn12 hlen HT6 hord (fun p hp => ordF_lt _ n p hp)).mono ?_
  rintro e w3 ⟨b1, d1, b2, d2, rfl, t1, t2, tne, tl1, tl2, hb3⟩
  have hE3 := hE2.below hb3 hE2.lt
  have hP3 := hP2.below hb3 hP2.lt
  have hB3 := hB2.trans (hb3.mono hB2.size)
  have hO3 := own_below HOWN.out hb3
  have hlt2 := own_ltJ HOWN.out
  obtain ⟨W3, hW3⟩ : ∃ W, w3.alloc (.cells #[.slice (some ⟨b1, 0, none⟩) (n + 1) d1, .slice (some ⟨b2, 0, none⟩) (n + 1) d2] 96) = W := ⟨_, rfl⟩
  have hbx := (Below.refl w3.heap.size w3).alloc (Nat.le_refl _) (.cells #[.slice (some ⟨b1, 0, none⟩) (n + 1) d1, .slice (some ⟨b2, 0, none⟩) (n + 1) d2] 96)
  have hX3 := Blk.new w3 96 #[.slice (some ⟨b1, 0, none⟩) (n + 1) d1, .slice (some ⟨b2, 0, none⟩) (n + 1) d2]
  have hszx : w3.heap.size < (w3.alloc (.cells #[.slice (some ⟨b1, 0, none⟩) (n + 1) d1, .slice (some ⟨b2, 0, none⟩) (n + 1) d2] 96)).heap.size := by simp
  have hs3 := hb3.size
  have tl1' := t1.lt
  have tl2' := t2.lt
  clear e0 e1 e2 hord
  go_wp2_with fail
  rw [hW3] at hbx hX3 hszx
  obtain ⟨X, hX⟩ : ∃ X, w3.heap.size = X := ⟨_, rfl⟩
  have hP4 := hid (hP3.below hbx hP3.lt)
  have HB4 := hid (hB3.trans (hbx.mono hB3.size))
  have HO4 := hid (own_below hO3 hbx)
  have T1 := hid (t1.below hbx)
  have T2 := hid (t2.below hbx)
  have HLT := hid hlt2
  rw [hX] at hX3 hszx tl1' tl2' hs3
  have HX := hid hX3
  try rw [hX]
  clear hW3 hX hbx hX3 hE2 hP2 hB2 hE3 hP3 hB3 hO3 t1 t2 hlt2
  have hpne : w.heap.size + 1 ≠ X := by have := hP4.out.lt; omega
  go_region_held3 (fun w' => w'.cell? ⟨X, 0, none⟩ = some (.slice (some ⟨b1, 0, none⟩) (n + 1) d1) ∧ w'.cell? ⟨X, 1, none⟩ = some (.slice (some ⟨b2, 0, none⟩) (n + 1) d2))
    (first | with_reducible exact heldT HX.out.drew | with_reducible exact heldT HX5.out | with_reducible exact heldT4 HX5.out hpne _ _ _ _)
    (first
      | (go_at_call 55; refine (iEndsOf_any n st W3.drew hn12 (by omega) (by omega)).mono ?_; rintro e w5 ⟨A2, c2, rfl, ho5, hb5⟩; have HX5 := hid (HX.out.drew.below hb5 HX.out.lt); have hP5 := hP4.out.drew.below hb5 hP4.out.lt; have HP5 := hid hP5; have HO5 := hid ho5; have HB5 := hid hb5; obtain ⟨⟨p0, p1, p2, p3⟩, q0, q1, q2, q3⟩ := blk_cells4 hP5; clear ho5 hb5 hP5))
  all_goals
    go_wp2_with fail
    have HW : Hid (∀ x, x ≠ w.heap.size + 1 → ((((w5.setCell ⟨w.heap.size + 1, 0, none⟩ (.slice Ao (oN true n) co)).setCell ⟨w.heap.size + 1, 1, none⟩ (.slice A2 (endN n st) c2)).setCell ⟨w.heap.size + 1, 2, none⟩ (.slice (some ⟨b1, 0, none⟩) (n + 1) d1)).setCell ⟨w.heap.size + 1, 3, none⟩ (.slice (some ⟨b2, 0, none⟩) (n + 1) d2)).heap[x]? = w5.heap[x]?) := fun x hx =>
      (Below.heap_setCell _ ⟨w.heap.size + 1, 3, none⟩ _ x hx).trans ((Below.heap_setCell _ ⟨w.heap.size + 1, 2, none⟩ _ x hx).trans ((Below.heap_setCell _ ⟨w.heap.size + 1, 1, none⟩ _ x hx).trans (Below.heap_setCell _ ⟨w.heap.size + 1, 0, none⟩ _ x hx)))
    refine bodyPost_ret (results_cell_row_tmpP rfl _ _ (w.heap.size + 1) 29 #[.slice Ao (oN true n) co, .slice A2 (endN n st) c2, .slice (some ⟨b1, 0, none⟩) (n + 1) d1, .slice (some ⟨b2, 0, none⟩) (n + 1) d2] (0, 0) _ rfl ((((HP5.out.set_ 0 (.slice Ao (oN true n) co)).set_ 1 (.slice A2 (endN n st) c2)).set_ 2 (.slice (some ⟨b1, 0, none⟩) (n + 1) d1)).set_ 3 (.slice (some ⟨b2, 0, none⟩) (n + 1) d2)) Tryz.underlying29 rfl size_plan) rfl ?_
    have hszW : w2.heap.size ≤ W3.drew.heap.size := by show w2.heap.size ≤ W3.heap.size; omega
    have hWd : w.heap.size + 2 ≤ W3.drew.heap.size := by show _ ≤ W3.heap.size; omega
    have hx3 : X < W3.drew.heap.size := hszx
    have ho1 : w5.ownsRow w1.heap.size 2 1 (.slice Ao n co) n (numsOf n (ordZ pol len g n)) := own_below HO4.out.drew HB5.out
    have hbel : Below w.heap.size w w5 := HB4.out.drew.trans (HB5.out.mono (by omega))
    refine ⟨Ao, co, A2, c2, some ⟨b1, 0, none⟩, d1, some ⟨b2, 0, none⟩, d2, rfl, ?_, (((hbel.setCell (p := ⟨w.heap.size + 1, 0, none⟩) (by show w.heap.size ≤ w.heap.size + 1; omega) _).setCell (p := ⟨w.heap.size + 1, 1, none⟩) (by show w.heap.size ≤ w.heap.size + 1; omega) _).setCell (p := ⟨w.heap.size + 1, 2, none⟩) (by show w.heap.size ≤ w.heap.size + 1; omega) _).setCell (p := ⟨w.heap.size + 1, 3, none⟩) (by show w.heap.size ≤ w.heap.size + 1; omega) _⟩
    have u1 : Tb w5 b1 (n + 1) d1 (tabLo len g (ordF (wtF pol len g) n) n) := T1.out.drew.below HB5.out
    have u2 : Tb w5 b2 (n + 1) d2 (tabHi len g (ordF (wtF pol len g) n) n) := T2.out.drew.below HB5.out
    exact owns4_of (L1 := w2.heap.size) (L2 := W3.drew.heap.size) (own_more4 (own_keepJ ho1 fun g h1 _ _ => HW.out g (by omega)) (by omega)) (own_more4 (own_keepJ HO5.out fun g h1 _ _ => HW.out g (by omega)) (by omega)) (u1.keep (HW.out _ (by omega))) (u2.keep (HW.out _ (by omega))) tne (fun x hx => (HLT.out x hx).2.1) hszW (fun x hx => (own_ltJ HO5.out x hx).1) tl1 tl2 (by omega) (by omega) (by omega) (by omega)
end

/-! ### PlI -/
section
set_option linter.unusedVariables false
set_option linter.unusedSimpArgs false
open Go.RowKit Go.Deep
set_option linter.unusedVariables false
set_option linter.unusedSimpArgs false

theorem owns4_of2 {w : World} {B L1 L2 n1 c1 n2 c2 n3 b3 c3 b4 c4 : Nat} {A1 A2 : Option Addr} {z1 z2 z3 z4 : Nat → Int} (h1 : w.ownsRow B 2 1 (.slice A1 n1 c1) n1 (numsOf n1 z1)) (h2 : w.ownsRow B 2 1 (.slice A2 n2 c2) n2 (numsOf n2 z2))
    (t3 : Tb w b3 n3 c3 z3) (t4 : Tb w b4 n3 c4 z4) (hne : b3 ≠ b4) (l1 : ∀ x, (Value.slice A1 n1 c1).ownBlock = some x → x < L1) (l2 : ∀ x, (Value.slice A2 n2 c2).ownBlock = some x → L1 ≤ x ∧ x < L2) (h12 : L1 ≤ L2) (a3 : L2 ≤ b3) (a4 : L2 ≤ b4) (hB3 : B ≤ b3) (hB4 : B ≤ b4) :
    Owns4 w B A1 n1 c1 z1 A2 n2 c2 z2 (some ⟨b3, 0, none⟩) n3 c3 z3 (some ⟨b4, 0, none⟩) n3 c4 z4 :=
  ⟨h1, h2, own_tb t3 hB3, own_tb t4 hB4, fun x hx hy => by have := l1 x hx; have := l2 x hy; omega, fun x hx hy => by have := l1 x hx; have hy : b3 = x := Option.some.inj hy; omega, fun x hx hy => by have := l1 x hx; have hy : b4 = x := Option.some.inj hy; omega,
    fun x hx hy => by have := l2 x hx; have hy : b3 = x := Option.some.inj hy; omega, fun x hx hy => by have := l2 x hx; have hy : b4 = x := Option.some.inj hy; omega, fun x hx hy => by have hx : b3 = x := Option.some.inj hx; have hy : b4 = x := Option.some.inj hy; omega⟩
/-- A plan being made: its order, and its ends so far. -/
def MakingP (w : World) (X L1 L2 : Nat) (ec : Array Value) (Ao : Option Addr) (n co : Nat) (zo : Nat → Int) (A' : Option Addr) (k c' : Nat) (ze : Nat → Int) (wr : World) : Prop :=
  Blk wr X 29 #[.slice Ao n co, .slice A' k c', .slice none 0 0, .slice none 0 0] ∧ Blk wr w.heap.size 26 ec ∧ Blk wr (w.heap.size + 1) 29 #[.slice none 0 0, .slice none 0 0, .slice none 0 0, .slice none 0 0] ∧
  wr.ownsRow L1 2 1 (.slice Ao n co) n (numsOf n zo) ∧ wr.ownsRow L2 2 1 (.slice A' k c') k (numsOf k ze) ∧ Below w.heap.size w wr ∧ L2 ≤ wr.heap.size ∧ ∀ x, (Value.slice Ao n co).ownBlock = some x → x < X
theorem MakingP.next {w wr w5 : World} {X L1 L2 n co k c' gg cc : Nat} {ec : Array Value} {Ao A' : Option Addr} {zo ze : Nat → Int} (h : MakingP w X L1 L2 ec Ao n co zo A' k c' ze wr) (o : Obj) (hgr : (wr.alloc o).grownBy w5 ((Value.slice A' k c').ownBlock))
    (hown : w5.ownsRow L2 2 1 (.slice (some ⟨gg, 0, none⟩) (k + 1) cc) (k + 1) (numsOf (k + 1) ze)) (hX : X < L2) (hS : w.heap.size + 1 < X) :
    MakingP w X L1 L2 ec Ao n co zo (some ⟨gg, 0, none⟩) (k + 1) cc ze (w5.setCell ⟨X, 1, none⟩ (.slice (some ⟨gg, 0, none⟩) (k + 1) cc)) := by
  obtain ⟨h1, h2, h3, h4, h5, h6, h7, h8⟩ := h
  have hlt := own_ltJ h5
  have hk : ∀ y, y < L2 → w5.heap[y]? = wr.heap[y]? := fun y hy =>
    (hgr.block y (by rw [World.size_alloc]; omega) (fun e => by have := (hlt y e.symm).1; omega)).trans (Below.heap_alloc wr o y (by omega))
  have hks : ∀ y, y ≠ X → (w5.setCell ⟨X, 1, none⟩ (.slice (some ⟨gg, 0, none⟩) (k + 1) cc)).heap[y]? = w5.heap[y]? := fun y hy => Below.heap_setCell _ ⟨X, 1, none⟩ _ y hy
  have hsz : wr.heap.size ≤ w5.heap.size := by have := hgr.size; rw [World.size_alloc] at this; omega
  have hX5 : Blk w5 X 29 #[.slice Ao n co, .slice A' k c', .slice none 0 0, .slice none 0 0] := (hk X hX).trans h1
  refine ⟨hX5.set_ 1 _, (hks _ (by omega)).trans ((hk _ (by omega)).trans h2), (hks _ (by omega)).trans ((hk _ (by omega)).trans h3), ?_, ?_, ?_, ?_, h8⟩
  · exact own_keepJ h4 fun g _ _ hg => by have := h8 g hg; exact (hks g (by omega)).trans (hk g (by omega))
  · exact own_keepJ hown fun g hg _ _ => hks g (by omega)
  · exact ((h6.alloc h6.size o).grown hgr (by rw [World.size_alloc]; have := h6.size; omega) (fun x hx => by have := (hlt x hx).1; omega)).setCell (p := ⟨X, 1, none⟩) (by show w.heap.size ≤ X; omega) _
  · have : (w5.setCell ⟨X, 1, none⟩ (.slice (some ⟨gg, 0, none⟩) (k + 1) cc)).heap.size = w5.heap.size := by simp [World.setCell]
    omega

set_option maxRecDepth 100000 in
set_option maxHeartbeats 8000000 in
theorem sPlanOf_no (f b pol st : Int) (A : Option Addr) (n c : Nat) (len : Nat → Nat) (g : Nat → Nat → Nd) (w : World) (h : RdT w w.heap.size A n len g) (hn : n ≤ 4194304) (hlen : Hid (∀ i, i < n → len i ≤ 4194304)) (hy : planY f b pol st n len g = false) :
    Calls Tryz.prog 21 #[enV f b A n c, .int .i64 pol, .int .i64 st] w fun e w' => e = .returned (.tuple #[plV none 0 0 none 0 0 none 0 0 none 0 0, .bool false]) ∧ Below w.heap.size w w' := by
  have HY := hid hy
  clear hy
  have hE0 : Blk ((w.alloc (.cells #[.int .i64 f, .int .i64 b, .slice A n c] 26)).alloc (.cells #[.slice none 0 0, .slice none 0 0, .slice none 0 0, .slice none 0 0] 29)) w.heap.size 26 #[.int .i64 f, .int .i64 b, .slice A n c] := (Blk.new w _ _).alloc _
  have hP0 : Blk ((w.alloc (.cells #[.int .i64 f, .int .i64 b, .slice A n c] 26)).alloc (.cells #[.slice none 0 0, .slice none 0 0, .slice none 0 0, .slice none 0 0] 29)) (w.heap.size + 1) 29 #[.slice none 0 0, .slice none 0 0, .slice none 0 0, .slice none 0 0] := Blk.new2 w _ _ _
  have hB0 := ((Below.refl w.heap.size w).alloc (Nat.le_refl _) (.cells #[.int .i64 f, .int .i64 b, .slice A n c] 26)).alloc (by simp) (.cells #[.slice none 0 0, .slice none 0 0, .slice none 0 0, .slice none 0 0] 29)
  go_enter Tryz.func21, Tryz.ntmps21
  go_wp2_with fail
  refine (sEnsOk_any f b A n c len g _ ((h.below hB0).more hB0.size) hn hlen).mono ?_
  rintro e w1 ⟨rfl, hb1⟩
  have hP1 := hP0.below hb1 hP0.lt
  have hB1 := hB0.trans (hb1.mono hB0.size)
  obtain ⟨⟨p0, p1, p2, p3⟩, q0, q1, q2, q3⟩ := blk_cells4 hP1
  have HP1 := hid hP1
  have HE : Hid (ensB f b n len g = true → ¬ ((1 ≤ pol ∧ pol ≤ 3) ∧ 1 ≤ st ∧ st ≤ 12)) := fun he hc => by
    have := HY.out
    unfold planY polB at this
    rw [he, decide_eq_true hc.1.1, decide_eq_true hc.1.2, decide_eq_true hc.2.1, decide_eq_true hc.2.2] at this
    cases this
  have hI1 := In_any pol 1 3 w1
  have hI2 := In_any st 1 12 w1
  clear hE0 hP0 hB0 hb1 HY hP1
  cases hYe : ensB f b n len g with
  | false =>
    clear hYe hI1 hI2
    go_wp2_with fail
    exact bodyPost_ret (results_cell_row_tmpP rfl _ _ (w.heap.size + 1) 29 #[.slice none 0 0, .slice none 0 0, .slice none 0 0, .slice none 0 0] (0, 0) _ rfl ((((HP1.out.set_ 0 (.slice none 0 0)).set_ 1 (.slice none 0 0)).set_ 2 (.slice none 0 0)).set_ 3 (.slice none 0 0)) Tryz.underlying29 rfl size_plan) rfl ⟨rfl, (((hB1.setCell (p := ⟨w.heap.size + 1, 0, none⟩) (by show w.heap.size ≤ w.heap.size + 1; omega) _).setCell (p := ⟨w.heap.size + 1, 1, none⟩) (by show w.heap.size ≤ w.heap.size + 1; omega) _).setCell (p := ⟨w.heap.size + 1, 2, none⟩) (by show w.heap.size ≤ w.heap.size + 1; omega) _).setCell (p := ⟨w.heap.size + 1, 3, none⟩) (by show w.heap.size ≤ w.heap.size + 1; omega) _⟩
  | true =>
    have hno := HE.out hYe
    clear hYe HE
    cases hv1 : (decide (1 ≤ pol) && decide (pol ≤ 3)) with
    | false =>
      rw [hv1] at hI1
      have HI1 := hid hI1
      clear hv1 hno hI1 hI2
      go_wp2_with (go_at_call 38; refine HI1.out.mono ?_; rintro e w' ⟨rfl, rfl⟩)
      exact bodyPost_ret (results_cell_row_tmpP rfl _ _ (w.heap.size + 1) 29 #[.slice none 0 0, .slice none 0 0, .slice none 0 0, .slice none 0 0] (0, 0) _ rfl ((((HP1.out.set_ 0 (.slice none 0 0)).set_ 1 (.slice none 0 0)).set_ 2 (.slice none 0 0)).set_ 3 (.slice none 0 0)) Tryz.underlying29 rfl size_plan) rfl ⟨rfl, (((hB1.setCell (p := ⟨w.heap.size + 1, 0, none⟩) (by show w.heap.size ≤ w.heap.size + 1; omega) _).setCell (p := ⟨w.heap.size + 1, 1, none⟩) (by show w.heap.size ≤ w.heap.size + 1; omega) _).setCell (p := ⟨w.heap.size + 1, 2, none⟩) (by show w.heap.size ≤ w.heap.size + 1; omega) _).setCell (p := ⟨w.heap.size + 1, 3, none⟩) (by show w.heap.size ≤ w.heap.size + 1; omega) _⟩
    | true =>
      have hv2 : (decide (1 ≤ st) && decide (st ≤ 12)) = false := by
        rw [Bool.eq_false_iff]
        intro e
        rw [Bool.and_eq_true, decide_eq_true_eq, decide_eq_true_eq] at e
        rw [Bool.and_eq_true, decide_eq_true_eq, decide_eq_true_eq] at hv1
        exact hno ⟨hv1, e⟩
      rw [hv1] at hI1
      rw [hv2] at hI2
      have HI1 := hid hI1
      have HI2 := hid hI2
      clear hv1 hv2 hno hI1 hI2
      go_wp2_with fail
      refine HI1.out.mono ?_
      rintro e w' ⟨rfl, rfl⟩
      go_wp2_with fail
      refine HI2.out.mono ?_
      rintro e w' ⟨rfl, rfl⟩
      go_wp2_with fail
      exact bodyPost_ret (results_cell_row_tmpP rfl _ _ (w.heap.size + 1) 29 #[.slice none 0 0, .slice none 0 0, .slice none 0 0, .slice none 0 0] (0, 0) _ rfl ((((HP1.out.set_ 0 (.slice none 0 0)).set_ 1 (.slice none 0 0)).set_ 2 (.slice none 0 0)).set_ 3 (.slice none 0 0)) Tryz.underlying29 rfl size_plan) rfl ⟨rfl, (((hB1.setCell (p := ⟨w.heap.size + 1, 0, none⟩) (by show w.heap.size ≤ w.heap.size + 1; omega) _).setCell (p := ⟨w.heap.size + 1, 1, none⟩) (by show w.heap.size ≤ w.heap.size + 1; omega) _).setCell (p := ⟨w.heap.size + 1, 2, none⟩) (by show w.heap.size ≤ w.heap.size + 1; omega) _).setCell (p := ⟨w.heap.size + 1, 3, none⟩) (by show w.heap.size ≤ w.heap.size + 1; omega) _⟩

set_option maxRecDepth 100000 in
set_option maxHeartbeats 8000000 in
theorem sPlanOf_yes (f b pol : Int) (st : Nat) (A : Option Addr) (n c : Nat) (len : Nat → Nat) (g : Nat → Nat → Nd) (w : World) (h : RdT w w.heap.size A n len g) (hn : n ≤ 4194304) (hlen : Hid (∀ i, i < n → len i ≤ 4194304)) (hy : planY f b pol st n len g = true) :
    Calls Tryz.prog 21 #[enV f b A n c, .int .i64 pol, .int .i64 (st : Int)] w (PlanPost true w pol st n len g) := by
  have hy' := hy
  unfold planY at hy'
  rw [Bool.and_eq_true, Bool.and_eq_true, decide_eq_true_eq, decide_eq_true_eq] at hy'
  obtain ⟨hpol, hs1, hs12⟩ := hy'
  obtain ⟨hEn, hp1, hp3⟩ := polB_true hpol
  obtain ⟨hf6, _, hn12, hT⟩ := ensB_iff.1 hEn
  have HT6 : Hid (∀ i, i < n → treeB (g i) (len i) 6 = true) := fun i hi => tree_moreO (hT i hi) (by omega) (by omega)
  have HEN := hid hEn
  have HPOL := hid hpol
  have hst1 : 1 ≤ st := by omega
  have hst12 : st ≤ 12 := by omega
  obtain ⟨i0, hi0, hz0, hz1, hz2⟩ := info_parts info_int
  clear hy hT hEn hpol
  have hE0 : Blk ((w.alloc (.cells #[.int .i64 f, .int .i64 b, .slice A n c] 26)).alloc (.cells #[.slice none 0 0, .slice none 0 0, .slice none 0 0, .slice none 0 0] 29)) w.heap.size 26 #[.int .i64 f, .int .i64 b, .slice A n c] := (Blk.new w _ _).alloc _
  have hP0 : Blk ((w.alloc (.cells #[.int .i64 f, .int .i64 b, .slice A n c] 26)).alloc (.cells #[.slice none 0 0, .slice none 0 0, .slice none 0 0, .slice none 0 0] 29)) (w.heap.size + 1) 29 #[.slice none 0 0, .slice none 0 0, .slice none 0 0, .slice none 0 0] := Blk.new2 w _ _ _
  have hB0 := ((Below.refl w.heap.size w).alloc (Nat.le_refl _) (.cells #[.int .i64 f, .int .i64 b, .slice A n c] 26)).alloc (by simp) (.cells #[.slice none 0 0, .slice none 0 0, .slice none 0 0, .slice none 0 0] 29)
  go_enter Tryz.func21, Tryz.ntmps21
  go_wp2_with fail
  refine (sEnsOk_any f b A n c len g _ ((h.below hB0).more hB0.size) hn hlen).mono ?_
  rintro e w1 ⟨rfl, hb1⟩
  rw [HEN.out]
  have hE1 := hE0.below hb1 hE0.lt
  have hP1 := hP0.below hb1 hP0.lt
  have hB1 := hB0.trans (hb1.mono hB0.size)
  have hs1' : w.heap.size + 2 ≤ w1.heap.size := hP1.lt
  have hI1 := In_any pol 1 3 w1
  have hI2 := In_any (st : Int) 1 12 w1
  rw [decide_eq_true hp1, decide_eq_true hp3] at hI1
  rw [decide_eq_true hs1, decide_eq_true hs12] at hI2
  have HI1 := hid hI1
  have HI2 := hid hI2
  have e0 : w1.cell? ⟨w.heap.size, 0, none⟩ = some (.int .i64 f) := hE1.cell 0
  have e1 : w1.cell? ⟨w.heap.size, 1, none⟩ = some (.int .i64 b) := hE1.cell 1
  have e2 : w1.cell? ⟨w.heap.size, 2, none⟩ = some (.slice A n c) := hE1.cell 2
  clear hE0 hP0 hB0 hb1 hI1 hI2
  go_wp2_with fail
  refine HI1.out.mono ?_
  rintro e w' ⟨rfl, rfl⟩
  go_wp2_with fail
  refine HI2.out.mono ?_
  rintro e w' ⟨rfl, rfl⟩
  go_wp2_with fail
  refine (sOrder_any f b pol A n c len g w1 ((h.below hB1).more hB1.size) hn hlen true HPOL.out).mono ?_
  rintro e w2 ⟨Ao, co, rfl, hown, hb2⟩
  have hown : w2.ownsRow w1.heap.size 2 1 (.slice Ao n co) n (numsOf n (ordZ pol len g n)) := hown
  have hEX := hE1.below hb2 hE1.lt
  have hPX := hP1.below hb2 hP1.lt
  have hBX := hB1.trans (hb2.mono hB1.size)
  have hltO := own_ltJ hown
  have hM : MakingP w w2.heap.size w1.heap.size (w2.heap.size + 1) #[.int .i64 f, .int .i64 b, .slice A n c] Ao n co (ordZ pol len g n) none 0 0 (endZ n st) (w2.alloc (.cells #[.slice Ao n co, .slice none 0 0, .slice none 0 0, .slice none 0 0] 29)) :=
    ⟨Blk.new w2 _ _, hEX.alloc _, hPX.alloc _, hown.alloc _, own_nil _ _ _, hBX.alloc hBX.size _, by rw [World.size_alloc]; exact Nat.le_refl _, fun x hx => (hltO x hx).2.1⟩
  have hs2 : w.heap.size + 2 ≤ w2.heap.size := Nat.le_trans hs1' hb2.size
  have hel : w.heap.size < w2.heap.size := by omega
  clear e0 e1 e2 hE1 hP1 hb2 hown hPX hBX hltO HI1 HI2
  have e2 : w2.cell? ⟨w.heap.size, 2, none⟩ = some (.slice A n c) := hEX.cell 2
  have HM := hid hM
  have eN : oN true n = n := rfl
  rw [eN]
  clear hM hEX eN
  go_wp2_with fail
  obtain ⟨X, hX⟩ : ∃ X, w2.heap.size = X := ⟨_, rfl⟩
  rw [hX] at HM hs2 hel ⊢
  clear hX e2
  go_loopw [10] (fun i wr => ∃ (k m : Nat) (A' : Option Addr) (c' : Nat), i = .int .i64 (m : Int) ∧ Hid ((k + 1) * st = m) ∧ Hid (k = 0 ∨ k * st < n) ∧ Hid (MakingP w X w1.heap.size (X + 1) #[.int .i64 f, .int .i64 b, .slice A n c] Ao n co (ordZ pol len g n) A' k c' (endZ n st) wr)) (fun i _ => n - (intOf i).toNat)
  case atStart => exact ⟨0, st, none, 0, rfl, by show _ = _; omega, .inl rfl, HM⟩
  case round =>
    clear HM
    obtain ⟨k, m, A', c', rfl, HM, HK, HO⟩ := hrel
    have hk12 : k ≤ 12 := k_le HK.out hst1 hn12
    have hbs : X + 1 ≤ wr.heap.size := HO.out.2.2.2.2.2.2.1
    have x1 : wr.cell? ⟨X, 1, none⟩ = some (.slice A' k c') := HO.out.1.cell 1
    by_cases hlt : m < n
    · have i1 : (m : Int) < (n : Int) := by omega
      have hm12 : m ≤ 12 := by omega
      have f1 : wr.frozen? ⟨X, 1, none⟩ = false := HO.out.1.frozen 1
      go_wp2_with (at_builtin; refine wpList_append_lies _ rfl (.tmp 40) (.tmp 42) 27 rfl (X + 1) 2 i0 (.int .i64 0) 1 8 Tryz.underlying27 hi0 hz0 hz1 hz2 rfl (by decide) (.slice A' k c') k (numsOf k (endZ n st)) rfl (HO.out.2.2.2.2.1.alloc _) ⟨wr.heap.size, 0, none⟩ 1 1 [.int .i64 m] rfl rfl (World.news_of_block (cs := #[.int .i64 m]) (t := 2) (fr := (0, 0)) (heap_alloc_new wr _)) (by intro u hu; simp at hu; subst hu; rfl) (by omega) (by unfold maxLen; omega) (by omega) (by rw [World.size_alloc]; omega) (wr.heap.size + 1) (by simp) ?_)
      intro gg cc w5 hown hgr _ _
      rw [← numsOf_snoc (endZ_lt HM.out hlt)] at hown
      have hN := hid (HO.out.next _ hgr hown (by omega) (by omega))
      have hX5 : Blk w5 X 29 #[.slice Ao n co, .slice A' k c', .slice none 0 0, .slice none 0 0] := (HO.out.1.alloc _).grown hgr (fun e => by have := (own_ltJ HO.out.2.2.2.2.1 X e.symm).1; omega)
      have y1 : w5.cell? ⟨X, 1, none⟩ = some (.slice A' k c') := hX5.cell 1
      have g1 := hX5.frozen 1
      clear hown hgr HO hbs hX5 x1 f1
      go_wp2_with fail
      go_roundw
      case rel => exact ⟨k + 1, m + st, some ⟨gg, 0, none⟩, cc, by go_num, by show _ = _; rw [Nat.succ_mul, HM.out], .inr (by rw [HM.out]; exact hlt), hN.out⟩
      case measure => simp [intOf]; omega
    · have i1 : (n : Int) ≤ (m : Int) := by omega
      by_cases hn0 : n = 0
      · have hk0 : k = 0 := by rcases HK.out with h | h <;> omega
        subst hk0
        have HZ : Hid (endN n st = 0) := by show _ = _; unfold endN; rw [if_pos hn0]
        have q1 : decide (0 < n) = false := by simp; omega
        have q2 : decide ((n : Int) > 0) = false := by simp; omega
        have HN0 := hid hn0
        clear hn0
        have HT := HO
        obtain ⟨NE, hNE⟩ : ∃ x : Nat, x = 0 := ⟨_, rfl⟩
        rw [← hNE] at HT HZ
        obtain ⟨WT, hWT⟩ : ∃ W, wr = W := ⟨_, rfl⟩
        obtain ⟨At, hAt⟩ : ∃ x, A' = x := ⟨_, rfl⟩
        obtain ⟨ct, hct⟩ : ∃ x, c' = x := ⟨_, rfl⟩
        rw [hWT] at HT ⊢
        rw [hAt, hct] at HT
        clear hWT hAt hct x1 HO hNE hbs
        have hord : Rd WT WT.heap.size Ao n fun p => (ordF (wtF pol len g) n p : Nat) := rd_own1 HT.out.2.2.2.1
        have x0 : WT.cell? ⟨X, 0, none⟩ = some (.slice Ao n co) := HT.out.1.cell 0
        have e0 : WT.cell? ⟨w.heap.size, 0, none⟩ = some (.int .i64 f) := HT.out.2.1.cell 0
        have e1 : WT.cell? ⟨w.heap.size, 1, none⟩ = some (.int .i64 b) := HT.out.2.1.cell 1
        have e2 : WT.cell? ⟨w.heap.size, 2, none⟩ = some (.slice A n c) := HT.out.2.1.cell 2
        have hbT : Below w.heap.size w WT := HT.out.2.2.2.2.2.1
        have hsT : X + 1 ≤ WT.heap.size := HT.out.2.2.2.2.2.2.1
        have hst := sTables_any f b A n c len g Ao n co (ordF (wtF pol len g) n) WT ((h.below hbT).more hbT.size) hn hn12 hlen HT6 hord (fun p hp => ordF_lt _ n p hp)
        have HBT := hid hbT
        have HST := hid hst
        clear hord hbT hst
        go_wp2_with fail
        refine HST.out.mono ?_
        rintro e w6 ⟨b1, b2, rfl, t1, t2, tne, tl1, tl2, hb6⟩
        have hX6 := HT.out.1.below hb6 HT.out.1.lt
        have hP6 := HT.out.2.2.1.below hb6 HT.out.2.2.1.lt
        have HO6 := hid (own_below HT.out.2.2.2.1 hb6)
        have HQ6 := hid (own_below HT.out.2.2.2.2.1 hb6)
        have HB6 := hid (HBT.out.trans (hb6.mono HBT.out.size))
        have hlO := HT.out.2.2.2.2.2.2.2
        have hlQ := own_ltJ HT.out.2.2.2.2.1
        have hl1 := t1.lt
        have hl2 := t2.lt
        have HX6 := hid hX6
        have HP6 := hid hP6
        have T1 := hid t1
        have T2 := hid t2
        have HLO := hid hlO
        have HLQ := hid hlQ
        clear x0 e0 e1 e2 HST HT
        obtain ⟨⟨x0, x1, x2, x3⟩, y0, y1, y2, y3⟩ := blk_cells4 HX6.out
        obtain ⟨⟨p0, p1, p2, p3⟩, q0, q1, q2, q3⟩ := blk_cells4 HP6.out
        clear hX6 hP6 t1 t2 hlO hlQ hb6
        have ne1 : ¬ (X = w.heap.size + 1) := by omega
        have ne2 : ¬ (w.heap.size + 1 = X) := by omega
        go_wp2_with fail
        have HW : Hid (∀ x, x ≠ w.heap.size + 1 → x ≠ X → ((((((w6.setCell ⟨X, 2, none⟩ (.slice (some ⟨b1, 0, none⟩) (n + 1) (n + 1))).setCell ⟨X, 3, none⟩ (.slice (some ⟨b2, 0, none⟩) (n + 1) (n + 1))).setCell ⟨w.heap.size + 1, 0, none⟩ (.slice Ao n co)).setCell ⟨w.heap.size + 1, 1, none⟩ (.slice At NE ct)).setCell ⟨w.heap.size + 1, 2, none⟩ (.slice (some ⟨b1, 0, none⟩) (n + 1) (n + 1))).setCell ⟨w.heap.size + 1, 3, none⟩ (.slice (some ⟨b2, 0, none⟩) (n + 1) (n + 1))).heap[x]? = w6.heap[x]?) := fun x hx hX =>
          (Below.heap_setCell _ ⟨w.heap.size + 1, 3, none⟩ _ x hx).trans ((Below.heap_setCell _ ⟨w.heap.size + 1, 2, none⟩ _ x hx).trans ((Below.heap_setCell _ ⟨w.heap.size + 1, 1, none⟩ _ x hx).trans ((Below.heap_setCell _ ⟨w.heap.size + 1, 0, none⟩ _ x hx).trans ((Below.heap_setCell _ ⟨X, 3, none⟩ _ x hX).trans (Below.heap_setCell _ ⟨X, 2, none⟩ _ x hX)))))
        have hPf := ((((((HP6.out.far (p := ⟨X, 2, none⟩) (by show w.heap.size + 1 ≠ X; omega) (.slice (some ⟨b1, 0, none⟩) (n + 1) (n + 1))).far (p := ⟨X, 3, none⟩) (by show w.heap.size + 1 ≠ X; omega) (.slice (some ⟨b2, 0, none⟩) (n + 1) (n + 1))).set_ 0 (.slice Ao n co)).set_ 1 (.slice At NE ct)).set_ 2 (.slice (some ⟨b1, 0, none⟩) (n + 1) (n + 1))).set_ 3 (.slice (some ⟨b2, 0, none⟩) (n + 1) (n + 1)))
        refine bodyPost_ret (results_cell_row_tmpP rfl _ _ (w.heap.size + 1) 29 #[.slice Ao n co, .slice At NE ct, .slice (some ⟨b1, 0, none⟩) (n + 1) (n + 1), .slice (some ⟨b2, 0, none⟩) (n + 1) (n + 1)] (0, 0) _ rfl hPf Tryz.underlying29 rfl size_plan) rfl ?_
        refine ⟨Ao, co, At, ct, some ⟨b1, 0, none⟩, n + 1, some ⟨b2, 0, none⟩, n + 1, by rw [← HZ.out]; rfl, ?_, (((((HB6.out.setCell (p := ⟨X, 2, none⟩) (by show w.heap.size ≤ X; omega) _).setCell (p := ⟨X, 3, none⟩) (by show w.heap.size ≤ X; omega) _).setCell (p := ⟨w.heap.size + 1, 0, none⟩) (by show w.heap.size ≤ w.heap.size + 1; omega) _).setCell (p := ⟨w.heap.size + 1, 1, none⟩) (by show w.heap.size ≤ w.heap.size + 1; omega) _).setCell (p := ⟨w.heap.size + 1, 2, none⟩) (by show w.heap.size ≤ w.heap.size + 1; omega) _).setCell (p := ⟨w.heap.size + 1, 3, none⟩) (by show w.heap.size ≤ w.heap.size + 1; omega) _⟩
        have hfin := owns4_of2 (B := w.heap.size) (L1 := X) (L2 := WT.heap.size) (own_more4 (own_keepJ HO6.out fun g h1 _ hg => HW.out g (by omega) (by have := HLO.out g hg; omega)) (by omega)) (own_more4 (own_keepJ HQ6.out fun g h1 _ _ => HW.out g (by omega) (by omega)) (by omega)) (T1.out.keep (HW.out _ (by omega) (by omega))) (T2.out.keep (HW.out _ (by omega) (by omega))) tne HLO.out (fun x hx => ⟨by have := (HLQ.out x hx).1; omega, (HLQ.out x hx).2.1⟩) (by omega) tl1 tl2 (by omega) (by omega)
        have hzz : pN true (endN n st) = NE := HZ.out
        rw [hzz]
        exact hfin
      · have HZ : Hid (endN n st = k + 1) := endN_of HK.out (by rw [HM.out]; exact hlt) (by omega)
        have q1 : (0 : Int) < (n : Int) := by omega
        have f1 : wr.frozen? ⟨X, 1, none⟩ = false := HO.out.1.frozen 1
        go_wp2_with (at_builtin; refine wpList_append_lies _ rfl (.tmp 48) (.tmp 50) 27 rfl (X + 1) 2 i0 (.int .i64 0) 1 8 Tryz.underlying27 hi0 hz0 hz1 hz2 rfl (by decide) (.slice A' k c') k (numsOf k (endZ n st)) rfl (HO.out.2.2.2.2.1.alloc _) ⟨wr.heap.size, 0, none⟩ 1 1 [.int .i64 n] rfl rfl (World.news_of_block (cs := #[.int .i64 n]) (t := 2) (fr := (0, 0)) (heap_alloc_new wr _)) (by intro u hu; simp at hu; subst hu; rfl) (by omega) (by unfold maxLen; omega) (by omega) (by rw [World.size_alloc]; omega) (wr.heap.size + 1) (by simp) ?_)
        intro gg cc w5 hown hgr _ _
        rw [← numsOf_snoc (endZ_ge HM.out hlt)] at hown
        have HT := hid (HO.out.next _ hgr hown (by omega) (by omega))
        have hX5 : Blk w5 X 29 #[.slice Ao n co, .slice A' k c', .slice none 0 0, .slice none 0 0] := (HO.out.1.alloc _).grown hgr (fun e => by have := (own_ltJ HO.out.2.2.2.2.1 X e.symm).1; omega)
        have y1 : w5.cell? ⟨X, 1, none⟩ = some (.slice A' k c') := hX5.cell 1
        have g1 := hX5.frozen 1
        have hE5 : w5.cell? ⟨w.heap.size, 0, none⟩ = some (.int .i64 f) ∧ w5.cell? ⟨w.heap.size, 1, none⟩ = some (.int .i64 b) ∧ w5.cell? ⟨w.heap.size, 2, none⟩ = some (.slice A n c) := by
          have : Blk w5 w.heap.size 26 #[.int .i64 f, .int .i64 b, .slice A n c] := (HO.out.2.1.alloc _).grown hgr (fun e => by have := (own_ltJ HO.out.2.2.2.2.1 _ e.symm).1; omega)
          exact ⟨this.cell 0, this.cell 1, this.cell 2⟩
        have hx0 : w5.cell? ⟨X, 0, none⟩ = some (.slice Ao n co) := hX5.cell 0
        obtain ⟨hE50, hE51, hE52⟩ := hE5
        clear hown hgr HO hbs hX5 x1 f1
        go_wp2_with fail
        obtain ⟨NE, hNE⟩ : ∃ x : Nat, k + 1 = x := ⟨_, rfl⟩
        obtain ⟨WT, hWT⟩ : ∃ W, w5.setCell ⟨X, 1, none⟩ (.slice (some ⟨gg, 0, none⟩) (k + 1) cc) = W := ⟨_, rfl⟩
        obtain ⟨At, hAt⟩ : ∃ x : Option Addr, some ⟨gg, 0, none⟩ = x := ⟨_, rfl⟩
        obtain ⟨ct, hct⟩ : ∃ x : Nat, cc = x := ⟨_, rfl⟩
        rw [hWT] at HT ⊢
        rw [hNE, hAt, hct] at HT
        rw [hNE] at HZ
        clear hWT hAt hct hNE y1 g1 hE50 hE51 hE52 hx0
        have hord : Rd WT WT.heap.size Ao n fun p => (ordF (wtF pol len g) n p : Nat) := rd_own1 HT.out.2.2.2.1
        have x0 : WT.cell? ⟨X, 0, none⟩ = some (.slice Ao n co) := HT.out.1.cell 0
        have e0 : WT.cell? ⟨w.heap.size, 0, none⟩ = some (.int .i64 f) := HT.out.2.1.cell 0
        have e1 : WT.cell? ⟨w.heap.size, 1, none⟩ = some (.int .i64 b) := HT.out.2.1.cell 1
        have e2 : WT.cell? ⟨w.heap.size, 2, none⟩ = some (.slice A n c) := HT.out.2.1.cell 2
        have hbT : Below w.heap.size w WT := HT.out.2.2.2.2.2.1
        have hsT : X + 1 ≤ WT.heap.size := HT.out.2.2.2.2.2.2.1
        have hst := sTables_any f b A n c len g Ao n co (ordF (wtF pol len g) n) WT ((h.below hbT).more hbT.size) hn hn12 hlen HT6 hord (fun p hp => ordF_lt _ n p hp)
        have HBT := hid hbT
        have HST := hid hst
        clear hord hbT hst
        refine HST.out.mono ?_
        rintro e w6 ⟨b1, b2, rfl, t1, t2, tne, tl1, tl2, hb6⟩
        have hX6 := HT.out.1.below hb6 HT.out.1.lt
        have hP6 := HT.out.2.2.1.below hb6 HT.out.2.2.1.lt
        have HO6 := hid (own_below HT.out.2.2.2.1 hb6)
        have HQ6 := hid (own_below HT.out.2.2.2.2.1 hb6)
        have HB6 := hid (HBT.out.trans (hb6.mono HBT.out.size))
        have hlO := HT.out.2.2.2.2.2.2.2
        have hlQ := own_ltJ HT.out.2.2.2.2.1
        have hl1 := t1.lt
        have hl2 := t2.lt
        have HX6 := hid hX6
        have HP6 := hid hP6
        have T1 := hid t1
        have T2 := hid t2
        have HLO := hid hlO
        have HLQ := hid hlQ
        clear x0 e0 e1 e2 HST HT
        obtain ⟨⟨x0, x1, x2, x3⟩, y0, y1, y2, y3⟩ := blk_cells4 HX6.out
        obtain ⟨⟨p0, p1, p2, p3⟩, q0, q1, q2, q3⟩ := blk_cells4 HP6.out
        clear hX6 hP6 t1 t2 hlO hlQ hb6
        have ne1 : ¬ (X = w.heap.size + 1) := by omega
        have ne2 : ¬ (w.heap.size + 1 = X) := by omega
        go_wp2_with fail
        have HW : Hid (∀ x, x ≠ w.heap.size + 1 → x ≠ X → ((((((w6.setCell ⟨X, 2, none⟩ (.slice (some ⟨b1, 0, none⟩) (n + 1) (n + 1))).setCell ⟨X, 3, none⟩ (.slice (some ⟨b2, 0, none⟩) (n + 1) (n + 1))).setCell ⟨w.heap.size + 1, 0, none⟩ (.slice Ao n co)).setCell ⟨w.heap.size + 1, 1, none⟩ (.slice At NE ct)).setCell ⟨w.heap.size + 1, 2, none⟩ (.slice (some ⟨b1, 0, none⟩) (n + 1) (n + 1))).setCell ⟨w.heap.size + 1, 3, none⟩ (.slice (some ⟨b2, 0, none⟩) (n + 1) (n + 1))).heap[x]? = w6.heap[x]?) := fun x hx hX =>
          (Below.heap_setCell _ ⟨w.heap.size + 1, 3, none⟩ _ x hx).trans ((Below.heap_setCell _ ⟨w.heap.size + 1, 2, none⟩ _ x hx).trans ((Below.heap_setCell _ ⟨w.heap.size + 1, 1, none⟩ _ x hx).trans ((Below.heap_setCell _ ⟨w.heap.size + 1, 0, none⟩ _ x hx).trans ((Below.heap_setCell _ ⟨X, 3, none⟩ _ x hX).trans (Below.heap_setCell _ ⟨X, 2, none⟩ _ x hX)))))
        have hPf := ((((((HP6.out.far (p := ⟨X, 2, none⟩) (by show w.heap.size + 1 ≠ X; omega) (.slice (some ⟨b1, 0, none⟩) (n + 1) (n + 1))).far (p := ⟨X, 3, none⟩) (by show w.heap.size + 1 ≠ X; omega) (.slice (some ⟨b2, 0, none⟩) (n + 1) (n + 1))).set_ 0 (.slice Ao n co)).set_ 1 (.slice At NE ct)).set_ 2 (.slice (some ⟨b1, 0, none⟩) (n + 1) (n + 1))).set_ 3 (.slice (some ⟨b2, 0, none⟩) (n + 1) (n + 1)))
        refine bodyPost_ret (results_cell_row_tmpP rfl _ _ (w.heap.size + 1) 29 #[.slice Ao n co, .slice At NE ct, .slice (some ⟨b1, 0, none⟩) (n + 1) (n + 1), .slice (some ⟨b2, 0, none⟩) (n + 1) (n + 1)] (0, 0) _ rfl hPf Tryz.underlying29 rfl size_plan) rfl ?_
        refine ⟨Ao, co, At, ct, some ⟨b1, 0, none⟩, n + 1, some ⟨b2, 0, none⟩, n + 1, by rw [← HZ.out]; rfl, ?_, (((((HB6.out.setCell (p := ⟨X, 2, none⟩) (by show w.heap.size ≤ X; omega) _).setCell (p := ⟨X, 3, none⟩) (by show w.heap.size ≤ X; omega) _).setCell (p := ⟨w.heap.size + 1, 0, none⟩) (by show w.heap.size ≤ w.heap.size + 1; omega) _).setCell (p := ⟨w.heap.size + 1, 1, none⟩) (by show w.heap.size ≤ w.heap.size + 1; omega) _).setCell (p := ⟨w.heap.size + 1, 2, none⟩) (by show w.heap.size ≤ w.heap.size + 1; omega) _).setCell (p := ⟨w.heap.size + 1, 3, none⟩) (by show w.heap.size ≤ w.heap.size + 1; omega) _⟩
        have hfin := owns4_of2 (B := w.heap.size) (L1 := X) (L2 := WT.heap.size) (own_more4 (own_keepJ HO6.out fun g h1 _ hg => HW.out g (by omega) (by have := HLO.out g hg; omega)) (by omega)) (own_more4 (own_keepJ HQ6.out fun g h1 _ _ => HW.out g (by omega) (by omega)) (by omega)) (T1.out.keep (HW.out _ (by omega) (by omega))) (T2.out.keep (HW.out _ (by omega) (by omega))) tne HLO.out (fun x hx => ⟨by have := (HLQ.out x hx).1; omega, (HLQ.out x hx).2.1⟩) (by omega) tl1 tl2 (by omega) (by omega)
        have hzz : pN true (endN n st) = NE := HZ.out
        rw [hzz]
        exact hfin
end

/-! ### PlM -/
section
set_option linter.unusedVariables false
set_option linter.unusedSimpArgs false
open Go.RowKit Go.Deep
set_option linter.unusedVariables false
set_option linter.unusedSimpArgs false

def f4 {α : Type} (a b c d : α) : Nat → α
  | 0 => a
  | 1 => b
  | 2 => c
  | _ => d
/-- Four lists, each from the start of its block, the blocks from L to H and different. -/
def R4 (w : World) (L H : Nat) (As : Nat → Option Addr) (ns bl : Nat → Nat) (zs : Nat → Nat → Int) : Prop :=
  ∀ j, j < 4 → 0 < ns j → (As j = some ⟨bl j, 0, none⟩ ∧ L ≤ bl j ∧ bl j < H ∧ Row w 2 (bl j) (ns j) (zs j)) ∧ ∀ i, i < 4 → i ≠ j → 0 < ns i → bl i ≠ bl j
theorem R4.keep {w w' : World} {L H : Nat} {As : Nat → Option Addr} {ns bl : Nat → Nat} {zs : Nat → Nat → Int} (h : R4 w L H As ns bl zs) (hk : ∀ x, L ≤ x → x < H → w'.heap[x]? = w.heap[x]?) : R4 w' L H As ns bl zs := fun j hj hp => by
  obtain ⟨⟨h1, h2, h3, h4⟩, h5⟩ := h j hj hp
  exact ⟨⟨h1, h2, h3, h4.keep (hk _ h2 h3)⟩, h5⟩
theorem R4.rd {w : World} {L H j : Nat} {As : Nat → Option Addr} {ns bl : Nat → Nat} {zs : Nat → Nat → Int} (h : R4 w L H As ns bl zs) (hj : j < 4) : Rd w H (As j) (ns j) (zs j) := fun hp => by
  obtain ⟨⟨h1, h2, h3, h4⟩, _⟩ := h j hj hp
  rw [h1]
  exact h4.rd h3 hp
theorem R4.rdP {w : World} {L H : Nat} {As : Nat → Option Addr} {ns bl : Nat → Nat} {zs : Nat → Nat → Int} (h : R4 w L H As ns bl zs) : RdP w H (As 0) (ns 0) (zs 0) (As 1) (ns 1) (zs 1) (As 2) (ns 2) (zs 2) (As 3) (ns 3) (zs 3) :=
  ⟨h.rd (by decide), h.rd (by decide), h.rd (by decide), h.rd (by decide)⟩
theorem own_b {w : World} {B n c : Nat} {A : Option Addr} {z : Nat → Int} (h : w.ownsRow B 2 1 (.slice A n c) n (numsOf n z)) : ∃ b, 0 < n → (A = some ⟨b, 0, none⟩ ∧ B ≤ b ∧ b < w.heap.size ∧ Row w 2 b n z) := by
  by_cases hn : 0 < n
  · obtain ⟨g, c', e, hB, hr⟩ := own_row h hn
    injection e with e1 e2 e3
    exact ⟨g, fun _ => ⟨e1, hB, hr.lt, hr⟩⟩
  · exact ⟨0, fun q => absurd q hn⟩
theorem Owns4.r4 {w : World} {B n1 c1 n2 c2 n3 c3 n4 c4 : Nat} {A1 A2 A3 A4 : Option Addr} {z1 z2 z3 z4 : Nat → Int} (h : Owns4 w B A1 n1 c1 z1 A2 n2 c2 z2 A3 n3 c3 z3 A4 n4 c4 z4) : ∃ bl, R4 w B w.heap.size (f4 A1 A2 A3 A4) (f4 n1 n2 n3 n4) bl (f4 z1 z2 z3 z4) := by
  obtain ⟨o1, o2, o3, o4, d12, d13, d14, d23, d24, d34⟩ := h
  obtain ⟨b1, h1⟩ := own_b o1
  obtain ⟨b2, h2⟩ := own_b o2
  obtain ⟨b3, h3⟩ := own_b o3
  obtain ⟨b4, h4⟩ := own_b o4
  have ob : ∀ {A : Option Addr} {n c b : Nat}, A = some ⟨b, 0, none⟩ → (Value.slice A n c).ownBlock = some b := fun e => by subst e; rfl
  have e12 : 0 < n1 → 0 < n2 → b1 ≠ b2 := fun p q e => d12 b1 (ob (h1 p).1) (by rw [e]; exact ob (h2 q).1)
  have e13 : 0 < n1 → 0 < n3 → b1 ≠ b3 := fun p q e => d13 b1 (ob (h1 p).1) (by rw [e]; exact ob (h3 q).1)
  have e14 : 0 < n1 → 0 < n4 → b1 ≠ b4 := fun p q e => d14 b1 (ob (h1 p).1) (by rw [e]; exact ob (h4 q).1)
  have e23 : 0 < n2 → 0 < n3 → b2 ≠ b3 := fun p q e => d23 b2 (ob (h2 p).1) (by rw [e]; exact ob (h3 q).1)
  have e24 : 0 < n2 → 0 < n4 → b2 ≠ b4 := fun p q e => d24 b2 (ob (h2 p).1) (by rw [e]; exact ob (h4 q).1)
  have e34 : 0 < n3 → 0 < n4 → b3 ≠ b4 := fun p q e => d34 b3 (ob (h3 p).1) (by rw [e]; exact ob (h4 q).1)
  refine ⟨f4 b1 b2 b3 b4, fun j hj hp => ?_⟩
  match j, hj with
  | 0, _ => exact ⟨h1 hp, fun i hi hne hpi => match i, hi with
    | 0, _ => absurd rfl hne
    | 1, _ => fun e => e12 hp hpi e.symm
    | 2, _ => fun e => e13 hp hpi e.symm
    | 3, _ => fun e => e14 hp hpi e.symm⟩
  | 1, _ => exact ⟨h2 hp, fun i hi hne hpi => match i, hi with
    | 0, _ => e12 hpi hp
    | 1, _ => absurd rfl hne
    | 2, _ => fun e => e23 hp hpi e.symm
    | 3, _ => fun e => e24 hp hpi e.symm⟩
  | 2, _ => exact ⟨h3 hp, fun i hi hne hpi => match i, hi with
    | 0, _ => e13 hpi hp
    | 1, _ => e23 hpi hp
    | 2, _ => absurd rfl hne
    | 3, _ => fun e => e34 hp hpi e.symm⟩
  | 3, _ => exact ⟨h4 hp, fun i hi hne hpi => match i, hi with
    | 0, _ => e14 hpi hp
    | 1, _ => e24 hpi hp
    | 2, _ => e34 hpi hp
    | 3, _ => absurd rfl hne⟩

/-- What a mark from k on writes. -/
def mk4 (k : Int) (ns : Nat → Nat) (j i : Nat) : Int := f4 k (k + ns 0) (k + ns 0 + ns 1) (k + ns 0 + ns 1 + ns 2) j + i
abbrev plF (As : Nat → Option Addr) (ns cs : Nat → Nat) : Value := plV (As 0) (ns 0) (cs 0) (As 1) (ns 1) (cs 1) (As 2) (ns 2) (cs 2) (As 3) (ns 3) (cs 3)
theorem R4.congr {w : World} {L H : Nat} {As : Nat → Option Addr} {ns bl : Nat → Nat} {zs ys : Nat → Nat → Int} (h : R4 w L H As ns bl zs) (he : ∀ j, j < 4 → ∀ i, zs j i = ys j i) : R4 w L H As ns bl ys := fun j hj hp => by
  obtain ⟨⟨h1, h2, h3, h4⟩, h5⟩ := h j hj hp
  exact ⟨⟨h1, h2, h3, h4.congr fun i _ => he j hj i⟩, h5⟩

end

/-! ### PlN -/
section
set_option linter.unusedVariables false
set_option linter.unusedSimpArgs false
open Go.RowKit Go.Deep
set_option linter.unusedVariables false
set_option linter.unusedSimpArgs false

/-- What PlanOf leaves, its lists named. -/
def PlPost (w : World) (N1 N2 N3 : Nat) (z1 z2 z3 z4 : Nat → Int) (Y : Bool) (e : Ending) (w' : World) : Prop :=
  ∃ (A1 : Option Addr) (c1 : Nat) (A2 : Option Addr) (c2 : Nat) (A3 : Option Addr) (c3 : Nat) (A4 : Option Addr) (c4 : Nat), e = .returned (.tuple #[plV A1 N1 c1 A2 N2 c2 A3 N3 c3 A4 N3 c4, .bool Y]) ∧ Owns4 w' w.heap.size A1 N1 c1 z1 A2 N2 c2 z2 A3 N3 c3 z3 A4 N3 c4 z4 ∧ Below w.heap.size w w'
theorem endN_le {n st : Nat} (hn : n ≤ 12) (h1 : 1 ≤ st) : endN n st ≤ 12 := by
  unfold endN
  split
  · omega
  · have := Nat.div_le_self (n - 1) st
    omega
theorem planOf_both (f b pol st : Int) (n : Nat) (len : Nat → Nat) (g : Nat → Nat → Nd) (hn : n ≤ 4194304) (hlen : Hid (∀ i, i < n → len i ≤ 4194304)) :
    ∃ (N1 N2 N3 : Nat) (z1 z2 z3 z4 : Nat → Int) (Y : Bool), (N1 ≤ 13 ∧ N2 ≤ 13 ∧ N3 ≤ 13) ∧
      (∀ A c w, RdT w w.heap.size A n len g → Calls Tryz.prog 19 #[enV f b A n c, .int .i64 pol, .int .i64 st] w (PlPost w N1 N2 N3 z1 z2 z3 z4 Y)) ∧
      (∀ A c w, RdT w w.heap.size A n len g → Calls Tryz.prog 21 #[enV f b A n c, .int .i64 pol, .int .i64 st] w (PlPost w N1 N2 N3 z1 z2 z3 z4 Y)) := by
  cases hY : planY f b pol st n len g with
  | false =>
    refine ⟨0, 0, 0, fun _ => 0, fun _ => 0, fun _ => 0, fun _ => 0, false, ⟨by omega, by omega, by omega⟩, fun A c w h => ?_, fun A c w h => ?_⟩
    · exact (iPlanOf_no f b pol st A n c len g w h hn hlen hY).mono fun _ _ ⟨he, hb⟩ => ⟨none, 0, none, 0, none, 0, none, 0, he, owns4_nil _ _ _ _ _ _, hb⟩
    · exact (sPlanOf_no f b pol st A n c len g w h hn hlen hY).mono fun _ _ ⟨he, hb⟩ => ⟨none, 0, none, 0, none, 0, none, 0, he, owns4_nil _ _ _ _ _ _, hb⟩
  | true =>
    have hy := hY
    unfold planY at hy
    rw [Bool.and_eq_true, Bool.and_eq_true, decide_eq_true_eq, decide_eq_true_eq] at hy
    have hn12 := (ensB_iff.1 (polB_true hy.1).1).2.2.1
    obtain ⟨s, rfl⟩ : ∃ s : Nat, st = (s : Int) := ⟨st.toNat, by omega⟩
    exact ⟨n, endN n s, n + 1, _, _, _, _, true, ⟨by omega, by have := endN_le (st := s) hn12 (by omega); omega, by omega⟩, fun A c w h => iPlanOf_yes f b pol s A n c len g w h hn hlen hY, fun A c w h => sPlanOf_yes f b pol s A n c len g w h hn hlen hY⟩
theorem RdP.keepH {w w' : World} {B n1 n2 n3 n4 : Nat} {A1 A2 A3 A4 : Option Addr} {z1 z2 z3 z4 : Nat → Int} (h : RdP w B A1 n1 z1 A2 n2 z2 A3 n3 z3 A4 n4 z4) (hk : ∀ x, x < B → w'.heap[x]? = w.heap[x]?) : RdP w' B A1 n1 z1 A2 n2 z2 A3 n3 z3 A4 n4 z4 :=
  ⟨h.o.keep fun p hp => World.cell?_of_block (hk _ hp), h.e.keep fun p hp => World.cell?_of_block (hk _ hp), h.m.keep fun p hp => World.cell?_of_block (hk _ hp), h.x.keep fun p hp => World.cell?_of_block (hk _ hp)⟩
end
end Go.Proofs.YtlgomifpohdniaaGreat
