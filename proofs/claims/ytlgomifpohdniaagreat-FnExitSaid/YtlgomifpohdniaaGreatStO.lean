/- Evaluated until it is enough. -/
import Derived.Test.YtlgomifpohdniaaGreatStN
namespace Go.Proofs.YtlgomifpohdniaaGreat
open Go.RowKit Go.Shelf Go.Deep
set_option linter.unusedVariables false
set_option linter.unusedSimpArgs false

attribute [local go_sem] Oper.semAt_some

theorem stages_any (f b : Int) (Ar : Option Addr) (nr cr : Nat) (Aw : Option Addr) (nw cw : Nat) (A1 : Option Addr) (n1 c1 : Nat) (A2 : Option Addr) (n2 c2 : Nat) (A3 : Option Addr) (n3 c3 : Nat) (A4 : Option Addr) (n4 c4 : Nat) (D : Option Addr) (p dc : Nat) (w : World) :
    Calls Tryz.prog 92 #[.agg (sgC f b Ar nr cr Aw nw cw A1 n1 c1 A2 n2 c2 A3 n3 c3 A4 n4 c4), .slice D p dc] w fun e w' =>
      ∃ lb, e = .returned (.func (.func 116) #[] lb) ∧ SeqAt w (sgC f b Ar nr cr Aw nw cw A1 n1 c1 A2 n2 c2 A3 n3 c3 A4 n4 c4) D p dc lb w' ∧ Below w.heap.size w w' := by
  have hbx := ((Below.refl w.heap.size w).alloc (Nat.le_refl _) (.cells (sgC f b Ar nr cr Aw nw cw A1 n1 c1 A2 n2 c2 A3 n3 c3 A4 n4 c4) 68)).alloc (by simp) (.cells #[.slice D p dc] 27)
  have e1 : Blk ((w.alloc (.cells (sgC f b Ar nr cr Aw nw cw A1 n1 c1 A2 n2 c2 A3 n3 c3 A4 n4 c4) 68)).alloc (.cells #[.slice D p dc] 27)) w.heap.size 68 _ := (Blk.new w _ _).alloc _
  have e2 : Blk ((w.alloc (.cells (sgC f b Ar nr cr Aw nw cw A1 n1 c1 A2 n2 c2 A3 n3 c3 A4 n4 c4) 68)).alloc (.cells #[.slice D p dc] 27)) (w.heap.size + 1) 27 _ := Blk.new2 w _ _ _
  have HB := hid hbx
  have H1 := hid e1
  have H2 := hid e2
  clear hbx e1 e2
  go_enter Tryz.func92, Tryz.ntmps92
  go_wp2_with fail
  go_ret
  exact ⟨_, rfl, ⟨_, _, rfl, Nat.le_refl _, Nat.le_succ _, by omega, H1.out, H2.out⟩, HB.out⟩

/-- Is what is known enough for a threshold. -/
def enB (t lo hi : Int) : Bool := decide (lo ≥ t) || decide (hi < t)
theorem cl1_any (t lo hi : Int) (tb : Nat) (w : World) (hc : w.cell? ⟨tb, 0, none⟩ = some (.int .i64 t)) :
    Calls Tryz.prog 51 #[.int .i64 lo, .int .i64 hi, .pointer (some ⟨tb, 0, none⟩)] w fun e w' => e = .returned (.bool (enB t lo hi)) ∧ w = w' := by
  by_cases h1 : lo ≥ t
  · have d1 : decide (lo ≥ t) = true := decide_eq_true h1
    have e1 : enB t lo hi = true := by unfold enB; rw [d1]; rfl
    rw [e1]
    clear e1
    go_enter Tryz.func51, Tryz.ntmps51
    go_wp2_with fail
    go_ret
    exact ⟨rfl, rfl⟩
  · have d1 : decide (lo ≥ t) = false := decide_eq_false h1
    have d2 : decide (t ≤ lo) = false := d1
    obtain ⟨H, hH⟩ : ∃ H, decide (hi < t) = H := ⟨_, rfl⟩
    have e1 : enB t lo hi = H := by unfold enB; rw [d1, hH]; rfl
    rw [e1]
    clear e1
    go_enter Tryz.func51, Tryz.ntmps51
    go_wp2_with fail
    go_ret
    exact ⟨by simp [hH], rfl⟩

/-- The positions at which the evaluation stands still; the last one of a list of them. -/
theorem ups_max {N : Nat} : ∀ k, k ≤ N → ∀ i, i ∈ ups N k → i.1 < k := by
  intro k
  induction k with
  | zero => intro _ i h; cases h
  | succ k ih =>
    intro hk i h
    rw [ups_succ (by omega)] at h
    rcases List.mem_append.1 h with h | h
    · have := ih (by omega) i h; omega
    · rw [List.mem_singleton.1 h]; exact Nat.lt_succ_self k
theorem last_max {N : Nat} (q : Ix N → Bool) : ∀ k, k ≤ N → ∀ x, ((ups N k).filter q).getLast? = some x → ∀ i, i ∈ (ups N k).filter q → i.1 ≤ x.1 := by
  intro k
  induction k with
  | zero => intro _ x _ i h; cases h
  | succ k ih =>
    intro hk x hx i h
    rw [ups_succ (by omega), List.filter_append, List.filter_cons] at hx h
    cases e : q ⟨k, hk⟩ with
    | true =>
      rw [e] at hx h
      simp only [if_true, List.filter_nil, List.getLast?_append, List.getLast?_singleton, Option.some_or, Option.some.injEq] at hx h
      have hv : x.1 = k := by rw [← hx]
      rcases List.mem_append.1 h with h | h
      · have := ups_max k (by omega) i (List.mem_filter.1 h).1; omega
      · rw [List.mem_singleton.1 h, hv]; exact Nat.le_refl _
    | false =>
      rw [e] at hx h
      simp only [Bool.false_eq_true, if_false, List.filter_nil, List.append_nil] at hx h
      exact ih (by omega) x hx i h

/-- The answer of until. -/
def UntilAt (N : Nat) (z2 : Nat → Int) (n2 : Nat) (en : Nat → Bool) (k : Nat) : Prop :=
  ∃ h : k < N, stp z2 n2 (⟨k, h⟩ : Ix N) = true ∧ (∀ j : Ix N, j.1 < k → stp z2 n2 j = true → en j.1 = false) ∧ (en k = true ∨ ∀ j : Ix N, stp z2 n2 j = true → j.1 ≤ k)
/-- The boxes of until. -/
def U4 (S : Nat) (w0 : World) (gc : Array Value) (ve : Value) (sc : Array Value) (tb : Nat) (t : Int) (W : World) : Prop :=
  Blk W S 68 gc ∧ Blk W (S + 1) 93 #[ve] ∧ Blk W (S + 1 + 1) 33 #[.int .i64 0, .int .i64 0, .int .i64 0] ∧ Blk W (S + 1 + 1 + 1) 33 sc ∧ Below w0.heap.size w0 W ∧ W.cell? ⟨tb, 0, none⟩ = some (.int .i64 t)
section
variable {S tb B : Nat} {w0 W W' : World} {gc sc : Array Value} {ve : Value} {t : Int}
theorem U4.below (h : U4 S w0 gc ve sc tb t W) (hb : Below B W W') (hS : S + 3 < B) (ht : tb < B) (h0 : w0.heap.size ≤ B) : U4 S w0 gc ve sc tb t W' :=
  ⟨h.1.below hb (by omega), h.2.1.below hb (by omega), h.2.2.1.below hb (by omega), h.2.2.2.1.below hb (by omega), h.2.2.2.2.1.trans (hb.mono h0), (hb.cell (p := ⟨tb, 0, none⟩) ht).trans h.2.2.2.2.2⟩
theorem U4.new (w : World) (hS : w.heap.size = S) (gc : Array Value) (ve : Value) (hc : w.cell? ⟨tb, 0, none⟩ = some (.int .i64 t)) (ht : tb < w.heap.size) :
    U4 S w gc ve #[.int .i64 0, .int .i64 0, .int .i64 0] tb t ((((w.alloc (.cells gc 68)).alloc (.cells #[ve] 93)).alloc (.cells #[.int .i64 0, .int .i64 0, .int .i64 0] 33)).alloc (.cells #[.int .i64 0, .int .i64 0, .int .i64 0] 33)) := by
  subst hS
  have hb : Below w.heap.size w ((((w.alloc (.cells gc 68)).alloc (.cells #[ve] 93)).alloc (.cells #[.int .i64 0, .int .i64 0, .int .i64 0] 33)).alloc (.cells #[.int .i64 0, .int .i64 0, .int .i64 0] 33)) := ((((Below.refl _ w).alloc (Nat.le_refl _) _).alloc (by simp) _).alloc (by simp; omega) _).alloc (by simp; omega) _
  refine ⟨(((Blk.new w _ _).alloc _).alloc _).alloc _, ((Blk.new2 w _ _ _).alloc _).alloc _, (Blk.new3 w _ _ _ _).alloc _, ?_, hb, (hb.cell (p := ⟨tb, 0, none⟩) ht).trans hc⟩
  have h := Blk.new (((w.alloc (.cells gc 68)).alloc (.cells #[ve] 93)).alloc (.cells #[.int .i64 0, .int .i64 0, .int .i64 0] 33)) 33 #[.int .i64 0, .int .i64 0, .int .i64 0]
  simp only [World.size_alloc] at h
  exact h
theorem U4.put {x0 x1 x2 : Value} (h : U4 S w0 gc ve #[x0, x1, x2] tb t W) (u0 u1 u2 : Value) (hS : w0.heap.size ≤ S) (ht : tb < S) : U4 S w0 gc ve #[u0, u1, u2] tb t (((W.setCell ⟨S + 1 + 1 + 1, 0, none⟩ u0).setCell ⟨S + 1 + 1 + 1, 1, none⟩ u1).setCell ⟨S + 1 + 1 + 1, 2, none⟩ u2) := by
  obtain ⟨h1, h2, h3, h4, h5, h6⟩ := h
  have hk : ∀ x, x ≠ S + 1 + 1 + 1 → (((W.setCell ⟨S + 1 + 1 + 1, 0, none⟩ u0).setCell ⟨S + 1 + 1 + 1, 1, none⟩ u1).setCell ⟨S + 1 + 1 + 1, 2, none⟩ u2).heap[x]? = W.heap[x]? := fun x q =>
    (Below.heap_setCell _ ⟨S + 1 + 1 + 1, 2, none⟩ _ x q).trans ((Below.heap_setCell _ ⟨S + 1 + 1 + 1, 1, none⟩ _ x q).trans (Below.heap_setCell _ ⟨S + 1 + 1 + 1, 0, none⟩ _ x q))
  exact ⟨(hk _ (by omega)).trans h1, (hk _ (by omega)).trans h2, (hk _ (by omega)).trans h3, ((h4.set_ 0 u0).set_ 1 u1).set_ 2 u2, ((h5.setCell (p := ⟨S + 1 + 1 + 1, 0, none⟩) (by show w0.heap.size ≤ S + 1 + 1 + 1; omega) _).setCell (p := ⟨S + 1 + 1 + 1, 1, none⟩) (by show w0.heap.size ≤ S + 1 + 1 + 1; omega) _).setCell (p := ⟨S + 1 + 1 + 1, 2, none⟩) (by show w0.heap.size ≤ S + 1 + 1 + 1; omega) _, (World.cell?_of_block (a := ⟨tb, 0, none⟩) (hk tb (by omega))).trans h6⟩
theorem U4.res (h : U4 S w0 gc ve sc tb t W) (u0 u1 u2 : Value) (hS : w0.heap.size ≤ S) : Blk (((W.setCell ⟨S + 1 + 1, 0, none⟩ u0).setCell ⟨S + 1 + 1, 1, none⟩ u1).setCell ⟨S + 1 + 1, 2, none⟩ u2) (S + 1 + 1) 33 #[u0, u1, u2] ∧ Below w0.heap.size w0 (((W.setCell ⟨S + 1 + 1, 0, none⟩ u0).setCell ⟨S + 1 + 1, 1, none⟩ u1).setCell ⟨S + 1 + 1, 2, none⟩ u2) :=
  ⟨((h.2.2.1.set_ 0 u0).set_ 1 u1).set_ 2 u2, ((h.2.2.2.2.1.setCell (p := ⟨S + 1 + 1, 0, none⟩) (by show w0.heap.size ≤ S + 1 + 1; omega) _).setCell (p := ⟨S + 1 + 1, 1, none⟩) (by show w0.heap.size ≤ S + 1 + 1; omega) _).setCell (p := ⟨S + 1 + 1, 2, none⟩) (by show w0.heap.size ≤ S + 1 + 1; omega) _⟩
theorem blk_end {x D : Nat} {ty : TypeId} {cs : Array Value} (hb : Blk W x ty cs) (hD : W.heap[D]? = some (.deferred (some []))) : Blk (W.putObj D (.deferred none)) x ty cs := (World.putObj_heap_other (fun e => by
    have h' : W.heap[x]? = _ := hb
    rw [e, hD] at h'
    cases h')).trans hb
theorem U4.own (h : U4 S w0 gc ve sc tb t W) (hb : Below S W W') (hS : w0.heap.size ≤ S) (ht : tb < S) (hk : ∀ (x : Nat) (t : TypeId) (cs : Array Value), Blk W x t cs → Blk W' x t cs) : U4 S w0 gc ve sc tb t W' :=
  ⟨hk _ _ _ h.1, hk _ _ _ h.2.1, hk _ _ _ h.2.2.1, hk _ _ _ h.2.2.2.1, h.2.2.2.2.1.trans (hb.mono hS), (hb.cell (p := ⟨tb, 0, none⟩) ht).trans h.2.2.2.2.2⟩
end
theorem below_own {B : Nat} {W W' : World} {row : Option Nat} {C : Nat} (hg : W.grownBy W' row) (hr : ∀ r, row = some r → C ≤ r ∧ ∃ o : Obj, W.heap[r]? = some o ∧ o.isCells = false) (hB : B ≤ C) (hs : B ≤ W.heap.size) : Below B W W' :=
  (Below.refl B W).grown hg hs (fun k e => Nat.le_trans hB (hr k e).1)
theorem u4_cells {S tb : Nat} {w0 W : World} {x0 x1 x2 x3 x4 x5 x6 x7 s0 s1 s2 ve : Value} {t : Int} (h : U4 S w0 #[x0, x1, x2, x3, x4, x5, x6, x7] ve #[s0, s1, s2] tb t W) : W.cell? ⟨S, 0, none⟩ = some x0 ∧ W.cell? ⟨S, 1, none⟩ = some x1 ∧ W.cell? ⟨S, 2, none⟩ = some x2 ∧ W.cell? ⟨S, 3, none⟩ = some x3 ∧ W.cell? ⟨S, 4, none⟩ = some x4 ∧ W.cell? ⟨S, 5, none⟩ = some x5 ∧ W.cell? ⟨S, 6, none⟩ = some x6 ∧ W.cell? ⟨S, 7, none⟩ = some x7 ∧ W.cell? ⟨S + 1, 0, none⟩ = some ve ∧ W.cell? ⟨S + 1 + 1 + 1, 0, none⟩ = some s0 ∧ W.cell? ⟨S + 1 + 1 + 1, 1, none⟩ = some s1 ∧ W.cell? ⟨S + 1 + 1 + 1, 2, none⟩ = some s2 :=
  ⟨h.1.cell 0, h.1.cell 1, h.1.cell 2, h.1.cell 3, h.1.cell 4, h.1.cell 5, h.1.cell 6, h.1.cell 7, h.2.1.cell 0, h.2.2.2.1.cell 0, h.2.2.2.1.cell 1, h.2.2.2.1.cell 2⟩
/-- What stands between two rounds of until. -/
def UI (S : Nat) (w0 : World) (gc : Array Value) (ve : Value) (tb : Nat) (t : Int) (W3 : Nat) {N : Nat} (Sf Qf : Nat → Int) (en : Nat → Bool) (pre : List (Ix N)) (X : World) : Prop :=
  ∃ a s q : Int, U4 S w0 gc ve #[.int .i64 a, .int .i64 s, .int .i64 q] tb t X ∧ W3 ≤ X.heap.size ∧ (∀ x, pre.getLast? = some x → a = (x.1 : Nat) ∧ s = Sf x.1 ∧ q = Qf x.1) ∧ ∀ i, i ∈ pre → en i.1 = false

set_option maxRecDepth 100000 in
set_option maxHeartbeats 8000000 in
theorem until_cl (f b : Int) (Ar : Option Addr) (cr : Nat) (Aw : Option Addr) (cw n : Nat) (len : Nat → Nat) (g : Nat → Nat → Nd) (A1 : Option Addr) (n1 c1 : Nat) (o : Nat → Nat) (A2 : Option Addr) (n2 c2 : Nat) (z2 : Nat → Int) (A3 : Option Addr) (n3 c3 : Nat) (z3 : Nat → Int) (A4 : Option Addr) (n4 c4 : Nat) (z4 : Nat → Int) (D : Option Addr) (p dc : Nat) (z : Nat → Int) (tb : Nat) (t : Int) (w : World)
    (hR : Rd w w.heap.size Ar n (rootZ len)) (hw : RdW w w.heap.size Aw (cumT len n) (wordZ len g n)) (h1 : Rd w w.heap.size A1 n1 fun i => (o i : Nat)) (h2 : Rd w w.heap.size A2 n2 z2) (h3 : Rd w w.heap.size A3 n3 z3) (h4 : Rd w w.heap.size A4 n4 z4) (hd : Rd w w.heap.size D p z) (hn : n ≤ 12) (hp : p ≤ 6) (ho : Hid (∀ i, i < n1 → o i < n)) (ht : Hid (∀ i, i < n → treeB (g i) (len i) p = true)) (hlen : Hid (∀ i, i < n → 1 ≤ len i ∧ len i ≤ 15)) (hn1 : n1 ≤ 12) (hn2 : n2 ≤ 4194304)
    (hn3 : n1 + 1 ≤ n3 ∧ n3 ≤ 20) (hn4 : n1 + 1 ≤ n4 ∧ n4 ≤ 20) (hb : -1000000000 ≤ b ∧ b ≤ 1000000000) (hz : Hid (∀ i, i ≤ n1 → (-12000000000 ≤ z3 i ∧ z3 i ≤ 12000000000) ∧ (-12000000000 ≤ z4 i ∧ z4 i ≤ 12000000000)))
    (hc : w.cell? ⟨tb, 0, none⟩ = some (.int .i64 t)) (htb : tb < w.heap.size) :
    Calls Tryz.prog 50 #[.agg (sgC f b Ar n cr Aw (cumT len n) cw A1 n1 c1 A2 n2 c2 A3 n3 c3 A4 n4 c4), .slice D p dc, .func (.func 51) #[] #[.pointer (some ⟨tb, 0, none⟩)]] w fun e w' =>
      ∃ k : Nat, UntilAt (n1 + 1) z2 n2 (fun k => enB t (b + sumT (scO g o z) k + z3 k) (b + sumT (scO g o z) k + z4 k)) k ∧ e = .returned (stV (k : Nat) (sumT (scO g o z) k) (sumT (csF g o z) k)) ∧ Below w.heap.size w w' := by
  have HS := hid (sumT_bound (p := scO g o z) (n := n1) fun i hi => lvv_bound z (ht.out (o i) (ho.out i hi)))
  obtain ⟨S, hS⟩ : ∃ S, w.heap.size = S := ⟨_, rfl⟩
  have hG := U4.new w hS (sgC f b Ar n cr Aw (cumT len n) cw A1 n1 c1 A2 n2 c2 A3 n3 c3 A4 n4 c4) (.func (.func 51) #[] #[.pointer (some ⟨tb, 0, none⟩)]) hc htb
  refine (callsIn_wide (n := 8)).1 ?_
  refine callsIn_of_wp_marks Tryz.func50 rfl trivial ?_ rfl
  simp only [Tryz.ntmps50, List.size_toArray, List.length_cons, List.length_nil, Nat.reduceAdd, Nat.reduceSub, Array.replicate_succ, Array.replicate_zero, List.push_toArray, List.append_toArray, List.nil_append, List.cons_append]
  clear hc
  gi_wp2_with fail
  obtain ⟨W0, hW0⟩ : ∃ X, (((w.alloc (.cells (sgC f b Ar n cr Aw (cumT len n) cw A1 n1 c1 A2 n2 c2 A3 n3 c3 A4 n4 c4) 68)).alloc (.cells #[.func (.func 51) #[] #[.pointer (some ⟨tb, 0, none⟩)]] 93)).alloc (.cells #[.int .i64 0, .int .i64 0, .int .i64 0] 33)).alloc (.cells #[.int .i64 0, .int .i64 0, .int .i64 0] 33) = X := ⟨_, rfl⟩
  rw [hW0] at hG ⊢
  clear hW0
  have hS3 : S + 3 < W0.heap.size := by have := hG.2.2.2.1.lt; omega
  have htS : tb < S := by omega
  refine ⟨trivial, ?_⟩
  refine (callsIn_wide.2 (stages_any f b Ar n cr Aw (cumT len n) cw A1 n1 c1 A2 n2 c2 A3 n3 c3 A4 n4 c4 D p dc W0)).mono ?_
  rintro e w3 ⟨lb, rfl, ⟨bx, by_, rfl, hxl, hyl, hxy, hbx, hby⟩, hb3⟩
  have hG3 := hG.below hb3 hS3 (by omega) hG.2.2.2.2.1.size
  have hs3 := hb3.size
  have hB3 := hG3.2.2.2.2.1
  have oR3 := hR.below hB3
  have oW3 : RdW w3 w.heap.size Aw (cumT len n) (wordZ len g n) := fun h0 => by
    obtain ⟨b, off, e, hb, hc⟩ := hw h0
    exact ⟨b, off, e, hb, fun i hi => (hB3.cell (p := ⟨b, off + i, none⟩) hb).trans (hc i hi)⟩
  have h13 := h1.below hB3
  have h23 := h2.below hB3
  have hd3 := hd.below hB3
  clear hG hb3 hR hw h1 h2 hd hB3
  gi_wp2_with fail
  refine wpIn_rangeSb (F := Fence.wide) rfl (by omega) (gf := 116) (lb := #[.pointer (some ⟨bx, 0, none⟩), .pointer (some ⟨by_, 0, none⟩)]) rfl trivial (enters_of Tryz.func116 (by kernel_rfl) rfl)
    (stages1_seq (8 - 1) (by omega) f b Ar cr Aw cw n len g A1 n1 c1 o A2 n2 c2 z2 A3 n3 c3 A4 n4 c4 D p dc z bx by_ w.heap.size (fun b => b ≠ S + 1 + 1 + 1 ∧ b < w3.heap.size) w3 hbx hby ⟨by omega, hbx.lt⟩ ⟨by omega, hby.lt⟩ (fun b hb => ⟨by omega, by omega⟩) (by omega) oR3 oW3 h13 h23 hd3 hn hp ho ht hlen hn1 hn2) (fun _ h => h.2) (fun _ => rfl)
    (fun pre X => UI S w (sgC f b Ar n cr Aw (cumT len n) cw A1 n1 c1 A2 n2 c2 A3 n3 c3 A4 n4 c4) (.func (.func 51) #[] #[.pointer (some ⟨tb, 0, none⟩)]) tb t w3.heap.size (sumT (scO g o z)) (sumT (csF g o z)) (fun k => enB t (b + sumT (scO g o z) k + z3 k) (b + sumT (scO g o z) k + z4 k)) pre X)
    (fun pre X => ∃ a s q : Int, U4 S w (sgC f b Ar n cr Aw (cumT len n) cw A1 n1 c1 A2 n2 c2 A3 n3 c3 A4 n4 c4) (.func (.func 51) #[] #[.pointer (some ⟨tb, 0, none⟩)]) #[.int .i64 a, .int .i64 s, .int .i64 q] tb t X ∧ w3.heap.size ≤ X.heap.size ∧ ∀ i, i ∈ pre → enB t (b + sumT (scO g o z) i.1 + z3 i.1) (b + sumT (scO g o z) i.1 + z4 i.1) = false)
    (fun cd pre X => cd = .exit 0 ∧ ∃ l x, pre = l ++ [x] ∧ (∀ i, i ∈ l → enB t (b + sumT (scO g o z) i.1 + z3 i.1) (b + sumT (scO g o z) i.1 + z4 i.1) = false) ∧ enB t (b + sumT (scO g o z) x.1 + z3 x.1) (b + sumT (scO g o z) x.1 + z4 x.1) = true ∧ U4 S w (sgC f b Ar n cr Aw (cumT len n) cw A1 n1 c1 A2 n2 c2 A3 n3 c3 A4 n4 c4) (.func (.func 51) #[] #[.pointer (some ⟨tb, 0, none⟩)]) #[.int .i64 (x.1 : Nat), .int .i64 (sumT (scO g o z) x.1), .int .i64 (sumT (csF g o z) x.1)] tb t X)
    (fun s X X' h hb => by obtain ⟨a, sv, q, h1, h2, h3⟩ := h; exact ⟨a, sv, q, h1.below hb (by omega) (by omega) (by omega), Nat.le_trans h2 hb.size, h3⟩)
    (fun s X X' h hb => by obtain ⟨a, sv, q, h1, h2, h3⟩ := h; exact ⟨a, sv, q, h1.below hb (by omega) (by omega) (by omega), Nat.le_trans h2 hb.size, h3⟩)
    (fun cd s X X' h hb => ⟨h.1, by obtain ⟨l, x, q1, q2, q3, q4⟩ := h.2; exact ⟨l, x, q1, q2, q3, q4.below hb (by omega) (by omega) (by omega)⟩⟩)
    ⟨0, 0, 0, hG3, Nat.le_refl _, (fun x hx => by cases hx), fun i hi => by cases hi⟩
    (fun x a' X => (a' = { tmps := #[.agg (sgC f b Ar n cr Aw (cumT len n) cw A1 n1 c1 A2 n2 c2 A3 n3 c3 A4 n4 c4), .slice D p dc, .func (.func 51) #[] #[.pointer (some ⟨tb, 0, none⟩)], .pointer (some ⟨S, 0, none⟩), undef, .pointer (some ⟨S + 1, 0, none⟩), .pointer (some ⟨S + 1 + 1, 0, none⟩), .pointer (some ⟨S + 1 + 1 + 1, 0, none⟩), .agg (sgC f b Ar n cr Aw (cumT len n) cw A1 n1 c1 A2 n2 c2 A3 n3 c3 A4 n4 c4), .slice D p dc, .func (.func 116) #[] #[.pointer (some ⟨bx, 0, none⟩), .pointer (some ⟨by_, 0, none⟩)], .agg #[.int .i64 (x.1 : Nat), .int .i64 (sumT (scO g o z) x.1), .int .i64 (sumT (csF g o z) x.1)], undef, undef, undef, undef, undef, undef, undef, undef], defers := [] }) ∧ U4 S w (sgC f b Ar n cr Aw (cumT len n) cw A1 n1 c1 A2 n2 c2 A3 n3 c3 A4 n4 c4) (.func (.func 51) #[] #[.pointer (some ⟨tb, 0, none⟩)]) #[.int .i64 (x.1 : Nat), .int .i64 (sumT (scO g o z) x.1), .int .i64 (sumT (csF g o z) x.1)] tb t X)
    (fun x a' _ X X' row hs hg hr => ⟨hs.1, hs.2.own (below_own hg hr (by omega) (by have := hs.2.2.2.2.1.lt; omega)) (by omega) htS fun x t cs h => blk_own h hg hr⟩) ?assign ?body ?done ?stop
  case assign =>
    rintro l' pre x X K ⟨a, s, q, hi, hsz, hla, hne⟩ hK
    have HH := hid hi
    obtain ⟨s0, s1, s2, f0, f1, f2⟩ := blk_cells3 hi.2.2.2.1
    have hF := hi.put (.int .i64 (x.1 : Nat)) (.int .i64 (sumT (scO g o z) x.1)) (.int .i64 (sumT (csF g o z) x.1)) (by omega) htS
    have HF := hid hF
    clear hi hF hla
    gi_wp2_with fail
    have hkp : KeptP (fun y => (y ≠ S + 1 + 1 + 1 ∧ y < w3.heap.size) ∨ w3.heap.size + 2 ≤ y) X (((X.setCell ⟨S + 1 + 1 + 1, 0, none⟩ (.int .i64 (x.1 : Nat))).setCell ⟨S + 1 + 1 + 1, 1, none⟩ (.int .i64 (sumT (scO g o z) x.1))).setCell ⟨S + 1 + 1 + 1, 2, none⟩ (.int .i64 (sumT (csF g o z) x.1))) :=
      ((KeptP.set _ _ _ (by show ¬ ((S + 1 + 1 + 1 ≠ S + 1 + 1 + 1 ∧ S + 1 + 1 + 1 < w3.heap.size) ∨ w3.heap.size + 2 ≤ S + 1 + 1 + 1); omega)).trans (KeptP.set _ _ _ (by show ¬ ((S + 1 + 1 + 1 ≠ S + 1 + 1 + 1 ∧ S + 1 + 1 + 1 < w3.heap.size) ∨ w3.heap.size + 2 ≤ S + 1 + 1 + 1); omega))).trans (KeptP.set _ _ _ (by show ¬ ((S + 1 + 1 + 1 ≠ S + 1 + 1 + 1 ∧ S + 1 + 1 + 1 < w3.heap.size) ∨ w3.heap.size + 2 ≤ S + 1 + 1 + 1); omega))
    exact hK _ _ ((((KeepsOthers.setCell _ _ _).trans (KeepsOthers.setCell _ _ _)).trans (KeepsOthers.setCell _ _ _)).from _) hkp ⟨_, _, _, HF.out, Nat.le_trans hsz hkp.1, hne⟩ ⟨rfl, HF.out⟩
  case body =>
    rintro l' pre x a' X hl hr ⟨a, s, q, hi, hsz, hne⟩ ⟨rfl, hu⟩ hlt
    have hx := x.2
    have hX3 := hu.2.2.2.2.1.size
    have h3X := (h3.below hu.2.2.2.2.1).more hX3
    have h4X := (h4.below hu.2.2.2.2.1).more hX3
    have hbs := HS.out x.1 (by omega)
    have hzx := hz.out x.1 (by omega)
    obtain ⟨Sx, hSx⟩ : ∃ s, sumT (scO g o z) x.1 = s := ⟨_, rfl⟩
    obtain ⟨Qx, hQx⟩ : ∃ s, sumT (csF g o z) x.1 = s := ⟨_, rfl⟩
    rw [hSx] at hbs
    have hs1 : -100000000000 ≤ Sx ∧ Sx ≤ 100000000000 := by omega
    have hz1 : (-100000000000 ≤ z3 x.1 ∧ z3 x.1 ≤ 100000000000) ∧ -100000000000 ≤ z4 x.1 ∧ z4 x.1 ≤ 100000000000 := by omega
    obtain ⟨H, hH⟩ : ∃ H, enB t (b + sumT (scO g o z) x.1 + z3 x.1) (b + sumT (scO g o z) x.1 + z4 x.1) = H := ⟨_, rfl⟩
    have hH2 : enB t (b + Sx + z3 x.1) (b + Sx + z4 x.1) = H := by rw [← hSx]; exact hH
    have hbd := fun X h3 h4 => sbounds_any f b Ar n cr Aw (cumT len n) cw A1 n1 c1 A2 n2 c2 A3 n3 c3 z3 A4 n4 c4 z4 x.1 Sx Qx X h3 h4 (by omega) (by omega) hn3.2 hn4.2 hb hs1 hz1
    have HBD := hid hbd
    have HH := hid hH
    have HH2 := hid hH2
    have HU := hid hu
    have HNE := hid hne
    have HSX := hid hSx
    have HQX := hid hQx
    have hBl : Below w.heap.size w X.drew := hu.2.2.2.2.1.drew
    have U0 : Hid (U4 S w (sgC f b Ar n cr Aw (cumT len n) cw A1 n1 c1 A2 n2 c2 A3 n3 c3 A4 n4 c4) (.func (.func 51) #[] #[.pointer (some ⟨tb, 0, none⟩)]) #[.int .i64 (x.1 : Nat), .int .i64 Sx, .int .i64 Qx] tb t X.drew) := by
      have := hu.below (Below.refl X.heap.size X).drew (by omega) (by omega) hX3
      rw [hSx, hQx] at this
      exact this
    have S0 := hid (u4_cells U0.out)
    clear hi hne hu hH hH2 hbd hbs hzx hs1 hz1 hr h3X h4X hSx hQx
    have hmx : Tryz.prog.follows .mixedOrders = true := by kernel_rfl
    obtain ⟨g0, g1, g2, g3, g4, g5, g6, g7, ve0, s0, s1, s2⟩ := S0.out
    have hcl := fun X h => cl1_any t (b + Sx + z3 x.1) (b + Sx + z4 x.1) tb X h
    have HCL := hid hcl
    clear hcl
    gi_wp2_with fail
    gi_region_with_o ((first
      | (refine ⟨trivial, ?_⟩; gi_at_call 44; refine (CallsIn.inRound l' (callsIn_wide.2 (HBD.out X.drew (h3.to hBl hBl.size) (h4.to hBl hBl.size)))).mono ?_; rintro e X1 ⟨rfl, hb1⟩; have U1 := hid (U0.out.below hb1 (by have := hX3; show S + 3 < X.heap.size; omega) (by show tb < X.heap.size; omega) (by show w.heap.size ≤ X.heap.size; omega)); obtain ⟨j0, j1, j2, j3, j4, j5, j6, j7, j8, j9, j10, j11⟩ := u4_cells U1.out)
      | (refine ⟨trivial, ?_⟩; refine (CallsIn.inRound l' (callsIn_wide.2 (HCL.out _ U1.out.2.2.2.2.2))).mono ?_; rintro e X2 ⟨rfl, rfl⟩)))
    all_goals
      rw [HH2.out]
      have hkb : Below X.heap.size X X1 := (Below.refl X.heap.size X).drew.trans hb1
      have hu1 : U4 S w (sgC f b Ar n cr Aw (cumT len n) cw A1 n1 c1 A2 n2 c2 A3 n3 c3 A4 n4 c4) (.func (.func 51) #[] #[.pointer (some ⟨tb, 0, none⟩)]) #[.int .i64 (x.1 : Nat), .int .i64 (sumT (scO g o z) x.1), .int .i64 (sumT (csF g o z) x.1)] tb t X1 := by
        have := U1.out
        rw [← HSX.out, ← HQX.out] at this
        exact this
      have hH := HH.out
      have hne := HNE.out
      clear S0 U0 U1 HU HBD HCL HH2 HH HNE j0 j1 j2 j3 j4 j5 j6 j7 j8 j9 j10 j11 g0 g1 g2 g3 g4 g5 g6 g7 ve0 s0 s1 s2 hb1 hmx HSX HQX
      have HF := hid (⟨hkb, hu1, hH, hne⟩ : Below X.heap.size X X1 ∧ U4 S w (sgC f b Ar n cr Aw (cumT len n) cw A1 n1 c1 A2 n2 c2 A3 n3 c3 A4 n4 c4) (.func (.func 51) #[] #[.pointer (some ⟨tb, 0, none⟩)]) #[.int .i64 (x.1 : Nat), .int .i64 (sumT (scO g o z) x.1), .int .i64 (sumT (csF g o z) x.1)] tb t X1 ∧ enB t (b + sumT (scO g o z) x.1 + z3 x.1) (b + sumT (scO g o z) x.1 + z4 x.1) = H ∧ ∀ i, i ∈ pre → enB t (b + sumT (scO g o z) i.1 + z3 i.1) (b + sumT (scO g o z) i.1 + z4 i.1) = false)
      clear hkb hu1 hH hne
      cases H with
      | true =>
        gi_wp2_with fail
        obtain ⟨q1, q2, q3, q4⟩ := HF.out
        exact ⟨(KeptP.of_below (P := fun _ => True) q1).keeps (fun _ _ => trivial), rfl, pre, x, rfl, q4, q3, q2⟩
      | false =>
        gi_wp2_with fail
        obtain ⟨q1, q2, q3, q4⟩ := HF.out
        refine ⟨(KeptP.of_below (P := fun _ => True) q1).keeps (fun _ _ => trivial), KeptP.of_below q1, _, _, _, q2, Nat.le_trans hsz q1.size, fun y hy => ?_, fun i hm => ?_⟩
        · rw [List.getLast?_append, List.getLast?_singleton, Option.some_or, Option.some.injEq] at hy
          rw [← hy]
          exact ⟨rfl, rfl, rfl⟩
        · rcases List.mem_append.1 hm with h | h
          · exact q4 i h
          · rw [List.mem_singleton.1 h]
            exact q3
  case done =>
    rintro D' xs X hD rfl ⟨a, s, q, hu, hsz, hla, hne⟩ hK
    obtain ⟨x, hx⟩ : ∃ x, ((ups (n1 + 1) (n1 + 1)).filter (stp z2 n2)).getLast? = some x := by
      have hm : (⟨0, by omega⟩ : Ix (n1 + 1)) ∈ (ups (n1 + 1) (n1 + 1)).filter (stp z2 n2) := List.mem_filter.2 ⟨mem_ups _ _ (Nat.le_refl _) (by show 0 < n1 + 1; omega), rfl⟩
      cases e : ((ups (n1 + 1) (n1 + 1)).filter (stp z2 n2)).getLast? with
      | none => rw [List.getLast?_eq_none_iff] at e; rw [e] at hm; cases hm
      | some x => exact ⟨x, rfl⟩
    obtain ⟨rfl, rfl, rfl⟩ := hla x hx
    have hans : UntilAt (n1 + 1) z2 n2 (fun k => enB t (b + sumT (scO g o z) k + z3 k) (b + sumT (scO g o z) k + z4 k)) x.1 := by
      have hmx : x ∈ (ups (n1 + 1) (n1 + 1)).filter (stp z2 n2) := List.mem_of_getLast? hx
      refine ⟨x.2, (List.mem_filter.1 hmx).2, fun j _ hs => hne j (List.mem_filter.2 ⟨mem_ups _ _ (Nat.le_refl _) j.2, hs⟩), .inr fun j hs => last_max _ _ (Nat.le_refl _) x hx j (List.mem_filter.2 ⟨mem_ups _ _ (Nat.le_refl _) j.2, hs⟩)⟩
    have HA := hid hans
    clear hla hne hans hx
    obtain ⟨s0, s1, s2⟩ := blk_three hu.2.2.2.1
    obtain ⟨r0, r1, r2, f0, f1, f2⟩ := blk_cells3 hu.2.2.1
    have HZ := hid (hu.res (.int .i64 (x.1 : Nat)) (.int .i64 (sumT (scO g o z) x.1)) (.int .i64 (sumT (csF g o z) x.1)) (by omega))
    have HKK : Hid ((((X.setCell ⟨S + 1 + 1, 0, none⟩ (.int .i64 (x.1 : Nat))).setCell ⟨S + 1 + 1, 1, none⟩ (.int .i64 (sumT (scO g o z) x.1))).setCell ⟨S + 1 + 1, 2, none⟩ (.int .i64 (sumT (csF g o z) x.1))).heap[D']? = some (.deferred (some []))) :=
      (((KeepsOthers.setCell X ⟨S + 1 + 1, 0, none⟩ (.int .i64 (x.1 : Nat))).trans (KeepsOthers.setCell _ ⟨S + 1 + 1, 1, none⟩ (.int .i64 (sumT (scO g o z) x.1)))).trans (KeepsOthers.setCell _ ⟨S + 1 + 1, 2, none⟩ (.int .i64 (sumT (csF g o z) x.1)))).same _ _ hK rfl
    clear hu hK
    gi_wp2_with fail
    refine ⟨by simp, .inl ⟨_, _, rfl, run_takeDeferred HKK.out, ?_⟩⟩
    have hq := blk_end HZ.out.1 HKK.out
    exact ⟨_, results_cell_row rfl _ _ (S + 1 + 1) 33 #[.int .i64 (x.1 : Nat), .int .i64 (sumT (scO g o z) x.1), .int .i64 (sumT (csF g o z) x.1)] (0, 0) _ rfl hq Tryz.underlying33 rfl size_state, x.1, HA.out, rfl, HZ.out.2.trans (below_put _ _ _ _ (by omega) HKK.out)⟩
  case stop =>
    rintro D' cd pre X hD ⟨k, hk, hpre⟩ ⟨rfl, l, x, rfl, hl, hx, hu⟩ hK
    have hans : UntilAt (n1 + 1) z2 n2 (fun k => enB t (b + sumT (scO g o z) k + z3 k) (b + sumT (scO g o z) k + z4 k)) x.1 := by
      have hm : x ∈ (ups (n1 + 1) k).filter (stp z2 n2) := by rw [← hpre]; exact List.mem_append.2 (.inr (List.mem_singleton.2 rfl))
      refine ⟨x.2, (List.mem_filter.1 hm).2, fun j hj hs => ?_, .inl hx⟩
      have hjm : j ∈ l ++ [x] := by
        rw [hpre]
        exact List.mem_filter.2 ⟨mem_ups j k hk (by have := ups_max k hk x (List.mem_filter.1 hm).1; omega), hs⟩
      rcases List.mem_append.1 hjm with h | h
      · exact hl j h
      · rw [List.mem_singleton.1 h] at hj; omega
    have HA := hid hans
    clear hl hx hans hpre
    obtain ⟨s0, s1, s2⟩ := blk_three hu.2.2.2.1
    obtain ⟨r0, r1, r2, f0, f1, f2⟩ := blk_cells3 hu.2.2.1
    have HZ := hid (hu.res (.int .i64 (x.1 : Nat)) (.int .i64 (sumT (scO g o z) x.1)) (.int .i64 (sumT (csF g o z) x.1)) (by omega))
    have HKK : Hid ((((X.setCell ⟨S + 1 + 1, 0, none⟩ (.int .i64 (x.1 : Nat))).setCell ⟨S + 1 + 1, 1, none⟩ (.int .i64 (sumT (scO g o z) x.1))).setCell ⟨S + 1 + 1, 2, none⟩ (.int .i64 (sumT (csF g o z) x.1))).heap[D']? = some (.deferred (some []))) :=
      (((KeepsOthers.setCell X ⟨S + 1 + 1, 0, none⟩ (.int .i64 (x.1 : Nat))).trans (KeepsOthers.setCell _ ⟨S + 1 + 1, 1, none⟩ (.int .i64 (sumT (scO g o z) x.1)))).trans (KeepsOthers.setCell _ ⟨S + 1 + 1, 2, none⟩ (.int .i64 (sumT (csF g o z) x.1)))).same _ _ hK rfl
    clear hu hK
    gi_wp2_with fail
    refine ⟨by simp, .inl ⟨_, _, rfl, run_takeDeferred HKK.out, ?_⟩⟩
    have hq := blk_end HZ.out.1 HKK.out
    exact ⟨_, results_cell_row rfl _ _ (S + 1 + 1) 33 #[.int .i64 (x.1 : Nat), .int .i64 (sumT (scO g o z) x.1), .int .i64 (sumT (csF g o z) x.1)] (0, 0) _ rfl hq Tryz.underlying33 rfl size_state, x.1, HA.out, rfl, HZ.out.2.trans (below_put _ _ _ _ (by omega) HKK.out)⟩
end Go.Proofs.YtlgomifpohdniaaGreat
