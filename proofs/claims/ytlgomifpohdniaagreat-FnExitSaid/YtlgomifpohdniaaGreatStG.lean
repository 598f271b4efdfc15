/- A state asked up to a place: the form, and the answer of the other side. -/
import Derived.Test.YtlgomifpohdniaaGreatStF
namespace Go.Proofs.YtlgomifpohdniaaGreat
open Go.RowKit Go.Deep
set_option linter.unusedVariables false
set_option linter.unusedSimpArgs false

set_option maxRecDepth 100000 in
set_option maxHeartbeats 4000000 in
theorem l7Form_any (f b : Int) (A : Option Addr) (n c : Nat) (len : Nat → Nat) (g : Nat → Nat → Nd) (A1 : Option Addr) (n1 c1 : Nat) (z1 : Nat → Int) (A2 : Option Addr) (n2 c2 : Nat) (z2 : Nat → Int) (A3 : Option Addr) (n3 c3 : Nat) (z3 : Nat → Int) (A4 : Option Addr) (n4 c4 : Nat) (z4 : Nat → Int) (D : Option Addr) (p dc : Nat) (z : Nat → Int) (w : World)
    (hr : RdT w w.heap.size A n len g) (hp : RdP w w.heap.size A1 n1 z1 A2 n2 z2 A3 n3 z3 A4 n4 z4) (hd : Rd w w.heap.size D p z) (hn : n ≤ 4194304) (hlen : Hid (∀ i, i < n → len i ≤ 4194304)) (k1 : n1 ≤ 9223372036854775807) (k2 : n2 ≤ 9223372036854775807) (k3 : n3 ≤ 9223372036854775807) (k4 : n4 ≤ 9223372036854775807) (hpp : p ≤ 4194304) :
    Calls Tryz.prog 37 #[enV f b A n c, plV A1 n1 c1 A2 n2 c2 A3 n3 c3 A4 n4 c4, .slice D p dc] w fun e w' => e = .returned (.bool (planB f b n len g n1 z1 n2 z2 n3 z3 n4 z4 && fitB f p z)) ∧ Below w.heap.size w w' := by
  have hB : Blk ((w.alloc (.cells #[.int .i64 f, .int .i64 b, .slice A n c] 26)).alloc (.cells #[.slice A1 n1 c1, .slice A2 n2 c2, .slice A3 n3 c3, .slice A4 n4 c4] 29)) w.heap.size 26 #[.int .i64 f, .int .i64 b, .slice A n c] := (Blk.new w _ _).alloc _
  have hbx : Below w.heap.size w ((w.alloc (.cells #[.int .i64 f, .int .i64 b, .slice A n c] 26)).alloc (.cells #[.slice A1 n1 c1, .slice A2 n2 c2, .slice A3 n3 c3, .slice A4 n4 c4] 29)) := ((Below.refl _ w).alloc (Nat.le_refl _) _).alloc (by simp) _
  obtain ⟨P, hPe⟩ : ∃ P, planB f b n len g n1 z1 n2 z2 n3 z3 n4 z4 = P := ⟨_, rfl⟩
  rw [hPe]
  have HP := hid hPe
  clear hPe
  obtain ⟨F, hFe⟩ : ∃ F, fitB f p z = F := ⟨_, rfl⟩
  rw [hFe]
  have HF := hid hFe
  clear hFe
  go_enter Tryz.func37, Tryz.ntmps37
  go_wp2_with fail
  obtain ⟨W0, hW0⟩ : ∃ W, (w.alloc (.cells #[.int .i64 f, .int .i64 b, .slice A n c] 26)).alloc (.cells #[.slice A1 n1 c1, .slice A2 n2 c2, .slice A3 n3 c3, .slice A4 n4 c4] 29) = W := ⟨_, rfl⟩
  rw [hW0] at hB hbx ⊢
  clear hW0
  have hr0 := hr.to hbx hbx.size
  have hp0 := hp.to hbx hbx.size
  have hd0 := hd.to hbx hbx.size
  with_reducible refine Calls.mono (sPlanOk_any f b A n c len g A1 n1 c1 z1 A2 n2 c2 z2 A3 n3 c3 z3 A4 n4 c4 z4 W0 hr0 hp0 hn hlen k1 k2 k3 k4) ?_
  rintro e w1 ⟨rfl, hb1⟩
  rw [HP.out]
  have hB1 := hB.below hb1 hB.lt
  have hbx1 := hbx.trans (hb1.mono hbx.size)
  have hd1 := hd0.to hb1 hb1.size
  clear hr0 hp0 hd0 hB hbx hb1
  obtain ⟨x0, x1, x2, _, _, _⟩ := blk_cells3 hB1
  cases P with
  | false =>
    go_wp2_with fail
    go_ret
    exact ⟨rfl, hbx1⟩
  | true =>
    go_wp2_with fail
    with_reducible refine Calls.mono (l4Fits_any f b A n c D p dc z w1 hd1 hpp) ?_
    rintro e w2 ⟨rfl, hb2⟩
    rw [HF.out]
    have hbx2 := hbx1.trans (hb2.mono hbx1.size)
    cases F with
    | false =>
      go_wp2_with fail
      go_ret
      exact ⟨rfl, hbx2⟩
    | true =>
      go_wp2_with fail
      go_ret
      exact ⟨rfl, hbx2⟩

/-- The result's box is written. -/
theorem st_put {w0 w : World} {ec pc : Array Value} {x0 x1 x2 : Value} {t1 t2 : TypeId} (h : B3 w0 ec pc #[x0, x1, x2] t1 t2 33 w) (u0 u1 u2 : Value) :
    Blk (((w.setCell ⟨w0.heap.size + 1 + 1, 0, none⟩ u0).setCell ⟨w0.heap.size + 1 + 1, 1, none⟩ u1).setCell ⟨w0.heap.size + 1 + 1, 2, none⟩ u2) (w0.heap.size + 1 + 1) 33 #[u0, u1, u2] ∧
      Below w0.heap.size w0 (((w.setCell ⟨w0.heap.size + 1 + 1, 0, none⟩ u0).setCell ⟨w0.heap.size + 1 + 1, 1, none⟩ u1).setCell ⟨w0.heap.size + 1 + 1, 2, none⟩ u2) := by
  have g0 := h.2.2.1.set_ 0 u0
  have g1 := g0.set_ 1 u1
  exact ⟨g1.set_ 2 _, ((h.bel.setCell (p := ⟨w0.heap.size + 1 + 1, 0, none⟩) (by show w0.heap.size ≤ w0.heap.size + 1 + 1; omega) _).setCell (p := ⟨w0.heap.size + 1 + 1, 1, none⟩) (by show w0.heap.size ≤ w0.heap.size + 1 + 1; omega) _).setCell (p := ⟨w0.heap.size + 1 + 1, 2, none⟩) (by show w0.heap.size ≤ w0.heap.size + 1 + 1; omega) _⟩
/-- Does StateTo answer; and what. -/
def stOk (f b : Int) (n : Nat) (len : Nat → Nat) (g : Nat → Nat → Nd) (n1 : Nat) (z1 : Nat → Int) (n2 : Nat) (z2 : Nat → Int) (n3 : Nat) (z3 : Nat → Int) (n4 : Nat) (z4 : Nat → Int) (p : Nat) (z : Nat → Int) (a : Int) : Bool :=
  (planB f b n len g n1 z1 n2 z2 n3 z3 n4 z4 && fitB f p z) && (decide (0 ≤ a) && decide (a ≤ (n : Int)))
def stAns (Y : Bool) (a s q : Int) : Value := if Y = true then stV a s q else stV 0 0 0
set_option maxRecDepth 100000 in
set_option maxHeartbeats 4000000 in
theorem sStateTo_any (f b : Int) (A : Option Addr) (n c : Nat) (len : Nat → Nat) (g : Nat → Nat → Nd) (A1 : Option Addr) (n1 c1 : Nat) (z1 : Nat → Int) (A2 : Option Addr) (n2 c2 : Nat) (z2 : Nat → Int) (A3 : Option Addr) (n3 c3 : Nat) (z3 : Nat → Int) (A4 : Option Addr) (n4 c4 : Nat) (z4 : Nat → Int) (D : Option Addr) (p dc : Nat) (z : Nat → Int) (a : Int) (Y : Bool) (w : World)
    (hr : RdT w w.heap.size A n len g) (hp : RdP w w.heap.size A1 n1 z1 A2 n2 z2 A3 n3 z3 A4 n4 z4) (hd : Rd w w.heap.size D p z) (hn : n ≤ 4194304) (hlen : Hid (∀ i, i < n → len i ≤ 4194304)) (k1 : n1 ≤ 9223372036854775807) (k2 : n2 ≤ 9223372036854775807) (k3 : n3 ≤ 9223372036854775807) (k4 : n4 ≤ 9223372036854775807) (hpp : p ≤ 4194304) (hY : Hid (stOk f b n len g n1 z1 n2 z2 n3 z3 n4 z4 p z a = Y)) :
    Calls Tryz.prog 11 #[enV f b A n c, plV A1 n1 c1 A2 n2 c2 A3 n3 c3 A4 n4 c4, .slice D p dc, .int .i64 a] w fun e w' =>
      e = .returned (.tuple #[stAns Y a (sumT (scO g (ordN z1) z) a.toNat) (sumT (csF g (ordN z1) z) a.toNat), .bool Y]) ∧ Below w.heap.size w w' := by
  have hB := B3.new w #[.int .i64 f, .int .i64 b, .slice A n c] #[.slice A1 n1 c1, .slice A2 n2 c2, .slice A3 n3 c3, .slice A4 n4 c4] #[.int .i64 0, .int .i64 0, .int .i64 0] 26 29 33
  obtain ⟨Q, hQ⟩ : ∃ Q, (planB f b n len g n1 z1 n2 z2 n3 z3 n4 z4 && fitB f p z) = Q := ⟨_, rfl⟩
  have HQ := hid hQ
  clear hQ
  obtain ⟨S1, hS1⟩ : ∃ s, sumT (scO g (ordN z1) z) a.toNat = s := ⟨_, rfl⟩
  obtain ⟨S2, hS2⟩ : ∃ s, sumT (csF g (ordN z1) z) a.toNat = s := ⟨_, rfl⟩
  rw [hS1, hS2]
  have HS1 := hid hS1
  have HS2 := hid hS2
  clear hS1 hS2
  go_enter Tryz.func11, Tryz.ntmps11
  go_wp2_with fail
  obtain ⟨W0, hW0⟩ : ∃ W, ((w.alloc (.cells #[.int .i64 f, .int .i64 b, .slice A n c] 26)).alloc (.cells #[.slice A1 n1 c1, .slice A2 n2 c2, .slice A3 n3 c3, .slice A4 n4 c4] 29)).alloc (.cells #[.int .i64 0, .int .i64 0, .int .i64 0] 33) = W := ⟨_, rfl⟩
  rw [hW0] at hB ⊢
  clear hW0
  have hr0 := hr.to hB.bel hB.bel.size
  have hp0 := hp.to hB.bel hB.bel.size
  have hd0 := hd.to hB.bel hB.bel.size
  with_reducible refine Calls.mono (l7Form_any f b A n c len g A1 n1 c1 z1 A2 n2 c2 z2 A3 n3 c3 z3 A4 n4 c4 z4 D p dc z W0 hr0 hp0 hd0 hn hlen k1 k2 k3 k4 hpp) ?_
  rintro e w1 ⟨rfl, hb1⟩
  rw [HQ.out]
  have D1 := hid (hB.below hb1)
  have hr1 := hr0.to hb1 hb1.size
  have hp1 := hp0.to hb1 hb1.size
  have hd1 := hd0.to hb1 hb1.size
  clear hB hr0 hp0 hd0 hb1
  obtain ⟨x0, x1, x2, y0, y1, y2, y3, u0, u1, u2⟩ := D1.out.cells
  obtain ⟨_, _, _, f0, f1, f2⟩ := blk_cells3 D1.out.2.2.1
  cases Q with
  | false =>
    have e1 : Y = false := by rw [← hY.out]; unfold stOk; rw [HQ.out]; rfl
    subst e1
    clear hY
    have HF := hid (st_put D1.out (.int .i64 0) (.int .i64 0) (.int .i64 0))
    clear D1 hr1 hp1 hd1
    go_wp2_with fail
    (try simp only [Exit.inBlock, Exit.then])
    refine bodyPost_ret (results_cell_row_tmp rfl _ _ (w.heap.size + 1 + 1) 33 #[.int .i64 0, .int .i64 0, .int .i64 0] (0, 0) _ rfl HF.out.1 Tryz.underlying33 rfl size_state) rfl ?_
    exact ⟨rfl, HF.out.2⟩
  | true =>
    go_wp2_with fail
    refine (In_any a 0 (n : Int) _).mono ?_
    rintro e w2 ⟨rfl, rfl⟩
    cases hin : (decide (0 ≤ a) && decide (a ≤ (n : Int))) with
    | false =>
      have e1 : Y = false := by rw [← hY.out]; unfold stOk; rw [HQ.out, hin]; rfl
      subst e1
      clear hY hin
      have HF := hid (st_put D1.out (.int .i64 0) (.int .i64 0) (.int .i64 0))
      clear D1 hr1 hp1 hd1
      go_wp2_with fail
      (try simp only [Exit.inBlock, Exit.then])
      refine bodyPost_ret (results_cell_row_tmp rfl _ _ (w.heap.size + 1 + 1) 33 #[.int .i64 0, .int .i64 0, .int .i64 0] (0, 0) _ rfl HF.out.1 Tryz.underlying33 rfl size_state) rfl ?_
      exact ⟨rfl, HF.out.2⟩
    | true =>
      have e1 : Y = true := by rw [← hY.out]; unfold stOk; rw [HQ.out, hin]; rfl
      subst e1
      rw [Bool.and_eq_true, decide_eq_true_eq, decide_eq_true_eq] at hin
      obtain ⟨x, rfl⟩ : ∃ x : Nat, a = (x : Int) := ⟨a.toNat, by omega⟩
      have hx : x ≤ n := by omega
      have hq := HQ.out
      rw [Bool.and_eq_true] at hq
      obtain ⟨hpl, hfi⟩ := hq
      have hEn := (planB_says hpl).1
      have hn1e := (planB_says hpl).2.1
      have hord : ordO z1 n n = true := by unfold planB at hpl; simp only [Bool.and_eq_true] at hpl; exact hpl.2.1.2
      obtain ⟨hf6, _, hn12, hT⟩ := ensB_iff.1 hEn
      obtain ⟨hpf, hdoc⟩ : (p : Int) = f ∧ docB p z = true := by unfold fitB at hfi; simpa using hfi
      have hp6 : p ≤ 6 := by omega
      have h1' : Rd w1 w1.heap.size A1 n1 fun i => (ordN z1 i : Nat) := by
        have q := hp1.1
        rw [hn1e] at q ⊢
        exact ordN_rd q hord
      have ho : Hid (∀ i, i < n1 → ordN z1 i < n) := fun i hi => ordN_lt hord i (by omega)
      have ht : Hid (∀ i, i < n → treeB (g i) (len i) p = true) := fun i hi => by rw [hpf]; exact hT i hi
      have hxn : x ≤ n1 := by omega
      have hn1' : n1 ≤ 12 := by omega
      clear hT hpf hord hn1e hEn hpl hfi hin HQ hY hp1
      go_wp2_with fail
      with_reducible refine Calls.mono (l7To_any f b A n c len g A1 n1 c1 (ordN z1) A2 n2 c2 A3 n3 c3 A4 n4 c4 D p dc z x w1 hr1 h1' hd1 hn12 hp6 ho ht hdoc hxn hn1') ?_
      rintro e w2 ⟨rfl, hb2⟩
      have D2 := hid (D1.out.below hb2)
      have hS1 : sumT (scO g (ordN z1) z) x = S1 := HS1.out
      have hS2 : sumT (csF g (ordN z1) z) x = S2 := HS2.out
      rw [hS1, hS2]
      clear hS1 hS2 D1 hr1 hd1 h1' hb2 x0 x1 x2 y0 y1 y2 y3 u0 u1 u2 f0 f1 f2
      obtain ⟨u0, u1, u2, f0, f1, f2⟩ := blk_cells3 D2.out.2.2.1
      have HF := hid (st_put D2.out (.int .i64 (x : Nat)) (.int .i64 S1) (.int .i64 S2))
      clear D2
      go_wp2_with fail
      (try simp only [Exit.inBlock, Exit.then])
      refine bodyPost_ret (results_cell_row_tmp rfl _ _ (w.heap.size + 1 + 1) 33 #[.int .i64 (x : Nat), .int .i64 S1, .int .i64 S2] (0, 0) _ rfl HF.out.1 Tryz.underlying33 rfl size_state) rfl ?_
      exact ⟨rfl, HF.out.2⟩
end Go.Proofs.YtlgomifpohdniaaGreat
