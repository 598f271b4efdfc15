/- Unlike spans of a box have unlike texts: the law's walk. -/
import Derived.Test.YthjphnopcgdgdaaDoorSqA
namespace Go.Proofs.YthjphnopcgdgdaaDoor
open Go.RowKit Go.Deep

/-- Two spans in their boxes. -/
def S2 (w0 : World) (p q : Nat) (a b : Sp) (w : World) : Prop := Blk w p 32 (spA a) ∧ Blk w q 32 (spA b) ∧ Below w0.heap.size w0 w
theorem S2.below {w0 w w' : World} {p q : Nat} {a b : Sp} (h : S2 w0 p q a b w) (hb : Below w.heap.size w w') : S2 w0 p q a b w' :=
  ⟨h.1.below hb h.1.lt, h.2.1.below hb h.2.1.lt, h.2.2.trans (hb.mono h.2.2.size)⟩
theorem S2.cells {w0 w : World} {p q : Nat} {a b : Sp} (h : S2 w0 p q a b w) :
    w.cell? ⟨p, 0, none⟩ = some (.int .i64 a.lo) ∧ w.cell? ⟨p, 1, none⟩ = some (.int .i64 a.hi) ∧ w.cell? ⟨p, 2, none⟩ = some (.bool a.gone) ∧ w.cell? ⟨q, 0, none⟩ = some (.int .i64 b.lo) ∧ w.cell? ⟨q, 1, none⟩ = some (.int .i64 b.hi) ∧ w.cell? ⟨q, 2, none⟩ = some (.bool b.gone) :=
  ⟨h.1.cell 0, h.1.cell 1, h.1.cell 2, h.2.1.cell 0, h.2.1.cell 1, h.2.1.cell 2⟩
theorem rds_one (w : World) (d : Sp) : RdS (w.alloc (.cells (spA d) 32)) (w.alloc (.cells (spA d) 32)).heap.size (some ⟨w.heap.size, 0, none⟩) 1 (fun _ => d) := fun _ =>
  ⟨w.heap.size, 0, rfl, (Blk.new w _ _).lt, fun i hi => by
    obtain rfl : i = 0 := by omega
    have hB := Blk.new w 32 (spA d)
    exact ⟨hB.cell 0, hB.cell 1, hB.cell 2⟩⟩

set_option maxRecDepth 100000 in
set_option maxHeartbeats 4000000 in
theorem lawSpans (A : Option Addr) (n cap : Nat) (A' : Option Addr) (n' cap' : Nat) (w : World) (h : Bs w w.heap.size A n) (h' : Bs w w.heap.size A' n') (hp : Hid (Pow w w.heap.size)) :
    Calls Tryd.prog 4 #[.slice A n cap, .slice A' n' cap'] w fun e w' => e = .returned (.bool true) ∧ Below w.heap.size w w' := by
  by_cases hbig : (1048576 : Int) < (n : Int)
  · go_enter Tryd.func4, Tryd.ntmps4
    go_wp2_with fail
    refine (big_yes A n cap _ hbig).mono ?_
    rintro e w1 ⟨rfl, rfl⟩
    go_wp2_with fail
    go_ret
    exact ⟨rfl, Below.refl _ _⟩
  by_cases hbig' : (1048576 : Int) < (n' : Int)
  · go_enter Tryd.func4, Tryd.ntmps4
    go_wp2_with fail
    refine (big_no A n cap _ (by omega)).mono ?_
    rintro e w1 ⟨rfl, rfl⟩
    go_wp2_with fail
    refine (big_yes A' n' cap' _ hbig').mono ?_
    rintro e w1 ⟨rfl, rfl⟩
    go_wp2_with fail
    go_ret
    exact ⟨rfl, Below.refl _ _⟩
  go_enter Tryd.func4, Tryd.ntmps4
  go_wp2_with fail
  refine (big_no A n cap _ (by omega)).mono ?_
  rintro e w1 ⟨rfl, rfl⟩
  go_wp2_with fail
  refine (big_no A' n' cap' _ (by omega)).mono ?_
  rintro e w1 ⟨rfl, rfl⟩
  go_wp2_with fail
  refine (drawSpan A n cap _ h (by omega)).mono ?_
  rintro e w1 ⟨a, rfl, ha, hb1⟩
  have hb2 := hb1.alloc hb1.size (.cells (spA a) 32)
  have hB2 := Blk.new w1 32 (spA a)
  go_wp2_with fail
  generalize w1.alloc (.cells (spA a) 32) = W2 at hb2 hB2 ⊢
  generalize w1.heap.size = p at hB2 ⊢
  clear hb1
  refine (drawSpan A' n' cap' W2 (Bs.more (Bs.keep h' fun _ hp => hb2.cell hp) hb2.size) (by omega)).mono ?_
  rintro e w3 ⟨b, rfl, hb, hb3⟩
  have D0 : S2 w p w3.heap.size a b (w3.alloc (.cells (spA b) 32)) :=
    ⟨(hB2.below hb3 hB2.lt).alloc _, Blk.new w3 _ _, (hb2.trans (hb3.mono hb2.size)).alloc (hb2.trans (hb3.mono hb2.size)).size _⟩
  have HA := hid ha
  have HB := hid hb
  clear ha hb hb2 hB2 hb3
  obtain ⟨c0, c1, c2, d0, d1, d2⟩ := D0.cells
  go_wp2_with fail
  clear c0 c1 c2 d0 d1 d2
  generalize w3.alloc (.cells (spA b) 32) = W4 at D0 ⊢
  generalize w3.heap.size = q at D0 ⊢
  have hpw : Hid (∀ W, S2 w p q a b W → Pow W W.heap.size) := fun W hW W' hW' => hp.out W' (hW.2.2.trans (hW'.mono hW.2.2.size))
  refine (iSpanText_any a _ HA.out (hid (hpw.out _ D0))).mono ?_
  rintro e w5 ⟨rfl, hb5⟩
  have D5 := D0.below hb5
  clear D0 hb5
  obtain ⟨c0, c1, c2, d0, d1, d2⟩ := D5.cells
  go_wp2_with fail
  refine (iSpanText_any b _ HB.out (hid (hpw.out _ D5))).mono ?_
  rintro e w6 ⟨rfl, hb6⟩
  have D6 := D5.below hb6
  clear D5 hb6 c0 c1 c2 d0 d1 d2
  obtain ⟨c0, c1, c2, d0, d1, d2⟩ := D6.cells
  go_wp2_with fail
  refine (sSpanText_any a _ HA.out).mono ?_
  rintro e w7 ⟨rfl, hb7⟩
  have D7 := D6.below hb7
  clear D6 hb7 c0 c1 c2 d0 d1 d2
  obtain ⟨c0, c1, c2, d0, d1, d2⟩ := D7.cells
  have q1 : ((spS a).toList != (spS a).toList) = false := by simp
  have q2 : ((spS b).toList != (spS b).toList) = false := by simp
  go_wp2_with fail
  refine (sSpanText_any b _ HB.out).mono ?_
  rintro e w8 ⟨rfl, hb8⟩
  have D8 := D7.below hb8
  clear D7 hb8 c0 c1 c2 d0 d1 d2
  obtain ⟨c0, c1, c2, d0, d1, d2⟩ := D8.cells
  have D9 := D8.below ((Below.refl w8.heap.size w8).alloc (Nat.le_refl _) (.cells (spA a) 32))
  have R9 := rds_one w8 a
  go_wp2_with fail
  generalize w8.alloc (.cells (spA a) 32) = W9 at D9 R9 ⊢
  generalize w8.heap.size = g9 at R9 ⊢
  clear c0 c1 c2 d0 d1 d2 D8
  refine (iBoxOk_any _ 1 1 (fun _ => a) _ R9 (by omega)).mono ?_
  rintro e wX ⟨rfl, hbX⟩
  have DX := D9.below hbX
  clear D9 R9 hbX
  obtain ⟨c0, c1, c2, d0, d1, d2⟩ := DX.cells
  rw [box_one]
  cases ka : spanB a
  · clear ka
    go_wp2_with fail
    refine (sSpanText_any a _ HA.out).mono ?_
    rintro e wA ⟨rfl, hbA⟩
    have DA := DX.below hbA
    clear DX hbA c0 c1 c2 d0 d1 d2
    obtain ⟨c0, c1, c2, d0, d1, d2⟩ := DA.cells
    have r1 : ((spS a).toList == (spS a).toList) = true := by simp
    have r2 : ((spS b).toList == (spS b).toList) = true := by simp
    go_wp2_with fail
    refine (sSpanText_any b _ HB.out).mono ?_
    rintro e wB ⟨rfl, hbB⟩
    have DB := DA.below hbB
    go_wp2_with fail
    go_ret
    exact ⟨rfl, DB.2.2⟩
  · have KA := hid ka
    clear ka
    have DY := DX.below ((Below.refl wX.heap.size wX).alloc (Nat.le_refl _) (.cells (spA b) 32))
    have RY := rds_one wX b
    go_wp2_with fail
    generalize wX.alloc (.cells (spA b) 32) = WY at DY RY ⊢
    generalize wX.heap.size = gY at RY ⊢
    clear c0 c1 c2 d0 d1 d2 DX
    refine (iBoxOk_any _ 1 1 (fun _ => b) _ RY (by omega)).mono ?_
    rintro e wZ ⟨rfl, hbZ⟩
    have DZ := DY.below hbZ
    clear DY RY hbZ
    obtain ⟨c0, c1, c2, d0, d1, d2⟩ := DZ.cells
    rw [box_one]
    cases kb : spanB b
    · clear kb
      go_wp2_with fail
      refine (sSpanText_any a _ HA.out).mono ?_
      rintro e wA ⟨rfl, hbA⟩
      have DA := DZ.below hbA
      clear DZ hbA c0 c1 c2 d0 d1 d2
      obtain ⟨c0, c1, c2, d0, d1, d2⟩ := DA.cells
      have r1 : ((spS a).toList == (spS a).toList) = true := by simp
      have r2 : ((spS b).toList == (spS b).toList) = true := by simp
      go_wp2_with fail
      refine (sSpanText_any b _ HB.out).mono ?_
      rintro e wB ⟨rfl, hbB⟩
      have DB := DA.below hbB
      go_wp2_with fail
      go_ret
      exact ⟨rfl, DB.2.2⟩
    · have KB := hid kb
      clear kb
      by_cases hab : a = b
      · subst hab
        have r1 : ((spS a).toList == (spS a).toList) = true := by simp
        have he : ∀ wx, (Op.equalIn 10000 32 (.agg #[.int .i64 a.lo, .int .i64 a.hi, .bool a.gone]) (.agg #[.int .i64 a.lo, .int .i64 a.hi, .bool a.gone])).run Tryd.prog wx = .ok true wx := fun wx => by rw [eqSp]; simp
        go_wp2_with fail
        go_ret
        exact ⟨rfl, DZ.2.2⟩
      · have r1 : ((spS a).toList == (spS b).toList) = false := ba_listT fun e => hab (spS_inj KA.out KB.out e)
        have r2 : (a.lo == b.lo && (a.hi == b.hi && a.gone == b.gone)) = false := by
          rw [← Bool.not_eq_true]
          intro e
          simp only [Bool.and_eq_true, beq_iff_eq] at e
          apply hab
          obtain ⟨a1, a2, a3⟩ := a
          obtain ⟨b1, b2, b3⟩ := b
          simp only at e
          obtain ⟨rfl, rfl, rfl⟩ := e
          rfl
        have he : ∀ wx, (Op.equalIn 10000 32 (.agg #[.int .i64 a.lo, .int .i64 a.hi, .bool a.gone]) (.agg #[.int .i64 b.lo, .int .i64 b.hi, .bool b.gone])).run Tryd.prog wx = .ok false wx := fun wx => by rw [eqSp, r2]
        clear r2 hab
        go_wp2_with fail
        go_ret
        exact ⟨rfl, DZ.2.2⟩
end Go.Proofs.YthjphnopcgdgdaaDoor
