/- The text of a span, both sides, and the law's walk. -/
import Derived.Test.YthjphnopcgdgdaaDoorTxT
import Derived.Test.YthjphnopcgdgdaaDoorLawS
import Derived.Test.YthjphnopcgdgdaaDoorK2
import Derived.Test.YthjphnopcgdgdaaDoorFactsB
namespace Go.Proofs.YthjphnopcgdgdaaDoor
open Go.RowKit Go.Deep

def spN (d : Sp) : ByteArray := if d.lo ≤ d.hi then decS d.lo ++ ⟨#[46, 46]⟩ ++ decS d.hi else ⟨#[110, 111, 110, 101]⟩
def spS (d : Sp) : ByteArray := if d.gone = true then spN d ++ ⟨#[43]⟩ else spN d
def SpIn (d : Sp) : Prop := I64 d.lo ∧ I64 d.hi
theorem spS_size {d : Sp} (h : SpIn d) : (spS d).size ≤ 45 := by
  have h1 := h.1.size
  have h2 := h.2.size
  have hN : (spN d).size ≤ 44 := by
    unfold spN
    split
    · rw [ByteArray.size_append, ByteArray.size_append]; show _ + 2 + _ ≤ _; omega
    · decide
  unfold spS
  split
  · rw [ByteArray.size_append]; show _ + 1 ≤ _; omega
  · omega
theorem wf_i64 {x : Int} (h : (Lit.int .i64 x).wf = true) : I64 x := by
  unfold I64
  simp only [Lit.wf, Bool.and_eq_true, decide_eq_true_eq] at h
  have e1 : IntKind.i64.min = -9223372036854775808 := by decide
  have e2 : IntKind.i64.max = 9223372036854775807 := by decide
  omega

set_option maxRecDepth 100000 in
set_option maxHeartbeats 4000000 in
theorem iSpanText_any (d : Sp) (w : World) (hd : SpIn d) (hp : Hid (Pow w w.heap.size)) :
    Calls Tryd.prog 15 #[spV d] w fun e w' => e = .returned (.string (spS d)) ∧ Below w.heap.size w w' := by
  obtain ⟨T1, e1, s1, F1⟩ := cat_ (decS d.lo) ⟨#[46, 46]⟩ hd.1.size (show (⟨#[46, 46]⟩ : ByteArray).size ≤ 2 from Nat.le_refl _)
  obtain ⟨T2, e2, s2, F2⟩ := cat_ T1 (decS d.hi) s1 hd.2.size
  have u1 := hd.1.size
  have u2 := hd.2.size
  have z1 : ¬ 9223372036854775807 < (decS d.lo).size + 2 := by omega
  have z2 : ¬ 9223372036854775807 < T1.size + (decS d.hi).size := by omega
  have z3 : ¬ 9223372036854775807 < T2.size + 1 := by omega
  have HF : Hid (d.lo ≤ d.hi → spN d = T2) := fun h => by unfold spN; rw [if_pos h, F2.out, F1.out]
  have HI1 := hid hd.1
  have HI2 := hid hd.2
  have hw0 := (Below.refl w.heap.size w).alloc (Nat.le_refl _) (.cells #[.int .i64 d.lo, .int .i64 d.hi, .bool d.gone] 32)
  have hB0 := Blk.new w 32 #[.int .i64 d.lo, .int .i64 d.hi, .bool d.gone]
  clear hd u1 u2 F1 F2 s1 s2
  by_cases hle : d.lo ≤ d.hi
  · have HQ := hid (decide_eq_true hle)
    have HT := hid (HF.out hle)
    cases hg : d.gone
    all_goals
      have HSX : Hid (spS d = if d.gone = true then T2 ++ ⟨#[43]⟩ else T2) := by show _ = _; unfold spS; rw [HT.out]
      rw [hg] at HSX
      have HGG := hid hg
      clear hg
      go_enter Tryd.func15, Tryd.ntmps15
      go_wp2_with fail
      refine (numbers_any d _).mono ?_
      rintro e w1 ⟨rfl, hb1⟩
      rw [HQ.out]
      have hB1 := hB0.below hb1 hB0.lt
      have hw1 := hw0.trans (hb1.mono hw0.size)
      have HC : Hid (∀ W, Below w1.heap.size w1 W → W.cell? ⟨w.heap.size, 0, none⟩ = some (.int .i64 d.lo) ∧ W.cell? ⟨w.heap.size, 1, none⟩ = some (.int .i64 d.hi)) := fun W hW =>
        ⟨(hB1.below hW hB1.lt).cell 0, (hB1.below hW hB1.lt).cell 1⟩
      have HG : Hid (∀ W, Below w1.heap.size w1 W → W.cell? ⟨w.heap.size, 2, none⟩ = some (.bool d.gone)) := fun W hW => (hB1.below hW hB1.lt).cell 2
      have HW1 := hid hw1
      have DK : Hid (∀ (x : Int) (W : World), I64 x → Below w1.heap.size w1 W → Calls Tryd.prog 40 #[.int .i64 x] W fun e w' => e = .returned (.string (decS x)) ∧ Below w1.heap.size w1 w') := fun x W hx hW =>
        (decimal_any x W hx.1 hx.2 (hid (hp.out W (HW1.out.trans (hW.mono HW1.out.size))))).mono fun e w' ⟨he, hb⟩ => ⟨he, hW.trans (hb.mono hW.size)⟩
      have D0 := hid ((Below.refl w1.heap.size w1).drew)
      clear hB1 hw1 hb1 hB0 hw0
      go_wp2_with fail
      refine region_classT (C := fun W => Below w1.heap.size w1 W) (by kernel_rfl) (by kernel_rfl) D0.out ?_
      repeat
        with_reducible refine wpQuiet_step (fun K hK => ?_)
        first
          | (rw [if_pos (by rfl)]; apply Exists.intro; refine ⟨fun W hW => ?_, hK _ ?_⟩; (first
              | (obtain ⟨v1, v2⟩ := HC.out W hW; go_simp <;> with_reducible rfl)
              | (go_simp; go_at_call 40; with_reducible refine Calls.mono (DK.out d.lo W HI1.out hW) ?_; rintro e w5 ⟨rfl, hb5⟩; exact ⟨rfl, hb5⟩)
              | (go_simp; go_at_call 40; with_reducible refine Calls.mono (DK.out d.hi W HI2.out hW) ?_; rintro e w5 ⟨rfl, hb5⟩; exact ⟨rfl, hb5⟩)); clear hK K; (try simp only [Act.put, List.setIfInBounds_toArray, List.set_cons_zero, List.set_cons_succ]))
          | (refine Eq.mpr (if_neg ?_) (hK _ ?_); exact (fun h => Bool.false_ne_true h); clear hK K; (try simp only [Act.put, List.setIfInBounds_toArray, List.set_cons_zero, List.set_cons_succ]))
      refine wpQuiet_nil ?_
      intro WZ hZ'
      have hZ : Below w1.heap.size w1 WZ := hZ'
      clear hZ'
      have hbZ := HW1.out.trans (hZ.mono HW1.out.size)
      have cg := HG.out WZ hZ
      rw [HGG.out] at cg
      clear hZ
      go_wp2_with fail
      go_ret
      exact ⟨ret_strT (by rw [HSX.out]; rfl), hbZ⟩
  · have HQ := hid (decide_eq_false hle)
    have HN : Hid (spN d = ⟨#[110, 111, 110, 101]⟩) := by show _ = _; unfold spN; rw [if_neg hle]
    cases hg : d.gone
    all_goals
      have HSX : Hid (spS d = if d.gone = true then ⟨#[110, 111, 110, 101]⟩ ++ ⟨#[43]⟩ else ⟨#[110, 111, 110, 101]⟩) := by show _ = _; unfold spS; rw [HN.out]
      rw [hg] at HSX
      have HGG := hid hg
      clear hg
      go_enter Tryd.func15, Tryd.ntmps15
      go_wp2_with fail
      refine (numbers_any d _).mono ?_
      rintro e w1 ⟨rfl, hb1⟩
      rw [HQ.out]
      have hB1 := hB0.below hb1 hB0.lt
      have hw1 := hw0.trans (hb1.mono hw0.size)
      have cg : w1.cell? ⟨w.heap.size, 2, none⟩ = some (.bool d.gone) := hB1.cell 2
      rw [HGG.out] at cg
      clear hB1 hb1 hB0 hw0
      go_wp2_with fail
      go_ret
      exact ⟨ret_strT (by rw [HSX.out]; rfl), hw1⟩

set_option maxRecDepth 100000 in
set_option maxHeartbeats 4000000 in
theorem sSpanText_any (d : Sp) (w : World) (hd : SpIn d) :
    Calls Tryd.prog 16 #[spV d] w fun e w' => e = .returned (.string (spS d)) ∧ Below w.heap.size w w' := by
  obtain ⟨T1, e1, s1, F1⟩ := cat_ (decS d.lo) ⟨#[46, 46]⟩ hd.1.size (show (⟨#[46, 46]⟩ : ByteArray).size ≤ 2 from Nat.le_refl _)
  obtain ⟨T2, e2, s2, F2⟩ := cat_ T1 (decS d.hi) s1 hd.2.size
  have u1 := hd.1.size
  have u2 := hd.2.size
  have z1 : ¬ 9223372036854775807 < (decS d.lo).size + 2 := by omega
  have z2 : ¬ 9223372036854775807 < T1.size + (decS d.hi).size := by omega
  have z3 : ¬ 9223372036854775807 < T2.size + 1 := by omega
  have HF : Hid (d.lo ≤ d.hi → spN d = T2) := fun h => by unfold spN; rw [if_pos h, F2.out, F1.out]
  have HI1 := hid hd.1
  have HI2 := hid hd.2
  have hw0 := (Below.refl w.heap.size w).alloc (Nat.le_refl _) (.cells #[.int .i64 d.lo, .int .i64 d.hi, .bool d.gone] 32)
  have hB0 := Blk.new w 32 #[.int .i64 d.lo, .int .i64 d.hi, .bool d.gone]
  clear hd u1 u2 F1 F2 s1 s2
  by_cases hle : d.lo ≤ d.hi
  · have HQ := hid (decide_eq_true hle)
    have HT := hid (HF.out hle)
    cases hg : d.gone
    all_goals
      have HSX : Hid (spS d = if d.gone = true then T2 ++ ⟨#[43]⟩ else T2) := by show _ = _; unfold spS; rw [HT.out]
      rw [hg] at HSX
      have HGG := hid hg
      clear hg
      go_enter Tryd.func16, Tryd.ntmps16
      go_wp2_with fail
      refine (some_any d _).mono ?_
      rintro e w1 ⟨rfl, hb1⟩
      rw [HQ.out]
      have hB1 := hB0.below hb1 hB0.lt
      have hw1 := hw0.trans (hb1.mono hw0.size)
      have HC : Hid (∀ W, Below w1.heap.size w1 W → W.cell? ⟨w.heap.size, 0, none⟩ = some (.int .i64 d.lo) ∧ W.cell? ⟨w.heap.size, 1, none⟩ = some (.int .i64 d.hi)) := fun W hW =>
        ⟨(hB1.below hW hB1.lt).cell 0, (hB1.below hW hB1.lt).cell 1⟩
      have HG : Hid (∀ W, Below w1.heap.size w1 W → W.cell? ⟨w.heap.size, 2, none⟩ = some (.bool d.gone)) := fun W hW => (hB1.below hW hB1.lt).cell 2
      have HW1 := hid hw1
      have DK : Hid (∀ (x : Int) (W : World), I64 x → Below w1.heap.size w1 W → Calls Tryd.prog 42 #[.int .i64 x] W fun e w' => e = .returned (.string (decS x)) ∧ Below w1.heap.size w1 w') := fun x W hx hW =>
        (l1Dec_any x W hx.1 hx.2).mono fun e w' ⟨he, hb⟩ => ⟨he, hW.trans (hb.mono hW.size)⟩
      have D0 := hid ((Below.refl w1.heap.size w1).drew)
      clear hB1 hw1 hb1 hB0 hw0
      go_wp2_with fail
      refine region_classT (C := fun W => Below w1.heap.size w1 W) (by kernel_rfl) (by kernel_rfl) D0.out ?_
      repeat
        with_reducible refine wpQuiet_step (fun K hK => ?_)
        first
          | (rw [if_pos (by rfl)]; apply Exists.intro; refine ⟨fun W hW => ?_, hK _ ?_⟩; (first
              | (obtain ⟨v1, v2⟩ := HC.out W hW; go_simp <;> with_reducible rfl)
              | (go_simp; go_at_call 42; with_reducible refine Calls.mono (DK.out d.lo W HI1.out hW) ?_; rintro e w5 ⟨rfl, hb5⟩; exact ⟨rfl, hb5⟩)
              | (go_simp; go_at_call 42; with_reducible refine Calls.mono (DK.out d.hi W HI2.out hW) ?_; rintro e w5 ⟨rfl, hb5⟩; exact ⟨rfl, hb5⟩)); clear hK K; (try simp only [Act.put, List.setIfInBounds_toArray, List.set_cons_zero, List.set_cons_succ]))
          | (refine Eq.mpr (if_neg ?_) (hK _ ?_); exact (fun h => Bool.false_ne_true h); clear hK K; (try simp only [Act.put, List.setIfInBounds_toArray, List.set_cons_zero, List.set_cons_succ]))
      refine wpQuiet_nil ?_
      intro WZ hZ'
      have hZ : Below w1.heap.size w1 WZ := hZ'
      clear hZ'
      have hbZ := HW1.out.trans (hZ.mono HW1.out.size)
      have cg := HG.out WZ hZ
      rw [HGG.out] at cg
      clear hZ
      go_wp2_with fail
      go_ret
      exact ⟨ret_strT (by rw [HSX.out]; rfl), hbZ⟩
  · have HQ := hid (decide_eq_false hle)
    have HN : Hid (spN d = ⟨#[110, 111, 110, 101]⟩) := by show _ = _; unfold spN; rw [if_neg hle]
    cases hg : d.gone
    all_goals
      have HSX : Hid (spS d = if d.gone = true then ⟨#[110, 111, 110, 101]⟩ ++ ⟨#[43]⟩ else ⟨#[110, 111, 110, 101]⟩) := by show _ = _; unfold spS; rw [HN.out]
      rw [hg] at HSX
      have HGG := hid hg
      clear hg
      go_enter Tryd.func16, Tryd.ntmps16
      go_wp2_with fail
      refine (some_any d _).mono ?_
      rintro e w1 ⟨rfl, hb1⟩
      rw [HQ.out]
      have hB1 := hB0.below hb1 hB0.lt
      have hw1 := hw0.trans (hb1.mono hw0.size)
      have cg : w1.cell? ⟨w.heap.size, 2, none⟩ = some (.bool d.gone) := hB1.cell 2
      rw [HGG.out] at cg
      clear hB1 hb1 hB0 hw0
      go_wp2_with fail
      go_ret
      exact ⟨ret_strT (by rw [HSX.out]; rfl), hw1⟩

end Go.Proofs.YthjphnopcgdgdaaDoor
