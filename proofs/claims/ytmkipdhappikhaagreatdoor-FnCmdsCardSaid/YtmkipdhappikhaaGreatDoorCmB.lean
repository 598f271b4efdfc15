/- Valid commands, on both sides. -/
import Derived.Test.YtmkipdhappikhaaGreatDoorCmA
namespace Go.Proofs.YtmkipdhappikhaaGreatDoor
open Go.RowKit Go.Deep
set_option linter.unusedVariables false
set_option linter.unusedSimpArgs false

def kindB (k : Int) : Bool := decide (1 ≤ k) && decide (k ≤ 5)
def cmdB (k a b t : Int) (n : Nat) (len : Nat → Nat) (z : Nat → Nat → Int) (s : ByteArray) : Bool := kindB k && (numF (fA k) (fB k) (fT k) a b t && (docsF (fD k) n len z && textF (fX k) s))
theorem kindB_yes {k : Int} (h : 1 ≤ k ∧ k ≤ 5) : kindB k = true := by unfold kindB; rw [decide_eq_true h.1, decide_eq_true h.2]; rfl
theorem kindB_no {k : Int} (h : ¬ (1 ≤ k ∧ k ≤ 5)) : kindB k = false := by
  rw [Bool.eq_false_iff]
  intro e
  unfold kindB at e
  simp at e
  exact h e
theorem blk_cells6 {w : World} {p : Nat} {t : TypeId} {v0 v1 v2 v3 v4 v5 : Value} (h : Blk w p t #[v0, v1, v2, v3, v4, v5]) :
    w.cell? ⟨p, 0, none⟩ = some v0 ∧ w.cell? ⟨p, 1, none⟩ = some v1 ∧ w.cell? ⟨p, 2, none⟩ = some v2 ∧ w.cell? ⟨p, 3, none⟩ = some v3 ∧ w.cell? ⟨p, 4, none⟩ = some v4 ∧ w.cell? ⟨p, 5, none⟩ = some v5 :=
  ⟨h.cell 0, h.cell 1, h.cell 2, h.cell 3, h.cell 4, h.cell 5⟩

set_option maxRecDepth 100000 in
set_option maxHeartbeats 2000000 in
theorem iCmdOk_any (k a b t : Int) (D : Option Addr) (n dc : Nat) (len : Nat → Nat) (z : Nat → Nat → Int) (s : ByteArray) (w : World) (h : RdQ w w.heap.size D n len z) (hn : n ≤ 4194304) (hlen : Hid (∀ i, i < n → len i ≤ 4194304)) :
    Calls Tryz.prog 21 #[cmV k a b t D n dc s] w fun e w' => e = .returned (.bool (cmdB k a b t n len z s)) ∧ Below w.heap.size w w' := by
  have hb0 := (Below.refl w.heap.size w).alloc (Nat.le_refl _) (.cells (cmC k a b t D n dc s) 35)
  have hC0 := Blk.new w 35 (cmC k a b t D n dc s)
  have hr0 := h.to hb0
  go_enter Tryz.func21, Tryz.ntmps21
  go_wp2_with fail
  refine (formOf_any k _).mono ?_
  rintro e w1 ⟨rfl, hb1⟩
  have hw1 := hb0.trans (hb1.mono hb0.size)
  have hC1 := hC0.below hb1 hC0.lt
  have hr1 := hr0.to hb1
  clear hb0 hC0 hr0 hb1
  have hbx := (Below.refl w1.heap.size w1).alloc (Nat.le_refl _) (.cells (fmC (fName k) (fA k) (fB k) (fT k) (fD k) (fX k)) 62)
  have hw2 := hw1.trans (hbx.mono hw1.size)
  have hC2 := hC1.below hbx hC1.lt
  have hF2 := Blk.new w1 62 (fmC (fName k) (fA k) (fB k) (fT k) (fD k) (fX k))
  have hr2 := hr1.to hbx
  have HW2 := hid hw2
  clear hw1 hC1 hr1 hbx hw2
  have hlow := f_low k
  have HV : Hid (cmdB k a b t n len z s = (kindB k && (numF (fA k) (fB k) (fT k) a b t && (docsF (fD k) n len z && textF (fX k) s)))) := rfl
  by_cases hk : 1 ≤ k ∧ k ≤ 5
  · have hl := ba_listT (fName_some hk)
    rw [ByteArray.toList_eq (⟨#[]⟩ : ByteArray)] at hl
    have HK := hid (kindB_yes hk)
    clear hk
    generalize fName k = nm at hC2 hF2 hr2 HW2 hl ⊢
    generalize fA k = fa at hC2 hF2 hr2 HW2 HV hlow ⊢
    generalize fB k = fb at hC2 hF2 hr2 HW2 HV hlow ⊢
    generalize fT k = ft at hC2 hF2 hr2 HW2 HV hlow ⊢
    generalize fD k = fd at hC2 hF2 hr2 HW2 HV hlow ⊢
    generalize fX k = fx at hC2 hF2 hr2 HW2 HV hlow ⊢
    obtain ⟨f0, f1, f2, f3, f4, f5⟩ := blk_cells6 hF2
    obtain ⟨c0, c1, c2, c3, c4, c5⟩ := blk_cells6 hC2
    have hlt : 0 ≤ ft ∧ ft ≤ 100000000000 := by omega
    clear hlow
    go_wp2_with fail
    refine (takesNum_any nm fa fb ft fd fx k a b t D n dc s _ hlt.1 hlt.2).mono ?_
    rintro e w3 ⟨rfl, hb3⟩
    have HW3 := hid (HW2.out.trans (hb3.mono HW2.out.size))
    have hC3 := hC2.below hb3 hC2.lt
    have hF3 := hF2.below hb3 hF2.lt
    have hr3 := hr2.to hb3
    clear HW2 hC2 hF2 hr2 hb3 f0 f1 f2 f3 f4 f5 c0 c1 c2 c3 c4 c5
    obtain ⟨f0, f1, f2, f3, f4, f5⟩ := blk_cells6 hF3
    obtain ⟨c0, c1, c2, c3, c4, c5⟩ := blk_cells6 hC3
    cases hq : numF fa fb ft a b t
    · have HR : Hid (cmdB k a b t n len z s = false) := by show _ = _; rw [HV.out, HK.out, hq]; rfl
      clear hq
      go_wp2_with fail
      go_ret
      exact ⟨retB HR.out.symm, HW3.out⟩
    · have HV4 : Hid (cmdB k a b t n len z s = (docsF fd n len z && textF fx s)) := by show _ = _; rw [HV.out, HK.out, hq]; rfl
      clear hq HV
      go_wp2_with fail
      refine (takesDocs_any nm fa fb ft fd fx D n dc len z _ hr3 hn hlen).mono ?_
      rintro e w4 ⟨rfl, hb4⟩
      have HW4 := hid (HW3.out.trans (hb4.mono HW3.out.size))
      have hC4 := hC3.below hb4 hC3.lt
      have hF4 := hF3.below hb4 hF3.lt
      clear HW3 hC3 hF3 hr3 hb4 f0 f1 f2 f3 f4 f5 c0 c1 c2 c3 c4 c5
      obtain ⟨f0, f1, f2, f3, f4, f5⟩ := blk_cells6 hF4
      obtain ⟨c0, c1, c2, c3, c4, c5⟩ := blk_cells6 hC4
      cases hq : docsF fd n len z
      · have HR : Hid (cmdB k a b t n len z s = false) := by show _ = _; rw [HV4.out, hq]; rfl
        clear hq
        go_wp2_with fail
        go_ret
        exact ⟨retB HR.out.symm, HW4.out⟩
      · have HV5 : Hid (cmdB k a b t n len z s = textF fx s) := by show _ = _; rw [HV4.out, hq]; rfl
        clear hq HV4
        go_wp2_with fail
        refine (takesText_any nm fa fb ft fd fx s _).mono ?_
        rintro e w5 ⟨rfl, hb5⟩
        have HW5 := hid (HW4.out.trans (hb5.mono HW4.out.size))
        obtain ⟨y, hy⟩ : ∃ y, textF fx s = y := ⟨_, rfl⟩
        rw [hy]
        have HY := hid (HV5.out.trans hy)
        clear hy
        go_wp2_with fail
        go_ret
        exact ⟨retB HY.out.symm, HW5.out⟩
  · have HR : Hid (cmdB k a b t n len z s = false) := by show _ = _; rw [HV.out, kindB_no hk]; rfl
    have hnm := fName_none hk
    rw [hnm] at hF2 HW2 ⊢
    obtain ⟨f0, f1, f2, f3, f4, f5⟩ := blk_cells6 hF2
    clear hnm hlow hk HV
    go_wp2_with fail
    go_ret
    exact ⟨retB HR.out.symm, HW2.out⟩
end Go.Proofs.YtmkipdhappikhaaGreatDoor
