/- The other side's valid commands. -/
import Derived.Test.YtmkipdhappikhaaGreatDoorCmB
namespace Go.Proofs.YtmkipdhappikhaaGreatDoor
open Go.RowKit Go.Deep
set_option linter.unusedVariables false
set_option linter.unusedSimpArgs false

def fieldsB (k a b t : Int) (n : Nat) (s : ByteArray) : Bool := kindB k && (numF (fA k) (fB k) (fT k) a b t && ((if k = 1 ∨ k = 2 then decide (n = 0) else true) && textF (fX k) s))
theorem textF_zero {s : ByteArray} : textF 0 s = true ↔ s = ⟨#[]⟩ := by
  constructor
  · intro h
    unfold textF at h
    simp only [Bool.and_eq_true, decide_eq_true_eq] at h
    apply ba_ext
    have : s.data.toList.length = 0 := by rw [size_len]; omega
    exact List.length_eq_zero_iff.1 this
  · rintro rfl; rfl
theorem nl_iff {s : ByteArray} : nlB s = false ↔ ∀ j : Nat, s.data.toList[j]? ≠ some 10 := by
  unfold nlB
  rw [decide_eq_false_iff_not]
  have hg := Lib.indexByte_ge s.data.toList 10
  constructor
  · intro h j
    exact Lib.indexByte_none (by omega) j
  · intro h h0
    obtain ⟨o, ho⟩ := Int.eq_ofNat_of_zero_le h0
    exact h o (Lib.indexByte_some ho).1
theorem fields_1 {a b t : Int} {n : Nat} {s : ByteArray} : fieldsB 1 a b t n s = true ↔ nlB s = false ∧ a = 0 ∧ b = 0 ∧ t = 0 ∧ n = 0 ∧ (s.size : Int) ≤ 4000 := by
  obtain ⟨e1, e2, e3, e4⟩ : fA 1 = 0 ∧ fB 1 = 0 ∧ fT 1 = 0 ∧ fX 1 = 4000 := by simp [fA, fB, fT, fX]
  unfold fieldsB
  rw [kindB_yes (by omega), e1, e2, e3, e4, Bool.true_and, Bool.and_eq_true, Bool.and_eq_true, numF_iff]
  simp only [textF, Bool.and_eq_true, decide_eq_true_eq, Bool.not_eq_true', true_or, if_true]
  constructor
  · rintro ⟨⟨h1, h2, h3⟩, h4, h5, h6⟩; exact ⟨h6, by omega, by omega, by omega, h4, h5⟩
  · rintro ⟨h6, h1, h2, h3, h4, h5⟩; exact ⟨⟨by omega, by omega, by omega⟩, h4, h5, h6⟩
theorem fields_2 {a b t : Int} {n : Nat} {s : ByteArray} : fieldsB 2 a b t n s = true ↔ (0 ≤ a ∧ a ≤ 99) ∧ (0 ≤ b ∧ b ≤ 99) ∧ t = 0 ∧ n = 0 ∧ s = ⟨#[]⟩ := by
  obtain ⟨e1, e2, e3, e4⟩ : fA 2 = 99 ∧ fB 2 = 99 ∧ fT 2 = 0 ∧ fX 2 = 0 := by simp [fA, fB, fT, fX]
  unfold fieldsB
  rw [kindB_yes (by omega), e1, e2, e3, e4, Bool.true_and, Bool.and_eq_true, Bool.and_eq_true, numF_iff, textF_zero]
  simp
  constructor
  · rintro ⟨⟨h1, h2, h3⟩, h4, h5⟩; exact ⟨h1, h2, by omega, h4, h5⟩
  · rintro ⟨h1, h2, h3, h4, h5⟩; exact ⟨⟨h1, h2, by omega⟩, h4, h5⟩
theorem fields_3 {a b t : Int} {n : Nat} {s : ByteArray} : fieldsB 3 a b t n s = true ↔ a = 0 ∧ b = 0 ∧ t = 0 ∧ s = ⟨#[]⟩ := by
  obtain ⟨e1, e2, e3, e4⟩ : fA 3 = 0 ∧ fB 3 = 0 ∧ fT 3 = 0 ∧ fX 3 = 0 := by simp [fA, fB, fT, fX]
  unfold fieldsB
  rw [kindB_yes (by omega), e1, e2, e3, e4, Bool.true_and, Bool.and_eq_true, Bool.and_eq_true, numF_iff, textF_zero]
  simp
  constructor
  · rintro ⟨⟨h1, h2, h3⟩, h4⟩; exact ⟨by omega, by omega, by omega, h4⟩
  · rintro ⟨h1, h2, h3, h4⟩; exact ⟨⟨by omega, by omega, by omega⟩, h4⟩
theorem fields_4 {a b t : Int} {n : Nat} {s : ByteArray} : fieldsB 4 a b t n s = true ↔ a = 0 ∧ b = 0 ∧ ((-100000000000) ≤ t ∧ t ≤ 100000000000) ∧ s = ⟨#[]⟩ := by
  obtain ⟨e1, e2, e3, e4⟩ : fA 4 = 0 ∧ fB 4 = 0 ∧ fT 4 = 100000000000 ∧ fX 4 = 0 := by simp [fA, fB, fT, fX]
  unfold fieldsB
  rw [kindB_yes (by omega), e1, e2, e3, e4, Bool.true_and, Bool.and_eq_true, Bool.and_eq_true, numF_iff, textF_zero]
  simp
  constructor
  · rintro ⟨⟨h1, h2, h3⟩, h4⟩; exact ⟨by omega, by omega, by omega, h4⟩
  · rintro ⟨h1, h2, h3, h4⟩; exact ⟨⟨by omega, by omega, by omega⟩, h4⟩
theorem fields_5 {a b t : Int} {n : Nat} {s : ByteArray} : fieldsB 5 a b t n s = true ↔ (0 ≤ a ∧ a ≤ 20) ∧ b = 0 ∧ t = 0 ∧ s = ⟨#[]⟩ := by
  obtain ⟨e1, e2, e3, e4⟩ : fA 5 = 20 ∧ fB 5 = 0 ∧ fT 5 = 0 ∧ fX 5 = 0 := by simp [fA, fB, fT, fX]
  unfold fieldsB
  rw [kindB_yes (by omega), e1, e2, e3, e4, Bool.true_and, Bool.and_eq_true, Bool.and_eq_true, numF_iff, textF_zero]
  simp
  constructor
  · rintro ⟨⟨h1, h2, h3⟩, h4⟩; exact ⟨by omega, by omega, by omega, h4⟩
  · rintro ⟨h1, h2, h3, h4⟩; exact ⟨⟨by omega, by omega, by omega⟩, h4⟩

set_option maxRecDepth 100000 in
set_option maxHeartbeats 4000000 in
theorem sFields_any (k a b t : Int) (D : Option Addr) (n dc : Nat) (s : ByteArray) (w : World) (hn : n ≤ 4194304) (hs : s.size ≤ 4194304) :
    Calls Tryz.prog 51 #[cmV k a b t D n dc s] w fun e w' => e = .returned (.bool (fieldsB k a b t n s)) ∧ Below w.heap.size w w' := by
  have hb0 := (Below.refl w.heap.size w).alloc (Nat.le_refl _) (.cells (cmC k a b t D n dc s) 35)
  have hC0 := Blk.new w 35 (cmC k a b t D n dc s)
  obtain ⟨c0, c1, c2, c3, c4, c5⟩ := blk_cells6 hC0
  have HB := hid hb0
  clear hb0 hC0
  rcases kind_or k with rfl | rfl | rfl | rfl | rfl | ⟨k1, k2, k3, k4, k5⟩
  · go_enter Tryz.func51, Tryz.ntmps51
    go_wp2_with fail
    generalize w.alloc (.cells (cmC 1 a b t D n dc s) 35) = W0 at HB c0 c1 c2 c3 c4 c5 ⊢
    go_loop [3] (fun i => ∃ q : Nat, q ≤ s.size ∧ i = .int .i64 q ∧ Hid (∀ j : Nat, j < q → s.data.toList[j]? ≠ some 10)) (fun i => s.size - (intOf i).toNat)
    case atStart => exact ⟨0, Nat.zero_le _, rfl, fun j hj => absurd hj (Nat.not_lt_zero j)⟩
    case round =>
      obtain ⟨q, hq, rfl, hnl⟩ := hrel
      by_cases hlt : q < s.size
      · have i1 : (q : Int) < (s.size : Int) := by omega
        have i0 : (0 : Int) ≤ (q : Int) := by omega
        have hat := byte_at s hlt
        by_cases hb : s[q] = 10
        · have hne2 : ((s[q].toNat : Int) == 10) = true := by rw [hb]; rfl
          have hv : fieldsB 1 a b t n s = false := by rw [Bool.eq_false_iff]; intro hh; exact nl_iff.1 (fields_1.1 hh).1 q (by rw [hat, hb])
          have HX := hid hv
          clear hv hat hb
          go_wp2_with fail
          go_ret
          exact ⟨retB HX.out.symm, HB.out⟩
        · have hne2 : ((s[q].toNat : Int) == 10) = false := by
            have h2 : s[q].toNat ≠ 10 := fun e => hb (UInt8.toNat_inj.1 e)
            simpa using (by omega : ¬ (s[q].toNat : Int) = 10)
          have hnl' : Hid (∀ j : Nat, j < q + 1 → s.data.toList[j]? ≠ some 10) := fun j hj => by
            rcases Nat.lt_succ_iff_lt_or_eq.1 hj with h | rfl
            · exact hnl.out j h
            · rw [hat]; exact fun e => hb (Option.some.inj e)
          clear hat hb
          go_wp2_with fail
          go_round
          case rel => exact ⟨q + 1, by omega, by go_num, hnl'⟩
          case measure => simp [intOf]; omega
      · obtain rfl : q = s.size := by omega
        have HN : Hid (nlB s = false) := nl_iff.2 fun j => by
          by_cases hj : j < s.size
          · exact hnl.out j hj
          · rw [List.getElem?_eq_none (by rw [size_len]; omega)]; exact fun e => by cases e
        clear hnl
        cases h0 : (a == 0)
        · have hv : fieldsB 1 a b t n s = false := by rw [Bool.eq_false_iff]; intro hh; have hh2 := fields_1.1 hh; have := ne_of_beq_false h0; omega
          have HX := hid hv
          clear hv
          go_wp2_with fail
          go_ret
          exact ⟨retB HX.out.symm, HB.out⟩
        · have k0 : a = 0 := eq_of_beq h0
          have K0 := hid k0
          clear k0
          cases h1 : (b == 0)
          · have hv : fieldsB 1 a b t n s = false := by rw [Bool.eq_false_iff]; intro hh; have hh2 := fields_1.1 hh; have := ne_of_beq_false h1; omega
            have HX := hid hv
            clear hv
            go_wp2_with fail
            go_ret
            exact ⟨retB HX.out.symm, HB.out⟩
          · have k1 : b = 0 := eq_of_beq h1
            have K1 := hid k1
            clear k1
            cases h2 : (t == 0)
            · have hv : fieldsB 1 a b t n s = false := by rw [Bool.eq_false_iff]; intro hh; have hh2 := fields_1.1 hh; have := ne_of_beq_false h2; omega
              have HX := hid hv
              clear hv
              go_wp2_with fail
              go_ret
              exact ⟨retB HX.out.symm, HB.out⟩
            · have k2 : t = 0 := eq_of_beq h2
              have K2 := hid k2
              clear k2
              cases h3 : ((n : Int) == 0)
              · have hv : fieldsB 1 a b t n s = false := by rw [Bool.eq_false_iff]; intro hh; have hh2 := fields_1.1 hh; have := ne_of_beq_false h3; omega
                have HX := hid hv
                clear hv
                go_wp2_with fail
                go_ret
                exact ⟨retB HX.out.symm, HB.out⟩
              · have k3 : n = 0 := by have := eq_of_beq h3; omega
                have K3 := hid k3
                clear k3
                by_cases h4 : (s.size : Int) ≤ 4000
                · have K4 := hid h4
                  have hv : fieldsB 1 a b t n s = true := fields_1.2 ⟨HN.out, K0.out, K1.out, K2.out, K3.out, K4.out⟩
                  have HX := hid hv
                  clear hv
                  go_wp2_with fail
                  go_ret
                  exact ⟨retB HX.out.symm, HB.out⟩
                · have hv : fieldsB 1 a b t n s = false := by rw [Bool.eq_false_iff]; intro hh; have hh2 := fields_1.1 hh; omega
                  have HX := hid hv
                  clear hv
                  go_wp2_with fail
                  go_ret
                  exact ⟨retB HX.out.symm, HB.out⟩
  · go_enter Tryz.func51, Tryz.ntmps51
    go_wp2_with fail
    refine (In_any a 0 99 _).mono ?_
    rintro e wi0 ⟨rfl, rfl⟩
    cases h0 : (decide (0 ≤ a) && decide (a ≤ 99))
    · have hv : fieldsB 2 a b t n s = false := by rw [Bool.eq_false_iff]; intro hh; have hh2 := fields_2.1 hh; rw [Bool.eq_false_iff] at h0; exact h0 (by simp; omega)
      have HX := hid hv
      clear hv
      go_wp2_with fail
      go_ret
      exact ⟨retB HX.out.symm, HB.out⟩
    · have k0 : 0 ≤ a ∧ a ≤ 99 := by simpa using h0
      have K0 := hid k0
      clear k0
      go_wp2_with fail
      refine (In_any b 0 99 _).mono ?_
      rintro e wi1 ⟨rfl, rfl⟩
      cases h1 : (decide (0 ≤ b) && decide (b ≤ 99))
      · have hv : fieldsB 2 a b t n s = false := by rw [Bool.eq_false_iff]; intro hh; have hh2 := fields_2.1 hh; rw [Bool.eq_false_iff] at h1; exact h1 (by simp; omega)
        have HX := hid hv
        clear hv
        go_wp2_with fail
        go_ret
        exact ⟨retB HX.out.symm, HB.out⟩
      · have k1 : 0 ≤ b ∧ b ≤ 99 := by simpa using h1
        have K1 := hid k1
        clear k1
        cases h2 : (t == 0)
        · have hv : fieldsB 2 a b t n s = false := by rw [Bool.eq_false_iff]; intro hh; have hh2 := fields_2.1 hh; have := ne_of_beq_false h2; omega
          have HX := hid hv
          clear hv
          go_wp2_with fail
          go_ret
          exact ⟨retB HX.out.symm, HB.out⟩
        · have k2 : t = 0 := eq_of_beq h2
          have K2 := hid k2
          clear k2
          cases h3 : ((n : Int) == 0)
          · have hv : fieldsB 2 a b t n s = false := by rw [Bool.eq_false_iff]; intro hh; have hh2 := fields_2.1 hh; have := ne_of_beq_false h3; omega
            have HX := hid hv
            clear hv
            go_wp2_with fail
            go_ret
            exact ⟨retB HX.out.symm, HB.out⟩
          · have k3 : n = 0 := by have := eq_of_beq h3; omega
            have K3 := hid k3
            clear k3
            by_cases h4 : s = ⟨#[]⟩
            · have q4 : (s.toList == (⟨#[]⟩ : ByteArray).data.toList) = true := by rw [h4, ByteArray.toList_eq]; rfl
              have K4 := hid h4
              clear h4
              have hv : fieldsB 2 a b t n s = true := fields_2.2 ⟨K0.out, K1.out, K2.out, K3.out, K4.out⟩
              have HX := hid hv
              clear hv
              go_wp2_with fail
              go_ret
              exact ⟨retB HX.out.symm, HB.out⟩
            · have q4 := ba_listT h4
              rw [ByteArray.toList_eq (⟨#[]⟩ : ByteArray)] at q4
              have hv : fieldsB 2 a b t n s = false := by rw [Bool.eq_false_iff]; intro hh; have hh2 := fields_2.1 hh; exact h4 (by simp only [hh2])
              have HX := hid hv
              clear hv h4
              go_wp2_with fail
              go_ret
              exact ⟨retB HX.out.symm, HB.out⟩
  · go_enter Tryz.func51, Tryz.ntmps51
    cases h0 : (a == 0)
    · have hv : fieldsB 3 a b t n s = false := by rw [Bool.eq_false_iff]; intro hh; have hh2 := fields_3.1 hh; have := ne_of_beq_false h0; omega
      have HX := hid hv
      clear hv
      go_wp2_with fail
      go_ret
      exact ⟨retB HX.out.symm, HB.out⟩
    · have k0 : a = 0 := eq_of_beq h0
      have K0 := hid k0
      clear k0
      cases h1 : (b == 0)
      · have hv : fieldsB 3 a b t n s = false := by rw [Bool.eq_false_iff]; intro hh; have hh2 := fields_3.1 hh; have := ne_of_beq_false h1; omega
        have HX := hid hv
        clear hv
        go_wp2_with fail
        go_ret
        exact ⟨retB HX.out.symm, HB.out⟩
      · have k1 : b = 0 := eq_of_beq h1
        have K1 := hid k1
        clear k1
        cases h2 : (t == 0)
        · have hv : fieldsB 3 a b t n s = false := by rw [Bool.eq_false_iff]; intro hh; have hh2 := fields_3.1 hh; have := ne_of_beq_false h2; omega
          have HX := hid hv
          clear hv
          go_wp2_with fail
          go_ret
          exact ⟨retB HX.out.symm, HB.out⟩
        · have k2 : t = 0 := eq_of_beq h2
          have K2 := hid k2
          clear k2
          by_cases h3 : s = ⟨#[]⟩
          · have q3 : (s.toList == (⟨#[]⟩ : ByteArray).data.toList) = true := by rw [h3, ByteArray.toList_eq]; rfl
            have K3 := hid h3
            clear h3
            have hv : fieldsB 3 a b t n s = true := fields_3.2 ⟨K0.out, K1.out, K2.out, K3.out⟩
            have HX := hid hv
            clear hv
            go_wp2_with fail
            go_ret
            exact ⟨retB HX.out.symm, HB.out⟩
          · have q3 := ba_listT h3
            rw [ByteArray.toList_eq (⟨#[]⟩ : ByteArray)] at q3
            have hv : fieldsB 3 a b t n s = false := by rw [Bool.eq_false_iff]; intro hh; have hh2 := fields_3.1 hh; exact h3 (by simp only [hh2])
            have HX := hid hv
            clear hv h3
            go_wp2_with fail
            go_ret
            exact ⟨retB HX.out.symm, HB.out⟩
  · go_enter Tryz.func51, Tryz.ntmps51
    cases h0 : (a == 0)
    · have hv : fieldsB 4 a b t n s = false := by rw [Bool.eq_false_iff]; intro hh; have hh2 := fields_4.1 hh; have := ne_of_beq_false h0; omega
      have HX := hid hv
      clear hv
      go_wp2_with fail
      go_ret
      exact ⟨retB HX.out.symm, HB.out⟩
    · have k0 : a = 0 := eq_of_beq h0
      have K0 := hid k0
      clear k0
      cases h1 : (b == 0)
      · have hv : fieldsB 4 a b t n s = false := by rw [Bool.eq_false_iff]; intro hh; have hh2 := fields_4.1 hh; have := ne_of_beq_false h1; omega
        have HX := hid hv
        clear hv
        go_wp2_with fail
        go_ret
        exact ⟨retB HX.out.symm, HB.out⟩
      · have k1 : b = 0 := eq_of_beq h1
        have K1 := hid k1
        clear k1
        go_wp2_with fail
        refine (In_any t (-100000000000) 100000000000 _).mono ?_
        rintro e wi2 ⟨rfl, rfl⟩
        cases h2 : (decide ((-100000000000) ≤ t) && decide (t ≤ 100000000000))
        · have hv : fieldsB 4 a b t n s = false := by rw [Bool.eq_false_iff]; intro hh; have hh2 := fields_4.1 hh; rw [Bool.eq_false_iff] at h2; exact h2 (by simp; omega)
          have HX := hid hv
          clear hv
          go_wp2_with fail
          go_ret
          exact ⟨retB HX.out.symm, HB.out⟩
        · have k2 : (-100000000000) ≤ t ∧ t ≤ 100000000000 := by simpa using h2
          have K2 := hid k2
          clear k2
          by_cases h3 : s = ⟨#[]⟩
          · have q3 : (s.toList == (⟨#[]⟩ : ByteArray).data.toList) = true := by rw [h3, ByteArray.toList_eq]; rfl
            have K3 := hid h3
            clear h3
            have hv : fieldsB 4 a b t n s = true := fields_4.2 ⟨K0.out, K1.out, K2.out, K3.out⟩
            have HX := hid hv
            clear hv
            go_wp2_with fail
            go_ret
            exact ⟨retB HX.out.symm, HB.out⟩
          · have q3 := ba_listT h3
            rw [ByteArray.toList_eq (⟨#[]⟩ : ByteArray)] at q3
            have hv : fieldsB 4 a b t n s = false := by rw [Bool.eq_false_iff]; intro hh; have hh2 := fields_4.1 hh; exact h3 (by simp only [hh2])
            have HX := hid hv
            clear hv h3
            go_wp2_with fail
            go_ret
            exact ⟨retB HX.out.symm, HB.out⟩
  · go_enter Tryz.func51, Tryz.ntmps51
    go_wp2_with fail
    refine (In_any a 0 20 _).mono ?_
    rintro e wi0 ⟨rfl, rfl⟩
    cases h0 : (decide (0 ≤ a) && decide (a ≤ 20))
    · have hv : fieldsB 5 a b t n s = false := by rw [Bool.eq_false_iff]; intro hh; have hh2 := fields_5.1 hh; rw [Bool.eq_false_iff] at h0; exact h0 (by simp; omega)
      have HX := hid hv
      clear hv
      go_wp2_with fail
      go_ret
      exact ⟨retB HX.out.symm, HB.out⟩
    · have k0 : 0 ≤ a ∧ a ≤ 20 := by simpa using h0
      have K0 := hid k0
      clear k0
      cases h1 : (b == 0)
      · have hv : fieldsB 5 a b t n s = false := by rw [Bool.eq_false_iff]; intro hh; have hh2 := fields_5.1 hh; have := ne_of_beq_false h1; omega
        have HX := hid hv
        clear hv
        go_wp2_with fail
        go_ret
        exact ⟨retB HX.out.symm, HB.out⟩
      · have k1 : b = 0 := eq_of_beq h1
        have K1 := hid k1
        clear k1
        cases h2 : (t == 0)
        · have hv : fieldsB 5 a b t n s = false := by rw [Bool.eq_false_iff]; intro hh; have hh2 := fields_5.1 hh; have := ne_of_beq_false h2; omega
          have HX := hid hv
          clear hv
          go_wp2_with fail
          go_ret
          exact ⟨retB HX.out.symm, HB.out⟩
        · have k2 : t = 0 := eq_of_beq h2
          have K2 := hid k2
          clear k2
          by_cases h3 : s = ⟨#[]⟩
          · have q3 : (s.toList == (⟨#[]⟩ : ByteArray).data.toList) = true := by rw [h3, ByteArray.toList_eq]; rfl
            have K3 := hid h3
            clear h3
            have hv : fieldsB 5 a b t n s = true := fields_5.2 ⟨K0.out, K1.out, K2.out, K3.out⟩
            have HX := hid hv
            clear hv
            go_wp2_with fail
            go_ret
            exact ⟨retB HX.out.symm, HB.out⟩
          · have q3 := ba_listT h3
            rw [ByteArray.toList_eq (⟨#[]⟩ : ByteArray)] at q3
            have hv : fieldsB 5 a b t n s = false := by rw [Bool.eq_false_iff]; intro hh; have hh2 := fields_5.1 hh; exact h3 (by simp only [hh2])
            have HX := hid hv
            clear hv h3
            go_wp2_with fail
            go_ret
            exact ⟨retB HX.out.symm, HB.out⟩
  · have e1 : (k == 1) = false := by simpa using k1
    have e2 : (k == 2) = false := by simpa using k2
    have e3 : (k == 3) = false := by simpa using k3
    have e4 : (k == 4) = false := by simpa using k4
    have e5 : (k == 5) = false := by simpa using k5
    have hv : fieldsB k a b t n s = false := by unfold fieldsB; rw [kindB_no (by omega)]; rfl
    rw [hv]
    clear hv k1 k2 k3 k4 k5
    go_enter Tryz.func51, Tryz.ntmps51
    go_wp2_with fail
    go_ret
    exact ⟨rfl, HB.out⟩

theorem cmdB_is (k a b t : Int) (n : Nat) (len : Nat → Nat) (z : Nat → Nat → Int) (s : ByteArray) : cmdB k a b t n len z s = (docsB n len z && (decide ((n : Int) ≤ 20) && fieldsB k a b t n s)) := by
  rw [Bool.eq_iff_iff]
  unfold cmdB fieldsB docsF
  simp only [Bool.and_eq_true, decide_eq_true_eq]
  have hk : ∀ h : 1 ≤ k ∧ k ≤ 5, ((k = 1 ∨ k = 2) ∧ fD k = 0) ∨ (¬ (k = 1 ∨ k = 2) ∧ fD k = 20) := fun h => by
    unfold fD
    by_cases h2 : k = 1 ∨ k = 2
    · exact .inl ⟨h2, if_neg (by omega)⟩
    · exact .inr ⟨h2, if_pos (by omega)⟩
  have hk2 : kindB k = true → 1 ≤ k ∧ k ≤ 5 := fun e => by unfold kindB at e; simpa using e
  constructor
  · rintro ⟨h1, h2, ⟨h3, h4⟩, h5⟩
    rcases hk (hk2 h1) with ⟨q1, q2⟩ | ⟨q1, q2⟩
    · rw [q2] at h3
      exact ⟨h4, by omega, h1, h2, by rw [if_pos q1]; simp; omega, h5⟩
    · rw [q2] at h3
      exact ⟨h4, h3, h1, h2, by rw [if_neg q1], h5⟩
  · rintro ⟨h4, h3, h1, h2, h6, h5⟩
    rcases hk (hk2 h1) with ⟨q1, q2⟩ | ⟨q1, q2⟩
    · rw [if_pos q1] at h6
      exact ⟨h1, h2, ⟨by rw [q2]; have := of_decide_eq_true h6; omega, h4⟩, h5⟩
    · exact ⟨h1, h2, ⟨by rw [q2]; exact h3, h4⟩, h5⟩

set_option maxRecDepth 100000 in
set_option maxHeartbeats 2000000 in
theorem sCmdOk_any (k a b t : Int) (D : Option Addr) (n dc : Nat) (len : Nat → Nat) (z : Nat → Nat → Int) (s : ByteArray) (w : World) (h : RdQ w w.heap.size D n len z) (hn : n ≤ 4194304) (hlen : Hid (∀ i, i < n → len i ≤ 4194304)) (hs : s.size ≤ 4194304) :
    Calls Tryz.prog 20 #[cmV k a b t D n dc s] w fun e w' => e = .returned (.bool (cmdB k a b t n len z s)) ∧ Below w.heap.size w w' := by
  have hb0 := (Below.refl w.heap.size w).alloc (Nat.le_refl _) (.cells (cmC k a b t D n dc s) 35)
  have hC0 := Blk.new w 35 (cmC k a b t D n dc s)
  have hr0 := h.to hb0
  rw [cmdB_is]
  obtain ⟨c0, c1, c2, c3, c4, c5⟩ := blk_cells6 hC0
  have HB := hid hb0
  clear hb0 hC0
  go_enter Tryz.func20, Tryz.ntmps20
  go_wp2_with fail
  generalize w.alloc (.cells (cmC k a b t D n dc s) 35) = W0 at HB hr0 c0 c1 c2 c3 c4 c5 ⊢
  go_loop [3] (fun i => ∃ q : Nat, q ≤ n ∧ i = .int .i64 q ∧ Hid (allP (fun i => docB (len i) (z i)) q = true)) (fun i => n - (intOf i).toNat)
  case atStart => exact ⟨0, Nat.zero_le _, rfl, rfl⟩
  case round =>
    obtain ⟨q, hq, rfl, hall⟩ := hrel
    by_cases hlt : q < n
    · obtain ⟨b', off, Ai, ci, rfl, hb, hc, hrd⟩ := hr0.at_ hlt
      have i1 : (q : Int) < (n : Int) := by omega
      have i0 : (0 : Int) ≤ (q : Int) := by omega
      have hlk := hlen.out q hlt
      go_wp2_with fail
      refine (sDocOk_any Ai (len q) ci (z q) _ hrd hlk).mono ?_
      rintro e w1 ⟨rfl, rfl⟩
      cases hd : docB (len q) (z q)
      · have HX : Hid ((docsB n len z && (decide ((n : Int) ≤ 20) && fieldsB k a b t n s)) = false) := by show _ = _; unfold docsB; rw [allP_false hlt hd]; rfl
        clear hd
        go_wp2_with fail
        go_ret
        exact ⟨retB HX.out.symm, HB.out⟩
      · have ha : Hid (allP (fun i => docB (len i) (z i)) (q + 1) = true) := allP_iff.2 fun j hj => by
          rcases Nat.lt_succ_iff_lt_or_eq.1 hj with h | rfl
          · exact allP_iff.1 hall.out j h
          · exact hd
        clear hd
        go_wp2_with fail
        go_round
        case rel => exact ⟨q + 1, by omega, by go_num, ha⟩
        case measure => simp [intOf]; omega
    · obtain rfl : q = n := by omega
      have HV : Hid ((docsB q len z && (decide ((q : Int) ≤ 20) && fieldsB k a b t q s)) = (decide ((q : Int) ≤ 20) && fieldsB k a b t q s)) := by show _ = _; unfold docsB; rw [hall.out]; rfl
      by_cases h20 : (q : Int) ≤ 20
      · have HY : Hid ((decide ((q : Int) ≤ 20) && fieldsB k a b t q s) = fieldsB k a b t q s) := by show _ = _; rw [decide_eq_true h20]; rfl
        go_wp2_with fail
        refine (sFields_any k a b t D q dc s _ hn hs).mono ?_
        rintro e w2 ⟨rfl, hb2⟩
        obtain ⟨y, hy⟩ : ∃ y, fieldsB k a b t q s = y := ⟨_, rfl⟩
        rw [hy]
        have HZ := hid hy
        clear hy
        go_wp2_with fail
        go_ret
        exact ⟨retB (HV.out.trans (HY.out.trans HZ.out)).symm, HB.out.trans (hb2.mono HB.out.size)⟩
      · have HY : Hid ((decide ((q : Int) ≤ 20) && fieldsB k a b t q s) = false) := by show _ = _; rw [decide_eq_false h20]; rfl
        go_wp2_with fail
        go_ret
        exact ⟨retB (HV.out.trans HY.out).symm, HB.out⟩
end Go.Proofs.YtmkipdhappikhaaGreatDoor
