/- The walks of the laws of meets of boxes. -/
import Derived.Test.YtmlcpjcchgihfaaBoxLaw
namespace Go.Proofs.Ytmlcpjcchgihfaa
open Go.RowKit Go.Deep

theorem Bs.to {w w' : World} {A : Option Addr} {n : Nat} (h : Bs w w.heap.size A n) (hb : Below w.heap.size w w') (hB : w.heap.size ≤ w'.heap.size) : Bs w' w'.heap.size A n := (h.keep fun _ hp => hb.cell hp).more hB
theorem meet_left (a b : Sp) (ha : spanB a = true) : meetS (meetS a b) a = meetS a b := by rw [meet_comm (meetS a b) a, ← meet_assoc, meet_self ha]
theorem meet_right (a b : Sp) (hb : spanB b = true) : meetS b (meetS a b) = meetS a b := by rw [meet_comm a b, ← meet_assoc, meet_self hb]
theorem meetB_left {n : Nat} {g h : Nat → Sp} (hy : meetB n g n h = true) : meetB n (meetF g h) n g = true := by
  obtain ⟨h1, h2, _, h4⟩ := meetB_iff.1 hy
  have h3 := hy
  rw [meet_box h1 h2] at h3
  exact meetB_iff.2 ⟨h3, h1, rfl, fun i hi => by
    show spanB (meetS (meetS (g i) (h i)) (g i)) = true
    rw [meet_left _ _ ((boxB_iff.1 h1).2.2 i hi)]; exact h4 i hi⟩
theorem meetB_right {n : Nat} {g h : Nat → Sp} (hy : meetB n g n h = true) : meetB n h n (meetF g h) = true := by
  obtain ⟨h1, h2, _, h4⟩ := meetB_iff.1 hy
  have h3 := hy
  rw [meet_box h1 h2] at h3
  exact meetB_iff.2 ⟨h2, h3, rfl, fun i hi => by
    show spanB (meetS (h i) (meetS (g i) (h i))) = true
    rw [meet_right _ _ ((boxB_iff.1 h2).2.2 i hi)]; exact h4 i hi⟩
theorem has_span {a b : Sp} {x : Int} (ha : spanB a = true) (hb : spanB b = true) (h1 : hasS a x = true) (h2 : hasS b x = true) : spanB (meetS a b) = true := by
  rw [meet_span ha hb]
  by_cases hx : x = 9999999
  · subst hx
    rw [hasS_gone] at h1 h2
    exact .inr (by rw [h1, h2]; rfl)
  · have e1 := (hasS_iff hx).1 h1
    have e2 := (hasS_iff hx).1 h2
    exact .inl (by omega)
theorem has_both {n k f : Nat} {g h : Nat → Sp} {z : Nat → Int} (h1 : boxHasB n g f z = true) (h2 : boxHasB k h f z = true) : meetB n g k h = true := by
  obtain ⟨a1, _, a3, a4⟩ := boxHasB_iff.1 h1
  obtain ⟨b1, _, b3, b4⟩ := boxHasB_iff.1 h2
  refine meetB_iff.2 ⟨a1, b1, by omega, fun i hi => has_span ((boxB_iff.1 a1).2.2 i hi) ((boxB_iff.1 b1).2.2 i (by omega)) (a4 i hi) (b4 i (by omega))⟩
theorem has_meet {n f : Nat} {g h : Nat → Sp} {z : Nat → Int} (hy : meetB n g n h = true) : boxHasB n (meetF g h) f z = (boxHasB n g f z && boxHasB n h f z) := by
  obtain ⟨h1, h2, _, _⟩ := meetB_iff.1 hy
  have h3 := hy
  rw [meet_box h1 h2] at h3
  have e : boxHasB n (meetF g h) f z = true ↔ (boxHasB n g f z && boxHasB n h f z) = true := by
    rw [Bool.and_eq_true, boxHasB_iff, boxHasB_iff, boxHasB_iff]
    constructor
    · rintro ⟨_, b, c, d⟩
      have d' : ∀ i, i < n → (hasS (g i) (z i) && hasS (h i) (z i)) = true := fun i hi => by rw [← meet_has]; exact d i hi
      exact ⟨⟨h1, b, c, fun i hi => by have := d' i hi; simp only [Bool.and_eq_true] at this; exact this.1⟩, h2, b, c, fun i hi => by have := d' i hi; simp only [Bool.and_eq_true] at this; exact this.2⟩
    · rintro ⟨⟨_, b, c, d⟩, _, _, _, d2⟩
      exact ⟨h3, b, c, fun i hi => by show hasS (meetS (g i) (h i)) (z i) = true; rw [meet_has, d i hi, d2 i hi]; rfl⟩
  cases e1 : boxHasB n (meetF g h) f z with
  | true => exact (e.1 e1).symm
  | false =>
    cases e2 : (boxHasB n g f z && boxHasB n h f z) with
    | true => rw [e.2 e2] at e1; cases e1
    | false => rfl

set_option maxRecDepth 100000 in
set_option maxHeartbeats 4000000 in
theorem lawWithin (A : Option Addr) (n cap : Nat) (w : World) (h : Bs w w.heap.size A n) :
    Calls Try.prog 19 #[.slice A n cap] w fun e w' => e = .returned (.bool true) ∧ Below w.heap.size w w' := by
  by_cases hbig : (1048576 : Int) < (n : Int)
  · go_enter Try.func19, Try.ntmps19
    go_wp2_with fail
    refine (big_yes A n cap _ hbig).mono ?_
    rintro e w1 ⟨rfl, rfl⟩
    go_wp2_with fail
    go_ret
    exact ⟨rfl, Below.refl _ _⟩
  · have hn : n ≤ 4194304 := by omega
    go_enter Try.func19, Try.ntmps19
    go_wp2_with fail
    refine (big_no A n cap _ (by omega)).mono ?_
    rintro e w0 ⟨rfl, rfl⟩
    go_wp2_with fail
    refine (drawBoxMeet A n cap _ h hn).mono ?_
    rintro e w1 ⟨m, g, A1, c1, k, h2, A2, c2, hm, hk, rfl, hr1, hr2, hb1⟩
    have hm' : m ≤ 4194304 := by omega
    have hk' : k ≤ 4194304 := by omega
    cases hy : meetB m g k h2 with
    | false =>
      have HY := hid hy
      clear hy
      go_wp2_with fail
      refine (iMeet_no _ _ m k c1 c2 g h2 _ hr1 hr2 hm' hk' HY.out).mono ?_
      rintro e w_1 ⟨rfl, hb_2⟩
      have r_3 : RdS w_1 w_1.heap.size A1 m g := RdS.to (w := w1) hr1 hb_2 hb_2.size
      have r_4 : RdS w_1 w_1.heap.size A2 k h2 := RdS.to (w := w1) hr2 hb_2 hb_2.size
      have hw_5 := hb1.trans (hb_2.mono hb1.size)
      clear hr1 hr2 hb1 hb_2
      go_wp2_with fail
      refine (sMeet_no _ _ m k c1 c2 g h2 _ r_3 r_4 hm' hk' HY.out).mono ?_
      rintro e w_6 ⟨rfl, hb_7⟩
      have r_8 : RdS w_6 w_6.heap.size A1 m g := RdS.to (w := w_1) r_3 hb_7 hb_7.size
      have r_9 : RdS w_6 w_6.heap.size A2 k h2 := RdS.to (w := w_1) r_4 hb_7 hb_7.size
      have hw_10 := hw_5.trans (hb_7.mono hw_5.size)
      clear r_3 r_4 hw_5 hb_7
      go_wp2_with fail
      refine (sameB_any none none 0 0 0 (fun _ => ⟨0, 0, false⟩) (fun _ => ⟨0, 0, false⟩) _ rds_none rds_none (fun _ _ => rfl) (by omega)).mono ?_
      rintro e w_11 ⟨rfl, hb_12⟩
      have r_13 : RdS w_11 w_11.heap.size A1 m g := RdS.to (w := w_6) r_8 hb_12 hb_12.size
      have r_14 : RdS w_11 w_11.heap.size A2 k h2 := RdS.to (w := w_6) r_9 hb_12 hb_12.size
      have hw_15 := hw_10.trans (hb_12.mono hw_10.size)
      clear r_8 r_9 hw_10 hb_12
      go_wp2_with fail
      refine (sameB_any none none 0 0 0 (fun _ => ⟨0, 0, false⟩) (fun _ => ⟨0, 0, false⟩) _ rds_none rds_none (fun _ _ => rfl) (by omega)).mono ?_
      rintro e w_16 ⟨rfl, hb_17⟩
      have r_18 : RdS w_16 w_16.heap.size A1 m g := RdS.to (w := w_11) r_13 hb_17 hb_17.size
      have r_19 : RdS w_16 w_16.heap.size A2 k h2 := RdS.to (w := w_11) r_14 hb_17 hb_17.size
      have hw_20 := hw_15.trans (hb_17.mono hw_15.size)
      clear r_13 r_14 hw_15 hb_17
      go_wp2_with fail
      go_ret
      exact ⟨rfl, hw_20⟩
    | true =>
      obtain rfl : m = k := (meetB_iff.1 hy).2.2.1
      have HL := hid (meetB_left hy)
      have HR := hid (meetB_right hy)
      have EL : Hid (∀ i, i < m → meetF (meetF g h2) g i = meetF g h2 i) := fun i hi => meet_left _ _ ((boxB_iff.1 (meetB_iff.1 hy).1).2.2 i hi)
      have ER : Hid (∀ i, i < m → meetF h2 (meetF g h2) i = meetF g h2 i) := fun i hi => meet_right _ _ ((boxB_iff.1 (meetB_iff.1 hy).2.1).2.2 i hi)
      have HY := hid hy
      clear hy
      go_wp2_with fail
      refine (iMeet_yes _ _ m c1 c2 g h2 _ hr1 hr2 HY.out).mono ?_
      rintro e w_4 ⟨b_1, c_2, rfl, _, r_3, hb_5⟩
      have r_6 : RdS w_4 w_4.heap.size A1 m g := RdS.to (w := w1) hr1 hb_5 hb_5.size
      have r_7 : RdS w_4 w_4.heap.size A2 m h2 := RdS.to (w := w1) hr2 hb_5 hb_5.size
      have hw_8 := hb1.trans (hb_5.mono hb1.size)
      clear hr1 hr2 hb1 hb_5
      go_wp2_with fail
      refine (sMeet_yes _ _ m c1 c2 g h2 _ r_6 r_7 HY.out).mono ?_
      rintro e w_12 ⟨b_9, c_10, rfl, _, r_11, hb_13⟩
      have r_14 : RdS w_12 w_12.heap.size A1 m g := RdS.to (w := w_4) r_6 hb_13 hb_13.size
      have r_15 : RdS w_12 w_12.heap.size A2 m h2 := RdS.to (w := w_4) r_7 hb_13 hb_13.size
      have r_16 : RowS w_12 80 b_1 m (meetF g h2) := RowS.below (w := w_4) r_3 hb_13 r_3.lt
      have hw_17 := hw_8.trans (hb_13.mono hw_8.size)
      clear r_6 r_7 r_3 hw_8 hb_13
      go_wp2_with fail
      refine (sameB_any _ _ m c_2 c_10 (meetF g h2) (meetF g h2) _ (rds_of r_16) (rds_of r_11) (fun _ _ => rfl) hm').mono ?_
      rintro e w_18 ⟨rfl, hb_19⟩
      have r_20 : RdS w_18 w_18.heap.size A1 m g := RdS.to (w := w_12) r_14 hb_19 hb_19.size
      have r_21 : RdS w_18 w_18.heap.size A2 m h2 := RdS.to (w := w_12) r_15 hb_19 hb_19.size
      have r_22 : RowS w_18 80 b_1 m (meetF g h2) := RowS.below (w := w_12) r_16 hb_19 r_16.lt
      have r_23 : RowS w_18 80 b_9 m (meetF g h2) := RowS.below (w := w_12) r_11 hb_19 r_11.lt
      have hw_24 := hw_17.trans (hb_19.mono hw_17.size)
      clear r_14 r_15 r_16 r_11 hw_17 hb_19
      go_wp2_with fail
      refine (iMeet_yes _ _ m c_2 c1 (meetF g h2) g _ (rds_of r_22) r_20 HL.out).mono ?_
      rintro e w_28 ⟨b_25, c_26, rfl, _, r_27, hb_29⟩
      have r_30 : RdS w_28 w_28.heap.size A1 m g := RdS.to (w := w_18) r_20 hb_29 hb_29.size
      have r_31 : RdS w_28 w_28.heap.size A2 m h2 := RdS.to (w := w_18) r_21 hb_29 hb_29.size
      have r_32 : RowS w_28 80 b_1 m (meetF g h2) := RowS.below (w := w_18) r_22 hb_29 r_22.lt
      have r_33 : RowS w_28 80 b_9 m (meetF g h2) := RowS.below (w := w_18) r_23 hb_29 r_23.lt
      have hw_34 := hw_24.trans (hb_29.mono hw_24.size)
      clear r_20 r_21 r_22 r_23 hw_24 hb_29
      go_wp2_with fail
      refine (iMeet_yes _ _ m c2 c_2 h2 (meetF g h2) _ r_31 (rds_of r_32) HR.out).mono ?_
      rintro e w_38 ⟨b_35, c_36, rfl, _, r_37, hb_39⟩
      have r_40 : RdS w_38 w_38.heap.size A1 m g := RdS.to (w := w_28) r_30 hb_39 hb_39.size
      have r_41 : RdS w_38 w_38.heap.size A2 m h2 := RdS.to (w := w_28) r_31 hb_39 hb_39.size
      have r_42 : RowS w_38 80 b_1 m (meetF g h2) := RowS.below (w := w_28) r_32 hb_39 r_32.lt
      have r_43 : RowS w_38 80 b_9 m (meetF g h2) := RowS.below (w := w_28) r_33 hb_39 r_33.lt
      have r_44 : RowS w_38 80 b_25 m (meetF (meetF g h2) g) := RowS.below (w := w_28) r_27 hb_39 r_27.lt
      have hw_45 := hw_34.trans (hb_39.mono hw_34.size)
      clear r_30 r_31 r_32 r_33 r_27 hw_34 hb_39
      go_wp2_with fail
      refine (sameB_any _ _ m c_26 c_2 (meetF (meetF g h2) g) (meetF g h2) _ (rds_of r_44) (rds_of r_42) (EL.out) hm').mono ?_
      rintro e w_46 ⟨rfl, hb_47⟩
      have r_48 : RdS w_46 w_46.heap.size A1 m g := RdS.to (w := w_38) r_40 hb_47 hb_47.size
      have r_49 : RdS w_46 w_46.heap.size A2 m h2 := RdS.to (w := w_38) r_41 hb_47 hb_47.size
      have r_50 : RowS w_46 80 b_1 m (meetF g h2) := RowS.below (w := w_38) r_42 hb_47 r_42.lt
      have r_51 : RowS w_46 80 b_9 m (meetF g h2) := RowS.below (w := w_38) r_43 hb_47 r_43.lt
      have r_52 : RowS w_46 80 b_25 m (meetF (meetF g h2) g) := RowS.below (w := w_38) r_44 hb_47 r_44.lt
      have r_53 : RowS w_46 80 b_35 m (meetF h2 (meetF g h2)) := RowS.below (w := w_38) r_37 hb_47 r_37.lt
      have hw_54 := hw_45.trans (hb_47.mono hw_45.size)
      clear r_40 r_41 r_42 r_43 r_44 r_37 hw_45 hb_47
      go_wp2_with fail
      refine (sameB_any _ _ m c_36 c_2 (meetF h2 (meetF g h2)) (meetF g h2) _ (rds_of r_53) (rds_of r_50) (ER.out) hm').mono ?_
      rintro e w_55 ⟨rfl, hb_56⟩
      have r_57 : RdS w_55 w_55.heap.size A1 m g := RdS.to (w := w_46) r_48 hb_56 hb_56.size
      have r_58 : RdS w_55 w_55.heap.size A2 m h2 := RdS.to (w := w_46) r_49 hb_56 hb_56.size
      have r_59 : RowS w_55 80 b_1 m (meetF g h2) := RowS.below (w := w_46) r_50 hb_56 r_50.lt
      have r_60 : RowS w_55 80 b_9 m (meetF g h2) := RowS.below (w := w_46) r_51 hb_56 r_51.lt
      have r_61 : RowS w_55 80 b_25 m (meetF (meetF g h2) g) := RowS.below (w := w_46) r_52 hb_56 r_52.lt
      have r_62 : RowS w_55 80 b_35 m (meetF h2 (meetF g h2)) := RowS.below (w := w_46) r_53 hb_56 r_53.lt
      have hw_63 := hw_54.trans (hb_56.mono hw_54.size)
      clear r_48 r_49 r_50 r_51 r_52 r_53 hw_54 hb_56
      go_wp2_with fail
      go_ret
      exact ⟨rfl, hw_63⟩

set_option maxRecDepth 100000 in
set_option maxHeartbeats 4000000 in
theorem lawMeet (A : Option Addr) (n cap : Nat) (w : World) (h : Bs w w.heap.size A n) :
    Calls Try.prog 18 #[.slice A n cap] w fun e w' => e = .returned (.bool true) ∧ Below w.heap.size w w' := by
  by_cases hbig : (1048576 : Int) < (n : Int)
  · go_enter Try.func18, Try.ntmps18
    go_wp2_with fail
    refine (big_yes A n cap _ hbig).mono ?_
    rintro e w1 ⟨rfl, rfl⟩
    go_wp2_with fail
    go_ret
    exact ⟨rfl, Below.refl _ _⟩
  · have hn : n ≤ 4194304 := by omega
    go_enter Try.func18, Try.ntmps18
    go_wp2_with fail
    refine (big_no A n cap _ (by omega)).mono ?_
    rintro e w0 ⟨rfl, rfl⟩
    go_wp2_with fail
    refine (drawBoxMeet A n cap _ h hn).mono ?_
    rintro e w1 ⟨m, g, A1, c1, k, h2, A2, c2, hm, hk, rfl, hr1, hr2, hb1⟩
    have hm' : m ≤ 4194304 := by omega
    have hk' : k ≤ 4194304 := by omega
    have h1 : Bs w1 w1.heap.size A n := (h.keep fun p hp => hb1.cell hp).more hb1.size
    cases hy : meetB m g k h2 with
    | false =>
      have HY := hid hy
      clear hy
      go_wp2_with fail
      refine (iMeet_no _ _ m k c1 c2 g h2 _ hr1 hr2 hm' hk' HY.out).mono ?_
      rintro e w_1 ⟨rfl, hb_2⟩
      have r_3 : RdS w_1 w_1.heap.size A1 m g := RdS.to (w := w1) hr1 hb_2 hb_2.size
      have r_4 : RdS w_1 w_1.heap.size A2 k h2 := RdS.to (w := w1) hr2 hb_2 hb_2.size
      have r_5 : Bs w_1 w_1.heap.size A n := Bs.to (w := w1) h1 hb_2 hb_2.size
      have hw_6 := hb1.trans (hb_2.mono hb1.size)
      clear hr1 hr2 h1 hb1 hb_2
      go_wp2_with fail
      refine (sMeet_no _ _ m k c1 c2 g h2 _ r_3 r_4 hm' hk' HY.out).mono ?_
      rintro e w_7 ⟨rfl, hb_8⟩
      have r_9 : RdS w_7 w_7.heap.size A1 m g := RdS.to (w := w_1) r_3 hb_8 hb_8.size
      have r_10 : RdS w_7 w_7.heap.size A2 k h2 := RdS.to (w := w_1) r_4 hb_8 hb_8.size
      have r_11 : Bs w_7 w_7.heap.size A n := Bs.to (w := w_1) r_5 hb_8 hb_8.size
      have hw_12 := hw_6.trans (hb_8.mono hw_6.size)
      clear r_3 r_4 r_5 hw_6 hb_8
      go_wp2_with fail
      refine (drawBoxHas A n cap _ r_11 hn).mono ?_
      rintro e w_13 ⟨mm, gg, AA, cc, f, z, D, dc, _, hf, rfl, _, hd, hb_14⟩
      have hf' : f ≤ 4194304 := by omega
      have r_15 : RdS w_13 w_13.heap.size A1 m g := RdS.to (w := w_7) r_9 hb_14 hb_14.size
      have r_16 : RdS w_13 w_13.heap.size A2 k h2 := RdS.to (w := w_7) r_10 hb_14 hb_14.size
      have hw_17 := hw_12.trans (hb_14.mono hw_12.size)
      clear r_9 r_10 r_11 hw_12 hb_14
      go_wp2_with fail
      refine (sameB_any none none 0 0 0 (fun _ => ⟨0, 0, false⟩) (fun _ => ⟨0, 0, false⟩) _ rds_none rds_none (fun _ _ => rfl) (by omega)).mono ?_
      rintro e w_18 ⟨rfl, hb_19⟩
      have r_20 : RdS w_18 w_18.heap.size A1 m g := RdS.to (w := w_13) r_15 hb_19 hb_19.size
      have r_21 : RdS w_18 w_18.heap.size A2 k h2 := RdS.to (w := w_13) r_16 hb_19 hb_19.size
      have r_22 : Rd w_18 w_18.heap.size D f z := Rd.to (w := w_13) hd hb_19 hb_19.size
      have hw_23 := hw_17.trans (hb_19.mono hw_17.size)
      clear r_15 r_16 hd hw_17 hb_19
      go_wp2_with fail
      refine (iBoxHas_any _ _ m c1 f dc g z _ r_20 r_22 hm' hf').mono ?_
      rintro e w_24 ⟨rfl, hb_25⟩
      have r_26 : RdS w_24 w_24.heap.size A1 m g := RdS.to (w := w_18) r_20 hb_25 hb_25.size
      have r_27 : RdS w_24 w_24.heap.size A2 k h2 := RdS.to (w := w_18) r_21 hb_25 hb_25.size
      have r_28 : Rd w_24 w_24.heap.size D f z := Rd.to (w := w_18) r_22 hb_25 hb_25.size
      have hw_29 := hw_23.trans (hb_25.mono hw_23.size)
      clear r_20 r_21 r_22 hw_23 hb_25
      cases hq : boxHasB m g f z with
      | false =>
        go_wp2_with fail
        go_ret
        exact ⟨rfl, hw_29⟩
      | true =>
        go_wp2_with fail
        refine (iBoxHas_any _ _ k c2 f dc h2 z _ r_27 r_28 hk' hf').mono ?_
        rintro e w_30 ⟨rfl, hb_31⟩
        have r_32 : RdS w_30 w_30.heap.size A1 m g := RdS.to (w := w_24) r_26 hb_31 hb_31.size
        have r_33 : RdS w_30 w_30.heap.size A2 k h2 := RdS.to (w := w_24) r_27 hb_31 hb_31.size
        have r_34 : Rd w_30 w_30.heap.size D f z := Rd.to (w := w_24) r_28 hb_31 hb_31.size
        have hw_35 := hw_29.trans (hb_31.mono hw_29.size)
        clear r_26 r_27 r_28 hw_29 hb_31
        have hq2 : boxHasB k h2 f z = false := by
          cases e2 : boxHasB k h2 f z with
          | false => rfl
          | true => have := has_both hq e2; rw [HY.out] at this; cases this
        rw [hq2]
        go_wp2_with fail
        go_ret
        exact ⟨rfl, hw_35⟩
    | true =>
      obtain rfl : m = k := (meetB_iff.1 hy).2.2.1
      have hbox : boxB m (meetF g h2) = true := by rw [← meet_box (meetB_iff.1 hy).1 (meetB_iff.1 hy).2.1]; exact hy
      have hm1 := (boxB_iff.1 hbox).1
      have hm6 := (boxB_iff.1 hbox).2.1
      have hdoc : Hid (docB m (fun i => pickS (meetF g h2 i)) = true) := by
        show _ = _
        unfold docB
        rw [decide_eq_true hm1, decide_eq_true hm6, allTo_of fun k hk => pick_may ((boxB_iff.1 hbox).2.2 k hk)]
        rfl
      have hhas : boxHasB m (meetF g h2) m (fun i => pickS (meetF g h2 i)) = true := boxHasB_iff.2 ⟨hbox, hdoc.out, rfl, fun i hi => pick_has ((boxB_iff.1 hbox).2.2 i hi)⟩
      have hab : boxHasB m g m (fun i => pickS (meetF g h2 i)) = true ∧ boxHasB m h2 m (fun i => pickS (meetF g h2 i)) = true := by
        have e := hhas
        rw [has_meet hy, Bool.and_eq_true] at e
        exact e
      have HA := hid hab.1
      have HB := hid hab.2
      have HH := hid hhas
      have HO := hid hbox
      have HM : Hid (∀ f z, boxHasB m (meetF g h2) f z = (boxHasB m g f z && boxHasB m h2 f z)) := fun f z => has_meet hy
      have HY := hid hy
      clear hy hbox hhas hab
      go_wp2_with fail
      refine (iMeet_yes _ _ m c1 c2 g h2 _ hr1 hr2 HY.out).mono ?_
      rintro e w_4 ⟨b_1, c_2, rfl, _, r_3, hb_5⟩
      have r_6 : RdS w_4 w_4.heap.size A1 m g := RdS.to (w := w1) hr1 hb_5 hb_5.size
      have r_7 : RdS w_4 w_4.heap.size A2 m h2 := RdS.to (w := w1) hr2 hb_5 hb_5.size
      have r_8 : Bs w_4 w_4.heap.size A n := Bs.to (w := w1) h1 hb_5 hb_5.size
      have hw_9 := hb1.trans (hb_5.mono hb1.size)
      clear hr1 hr2 h1 hb1 hb_5
      go_wp2_with fail
      refine (sMeet_yes _ _ m c1 c2 g h2 _ r_6 r_7 HY.out).mono ?_
      rintro e w_13 ⟨b_10, c_11, rfl, _, r_12, hb_14⟩
      have r_15 : RdS w_13 w_13.heap.size A1 m g := RdS.to (w := w_4) r_6 hb_14 hb_14.size
      have r_16 : RdS w_13 w_13.heap.size A2 m h2 := RdS.to (w := w_4) r_7 hb_14 hb_14.size
      have r_17 : Bs w_13 w_13.heap.size A n := Bs.to (w := w_4) r_8 hb_14 hb_14.size
      have r_18 : RowS w_13 80 b_1 m (meetF g h2) := RowS.below (w := w_4) r_3 hb_14 r_3.lt
      have hw_19 := hw_9.trans (hb_14.mono hw_9.size)
      clear r_6 r_7 r_8 r_3 hw_9 hb_14
      go_wp2_with fail
      refine (drawBoxHas A n cap _ r_17 hn).mono ?_
      rintro e w_20 ⟨mm, gg, AA, cc, f, z, D, dc, _, hf, rfl, _, hd, hb_21⟩
      have hf' : f ≤ 4194304 := by omega
      have r_22 : RdS w_20 w_20.heap.size A1 m g := RdS.to (w := w_13) r_15 hb_21 hb_21.size
      have r_23 : RdS w_20 w_20.heap.size A2 m h2 := RdS.to (w := w_13) r_16 hb_21 hb_21.size
      have r_24 : RowS w_20 80 b_1 m (meetF g h2) := RowS.below (w := w_13) r_18 hb_21 r_18.lt
      have r_25 : RowS w_20 80 b_10 m (meetF g h2) := RowS.below (w := w_13) r_12 hb_21 r_12.lt
      have hw_26 := hw_19.trans (hb_21.mono hw_19.size)
      clear r_15 r_16 r_17 r_18 r_12 hw_19 hb_21
      go_wp2_with fail
      refine (sameB_any _ _ m c_2 c_11 (meetF g h2) (meetF g h2) _ (rds_of r_24) (rds_of r_25) (fun _ _ => rfl) hm').mono ?_
      rintro e w_27 ⟨rfl, hb_28⟩
      have r_29 : RdS w_27 w_27.heap.size A1 m g := RdS.to (w := w_20) r_22 hb_28 hb_28.size
      have r_30 : RdS w_27 w_27.heap.size A2 m h2 := RdS.to (w := w_20) r_23 hb_28 hb_28.size
      have r_31 : RowS w_27 80 b_1 m (meetF g h2) := RowS.below (w := w_20) r_24 hb_28 r_24.lt
      have r_32 : RowS w_27 80 b_10 m (meetF g h2) := RowS.below (w := w_20) r_25 hb_28 r_25.lt
      have r_33 : Rd w_27 w_27.heap.size D f z := Rd.to (w := w_20) hd hb_28 hb_28.size
      have hw_34 := hw_26.trans (hb_28.mono hw_26.size)
      clear r_22 r_23 r_24 r_25 hd hw_26 hb_28
      go_wp2_with fail
      refine (iBoxHas_any _ _ m c1 f dc g z _ r_29 r_33 hm' hf').mono ?_
      rintro e w_35 ⟨rfl, hb_36⟩
      have r_37 : RdS w_35 w_35.heap.size A1 m g := RdS.to (w := w_27) r_29 hb_36 hb_36.size
      have r_38 : RdS w_35 w_35.heap.size A2 m h2 := RdS.to (w := w_27) r_30 hb_36 hb_36.size
      have r_39 : RowS w_35 80 b_1 m (meetF g h2) := RowS.below (w := w_27) r_31 hb_36 r_31.lt
      have r_40 : RowS w_35 80 b_10 m (meetF g h2) := RowS.below (w := w_27) r_32 hb_36 r_32.lt
      have r_41 : Rd w_35 w_35.heap.size D f z := Rd.to (w := w_27) r_33 hb_36 hb_36.size
      have hw_42 := hw_34.trans (hb_36.mono hw_34.size)
      clear r_29 r_30 r_31 r_32 r_33 hw_34 hb_36
      cases hq : boxHasB m g f z with
      | false =>
        go_wp2_with fail
        refine (iBoxHas_any _ _ m c_2 f dc (meetF g h2) z _ (rds_of r_39) r_41 hm' hf').mono ?_
        rintro e w_43 ⟨rfl, hb_44⟩
        have r_45 : RdS w_43 w_43.heap.size A1 m g := RdS.to (w := w_35) r_37 hb_44 hb_44.size
        have r_46 : RdS w_43 w_43.heap.size A2 m h2 := RdS.to (w := w_35) r_38 hb_44 hb_44.size
        have r_47 : RowS w_43 80 b_1 m (meetF g h2) := RowS.below (w := w_35) r_39 hb_44 r_39.lt
        have r_48 : RowS w_43 80 b_10 m (meetF g h2) := RowS.below (w := w_35) r_40 hb_44 r_40.lt
        have r_49 : Rd w_43 w_43.heap.size D f z := Rd.to (w := w_35) r_41 hb_44 hb_44.size
        have hw_50 := hw_42.trans (hb_44.mono hw_42.size)
        clear r_37 r_38 r_39 r_40 r_41 hw_42 hb_44
        rw [HM.out f z, hq, Bool.false_and]
        go_wp2_with fail
        refine (iPick_yes _ m c_2 (meetF g h2) _ (rds_of r_47) HO.out).mono ?_
        rintro e w_51 ⟨p, rfl, _, hp, hb_52⟩
        have r_53 : RdS w_51 w_51.heap.size A1 m g := RdS.to (w := w_43) r_45 hb_52 hb_52.size
        have r_54 : RdS w_51 w_51.heap.size A2 m h2 := RdS.to (w := w_43) r_46 hb_52 hb_52.size
        have r_55 : RowS w_51 80 b_1 m (meetF g h2) := RowS.below (w := w_43) r_47 hb_52 r_47.lt
        have r_56 : RowS w_51 80 b_10 m (meetF g h2) := RowS.below (w := w_43) r_48 hb_52 r_48.lt
        have r_57 : Rd w_51 w_51.heap.size D f z := Rd.to (w := w_43) r_49 hb_52 hb_52.size
        have hw_58 := hw_50.trans (hb_52.mono hw_50.size)
        clear r_45 r_46 r_47 r_48 r_49 hw_50 hb_52
        go_wp2_with fail
        refine (iBoxOk_any _ m c_2 (meetF g h2) _ (rds_of r_55) hm').mono ?_
        rintro e w_59 ⟨rfl, hb_60⟩
        have r_61 : RdS w_59 w_59.heap.size A1 m g := RdS.to (w := w_51) r_53 hb_60 hb_60.size
        have r_62 : RdS w_59 w_59.heap.size A2 m h2 := RdS.to (w := w_51) r_54 hb_60 hb_60.size
        have r_63 : RowS w_59 80 b_1 m (meetF g h2) := RowS.below (w := w_51) r_55 hb_60 r_55.lt
        have r_64 : RowS w_59 80 b_10 m (meetF g h2) := RowS.below (w := w_51) r_56 hb_60 r_56.lt
        have r_65 : Rd w_59 w_59.heap.size D f z := Rd.to (w := w_51) r_57 hb_60 hb_60.size
        have r_66 : Row w_59 2 p m (fun i => pickS (meetF g h2 i)) := Row.below (w := w_51) hp hb_60 hp.lt
        have hw_67 := hw_58.trans (hb_60.mono hw_58.size)
        clear r_53 r_54 r_55 r_56 r_57 hp hw_58 hb_60
        rw [HO.out]
        go_wp2_with fail
        refine (iBoxHas_any _ _ m c_2 m m (meetF g h2) (fun i => pickS (meetF g h2 i)) _ (rds_of r_63) (rd_of r_66) hm' hm').mono ?_
        rintro e w_68 ⟨rfl, hb_69⟩
        have r_70 : RdS w_68 w_68.heap.size A1 m g := RdS.to (w := w_59) r_61 hb_69 hb_69.size
        have r_71 : RdS w_68 w_68.heap.size A2 m h2 := RdS.to (w := w_59) r_62 hb_69 hb_69.size
        have r_72 : RowS w_68 80 b_1 m (meetF g h2) := RowS.below (w := w_59) r_63 hb_69 r_63.lt
        have r_73 : RowS w_68 80 b_10 m (meetF g h2) := RowS.below (w := w_59) r_64 hb_69 r_64.lt
        have r_74 : Rd w_68 w_68.heap.size D f z := Rd.to (w := w_59) r_65 hb_69 hb_69.size
        have r_75 : Row w_68 2 p m (fun i => pickS (meetF g h2 i)) := Row.below (w := w_59) r_66 hb_69 r_66.lt
        have hw_76 := hw_67.trans (hb_69.mono hw_67.size)
        clear r_61 r_62 r_63 r_64 r_65 r_66 hw_67 hb_69
        rw [HH.out]
        go_wp2_with fail
        refine (iBoxHas_any _ _ m c1 m m g (fun i => pickS (meetF g h2 i)) _ r_70 (rd_of r_75) hm' hm').mono ?_
        rintro e w_77 ⟨rfl, hb_78⟩
        have r_79 : RdS w_77 w_77.heap.size A1 m g := RdS.to (w := w_68) r_70 hb_78 hb_78.size
        have r_80 : RdS w_77 w_77.heap.size A2 m h2 := RdS.to (w := w_68) r_71 hb_78 hb_78.size
        have r_81 : RowS w_77 80 b_1 m (meetF g h2) := RowS.below (w := w_68) r_72 hb_78 r_72.lt
        have r_82 : RowS w_77 80 b_10 m (meetF g h2) := RowS.below (w := w_68) r_73 hb_78 r_73.lt
        have r_83 : Rd w_77 w_77.heap.size D f z := Rd.to (w := w_68) r_74 hb_78 hb_78.size
        have r_84 : Row w_77 2 p m (fun i => pickS (meetF g h2 i)) := Row.below (w := w_68) r_75 hb_78 r_75.lt
        have hw_85 := hw_76.trans (hb_78.mono hw_76.size)
        clear r_70 r_71 r_72 r_73 r_74 r_75 hw_76 hb_78
        rw [HA.out]
        go_wp2_with fail
        refine (iBoxHas_any _ _ m c2 m m h2 (fun i => pickS (meetF g h2 i)) _ r_80 (rd_of r_84) hm' hm').mono ?_
        rintro e w_86 ⟨rfl, hb_87⟩
        have r_88 : RdS w_86 w_86.heap.size A1 m g := RdS.to (w := w_77) r_79 hb_87 hb_87.size
        have r_89 : RdS w_86 w_86.heap.size A2 m h2 := RdS.to (w := w_77) r_80 hb_87 hb_87.size
        have r_90 : RowS w_86 80 b_1 m (meetF g h2) := RowS.below (w := w_77) r_81 hb_87 r_81.lt
        have r_91 : RowS w_86 80 b_10 m (meetF g h2) := RowS.below (w := w_77) r_82 hb_87 r_82.lt
        have r_92 : Rd w_86 w_86.heap.size D f z := Rd.to (w := w_77) r_83 hb_87 hb_87.size
        have r_93 : Row w_86 2 p m (fun i => pickS (meetF g h2 i)) := Row.below (w := w_77) r_84 hb_87 r_84.lt
        have hw_94 := hw_85.trans (hb_87.mono hw_85.size)
        clear r_79 r_80 r_81 r_82 r_83 r_84 hw_85 hb_87
        rw [HB.out]
        go_wp2_with fail
        go_ret
        exact ⟨rfl, hw_94⟩
      | true =>
        go_wp2_with fail
        refine (iBoxHas_any _ _ m c2 f dc h2 z _ r_38 r_41 hm' hf').mono ?_
        rintro e w_43 ⟨rfl, hb_44⟩
        have r_45 : RdS w_43 w_43.heap.size A1 m g := RdS.to (w := w_35) r_37 hb_44 hb_44.size
        have r_46 : RdS w_43 w_43.heap.size A2 m h2 := RdS.to (w := w_35) r_38 hb_44 hb_44.size
        have r_47 : RowS w_43 80 b_1 m (meetF g h2) := RowS.below (w := w_35) r_39 hb_44 r_39.lt
        have r_48 : RowS w_43 80 b_10 m (meetF g h2) := RowS.below (w := w_35) r_40 hb_44 r_40.lt
        have r_49 : Rd w_43 w_43.heap.size D f z := Rd.to (w := w_35) r_41 hb_44 hb_44.size
        have hw_50 := hw_42.trans (hb_44.mono hw_42.size)
        clear r_37 r_38 r_39 r_40 r_41 hw_42 hb_44
        cases hq2 : boxHasB m h2 f z with
        | false =>
          go_wp2_with fail
          refine (iBoxHas_any _ _ m c_2 f dc (meetF g h2) z _ (rds_of r_47) r_49 hm' hf').mono ?_
          rintro e w_51 ⟨rfl, hb_52⟩
          have r_53 : RdS w_51 w_51.heap.size A1 m g := RdS.to (w := w_43) r_45 hb_52 hb_52.size
          have r_54 : RdS w_51 w_51.heap.size A2 m h2 := RdS.to (w := w_43) r_46 hb_52 hb_52.size
          have r_55 : RowS w_51 80 b_1 m (meetF g h2) := RowS.below (w := w_43) r_47 hb_52 r_47.lt
          have r_56 : RowS w_51 80 b_10 m (meetF g h2) := RowS.below (w := w_43) r_48 hb_52 r_48.lt
          have r_57 : Rd w_51 w_51.heap.size D f z := Rd.to (w := w_43) r_49 hb_52 hb_52.size
          have hw_58 := hw_50.trans (hb_52.mono hw_50.size)
          clear r_45 r_46 r_47 r_48 r_49 hw_50 hb_52
          rw [HM.out f z, hq, hq2]
          go_wp2_with fail
          refine (iPick_yes _ m c_2 (meetF g h2) _ (rds_of r_55) HO.out).mono ?_
          rintro e w_59 ⟨p, rfl, _, hp, hb_60⟩
          have r_61 : RdS w_59 w_59.heap.size A1 m g := RdS.to (w := w_51) r_53 hb_60 hb_60.size
          have r_62 : RdS w_59 w_59.heap.size A2 m h2 := RdS.to (w := w_51) r_54 hb_60 hb_60.size
          have r_63 : RowS w_59 80 b_1 m (meetF g h2) := RowS.below (w := w_51) r_55 hb_60 r_55.lt
          have r_64 : RowS w_59 80 b_10 m (meetF g h2) := RowS.below (w := w_51) r_56 hb_60 r_56.lt
          have r_65 : Rd w_59 w_59.heap.size D f z := Rd.to (w := w_51) r_57 hb_60 hb_60.size
          have hw_66 := hw_58.trans (hb_60.mono hw_58.size)
          clear r_53 r_54 r_55 r_56 r_57 hw_58 hb_60
          go_wp2_with fail
          refine (iBoxOk_any _ m c_2 (meetF g h2) _ (rds_of r_63) hm').mono ?_
          rintro e w_67 ⟨rfl, hb_68⟩
          have r_69 : RdS w_67 w_67.heap.size A1 m g := RdS.to (w := w_59) r_61 hb_68 hb_68.size
          have r_70 : RdS w_67 w_67.heap.size A2 m h2 := RdS.to (w := w_59) r_62 hb_68 hb_68.size
          have r_71 : RowS w_67 80 b_1 m (meetF g h2) := RowS.below (w := w_59) r_63 hb_68 r_63.lt
          have r_72 : RowS w_67 80 b_10 m (meetF g h2) := RowS.below (w := w_59) r_64 hb_68 r_64.lt
          have r_73 : Rd w_67 w_67.heap.size D f z := Rd.to (w := w_59) r_65 hb_68 hb_68.size
          have r_74 : Row w_67 2 p m (fun i => pickS (meetF g h2 i)) := Row.below (w := w_59) hp hb_68 hp.lt
          have hw_75 := hw_66.trans (hb_68.mono hw_66.size)
          clear r_61 r_62 r_63 r_64 r_65 hp hw_66 hb_68
          rw [HO.out]
          go_wp2_with fail
          refine (iBoxHas_any _ _ m c_2 m m (meetF g h2) (fun i => pickS (meetF g h2 i)) _ (rds_of r_71) (rd_of r_74) hm' hm').mono ?_
          rintro e w_76 ⟨rfl, hb_77⟩
          have r_78 : RdS w_76 w_76.heap.size A1 m g := RdS.to (w := w_67) r_69 hb_77 hb_77.size
          have r_79 : RdS w_76 w_76.heap.size A2 m h2 := RdS.to (w := w_67) r_70 hb_77 hb_77.size
          have r_80 : RowS w_76 80 b_1 m (meetF g h2) := RowS.below (w := w_67) r_71 hb_77 r_71.lt
          have r_81 : RowS w_76 80 b_10 m (meetF g h2) := RowS.below (w := w_67) r_72 hb_77 r_72.lt
          have r_82 : Rd w_76 w_76.heap.size D f z := Rd.to (w := w_67) r_73 hb_77 hb_77.size
          have r_83 : Row w_76 2 p m (fun i => pickS (meetF g h2 i)) := Row.below (w := w_67) r_74 hb_77 r_74.lt
          have hw_84 := hw_75.trans (hb_77.mono hw_75.size)
          clear r_69 r_70 r_71 r_72 r_73 r_74 hw_75 hb_77
          rw [HH.out]
          go_wp2_with fail
          refine (iBoxHas_any _ _ m c1 m m g (fun i => pickS (meetF g h2 i)) _ r_78 (rd_of r_83) hm' hm').mono ?_
          rintro e w_85 ⟨rfl, hb_86⟩
          have r_87 : RdS w_85 w_85.heap.size A1 m g := RdS.to (w := w_76) r_78 hb_86 hb_86.size
          have r_88 : RdS w_85 w_85.heap.size A2 m h2 := RdS.to (w := w_76) r_79 hb_86 hb_86.size
          have r_89 : RowS w_85 80 b_1 m (meetF g h2) := RowS.below (w := w_76) r_80 hb_86 r_80.lt
          have r_90 : RowS w_85 80 b_10 m (meetF g h2) := RowS.below (w := w_76) r_81 hb_86 r_81.lt
          have r_91 : Rd w_85 w_85.heap.size D f z := Rd.to (w := w_76) r_82 hb_86 hb_86.size
          have r_92 : Row w_85 2 p m (fun i => pickS (meetF g h2 i)) := Row.below (w := w_76) r_83 hb_86 r_83.lt
          have hw_93 := hw_84.trans (hb_86.mono hw_84.size)
          clear r_78 r_79 r_80 r_81 r_82 r_83 hw_84 hb_86
          rw [HA.out]
          go_wp2_with fail
          refine (iBoxHas_any _ _ m c2 m m h2 (fun i => pickS (meetF g h2 i)) _ r_88 (rd_of r_92) hm' hm').mono ?_
          rintro e w_94 ⟨rfl, hb_95⟩
          have r_96 : RdS w_94 w_94.heap.size A1 m g := RdS.to (w := w_85) r_87 hb_95 hb_95.size
          have r_97 : RdS w_94 w_94.heap.size A2 m h2 := RdS.to (w := w_85) r_88 hb_95 hb_95.size
          have r_98 : RowS w_94 80 b_1 m (meetF g h2) := RowS.below (w := w_85) r_89 hb_95 r_89.lt
          have r_99 : RowS w_94 80 b_10 m (meetF g h2) := RowS.below (w := w_85) r_90 hb_95 r_90.lt
          have r_100 : Rd w_94 w_94.heap.size D f z := Rd.to (w := w_85) r_91 hb_95 hb_95.size
          have r_101 : Row w_94 2 p m (fun i => pickS (meetF g h2 i)) := Row.below (w := w_85) r_92 hb_95 r_92.lt
          have hw_102 := hw_93.trans (hb_95.mono hw_93.size)
          clear r_87 r_88 r_89 r_90 r_91 r_92 hw_93 hb_95
          rw [HB.out]
          go_wp2_with fail
          go_ret
          exact ⟨rfl, hw_102⟩
        | true =>
          go_wp2_with fail
          refine (iBoxHas_any _ _ m c_2 f dc (meetF g h2) z _ (rds_of r_47) r_49 hm' hf').mono ?_
          rintro e w_51 ⟨rfl, hb_52⟩
          have r_53 : RdS w_51 w_51.heap.size A1 m g := RdS.to (w := w_43) r_45 hb_52 hb_52.size
          have r_54 : RdS w_51 w_51.heap.size A2 m h2 := RdS.to (w := w_43) r_46 hb_52 hb_52.size
          have r_55 : RowS w_51 80 b_1 m (meetF g h2) := RowS.below (w := w_43) r_47 hb_52 r_47.lt
          have r_56 : RowS w_51 80 b_10 m (meetF g h2) := RowS.below (w := w_43) r_48 hb_52 r_48.lt
          have r_57 : Rd w_51 w_51.heap.size D f z := Rd.to (w := w_43) r_49 hb_52 hb_52.size
          have hw_58 := hw_50.trans (hb_52.mono hw_50.size)
          clear r_45 r_46 r_47 r_48 r_49 hw_50 hb_52
          rw [HM.out f z, hq, hq2]
          go_wp2_with fail
          refine (iPick_yes _ m c_2 (meetF g h2) _ (rds_of r_55) HO.out).mono ?_
          rintro e w_59 ⟨p, rfl, _, hp, hb_60⟩
          have r_61 : RdS w_59 w_59.heap.size A1 m g := RdS.to (w := w_51) r_53 hb_60 hb_60.size
          have r_62 : RdS w_59 w_59.heap.size A2 m h2 := RdS.to (w := w_51) r_54 hb_60 hb_60.size
          have r_63 : RowS w_59 80 b_1 m (meetF g h2) := RowS.below (w := w_51) r_55 hb_60 r_55.lt
          have r_64 : RowS w_59 80 b_10 m (meetF g h2) := RowS.below (w := w_51) r_56 hb_60 r_56.lt
          have r_65 : Rd w_59 w_59.heap.size D f z := Rd.to (w := w_51) r_57 hb_60 hb_60.size
          have hw_66 := hw_58.trans (hb_60.mono hw_58.size)
          clear r_53 r_54 r_55 r_56 r_57 hw_58 hb_60
          go_wp2_with fail
          refine (iBoxOk_any _ m c_2 (meetF g h2) _ (rds_of r_63) hm').mono ?_
          rintro e w_67 ⟨rfl, hb_68⟩
          have r_69 : RdS w_67 w_67.heap.size A1 m g := RdS.to (w := w_59) r_61 hb_68 hb_68.size
          have r_70 : RdS w_67 w_67.heap.size A2 m h2 := RdS.to (w := w_59) r_62 hb_68 hb_68.size
          have r_71 : RowS w_67 80 b_1 m (meetF g h2) := RowS.below (w := w_59) r_63 hb_68 r_63.lt
          have r_72 : RowS w_67 80 b_10 m (meetF g h2) := RowS.below (w := w_59) r_64 hb_68 r_64.lt
          have r_73 : Rd w_67 w_67.heap.size D f z := Rd.to (w := w_59) r_65 hb_68 hb_68.size
          have r_74 : Row w_67 2 p m (fun i => pickS (meetF g h2 i)) := Row.below (w := w_59) hp hb_68 hp.lt
          have hw_75 := hw_66.trans (hb_68.mono hw_66.size)
          clear r_61 r_62 r_63 r_64 r_65 hp hw_66 hb_68
          rw [HO.out]
          go_wp2_with fail
          refine (iBoxHas_any _ _ m c_2 m m (meetF g h2) (fun i => pickS (meetF g h2 i)) _ (rds_of r_71) (rd_of r_74) hm' hm').mono ?_
          rintro e w_76 ⟨rfl, hb_77⟩
          have r_78 : RdS w_76 w_76.heap.size A1 m g := RdS.to (w := w_67) r_69 hb_77 hb_77.size
          have r_79 : RdS w_76 w_76.heap.size A2 m h2 := RdS.to (w := w_67) r_70 hb_77 hb_77.size
          have r_80 : RowS w_76 80 b_1 m (meetF g h2) := RowS.below (w := w_67) r_71 hb_77 r_71.lt
          have r_81 : RowS w_76 80 b_10 m (meetF g h2) := RowS.below (w := w_67) r_72 hb_77 r_72.lt
          have r_82 : Rd w_76 w_76.heap.size D f z := Rd.to (w := w_67) r_73 hb_77 hb_77.size
          have r_83 : Row w_76 2 p m (fun i => pickS (meetF g h2 i)) := Row.below (w := w_67) r_74 hb_77 r_74.lt
          have hw_84 := hw_75.trans (hb_77.mono hw_75.size)
          clear r_69 r_70 r_71 r_72 r_73 r_74 hw_75 hb_77
          rw [HH.out]
          go_wp2_with fail
          refine (iBoxHas_any _ _ m c1 m m g (fun i => pickS (meetF g h2 i)) _ r_78 (rd_of r_83) hm' hm').mono ?_
          rintro e w_85 ⟨rfl, hb_86⟩
          have r_87 : RdS w_85 w_85.heap.size A1 m g := RdS.to (w := w_76) r_78 hb_86 hb_86.size
          have r_88 : RdS w_85 w_85.heap.size A2 m h2 := RdS.to (w := w_76) r_79 hb_86 hb_86.size
          have r_89 : RowS w_85 80 b_1 m (meetF g h2) := RowS.below (w := w_76) r_80 hb_86 r_80.lt
          have r_90 : RowS w_85 80 b_10 m (meetF g h2) := RowS.below (w := w_76) r_81 hb_86 r_81.lt
          have r_91 : Rd w_85 w_85.heap.size D f z := Rd.to (w := w_76) r_82 hb_86 hb_86.size
          have r_92 : Row w_85 2 p m (fun i => pickS (meetF g h2 i)) := Row.below (w := w_76) r_83 hb_86 r_83.lt
          have hw_93 := hw_84.trans (hb_86.mono hw_84.size)
          clear r_78 r_79 r_80 r_81 r_82 r_83 hw_84 hb_86
          rw [HA.out]
          go_wp2_with fail
          refine (iBoxHas_any _ _ m c2 m m h2 (fun i => pickS (meetF g h2 i)) _ r_88 (rd_of r_92) hm' hm').mono ?_
          rintro e w_94 ⟨rfl, hb_95⟩
          have r_96 : RdS w_94 w_94.heap.size A1 m g := RdS.to (w := w_85) r_87 hb_95 hb_95.size
          have r_97 : RdS w_94 w_94.heap.size A2 m h2 := RdS.to (w := w_85) r_88 hb_95 hb_95.size
          have r_98 : RowS w_94 80 b_1 m (meetF g h2) := RowS.below (w := w_85) r_89 hb_95 r_89.lt
          have r_99 : RowS w_94 80 b_10 m (meetF g h2) := RowS.below (w := w_85) r_90 hb_95 r_90.lt
          have r_100 : Rd w_94 w_94.heap.size D f z := Rd.to (w := w_85) r_91 hb_95 hb_95.size
          have r_101 : Row w_94 2 p m (fun i => pickS (meetF g h2 i)) := Row.below (w := w_85) r_92 hb_95 r_92.lt
          have hw_102 := hw_93.trans (hb_95.mono hw_93.size)
          clear r_87 r_88 r_89 r_90 r_91 r_92 hw_93 hb_95
          rw [HB.out]
          go_wp2_with fail
          go_ret
          exact ⟨rfl, hw_102⟩
end Go.Proofs.Ytmlcpjcchgihfaa
