/- The walk of the law of meets in whatever order. -/
import Derived.Test.YtmlcpjcchgihfaaMeetFn
namespace Go.Proofs.Ytmlcpjcchgihfaa
open Go.RowKit Go.Deep

theorem meetB_comm {n k : Nat} {g h : Nat → Sp} : meetB n g k h = meetB k h n g := by
  have e : ∀ {n k : Nat} {g h : Nat → Sp}, meetB n g k h = true → meetB k h n g = true := fun {n k g h} hy => by
    obtain ⟨h1, h2, h3, h4⟩ := meetB_iff.1 hy
    exact meetB_iff.2 ⟨h2, h1, h3.symm, fun i hi => by rw [meet_comm]; exact h4 i (by omega)⟩
  cases e1 : meetB n g k h with
  | true => exact (e e1).symm
  | false =>
    cases e2 : meetB k h n g with
    | true => rw [e e2] at e1; cases e1
    | false => rfl
theorem meetB_self {n : Nat} {g : Nat → Sp} (hb : boxB n g = true) : meetB n g n g = true :=
  meetB_iff.2 ⟨hb, hb, rfl, fun i hi => by rw [meet_self ((boxB_iff.1 hb).2.2 i hi)]; exact (boxB_iff.1 hb).2.2 i hi⟩
theorem box_meet {n : Nat} {g h : Nat → Sp} (hy : meetB n g n h = true) : boxB n (meetF g h) = true := by rw [← meet_box (meetB_iff.1 hy).1 (meetB_iff.1 hy).2.1]; exact hy
theorem meetB_assoc {n : Nat} {g h c : Nat → Sp} (h1 : meetB n g n h = true) (h2 : meetB n h n c = true) : meetB n (meetF g h) n c = meetB n g n (meetF h c) := by
  have e : meetB n (meetF g h) n c = true ↔ meetB n g n (meetF h c) = true := by
    rw [meetB_iff, meetB_iff]
    constructor
    · rintro ⟨_, _, _, d⟩
      exact ⟨(meetB_iff.1 h1).1, box_meet h2, rfl, fun i hi => by show spanB (meetS (g i) (meetS (h i) (c i))) = true; rw [← meet_assoc]; exact d i hi⟩
    · rintro ⟨_, _, _, d⟩
      exact ⟨box_meet h1, (meetB_iff.1 h2).2.1, rfl, fun i hi => by show spanB (meetS (meetS (g i) (h i)) (c i)) = true; rw [meet_assoc]; exact d i hi⟩
  cases e1 : meetB n (meetF g h) n c with
  | true => exact (e.1 e1).symm
  | false =>
    cases e2 : meetB n g n (meetF h c) with
    | true => rw [e.2 e2] at e1; cases e1
    | false => rfl
theorem three_four {n k : Nat} {g h c : Nat → Sp} (h1 : meetB n g n h = true) (h3 : meetB n (meetF g h) k c = true) : meetB n h k c = true := by
  obtain ⟨a1, a2, _, _⟩ := meetB_iff.1 h1
  obtain ⟨_, b2, b3, b4⟩ := meetB_iff.1 h3
  refine meetB_iff.2 ⟨a2, b2, b3, fun i hi => (meet_less ((boxB_iff.1 a1).2.2 i hi) ((boxB_iff.1 a2).2.2 i hi) ((boxB_iff.1 b2).2.2 i (by omega)) ?_).2⟩
  rw [← meet_assoc]
  exact b4 i hi
theorem five_one {n k : Nat} {g h c : Nat → Sp} (h2 : meetB k h k c = true) (h5 : meetB n g k (meetF h c) = true) : meetB n g k h = true := by
  obtain ⟨a1, a2, _, _⟩ := meetB_iff.1 h2
  obtain ⟨b1, _, b3, b4⟩ := meetB_iff.1 h5
  exact meetB_iff.2 ⟨b1, a1, b3, fun i hi => (meet_less ((boxB_iff.1 b1).2.2 i hi) ((boxB_iff.1 a1).2.2 i (by omega)) ((boxB_iff.1 a2).2.2 i (by omega)) (b4 i hi)).1⟩
theorem meet_nil {k : Nat} {g h : Nat → Sp} : meetB 0 g k h = false := by
  cases e : meetB 0 g k h with
  | false => rfl
  | true => have := (boxB_iff.1 (meetB_iff.1 e).1).1; omega
theorem meet_nil2 {k : Nat} {g h : Nat → Sp} : meetB k g 0 h = false := by rw [meetB_comm]; exact meet_nil
abbrev nulS : Nat → Sp := fun _ => ⟨0, 0, false⟩

set_option maxRecDepth 100000 in
set_option maxHeartbeats 8000000 in
theorem lawOrder (A : Option Addr) (n cap : Nat) (D : Option Addr) (p dcap : Nat) (w : World) (h : Bs w w.heap.size A n) (hd : Bs w w.heap.size D p) :
    Calls Try.prog 20 #[.slice A n cap, .slice D p dcap] w fun e w' => e = .returned (.bool true) ∧ Below w.heap.size w w' := by
  by_cases hbig : (1048576 : Int) < (n : Int)
  · go_enter Try.func20, Try.ntmps20
    go_wp2_with fail
    refine (big_yes A n cap _ hbig).mono ?_
    rintro e w1 ⟨rfl, rfl⟩
    go_wp2_with fail
    go_ret
    exact ⟨rfl, Below.refl _ _⟩
  by_cases hbig2 : (1048576 : Int) < (p : Int)
  · go_enter Try.func20, Try.ntmps20
    go_wp2_with fail
    refine (big_no A n cap _ (by omega)).mono ?_
    rintro e w0 ⟨rfl, rfl⟩
    go_wp2_with fail
    refine (big_yes D p dcap _ hbig2).mono ?_
    rintro e w1 ⟨rfl, rfl⟩
    go_wp2_with fail
    go_ret
    exact ⟨rfl, Below.refl _ _⟩
  have hn : n ≤ 4194304 := by omega
  have hp : p ≤ 4194304 := by omega
  go_enter Try.func20, Try.ntmps20
  go_wp2_with fail
  refine (big_no A n cap _ (by omega)).mono ?_
  rintro e w0 ⟨rfl, rfl⟩
  go_wp2_with fail
  refine (big_no D p dcap _ (by omega)).mono ?_
  rintro e w0 ⟨rfl, rfl⟩
  go_wp2_with fail
  refine (drawBoxMeet A n cap _ h hn).mono ?_
  rintro e w1 ⟨m, g, A1, c1, k, h2, A2, c2, hm, hk, rfl, hr1, hr2, hb1⟩
  have hd1 := hd.to hb1 hb1.size
  go_wp2_with fail
  refine (drawBoxMeet D p dcap _ hd1 hp).mono ?_
  rintro e w2 ⟨l, hc, A3, c3, _, _, _, _, hl, _, rfl, hr3, _, hb2⟩
  have hr1' := hr1.to hb2 hb2.size
  have hr2' := hr2.to hb2 hb2.size
  have hw2 := hb1.trans (hb2.mono hb1.size)
  have hm' : m ≤ 4194304 := by omega
  have hk' : k ≤ 4194304 := by omega
  have hl' : l ≤ 4194304 := by omega
  clear hb1 hb2 hr1 hr2 hd1
  cases hy : meetB m g k h2 with
  | false =>
    have HY := hid hy
    have HZ : Hid (meetB k h2 m g = false) := by show _ = _; rw [meetB_comm]; exact hy
    go_wp2_with fail
    refine (iMeet_no _ _ m k c1 c2 g h2 _ hr1' hr2' hm' hk' HY.out).mono ?_
    rintro e w_1 ⟨rfl, hb_2⟩
    have r_3 : RdS w_1 w_1.heap.size A1 m g := RdS.to (w := w2) hr1' hb_2 hb_2.size
    have r_4 : RdS w_1 w_1.heap.size A2 k h2 := RdS.to (w := w2) hr2' hb_2 hb_2.size
    have r_5 : RdS w_1 w_1.heap.size A3 l hc := RdS.to (w := w2) hr3 hb_2 hb_2.size
    have hw_6 := hw2.trans (hb_2.mono hw2.size)
    clear hr1' hr2' hr3 hw2 hb_2
    go_wp2_with fail
    refine (iMeet_no _ _ k m c2 c1 h2 g _ r_4 r_3 hk' hm' HZ.out).mono ?_
    rintro e w_7 ⟨rfl, hb_8⟩
    have r_9 : RdS w_7 w_7.heap.size A1 m g := RdS.to (w := w_1) r_3 hb_8 hb_8.size
    have r_10 : RdS w_7 w_7.heap.size A2 k h2 := RdS.to (w := w_1) r_4 hb_8 hb_8.size
    have r_11 : RdS w_7 w_7.heap.size A3 l hc := RdS.to (w := w_1) r_5 hb_8 hb_8.size
    have hw_12 := hw_6.trans (hb_8.mono hw_6.size)
    clear r_3 r_4 r_5 hw_6 hb_8
    cases hi : boxB m g with
    | false =>
      have HI := hid hi
      clear hi
      go_wp2_with fail
      refine (iMeet_no _ _ m m c1 c1 g g _ r_9 r_9 hm' hm' (meet_no1 HI.out)).mono ?_
      rintro e w_13 ⟨rfl, hb_14⟩
      have r_15 : RdS w_13 w_13.heap.size A1 m g := RdS.to (w := w_7) r_9 hb_14 hb_14.size
      have r_16 : RdS w_13 w_13.heap.size A2 k h2 := RdS.to (w := w_7) r_10 hb_14 hb_14.size
      have r_17 : RdS w_13 w_13.heap.size A3 l hc := RdS.to (w := w_7) r_11 hb_14 hb_14.size
      have hw_18 := hw_12.trans (hb_14.mono hw_12.size)
      clear r_9 r_10 r_11 hw_12 hb_14
      go_wp2_with fail
      refine (sMeet_no _ _ m k c1 c2 g h2 _ r_15 r_16 hm' hk' HY.out).mono ?_
      rintro e w_19 ⟨rfl, hb_20⟩
      have r_21 : RdS w_19 w_19.heap.size A1 m g := RdS.to (w := w_13) r_15 hb_20 hb_20.size
      have r_22 : RdS w_19 w_19.heap.size A2 k h2 := RdS.to (w := w_13) r_16 hb_20 hb_20.size
      have r_23 : RdS w_19 w_19.heap.size A3 l hc := RdS.to (w := w_13) r_17 hb_20 hb_20.size
      have hw_24 := hw_18.trans (hb_20.mono hw_18.size)
      clear r_15 r_16 r_17 hw_18 hb_20
      go_wp2_with fail
      refine (sameB_any none none 0 0 0 (fun _ => ⟨0, 0, false⟩) (fun _ => ⟨0, 0, false⟩) _ rds_none rds_none (fun _ _ => rfl) (by omega)).mono ?_
      rintro e w_25 ⟨rfl, hb_26⟩
      have r_27 : RdS w_25 w_25.heap.size A1 m g := RdS.to (w := w_19) r_21 hb_26 hb_26.size
      have r_28 : RdS w_25 w_25.heap.size A2 k h2 := RdS.to (w := w_19) r_22 hb_26 hb_26.size
      have r_29 : RdS w_25 w_25.heap.size A3 l hc := RdS.to (w := w_19) r_23 hb_26 hb_26.size
      have hw_30 := hw_24.trans (hb_26.mono hw_24.size)
      clear r_21 r_22 r_23 hw_24 hb_26
      go_wp2_with fail
      refine (sBoxOk_any A1 m c1 g _ r_27 hm').mono ?_
      rintro e w_31 ⟨rfl, hb_32⟩
      have r_33 : RdS w_31 w_31.heap.size A1 m g := RdS.to (w := w_25) r_27 hb_32 hb_32.size
      have r_34 : RdS w_31 w_31.heap.size A2 k h2 := RdS.to (w := w_25) r_28 hb_32 hb_32.size
      have r_35 : RdS w_31 w_31.heap.size A3 l hc := RdS.to (w := w_25) r_29 hb_32 hb_32.size
      have hw_36 := hw_30.trans (hb_32.mono hw_30.size)
      clear r_27 r_28 r_29 hw_30 hb_32
      rw [HI.out]
      go_wp2_with fail
      refine (iMeet_no _ _ 0 l 0 c3 nulS hc _ rds_none r_35 (by omega) hl' meet_nil).mono ?_
      rintro e w_37 ⟨rfl, hb_38⟩
      have r_39 : RdS w_37 w_37.heap.size A1 m g := RdS.to (w := w_31) r_33 hb_38 hb_38.size
      have r_40 : RdS w_37 w_37.heap.size A2 k h2 := RdS.to (w := w_31) r_34 hb_38 hb_38.size
      have r_41 : RdS w_37 w_37.heap.size A3 l hc := RdS.to (w := w_31) r_35 hb_38 hb_38.size
      have hw_42 := hw_36.trans (hb_38.mono hw_36.size)
      clear r_33 r_34 r_35 hw_36 hb_38
      cases h4 : meetB k h2 l hc with
      | false =>
        have H4 := hid h4
        clear h4
        go_wp2_with fail
        refine (iMeet_no _ _ k l c2 c3 h2 hc _ r_40 r_41 hk' hl' H4.out).mono ?_
        rintro e w_43 ⟨rfl, hb_44⟩
        have r_45 : RdS w_43 w_43.heap.size A1 m g := RdS.to (w := w_37) r_39 hb_44 hb_44.size
        have r_46 : RdS w_43 w_43.heap.size A2 k h2 := RdS.to (w := w_37) r_40 hb_44 hb_44.size
        have r_47 : RdS w_43 w_43.heap.size A3 l hc := RdS.to (w := w_37) r_41 hb_44 hb_44.size
        have hw_48 := hw_42.trans (hb_44.mono hw_42.size)
        clear r_39 r_40 r_41 hw_42 hb_44
        go_wp2_with fail
        refine (iMeet_no _ _ m 0 c1 0 g nulS _ r_45 rds_none hm' (by omega) meet_nil2).mono ?_
        rintro e w_49 ⟨rfl, hb_50⟩
        have r_51 : RdS w_49 w_49.heap.size A1 m g := RdS.to (w := w_43) r_45 hb_50 hb_50.size
        have r_52 : RdS w_49 w_49.heap.size A2 k h2 := RdS.to (w := w_43) r_46 hb_50 hb_50.size
        have r_53 : RdS w_49 w_49.heap.size A3 l hc := RdS.to (w := w_43) r_47 hb_50 hb_50.size
        have hw_54 := hw_48.trans (hb_50.mono hw_48.size)
        clear r_45 r_46 r_47 hw_48 hb_50
        go_wp2_with fail
        go_ret
        exact ⟨rfl, hw_54⟩
      | true =>
        obtain rfl : k = l := (meetB_iff.1 h4).2.2.1
        have H5 : Hid (meetB m g k (meetF h2 hc) = false) := by
          show _ = _
          cases e5 : meetB m g k (meetF h2 hc) with
          | false => rfl
          | true => have := five_one h4 e5; rw [HY.out] at this; cases this
        have H4 := hid h4
        clear h4
        go_wp2_with fail
        refine (iMeet_yes _ _ k c2 c3 h2 hc _ r_40 r_41 H4.out).mono ?_
        rintro e w_46 ⟨b_43, c_44, rfl, _, r_45, hb_47⟩
        have r_48 : RdS w_46 w_46.heap.size A1 m g := RdS.to (w := w_37) r_39 hb_47 hb_47.size
        have r_49 : RdS w_46 w_46.heap.size A2 k h2 := RdS.to (w := w_37) r_40 hb_47 hb_47.size
        have r_50 : RdS w_46 w_46.heap.size A3 k hc := RdS.to (w := w_37) r_41 hb_47 hb_47.size
        have hw_51 := hw_42.trans (hb_47.mono hw_42.size)
        clear r_39 r_40 r_41 hw_42 hb_47
        go_wp2_with fail
        refine (iMeet_no _ _ m k c1 c_44 g (meetF h2 hc) _ r_48 (rds_of r_45) hm' hk' H5.out).mono ?_
        rintro e w_52 ⟨rfl, hb_53⟩
        have r_54 : RdS w_52 w_52.heap.size A1 m g := RdS.to (w := w_46) r_48 hb_53 hb_53.size
        have r_55 : RdS w_52 w_52.heap.size A2 k h2 := RdS.to (w := w_46) r_49 hb_53 hb_53.size
        have r_56 : RdS w_52 w_52.heap.size A3 k hc := RdS.to (w := w_46) r_50 hb_53 hb_53.size
        have r_57 : RowS w_52 80 b_43 k (meetF h2 hc) := RowS.below (w := w_46) r_45 hb_53 r_45.lt
        have hw_58 := hw_51.trans (hb_53.mono hw_51.size)
        clear r_48 r_49 r_50 r_45 hw_51 hb_53
        go_wp2_with fail
        go_ret
        exact ⟨rfl, hw_58⟩
    | true =>
      have HI := hid hi
      have ES : Hid (∀ i, i < m → meetF g g i = g i) := fun i hx => meet_self ((boxB_iff.1 hi).2.2 i hx)
      clear hi
      go_wp2_with fail
      refine (iMeet_yes _ _ m c1 c1 g g _ r_9 r_9 (meetB_self HI.out)).mono ?_
      rintro e w_16 ⟨b_13, c_14, rfl, _, r_15, hb_17⟩
      have r_18 : RdS w_16 w_16.heap.size A1 m g := RdS.to (w := w_7) r_9 hb_17 hb_17.size
      have r_19 : RdS w_16 w_16.heap.size A2 k h2 := RdS.to (w := w_7) r_10 hb_17 hb_17.size
      have r_20 : RdS w_16 w_16.heap.size A3 l hc := RdS.to (w := w_7) r_11 hb_17 hb_17.size
      have hw_21 := hw_12.trans (hb_17.mono hw_12.size)
      clear r_9 r_10 r_11 hw_12 hb_17
      go_wp2_with fail
      refine (sMeet_no _ _ m k c1 c2 g h2 _ r_18 r_19 hm' hk' HY.out).mono ?_
      rintro e w_22 ⟨rfl, hb_23⟩
      have r_24 : RdS w_22 w_22.heap.size A1 m g := RdS.to (w := w_16) r_18 hb_23 hb_23.size
      have r_25 : RdS w_22 w_22.heap.size A2 k h2 := RdS.to (w := w_16) r_19 hb_23 hb_23.size
      have r_26 : RdS w_22 w_22.heap.size A3 l hc := RdS.to (w := w_16) r_20 hb_23 hb_23.size
      have r_27 : RowS w_22 80 b_13 m (meetF g g) := RowS.below (w := w_16) r_15 hb_23 r_15.lt
      have hw_28 := hw_21.trans (hb_23.mono hw_21.size)
      clear r_18 r_19 r_20 r_15 hw_21 hb_23
      go_wp2_with fail
      refine (sameB_any none none 0 0 0 (fun _ => ⟨0, 0, false⟩) (fun _ => ⟨0, 0, false⟩) _ rds_none rds_none (fun _ _ => rfl) (by omega)).mono ?_
      rintro e w_29 ⟨rfl, hb_30⟩
      have r_31 : RdS w_29 w_29.heap.size A1 m g := RdS.to (w := w_22) r_24 hb_30 hb_30.size
      have r_32 : RdS w_29 w_29.heap.size A2 k h2 := RdS.to (w := w_22) r_25 hb_30 hb_30.size
      have r_33 : RdS w_29 w_29.heap.size A3 l hc := RdS.to (w := w_22) r_26 hb_30 hb_30.size
      have r_34 : RowS w_29 80 b_13 m (meetF g g) := RowS.below (w := w_22) r_27 hb_30 r_27.lt
      have hw_35 := hw_28.trans (hb_30.mono hw_28.size)
      clear r_24 r_25 r_26 r_27 hw_28 hb_30
      go_wp2_with fail
      refine (sBoxOk_any A1 m c1 g _ r_31 hm').mono ?_
      rintro e w_36 ⟨rfl, hb_37⟩
      have r_38 : RdS w_36 w_36.heap.size A1 m g := RdS.to (w := w_29) r_31 hb_37 hb_37.size
      have r_39 : RdS w_36 w_36.heap.size A2 k h2 := RdS.to (w := w_29) r_32 hb_37 hb_37.size
      have r_40 : RdS w_36 w_36.heap.size A3 l hc := RdS.to (w := w_29) r_33 hb_37 hb_37.size
      have r_41 : RowS w_36 80 b_13 m (meetF g g) := RowS.below (w := w_29) r_34 hb_37 r_34.lt
      have hw_42 := hw_35.trans (hb_37.mono hw_35.size)
      clear r_31 r_32 r_33 r_34 hw_35 hb_37
      rw [HI.out]
      go_wp2_with fail
      refine (sameB_any _ _ m c_14 c1 (meetF g g) g _ (rds_of r_41) r_38 (ES.out) hm').mono ?_
      rintro e w_43 ⟨rfl, hb_44⟩
      have r_45 : RdS w_43 w_43.heap.size A1 m g := RdS.to (w := w_36) r_38 hb_44 hb_44.size
      have r_46 : RdS w_43 w_43.heap.size A2 k h2 := RdS.to (w := w_36) r_39 hb_44 hb_44.size
      have r_47 : RdS w_43 w_43.heap.size A3 l hc := RdS.to (w := w_36) r_40 hb_44 hb_44.size
      have r_48 : RowS w_43 80 b_13 m (meetF g g) := RowS.below (w := w_36) r_41 hb_44 r_41.lt
      have hw_49 := hw_42.trans (hb_44.mono hw_42.size)
      clear r_38 r_39 r_40 r_41 hw_42 hb_44
      go_wp2_with fail
      refine (iMeet_no _ _ 0 l 0 c3 nulS hc _ rds_none r_47 (by omega) hl' meet_nil).mono ?_
      rintro e w_50 ⟨rfl, hb_51⟩
      have r_52 : RdS w_50 w_50.heap.size A1 m g := RdS.to (w := w_43) r_45 hb_51 hb_51.size
      have r_53 : RdS w_50 w_50.heap.size A2 k h2 := RdS.to (w := w_43) r_46 hb_51 hb_51.size
      have r_54 : RdS w_50 w_50.heap.size A3 l hc := RdS.to (w := w_43) r_47 hb_51 hb_51.size
      have r_55 : RowS w_50 80 b_13 m (meetF g g) := RowS.below (w := w_43) r_48 hb_51 r_48.lt
      have hw_56 := hw_49.trans (hb_51.mono hw_49.size)
      clear r_45 r_46 r_47 r_48 hw_49 hb_51
      cases h4 : meetB k h2 l hc with
      | false =>
        have H4 := hid h4
        clear h4
        go_wp2_with fail
        refine (iMeet_no _ _ k l c2 c3 h2 hc _ r_53 r_54 hk' hl' H4.out).mono ?_
        rintro e w_57 ⟨rfl, hb_58⟩
        have r_59 : RdS w_57 w_57.heap.size A1 m g := RdS.to (w := w_50) r_52 hb_58 hb_58.size
        have r_60 : RdS w_57 w_57.heap.size A2 k h2 := RdS.to (w := w_50) r_53 hb_58 hb_58.size
        have r_61 : RdS w_57 w_57.heap.size A3 l hc := RdS.to (w := w_50) r_54 hb_58 hb_58.size
        have r_62 : RowS w_57 80 b_13 m (meetF g g) := RowS.below (w := w_50) r_55 hb_58 r_55.lt
        have hw_63 := hw_56.trans (hb_58.mono hw_56.size)
        clear r_52 r_53 r_54 r_55 hw_56 hb_58
        go_wp2_with fail
        refine (iMeet_no _ _ m 0 c1 0 g nulS _ r_59 rds_none hm' (by omega) meet_nil2).mono ?_
        rintro e w_64 ⟨rfl, hb_65⟩
        have r_66 : RdS w_64 w_64.heap.size A1 m g := RdS.to (w := w_57) r_59 hb_65 hb_65.size
        have r_67 : RdS w_64 w_64.heap.size A2 k h2 := RdS.to (w := w_57) r_60 hb_65 hb_65.size
        have r_68 : RdS w_64 w_64.heap.size A3 l hc := RdS.to (w := w_57) r_61 hb_65 hb_65.size
        have r_69 : RowS w_64 80 b_13 m (meetF g g) := RowS.below (w := w_57) r_62 hb_65 r_62.lt
        have hw_70 := hw_63.trans (hb_65.mono hw_63.size)
        clear r_59 r_60 r_61 r_62 hw_63 hb_65
        go_wp2_with fail
        go_ret
        exact ⟨rfl, hw_70⟩
      | true =>
        obtain rfl : k = l := (meetB_iff.1 h4).2.2.1
        have H5 : Hid (meetB m g k (meetF h2 hc) = false) := by
          show _ = _
          cases e5 : meetB m g k (meetF h2 hc) with
          | false => rfl
          | true => have := five_one h4 e5; rw [HY.out] at this; cases this
        have H4 := hid h4
        clear h4
        go_wp2_with fail
        refine (iMeet_yes _ _ k c2 c3 h2 hc _ r_53 r_54 H4.out).mono ?_
        rintro e w_60 ⟨b_57, c_58, rfl, _, r_59, hb_61⟩
        have r_62 : RdS w_60 w_60.heap.size A1 m g := RdS.to (w := w_50) r_52 hb_61 hb_61.size
        have r_63 : RdS w_60 w_60.heap.size A2 k h2 := RdS.to (w := w_50) r_53 hb_61 hb_61.size
        have r_64 : RdS w_60 w_60.heap.size A3 k hc := RdS.to (w := w_50) r_54 hb_61 hb_61.size
        have r_65 : RowS w_60 80 b_13 m (meetF g g) := RowS.below (w := w_50) r_55 hb_61 r_55.lt
        have hw_66 := hw_56.trans (hb_61.mono hw_56.size)
        clear r_52 r_53 r_54 r_55 hw_56 hb_61
        go_wp2_with fail
        refine (iMeet_no _ _ m k c1 c_58 g (meetF h2 hc) _ r_62 (rds_of r_59) hm' hk' H5.out).mono ?_
        rintro e w_67 ⟨rfl, hb_68⟩
        have r_69 : RdS w_67 w_67.heap.size A1 m g := RdS.to (w := w_60) r_62 hb_68 hb_68.size
        have r_70 : RdS w_67 w_67.heap.size A2 k h2 := RdS.to (w := w_60) r_63 hb_68 hb_68.size
        have r_71 : RdS w_67 w_67.heap.size A3 k hc := RdS.to (w := w_60) r_64 hb_68 hb_68.size
        have r_72 : RowS w_67 80 b_13 m (meetF g g) := RowS.below (w := w_60) r_65 hb_68 r_65.lt
        have r_73 : RowS w_67 80 b_57 k (meetF h2 hc) := RowS.below (w := w_60) r_59 hb_68 r_59.lt
        have hw_74 := hw_66.trans (hb_68.mono hw_66.size)
        clear r_62 r_63 r_64 r_65 r_59 hw_66 hb_68
        go_wp2_with fail
        go_ret
        exact ⟨rfl, hw_74⟩
  | true =>
    obtain rfl : m = k := (meetB_iff.1 hy).2.2.1
    have HI := hid (meetB_iff.1 hy).1
    have HZ : Hid (meetB m h2 m g = true) := by show _ = _; rw [meetB_comm]; exact hy
    have ES : Hid (∀ i, i < m → meetF g g i = g i) := fun i hx => meet_self ((boxB_iff.1 (meetB_iff.1 hy).1).2.2 i hx)
    have EC : Hid (∀ i, i < m → meetF g h2 i = meetF h2 g i) := fun i _ => meet_comm _ _
    have HY := hid hy
    clear hy
    go_wp2_with fail
    refine (iMeet_yes _ _ m c1 c2 g h2 _ hr1' hr2' HY.out).mono ?_
    rintro e w_4 ⟨b_1, c_2, rfl, _, r_3, hb_5⟩
    have r_6 : RdS w_4 w_4.heap.size A1 m g := RdS.to (w := w2) hr1' hb_5 hb_5.size
    have r_7 : RdS w_4 w_4.heap.size A2 m h2 := RdS.to (w := w2) hr2' hb_5 hb_5.size
    have r_8 : RdS w_4 w_4.heap.size A3 l hc := RdS.to (w := w2) hr3 hb_5 hb_5.size
    have hw_9 := hw2.trans (hb_5.mono hw2.size)
    clear hr1' hr2' hr3 hw2 hb_5
    go_wp2_with fail
    refine (iMeet_yes _ _ m c2 c1 h2 g _ r_7 r_6 HZ.out).mono ?_
    rintro e w_13 ⟨b_10, c_11, rfl, _, r_12, hb_14⟩
    have r_15 : RdS w_13 w_13.heap.size A1 m g := RdS.to (w := w_4) r_6 hb_14 hb_14.size
    have r_16 : RdS w_13 w_13.heap.size A2 m h2 := RdS.to (w := w_4) r_7 hb_14 hb_14.size
    have r_17 : RdS w_13 w_13.heap.size A3 l hc := RdS.to (w := w_4) r_8 hb_14 hb_14.size
    have r_18 : RowS w_13 80 b_1 m (meetF g h2) := RowS.below (w := w_4) r_3 hb_14 r_3.lt
    have hw_19 := hw_9.trans (hb_14.mono hw_9.size)
    clear r_6 r_7 r_8 r_3 hw_9 hb_14
    go_wp2_with fail
    refine (iMeet_yes _ _ m c1 c1 g g _ r_15 r_15 (meetB_self HI.out)).mono ?_
    rintro e w_23 ⟨b_20, c_21, rfl, _, r_22, hb_24⟩
    have r_25 : RdS w_23 w_23.heap.size A1 m g := RdS.to (w := w_13) r_15 hb_24 hb_24.size
    have r_26 : RdS w_23 w_23.heap.size A2 m h2 := RdS.to (w := w_13) r_16 hb_24 hb_24.size
    have r_27 : RdS w_23 w_23.heap.size A3 l hc := RdS.to (w := w_13) r_17 hb_24 hb_24.size
    have r_28 : RowS w_23 80 b_1 m (meetF g h2) := RowS.below (w := w_13) r_18 hb_24 r_18.lt
    have r_29 : RowS w_23 80 b_10 m (meetF h2 g) := RowS.below (w := w_13) r_12 hb_24 r_12.lt
    have hw_30 := hw_19.trans (hb_24.mono hw_19.size)
    clear r_15 r_16 r_17 r_18 r_12 hw_19 hb_24
    go_wp2_with fail
    refine (sMeet_yes _ _ m c1 c2 g h2 _ r_25 r_26 HY.out).mono ?_
    rintro e w_34 ⟨b_31, c_32, rfl, _, r_33, hb_35⟩
    have r_36 : RdS w_34 w_34.heap.size A1 m g := RdS.to (w := w_23) r_25 hb_35 hb_35.size
    have r_37 : RdS w_34 w_34.heap.size A2 m h2 := RdS.to (w := w_23) r_26 hb_35 hb_35.size
    have r_38 : RdS w_34 w_34.heap.size A3 l hc := RdS.to (w := w_23) r_27 hb_35 hb_35.size
    have r_39 : RowS w_34 80 b_1 m (meetF g h2) := RowS.below (w := w_23) r_28 hb_35 r_28.lt
    have r_40 : RowS w_34 80 b_10 m (meetF h2 g) := RowS.below (w := w_23) r_29 hb_35 r_29.lt
    have r_41 : RowS w_34 80 b_20 m (meetF g g) := RowS.below (w := w_23) r_22 hb_35 r_22.lt
    have hw_42 := hw_30.trans (hb_35.mono hw_30.size)
    clear r_25 r_26 r_27 r_28 r_29 r_22 hw_30 hb_35
    go_wp2_with fail
    refine (sameB_any _ _ m c_2 c_11 (meetF g h2) (meetF h2 g) _ (rds_of r_39) (rds_of r_40) (EC.out) hm').mono ?_
    rintro e w_43 ⟨rfl, hb_44⟩
    have r_45 : RdS w_43 w_43.heap.size A1 m g := RdS.to (w := w_34) r_36 hb_44 hb_44.size
    have r_46 : RdS w_43 w_43.heap.size A2 m h2 := RdS.to (w := w_34) r_37 hb_44 hb_44.size
    have r_47 : RdS w_43 w_43.heap.size A3 l hc := RdS.to (w := w_34) r_38 hb_44 hb_44.size
    have r_48 : RowS w_43 80 b_1 m (meetF g h2) := RowS.below (w := w_34) r_39 hb_44 r_39.lt
    have r_49 : RowS w_43 80 b_10 m (meetF h2 g) := RowS.below (w := w_34) r_40 hb_44 r_40.lt
    have r_50 : RowS w_43 80 b_20 m (meetF g g) := RowS.below (w := w_34) r_41 hb_44 r_41.lt
    have r_51 : RowS w_43 80 b_31 m (meetF g h2) := RowS.below (w := w_34) r_33 hb_44 r_33.lt
    have hw_52 := hw_42.trans (hb_44.mono hw_42.size)
    clear r_36 r_37 r_38 r_39 r_40 r_41 r_33 hw_42 hb_44
    go_wp2_with fail
    refine (sBoxOk_any A1 m c1 g _ r_45 hm').mono ?_
    rintro e w_53 ⟨rfl, hb_54⟩
    have r_55 : RdS w_53 w_53.heap.size A1 m g := RdS.to (w := w_43) r_45 hb_54 hb_54.size
    have r_56 : RdS w_53 w_53.heap.size A2 m h2 := RdS.to (w := w_43) r_46 hb_54 hb_54.size
    have r_57 : RdS w_53 w_53.heap.size A3 l hc := RdS.to (w := w_43) r_47 hb_54 hb_54.size
    have r_58 : RowS w_53 80 b_1 m (meetF g h2) := RowS.below (w := w_43) r_48 hb_54 r_48.lt
    have r_59 : RowS w_53 80 b_10 m (meetF h2 g) := RowS.below (w := w_43) r_49 hb_54 r_49.lt
    have r_60 : RowS w_53 80 b_20 m (meetF g g) := RowS.below (w := w_43) r_50 hb_54 r_50.lt
    have r_61 : RowS w_53 80 b_31 m (meetF g h2) := RowS.below (w := w_43) r_51 hb_54 r_51.lt
    have hw_62 := hw_52.trans (hb_54.mono hw_52.size)
    clear r_45 r_46 r_47 r_48 r_49 r_50 r_51 hw_52 hb_54
    rw [HI.out]
    go_wp2_with fail
    refine (sameB_any _ _ m c_21 c1 (meetF g g) g _ (rds_of r_60) r_55 (ES.out) hm').mono ?_
    rintro e w_63 ⟨rfl, hb_64⟩
    have r_65 : RdS w_63 w_63.heap.size A1 m g := RdS.to (w := w_53) r_55 hb_64 hb_64.size
    have r_66 : RdS w_63 w_63.heap.size A2 m h2 := RdS.to (w := w_53) r_56 hb_64 hb_64.size
    have r_67 : RdS w_63 w_63.heap.size A3 l hc := RdS.to (w := w_53) r_57 hb_64 hb_64.size
    have r_68 : RowS w_63 80 b_1 m (meetF g h2) := RowS.below (w := w_53) r_58 hb_64 r_58.lt
    have r_69 : RowS w_63 80 b_10 m (meetF h2 g) := RowS.below (w := w_53) r_59 hb_64 r_59.lt
    have r_70 : RowS w_63 80 b_20 m (meetF g g) := RowS.below (w := w_53) r_60 hb_64 r_60.lt
    have r_71 : RowS w_63 80 b_31 m (meetF g h2) := RowS.below (w := w_53) r_61 hb_64 r_61.lt
    have hw_72 := hw_62.trans (hb_64.mono hw_62.size)
    clear r_55 r_56 r_57 r_58 r_59 r_60 r_61 hw_62 hb_64
    cases h4 : meetB m h2 l hc with
    | false =>
      have H3 : Hid (meetB m (meetF g h2) l hc = false) := by
        show _ = _
        cases e3 : meetB m (meetF g h2) l hc with
        | false => rfl
        | true => have := three_four HY.out e3; rw [h4] at this; cases this
      have H4 := hid h4
      clear h4
      go_wp2_with fail
      refine (iMeet_no _ _ m l c_2 c3 (meetF g h2) hc _ (rds_of r_68) r_67 hm' hl' H3.out).mono ?_
      rintro e w_73 ⟨rfl, hb_74⟩
      have r_75 : RdS w_73 w_73.heap.size A1 m g := RdS.to (w := w_63) r_65 hb_74 hb_74.size
      have r_76 : RdS w_73 w_73.heap.size A2 m h2 := RdS.to (w := w_63) r_66 hb_74 hb_74.size
      have r_77 : RdS w_73 w_73.heap.size A3 l hc := RdS.to (w := w_63) r_67 hb_74 hb_74.size
      have r_78 : RowS w_73 80 b_1 m (meetF g h2) := RowS.below (w := w_63) r_68 hb_74 r_68.lt
      have r_79 : RowS w_73 80 b_10 m (meetF h2 g) := RowS.below (w := w_63) r_69 hb_74 r_69.lt
      have r_80 : RowS w_73 80 b_20 m (meetF g g) := RowS.below (w := w_63) r_70 hb_74 r_70.lt
      have r_81 : RowS w_73 80 b_31 m (meetF g h2) := RowS.below (w := w_63) r_71 hb_74 r_71.lt
      have hw_82 := hw_72.trans (hb_74.mono hw_72.size)
      clear r_65 r_66 r_67 r_68 r_69 r_70 r_71 hw_72 hb_74
      go_wp2_with fail
      refine (iMeet_no _ _ m l c2 c3 h2 hc _ r_76 r_77 hm' hl' H4.out).mono ?_
      rintro e w_83 ⟨rfl, hb_84⟩
      have r_85 : RdS w_83 w_83.heap.size A1 m g := RdS.to (w := w_73) r_75 hb_84 hb_84.size
      have r_86 : RdS w_83 w_83.heap.size A2 m h2 := RdS.to (w := w_73) r_76 hb_84 hb_84.size
      have r_87 : RdS w_83 w_83.heap.size A3 l hc := RdS.to (w := w_73) r_77 hb_84 hb_84.size
      have r_88 : RowS w_83 80 b_1 m (meetF g h2) := RowS.below (w := w_73) r_78 hb_84 r_78.lt
      have r_89 : RowS w_83 80 b_10 m (meetF h2 g) := RowS.below (w := w_73) r_79 hb_84 r_79.lt
      have r_90 : RowS w_83 80 b_20 m (meetF g g) := RowS.below (w := w_73) r_80 hb_84 r_80.lt
      have r_91 : RowS w_83 80 b_31 m (meetF g h2) := RowS.below (w := w_73) r_81 hb_84 r_81.lt
      have hw_92 := hw_82.trans (hb_84.mono hw_82.size)
      clear r_75 r_76 r_77 r_78 r_79 r_80 r_81 hw_82 hb_84
      go_wp2_with fail
      refine (iMeet_no _ _ m 0 c1 0 g nulS _ r_85 rds_none hm' (by omega) meet_nil2).mono ?_
      rintro e w_93 ⟨rfl, hb_94⟩
      have r_95 : RdS w_93 w_93.heap.size A1 m g := RdS.to (w := w_83) r_85 hb_94 hb_94.size
      have r_96 : RdS w_93 w_93.heap.size A2 m h2 := RdS.to (w := w_83) r_86 hb_94 hb_94.size
      have r_97 : RdS w_93 w_93.heap.size A3 l hc := RdS.to (w := w_83) r_87 hb_94 hb_94.size
      have r_98 : RowS w_93 80 b_1 m (meetF g h2) := RowS.below (w := w_83) r_88 hb_94 r_88.lt
      have r_99 : RowS w_93 80 b_10 m (meetF h2 g) := RowS.below (w := w_83) r_89 hb_94 r_89.lt
      have r_100 : RowS w_93 80 b_20 m (meetF g g) := RowS.below (w := w_83) r_90 hb_94 r_90.lt
      have r_101 : RowS w_93 80 b_31 m (meetF g h2) := RowS.below (w := w_83) r_91 hb_94 r_91.lt
      have hw_102 := hw_92.trans (hb_94.mono hw_92.size)
      clear r_85 r_86 r_87 r_88 r_89 r_90 r_91 hw_92 hb_94
      go_wp2_with fail
      go_ret
      exact ⟨rfl, hw_102⟩
    | true =>
      obtain rfl : m = l := (meetB_iff.1 h4).2.2.1
      have HAS := hid (meetB_assoc HY.out h4)
      have H4 := hid h4
      clear h4
      cases h3 : meetB m (meetF g h2) m hc with
      | false =>
        have H5 : Hid (meetB m g m (meetF h2 hc) = false) := by show _ = _; rw [← HAS.out]; exact h3
        have H3 := hid h3
        clear h3
        go_wp2_with fail
        refine (iMeet_no _ _ m m c_2 c3 (meetF g h2) hc _ (rds_of r_68) r_67 hm' hm' H3.out).mono ?_
        rintro e w_73 ⟨rfl, hb_74⟩
        have r_75 : RdS w_73 w_73.heap.size A1 m g := RdS.to (w := w_63) r_65 hb_74 hb_74.size
        have r_76 : RdS w_73 w_73.heap.size A2 m h2 := RdS.to (w := w_63) r_66 hb_74 hb_74.size
        have r_77 : RdS w_73 w_73.heap.size A3 m hc := RdS.to (w := w_63) r_67 hb_74 hb_74.size
        have r_78 : RowS w_73 80 b_1 m (meetF g h2) := RowS.below (w := w_63) r_68 hb_74 r_68.lt
        have r_79 : RowS w_73 80 b_10 m (meetF h2 g) := RowS.below (w := w_63) r_69 hb_74 r_69.lt
        have r_80 : RowS w_73 80 b_20 m (meetF g g) := RowS.below (w := w_63) r_70 hb_74 r_70.lt
        have r_81 : RowS w_73 80 b_31 m (meetF g h2) := RowS.below (w := w_63) r_71 hb_74 r_71.lt
        have hw_82 := hw_72.trans (hb_74.mono hw_72.size)
        clear r_65 r_66 r_67 r_68 r_69 r_70 r_71 hw_72 hb_74
        go_wp2_with fail
        refine (iMeet_yes _ _ m c2 c3 h2 hc _ r_76 r_77 H4.out).mono ?_
        rintro e w_86 ⟨b_83, c_84, rfl, _, r_85, hb_87⟩
        have r_88 : RdS w_86 w_86.heap.size A1 m g := RdS.to (w := w_73) r_75 hb_87 hb_87.size
        have r_89 : RdS w_86 w_86.heap.size A2 m h2 := RdS.to (w := w_73) r_76 hb_87 hb_87.size
        have r_90 : RdS w_86 w_86.heap.size A3 m hc := RdS.to (w := w_73) r_77 hb_87 hb_87.size
        have r_91 : RowS w_86 80 b_1 m (meetF g h2) := RowS.below (w := w_73) r_78 hb_87 r_78.lt
        have r_92 : RowS w_86 80 b_10 m (meetF h2 g) := RowS.below (w := w_73) r_79 hb_87 r_79.lt
        have r_93 : RowS w_86 80 b_20 m (meetF g g) := RowS.below (w := w_73) r_80 hb_87 r_80.lt
        have r_94 : RowS w_86 80 b_31 m (meetF g h2) := RowS.below (w := w_73) r_81 hb_87 r_81.lt
        have hw_95 := hw_82.trans (hb_87.mono hw_82.size)
        clear r_75 r_76 r_77 r_78 r_79 r_80 r_81 hw_82 hb_87
        go_wp2_with fail
        refine (iMeet_no _ _ m m c1 c_84 g (meetF h2 hc) _ r_88 (rds_of r_85) hm' hm' H5.out).mono ?_
        rintro e w_96 ⟨rfl, hb_97⟩
        have r_98 : RdS w_96 w_96.heap.size A1 m g := RdS.to (w := w_86) r_88 hb_97 hb_97.size
        have r_99 : RdS w_96 w_96.heap.size A2 m h2 := RdS.to (w := w_86) r_89 hb_97 hb_97.size
        have r_100 : RdS w_96 w_96.heap.size A3 m hc := RdS.to (w := w_86) r_90 hb_97 hb_97.size
        have r_101 : RowS w_96 80 b_1 m (meetF g h2) := RowS.below (w := w_86) r_91 hb_97 r_91.lt
        have r_102 : RowS w_96 80 b_10 m (meetF h2 g) := RowS.below (w := w_86) r_92 hb_97 r_92.lt
        have r_103 : RowS w_96 80 b_20 m (meetF g g) := RowS.below (w := w_86) r_93 hb_97 r_93.lt
        have r_104 : RowS w_96 80 b_31 m (meetF g h2) := RowS.below (w := w_86) r_94 hb_97 r_94.lt
        have r_105 : RowS w_96 80 b_83 m (meetF h2 hc) := RowS.below (w := w_86) r_85 hb_97 r_85.lt
        have hw_106 := hw_95.trans (hb_97.mono hw_95.size)
        clear r_88 r_89 r_90 r_91 r_92 r_93 r_94 r_85 hw_95 hb_97
        go_wp2_with fail
        go_ret
        exact ⟨rfl, hw_106⟩
      | true =>
        have H5 : Hid (meetB m g m (meetF h2 hc) = true) := by show _ = _; rw [← HAS.out]; exact h3
        have EA : Hid (∀ i, i < m → meetF (meetF g h2) hc i = meetF g (meetF h2 hc) i) := fun i _ => meet_assoc _ _ _
        have H3 := hid h3
        clear h3
        go_wp2_with fail
        refine (iMeet_yes _ _ m c_2 c3 (meetF g h2) hc _ (rds_of r_68) r_67 H3.out).mono ?_
        rintro e w_76 ⟨b_73, c_74, rfl, _, r_75, hb_77⟩
        have r_78 : RdS w_76 w_76.heap.size A1 m g := RdS.to (w := w_63) r_65 hb_77 hb_77.size
        have r_79 : RdS w_76 w_76.heap.size A2 m h2 := RdS.to (w := w_63) r_66 hb_77 hb_77.size
        have r_80 : RdS w_76 w_76.heap.size A3 m hc := RdS.to (w := w_63) r_67 hb_77 hb_77.size
        have r_81 : RowS w_76 80 b_1 m (meetF g h2) := RowS.below (w := w_63) r_68 hb_77 r_68.lt
        have r_82 : RowS w_76 80 b_10 m (meetF h2 g) := RowS.below (w := w_63) r_69 hb_77 r_69.lt
        have r_83 : RowS w_76 80 b_20 m (meetF g g) := RowS.below (w := w_63) r_70 hb_77 r_70.lt
        have r_84 : RowS w_76 80 b_31 m (meetF g h2) := RowS.below (w := w_63) r_71 hb_77 r_71.lt
        have hw_85 := hw_72.trans (hb_77.mono hw_72.size)
        clear r_65 r_66 r_67 r_68 r_69 r_70 r_71 hw_72 hb_77
        go_wp2_with fail
        refine (iMeet_yes _ _ m c2 c3 h2 hc _ r_79 r_80 H4.out).mono ?_
        rintro e w_89 ⟨b_86, c_87, rfl, _, r_88, hb_90⟩
        have r_91 : RdS w_89 w_89.heap.size A1 m g := RdS.to (w := w_76) r_78 hb_90 hb_90.size
        have r_92 : RdS w_89 w_89.heap.size A2 m h2 := RdS.to (w := w_76) r_79 hb_90 hb_90.size
        have r_93 : RdS w_89 w_89.heap.size A3 m hc := RdS.to (w := w_76) r_80 hb_90 hb_90.size
        have r_94 : RowS w_89 80 b_1 m (meetF g h2) := RowS.below (w := w_76) r_81 hb_90 r_81.lt
        have r_95 : RowS w_89 80 b_10 m (meetF h2 g) := RowS.below (w := w_76) r_82 hb_90 r_82.lt
        have r_96 : RowS w_89 80 b_20 m (meetF g g) := RowS.below (w := w_76) r_83 hb_90 r_83.lt
        have r_97 : RowS w_89 80 b_31 m (meetF g h2) := RowS.below (w := w_76) r_84 hb_90 r_84.lt
        have r_98 : RowS w_89 80 b_73 m (meetF (meetF g h2) hc) := RowS.below (w := w_76) r_75 hb_90 r_75.lt
        have hw_99 := hw_85.trans (hb_90.mono hw_85.size)
        clear r_78 r_79 r_80 r_81 r_82 r_83 r_84 r_75 hw_85 hb_90
        go_wp2_with fail
        refine (iMeet_yes _ _ m c1 c_87 g (meetF h2 hc) _ r_91 (rds_of r_88) H5.out).mono ?_
        rintro e w_103 ⟨b_100, c_101, rfl, _, r_102, hb_104⟩
        have r_105 : RdS w_103 w_103.heap.size A1 m g := RdS.to (w := w_89) r_91 hb_104 hb_104.size
        have r_106 : RdS w_103 w_103.heap.size A2 m h2 := RdS.to (w := w_89) r_92 hb_104 hb_104.size
        have r_107 : RdS w_103 w_103.heap.size A3 m hc := RdS.to (w := w_89) r_93 hb_104 hb_104.size
        have r_108 : RowS w_103 80 b_1 m (meetF g h2) := RowS.below (w := w_89) r_94 hb_104 r_94.lt
        have r_109 : RowS w_103 80 b_10 m (meetF h2 g) := RowS.below (w := w_89) r_95 hb_104 r_95.lt
        have r_110 : RowS w_103 80 b_20 m (meetF g g) := RowS.below (w := w_89) r_96 hb_104 r_96.lt
        have r_111 : RowS w_103 80 b_31 m (meetF g h2) := RowS.below (w := w_89) r_97 hb_104 r_97.lt
        have r_112 : RowS w_103 80 b_73 m (meetF (meetF g h2) hc) := RowS.below (w := w_89) r_98 hb_104 r_98.lt
        have r_113 : RowS w_103 80 b_86 m (meetF h2 hc) := RowS.below (w := w_89) r_88 hb_104 r_88.lt
        have hw_114 := hw_99.trans (hb_104.mono hw_99.size)
        clear r_91 r_92 r_93 r_94 r_95 r_96 r_97 r_98 r_88 hw_99 hb_104
        go_wp2_with fail
        refine (sameB_any _ _ m c_74 c_101 (meetF (meetF g h2) hc) (meetF g (meetF h2 hc)) _ (rds_of r_112) (rds_of r_102) (EA.out) hm').mono ?_
        rintro e w_115 ⟨rfl, hb_116⟩
        have r_117 : RdS w_115 w_115.heap.size A1 m g := RdS.to (w := w_103) r_105 hb_116 hb_116.size
        have r_118 : RdS w_115 w_115.heap.size A2 m h2 := RdS.to (w := w_103) r_106 hb_116 hb_116.size
        have r_119 : RdS w_115 w_115.heap.size A3 m hc := RdS.to (w := w_103) r_107 hb_116 hb_116.size
        have r_120 : RowS w_115 80 b_1 m (meetF g h2) := RowS.below (w := w_103) r_108 hb_116 r_108.lt
        have r_121 : RowS w_115 80 b_10 m (meetF h2 g) := RowS.below (w := w_103) r_109 hb_116 r_109.lt
        have r_122 : RowS w_115 80 b_20 m (meetF g g) := RowS.below (w := w_103) r_110 hb_116 r_110.lt
        have r_123 : RowS w_115 80 b_31 m (meetF g h2) := RowS.below (w := w_103) r_111 hb_116 r_111.lt
        have r_124 : RowS w_115 80 b_73 m (meetF (meetF g h2) hc) := RowS.below (w := w_103) r_112 hb_116 r_112.lt
        have r_125 : RowS w_115 80 b_86 m (meetF h2 hc) := RowS.below (w := w_103) r_113 hb_116 r_113.lt
        have r_126 : RowS w_115 80 b_100 m (meetF g (meetF h2 hc)) := RowS.below (w := w_103) r_102 hb_116 r_102.lt
        have hw_127 := hw_114.trans (hb_116.mono hw_114.size)
        clear r_105 r_106 r_107 r_108 r_109 r_110 r_111 r_112 r_113 r_102 hw_114 hb_116
        go_wp2_with fail
        go_ret
        exact ⟨rfl, hw_127⟩
end Go.Proofs.Ytmlcpjcchgihfaa
