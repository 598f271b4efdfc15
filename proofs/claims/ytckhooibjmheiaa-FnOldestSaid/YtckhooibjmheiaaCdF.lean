/- The law of what a cache answers. -/
import Derived.Test.YtckhooibjmheiaaCdE
import Derived.Deep.RegionHeld3
namespace Go.Proofs.Ytckhooibjmheiaa
open Go.RowKit Go.Deep
set_option linter.unusedVariables false
set_option linter.unusedSimpArgs false

theorem slotB_more {c c' : Int} {x : Slt} (h : slotB c x = true) (hc : c ≤ c') : slotB c' x = true := by
  have := slotB_iff.1 h
  exact slotB_iff.2 ⟨this.1, by omega, by omega⟩
theorem get_hit (cap clock : Int) (k : Nat) (s : Nat → Slt) (f : Nat) (z : Nat → Int) (hn : k ≤ 4194304) (hlen : Hid (∀ i, i < k → (s i).n ≤ 4194304)) (hf : f ≤ 4194304) : ∃ (C SC : Int) (HB : Bool) (SL : Nat → Slt), (HB = true → ∃ I, I < k ∧ C = clock + 1 ∧ SC = (s I).score ∧ (SL I).used = clock + 1 ∧ (∀ j, j < I → hitP f z (s j) = false) ∧ hitP f z (s I) = true ∧ cacheB cap (clock + 1) k SL = true ∧ 0 ≤ clock ∧ clock < 1000000000) ∧ Hid (∀ i, (SL i).n = (s i).n) ∧
    Hid (∀ (A : Option Addr) (c : Nat) (D : Option Addr) (dc : Nat) (w : World), RdC w w.heap.size A k s → Rd w w.heap.size D f z → Calls Try.prog 22 #[caV cap clock A k c, .slice D f dc] w fun e w' => ∃ A' c', e = .returned (.tuple #[caV cap C A' k c', .int .i64 SC, .bool HB]) ∧ OwC w' w.heap.size A' k c' SL ∧ Below w.heap.size w w') ∧
    Hid (∀ (A : Option Addr) (c : Nat) (D : Option Addr) (dc : Nat) (w : World), RdC w w.heap.size A k s → Rd w w.heap.size D f z → Calls Try.prog 23 #[caV cap clock A k c, .slice D f dc] w fun e w' => ∃ A' c', e = .returned (.tuple #[caV cap C A' k c', .int .i64 SC, .bool HB]) ∧ OwC w' w.heap.size A' k c' SL ∧ Below w.heap.size w w') := by
  refine ⟨gClk cap clock k s f z, gSc cap clock k s f z, gHit cap clock k s f z, gSl cap clock k s f z, fun hh => ?_, fun i => ?_, fun A c D dc w h hd => iGet_any cap clock A k c s D f dc z w h hd hn hlen hf, fun A c D dc w h hd => sGet_any cap clock A k c s D f dc z w h hd hn hlen hf⟩
  · have hI : getI cap clock k s f z < k := by unfold gHit at hh; simpa using hh
    obtain ⟨I, hIe⟩ : ∃ I, getI cap clock k s f z = I := ⟨_, rfl⟩
    unfold gClk gSc gSl
    rw [hIe] at hI ⊢
    have hc : canB cap clock k s = true := by
      cases hc : canB cap clock k s with
      | true => rfl
      | false => unfold getI at hIe; rw [hc] at hIe; simp at hIe; omega
    have hIx : idxP (fun i => hitP f z (s i)) k = I := by unfold getI at hIe; rw [hc, if_pos rfl] at hIe; exact hIe
    have hc' := hc
    unfold canB at hc'
    simp only [Bool.and_eq_true, decide_eq_true_eq] at hc'
    obtain ⟨h1, h2, h3, h4⟩ := cacheB_iff.1 hc'.1
    rw [if_pos hI, if_pos hI, if_pos hI]
    refine ⟨I, hI, rfl, rfl, by unfold upS; rw [if_pos rfl], fun j hj => idxP_no (p := fun i => hitP f z (s i)) (k := k) (by rw [hIx]; exact hj), ?_, cacheB_iff.2 ⟨h1, by omega, h3, fun i hi => ?_⟩, by omega, hc'.2⟩
    · have := idxP_yes (p := fun i => hitP f z (s i)) (k := k) (by rw [hIx]; exact hI)
      rw [hIx] at this
      exact this
    · unfold upS
      by_cases e : i = I
      · rw [if_pos e]
        have hb := slotB_iff.1 (h4 I hI)
        exact slotB_iff.2 ⟨hb.1, by show 0 ≤ clock + 1; omega, by show clock + 1 ≤ clock + 1; omega⟩
      · rw [if_neg e]
        exact slotB_more (h4 i hi) (by omega)
  · unfold gSl
    split
    · exact upS_n _ _ _ _
    · rfl
theorem lt_of_cell {W : World} {b i : Nat} {v : Value} (h : W.cell? ⟨b, i, none⟩ = some v) : (⟨b, i, none⟩ : Addr).block < W.heap.size := cell_lt h
theorem cells9 {W : World} {a b d : Nat} {t : TypeId} {x0 x1 x2 y0 y1 y2 z0 z1 z2 : Value} (ha : Blk W a t #[x0, x1, x2]) (hb : Blk W b t #[y0, y1, y2]) (hd : Blk W d t #[z0, z1, z2]) :
    W.cell? ⟨a, 0, none⟩ = some x0 ∧ W.cell? ⟨a, 1, none⟩ = some x1 ∧ W.cell? ⟨a, 2, none⟩ = some x2 ∧ W.cell? ⟨b, 0, none⟩ = some y0 ∧ W.cell? ⟨b, 1, none⟩ = some y1 ∧ W.cell? ⟨b, 2, none⟩ = some y2 ∧ W.cell? ⟨d, 0, none⟩ = some z0 ∧ W.cell? ⟨d, 1, none⟩ = some z1 ∧ W.cell? ⟨d, 2, none⟩ = some z2 :=
  ⟨ha.cell 0, ha.cell 1, ha.cell 2, hb.cell 0, hb.cell 1, hb.cell 2, hd.cell 0, hd.cell 1, hd.cell 2⟩

set_option maxRecDepth 100000 in
set_option maxHeartbeats 2000000 in
theorem lawGet (A : Option Addr) (n cap : Nat) (w : World) (h : Bs w w.heap.size A n) :
    Calls Try.prog 3 #[.slice A n cap] w fun e w' => e = .returned (.bool true) ∧ Below w.heap.size w w' := by
  by_cases hbig : (1048576 : Int) < (n : Int)
  · go_enter Try.func3, Try.ntmps3
    go_wp2_with fail
    refine (big_yes A n cap _ hbig).mono ?_
    rintro e w1 ⟨rfl, rfl⟩
    go_wp2_with fail
    go_ret
    exact ⟨rfl, Below.refl _ _⟩
  · have hn : n ≤ 4194304 := by omega
    go_enter Try.func3, Try.ntmps3
    go_wp2_with fail
    refine (big_no A n cap _ (by omega)).mono ?_
    rintro e w0 ⟨rfl, rfl⟩
    go_wp2_with fail
    refine (drawCacheGet A n cap _ h hn).mono ?_
    rintro e w1 ⟨cp, ck, A', k, c, s, D, f, dc, z, hgo, hf, rfl, hC, hD, hb1⟩
    have hk4 : k ≤ 4194304 := by omega
    have hlen : Hid (∀ i, i < k → (s i).n ≤ 4194304) := fun i hi => by have := hgo.2 i hi; omega
    have hf4 : f ≤ 4194304 := by omega
    obtain ⟨C, SC, HB, SL, hmiss, hSn, HI, HS⟩ := get_hit cp ck k s f z hk4 hlen hf4
    have hlenS : Hid (∀ i, i < k → (SL i).n ≤ 4194304) := fun i hi => by rw [hSn.out i]; exact hlen.out i hi
    have HM := hid hmiss
    clear hmiss hSn
    have hw0 := Below.refl w1.heap.size w1
    have hx1 := (Below.refl w1.heap.size w1).alloc (Nat.le_refl _) (.cells #[.int .i64 cp, .int .i64 ck, .slice A' k c] 26)
    have hw_2 := hw0.trans (hx1.mono hw0.size)
    clear hw0
    have hb_3 := Blk.new w1 26 #[.int .i64 cp, .int .i64 ck, .slice A' k c]
    clear hx1
    have hza4 : w1.heap.size + 1 ≤ (w1.alloc (.cells #[.int .i64 cp, .int .i64 ck, .slice A' k c] 26)).heap.size := by rw [World.size_alloc]; exact Nat.le_refl _
    have hza5 : (w1.alloc (.cells #[.int .i64 cp, .int .i64 ck, .slice A' k c] 26)).heap.size ≤ w1.heap.size + 1 := by rw [World.size_alloc]; exact Nat.le_refl _
    obtain ⟨u6, u7, u8, _, _, _⟩ := blk_cells3 hb_3
    go_wp2_with fail
    obtain ⟨W9, e10⟩ : ∃ X, (w1.alloc (.cells #[.int .i64 cp, .int .i64 ck, .slice A' k c] 26)) = X := ⟨_, rfl⟩
    rw [e10] at hb_3 hw_2 u6 u7 u8 hza4 hza5 ⊢
    clear e10
    refine (HI.out A' c D dc _ (hC.to hw_2 hw_2.size) (hD.to hw_2 hw_2.size)).mono ?_
    rintro e w2 ⟨A1, c1, rfl, how2, hqw2⟩
    clear u6 u7 u8
    have hb_11 := Blk.below (w := W9) (w' := w2) hb_3 hqw2 hb_3.lt
    have hw_12 := hw_2.trans (hqw2.mono hw_2.size)
    clear hb_3 hw_2
    clear hqw2
    have hm_13 := hid how2.owM
    clear how2
    have hx14 := (Below.refl w2.heap.size w2).alloc (Nat.le_refl _) (.cells #[.int .i64 cp, .int .i64 C, .slice A1 k c1] 26)
    have hb_15 := Blk.below (w := w2) (w' := (w2.alloc (.cells #[.int .i64 cp, .int .i64 C, .slice A1 k c1] 26))) hb_11 hx14 hb_11.lt
    have hm_16 := hid (OwM.below (w := w2) (w' := (w2.alloc (.cells #[.int .i64 cp, .int .i64 C, .slice A1 k c1] 26))) hm_13.out hx14)
    have hw_17 := hw_12.trans (hx14.mono hw_12.size)
    clear hb_11 hm_13 hw_12
    have hb_18 := Blk.new w2 26 #[.int .i64 cp, .int .i64 C, .slice A1 k c1]
    clear hx14
    have hza19 : w2.heap.size + 1 ≤ (w2.alloc (.cells #[.int .i64 cp, .int .i64 C, .slice A1 k c1] 26)).heap.size := by rw [World.size_alloc]; exact Nat.le_refl _
    have hza20 : (w2.alloc (.cells #[.int .i64 cp, .int .i64 C, .slice A1 k c1] 26)).heap.size ≤ w2.heap.size + 1 := by rw [World.size_alloc]; exact Nat.le_refl _
    obtain ⟨u21, u22, u23, _, _, _⟩ := blk_cells3 hb_15
    obtain ⟨u24, u25, u26, _, _, _⟩ := blk_cells3 hb_18
    go_wp2_with fail
    obtain ⟨W27, e28⟩ : ∃ X, (w2.alloc (.cells #[.int .i64 cp, .int .i64 C, .slice A1 k c1] 26)) = X := ⟨_, rfl⟩
    rw [e28] at hb_15 hb_18 hm_16 hw_17 u21 u22 u23 u24 u25 u26 hza19 hza20 ⊢
    clear e28
    refine (HS.out A' c D dc _ (hC.to hw_17 hw_17.size) (hD.to hw_17 hw_17.size)).mono ?_
    rintro e w3 ⟨A2, c2, rfl, how3, hqw3⟩
    clear u21 u22 u23 u24 u25 u26
    have hb_29 := Blk.below (w := W27) (w' := w3) hb_15 hqw3 hb_15.lt
    have hb_30 := Blk.below (w := W27) (w' := w3) hb_18 hqw3 hb_18.lt
    have hm_31 := hid (OwM.below (w := W27) (w' := w3) hm_16.out hqw3)
    have hw_32 := hw_17.trans (hqw3.mono hw_17.size)
    clear hb_15 hb_18 hm_16 hw_17
    clear hqw3
    have hm_33 := hid how3.owM
    clear how3
    have hx34 := (Below.refl w3.heap.size w3).alloc (Nat.le_refl _) (.cells #[.int .i64 cp, .int .i64 C, .slice A2 k c2] 26)
    have hb_35 := Blk.below (w := w3) (w' := (w3.alloc (.cells #[.int .i64 cp, .int .i64 C, .slice A2 k c2] 26))) hb_29 hx34 hb_29.lt
    have hb_36 := Blk.below (w := w3) (w' := (w3.alloc (.cells #[.int .i64 cp, .int .i64 C, .slice A2 k c2] 26))) hb_30 hx34 hb_30.lt
    have hm_37 := hid (OwM.below (w := w3) (w' := (w3.alloc (.cells #[.int .i64 cp, .int .i64 C, .slice A2 k c2] 26))) hm_31.out hx34)
    have hm_38 := hid (OwM.below (w := w3) (w' := (w3.alloc (.cells #[.int .i64 cp, .int .i64 C, .slice A2 k c2] 26))) hm_33.out hx34)
    have hw_39 := hw_32.trans (hx34.mono hw_32.size)
    clear hb_29 hb_30 hm_31 hm_33 hw_32
    have hb_40 := Blk.new w3 26 #[.int .i64 cp, .int .i64 C, .slice A2 k c2]
    clear hx34
    have hza41 : w3.heap.size + 1 ≤ (w3.alloc (.cells #[.int .i64 cp, .int .i64 C, .slice A2 k c2] 26)).heap.size := by rw [World.size_alloc]; exact Nat.le_refl _
    have hza42 : (w3.alloc (.cells #[.int .i64 cp, .int .i64 C, .slice A2 k c2] 26)).heap.size ≤ w3.heap.size + 1 := by rw [World.size_alloc]; exact Nat.le_refl _
    obtain ⟨u43, u44, u45, _, _, _⟩ := blk_cells3 hb_35
    obtain ⟨u46, u47, u48, _, _, _⟩ := blk_cells3 hb_36
    obtain ⟨u49, u50, u51, _, _, _⟩ := blk_cells3 hb_40
    go_wp2_with fail
    obtain ⟨W52, e53⟩ : ∃ X, (w3.alloc (.cells #[.int .i64 cp, .int .i64 C, .slice A2 k c2] 26)) = X := ⟨_, rfl⟩
    rw [e53] at hb_35 hb_36 hb_40 hm_37 hm_38 hw_39 u43 u44 u45 u46 u47 u48 u49 u50 u51 hza41 hza42 ⊢
    clear e53
    clear u43 u44 u45 u46 u47 u48 u49 u50 u51
    clear HI HS
    have qs : (SC != SC) = false := by simp
    have qt : (SC == SC) = true := by simp
    have qc : (cacheB cp ck k s != cacheB cp ck k s) = false := by simp
    have qd : (cacheB cp ck k s == cacheB cp ck k s) = true := by simp
    cases HB with
    | false =>
      have T0 : Hid (W52.drew.cell? ⟨w1.heap.size, 0, none⟩ = some (.int .i64 cp) ∧ W52.drew.cell? ⟨w1.heap.size, 1, none⟩ = some (.int .i64 ck) ∧ W52.drew.cell? ⟨w1.heap.size, 2, none⟩ = some (.slice A' k c) ∧ W52.drew.cell? ⟨w2.heap.size, 0, none⟩ = some (.int .i64 cp) ∧ W52.drew.cell? ⟨w2.heap.size, 1, none⟩ = some (.int .i64 C) ∧ W52.drew.cell? ⟨w2.heap.size, 2, none⟩ = some (.slice A1 k c1) ∧ W52.drew.cell? ⟨w3.heap.size, 0, none⟩ = some (.int .i64 cp) ∧ W52.drew.cell? ⟨w3.heap.size, 1, none⟩ = some (.int .i64 C) ∧ W52.drew.cell? ⟨w3.heap.size, 2, none⟩ = some (.slice A2 k c2)) := cells9 (W := W52.drew) hb_35 hb_36 hb_40
      have HO1 : Hid (RdC W52.drew W52.drew.heap.size A1 k SL) := hid hm_37.out.rdC
      have HO2 : Hid (RdC W52.drew W52.drew.heap.size A2 k SL) := hid hm_38.out.rdC
      have HCd : Hid (RdC W52.drew W52.drew.heap.size A' k s) := hid (hC.to hw_39.drew hw_39.drew.size)
      have HEd : Hid (Blk W52.drew w1.heap.size 26 #[.int .i64 cp, .int .i64 ck, .slice A' k c]) := hid hb_35
      have HXd : Hid (Blk W52.drew w2.heap.size 26 #[.int .i64 cp, .int .i64 C, .slice A1 k c1]) := hid hb_36
      have HYd : Hid (Blk W52.drew w3.heap.size 26 #[.int .i64 cp, .int .i64 C, .slice A2 k c2]) := hid hb_40
      go_region_held3 (fun w' => w'.cell? ⟨w1.heap.size, 0, none⟩ = some (.int .i64 cp) ∧ w'.cell? ⟨w1.heap.size, 1, none⟩ = some (.int .i64 ck) ∧ w'.cell? ⟨w1.heap.size, 2, none⟩ = some (.slice A' k c) ∧ w'.cell? ⟨w2.heap.size, 0, none⟩ = some (.int .i64 cp) ∧ w'.cell? ⟨w2.heap.size, 1, none⟩ = some (.int .i64 C) ∧ w'.cell? ⟨w2.heap.size, 2, none⟩ = some (.slice A1 k c1) ∧ w'.cell? ⟨w3.heap.size, 0, none⟩ = some (.int .i64 cp) ∧ w'.cell? ⟨w3.heap.size, 1, none⟩ = some (.int .i64 C) ∧ w'.cell? ⟨w3.heap.size, 2, none⟩ = some (.slice A2 k c2))
        ((refine Hid.out ?_; with_reducible assumption))
        (first
          | (go_at_call 24; (with_reducible refine Calls.mono (sameC_any cp C A1 A2 k c1 c2 SL W52.drew HO1.out HO2.out hk4 hlenS) ?_); rintro e w5 ⟨rfl, hq5⟩; have HE5 := hid (HEd.out.below hq5 HEd.out.lt); have HX5 := hid (HXd.out.below hq5 HXd.out.lt); have HY5 := hid (HYd.out.below hq5 HYd.out.lt); have HC5 := hid (HCd.out.to hq5 hq5.size); have T5 := hid (cells9 HE5.out HX5.out HY5.out); have HB5 := hid hq5; clear hq5)
          | (go_at_call 25; (with_reducible refine Calls.mono (iCacheOk_any cp ck A' k c s w5 HC5.out hk4 hlen) ?_); rintro e w6 ⟨rfl, hq6⟩; have HE6 := hid (HE5.out.below hq6 HE5.out.lt); have HX6 := hid (HX5.out.below hq6 HX5.out.lt); have HY6 := hid (HY5.out.below hq6 HY5.out.lt); have HC6 := hid (HC5.out.to hq6 hq6.size); have T6 := hid (cells9 HE6.out HX6.out HY6.out); have HB6 := hid (HB5.out.trans (hq6.mono HB5.out.size)); clear hq6)
          | (go_at_call 26; (with_reducible refine Calls.mono (sCacheOk_any cp ck A' k c s w6 HC6.out hk4 hlen) ?_); rintro e w7 ⟨rfl, hq7⟩; have HE7 := hid (HE6.out.below hq7 HE6.out.lt); have HX7 := hid (HX6.out.below hq7 HX6.out.lt); have HY7 := hid (HY6.out.below hq7 HY6.out.lt); have HC7 := hid (HC6.out.to hq7 hq7.size); have T7 := hid (cells9 HE7.out HX7.out HY7.out); have HB7 := hid (HB6.out.trans (hq7.mono HB6.out.size)); clear hq7))
      have hqf : Below W52.heap.size W52 w7 := (show Below W52.heap.size W52 W52.drew from (Below.refl _ W52).drew).trans HB7.out
      clear T0 HO1 HO2 HCd HEd HXd HYd HE5 HX5 HY5 HC5 T5 HB5 HE6 HX6 HY6 HC6 T6 HB6 HE7 HX7 HY7 HC7 T7 HB7
      have hb_54 := Blk.below (w := W52) (w' := w7) hb_35 hqf hb_35.lt
      have hb_55 := Blk.below (w := W52) (w' := w7) hb_36 hqf hb_36.lt
      have hb_56 := Blk.below (w := W52) (w' := w7) hb_40 hqf hb_40.lt
      have hm_57 := hid (OwM.below (w := W52) (w' := w7) hm_37.out hqf)
      have hm_58 := hid (OwM.below (w := W52) (w' := w7) hm_38.out hqf)
      have hw_59 := hw_39.trans (hqf.mono hw_39.size)
      clear hb_35 hb_36 hb_40 hm_37 hm_38 hw_39
      clear hqf
      obtain ⟨u60, u61, u62, _, _, _⟩ := blk_cells3 hb_54
      obtain ⟨u63, u64, u65, _, _, _⟩ := blk_cells3 hb_55
      obtain ⟨u66, u67, u68, _, _, _⟩ := blk_cells3 hb_56
      go_wp2_with fail
      obtain ⟨w4, hw4⟩ : ∃ X, w7 = X := ⟨_, rfl⟩
      rw [hw4] at hb_54 hb_55 hb_56 hm_57 hm_58 hw_59 u60 u61 u62 u63 u64 u65 u66 u67 u68 ⊢
      clear hw4
      clear u60 u61 u62 u63 u64 u65 u66 u67 u68
      have T0 : Hid (w4.drew.cell? ⟨w1.heap.size, 0, none⟩ = some (.int .i64 cp) ∧ w4.drew.cell? ⟨w1.heap.size, 1, none⟩ = some (.int .i64 ck) ∧ w4.drew.cell? ⟨w1.heap.size, 2, none⟩ = some (.slice A' k c) ∧ w4.drew.cell? ⟨w2.heap.size, 0, none⟩ = some (.int .i64 cp) ∧ w4.drew.cell? ⟨w2.heap.size, 1, none⟩ = some (.int .i64 C) ∧ w4.drew.cell? ⟨w2.heap.size, 2, none⟩ = some (.slice A1 k c1) ∧ w4.drew.cell? ⟨w3.heap.size, 0, none⟩ = some (.int .i64 cp) ∧ w4.drew.cell? ⟨w3.heap.size, 1, none⟩ = some (.int .i64 C) ∧ w4.drew.cell? ⟨w3.heap.size, 2, none⟩ = some (.slice A2 k c2)) := cells9 (W := w4.drew) hb_54 hb_55 hb_56
      have HO1 : Hid (RdC w4.drew w4.drew.heap.size A1 k SL) := hid hm_57.out.rdC
      have HO2 : Hid (RdC w4.drew w4.drew.heap.size A2 k SL) := hid hm_58.out.rdC
      have HCd : Hid (RdC w4.drew w4.drew.heap.size A' k s) := hid (hC.to hw_59.drew hw_59.drew.size)
      have HEd : Hid (Blk w4.drew w1.heap.size 26 #[.int .i64 cp, .int .i64 ck, .slice A' k c]) := hid hb_54
      have HXd : Hid (Blk w4.drew w2.heap.size 26 #[.int .i64 cp, .int .i64 C, .slice A1 k c1]) := hid hb_55
      have HYd : Hid (Blk w4.drew w3.heap.size 26 #[.int .i64 cp, .int .i64 C, .slice A2 k c2]) := hid hb_56
      go_region_held3 (fun w' => w'.cell? ⟨w1.heap.size, 0, none⟩ = some (.int .i64 cp) ∧ w'.cell? ⟨w1.heap.size, 1, none⟩ = some (.int .i64 ck) ∧ w'.cell? ⟨w1.heap.size, 2, none⟩ = some (.slice A' k c) ∧ w'.cell? ⟨w2.heap.size, 0, none⟩ = some (.int .i64 cp) ∧ w'.cell? ⟨w2.heap.size, 1, none⟩ = some (.int .i64 C) ∧ w'.cell? ⟨w2.heap.size, 2, none⟩ = some (.slice A1 k c1) ∧ w'.cell? ⟨w3.heap.size, 0, none⟩ = some (.int .i64 cp) ∧ w'.cell? ⟨w3.heap.size, 1, none⟩ = some (.int .i64 C) ∧ w'.cell? ⟨w3.heap.size, 2, none⟩ = some (.slice A2 k c2))
        ((refine Hid.out ?_; with_reducible assumption))
        (first
          | (go_at_call 24; (with_reducible refine Calls.mono (sameC_any cp C A1 A2 k c1 c2 SL w4.drew HO1.out HO2.out hk4 hlenS) ?_); rintro e w5 ⟨rfl, hq5⟩; have HE5 := hid (HEd.out.below hq5 HEd.out.lt); have HX5 := hid (HXd.out.below hq5 HXd.out.lt); have HY5 := hid (HYd.out.below hq5 HYd.out.lt); have HC5 := hid (HCd.out.to hq5 hq5.size); have T5 := hid (cells9 HE5.out HX5.out HY5.out); have HB5 := hid hq5; clear hq5)
          | (go_at_call 25; (with_reducible refine Calls.mono (iCacheOk_any cp ck A' k c s w5 HC5.out hk4 hlen) ?_); rintro e w6 ⟨rfl, hq6⟩; have HE6 := hid (HE5.out.below hq6 HE5.out.lt); have HX6 := hid (HX5.out.below hq6 HX5.out.lt); have HY6 := hid (HY5.out.below hq6 HY5.out.lt); have HC6 := hid (HC5.out.to hq6 hq6.size); have T6 := hid (cells9 HE6.out HX6.out HY6.out); have HB6 := hid (HB5.out.trans (hq6.mono HB5.out.size)); clear hq6)
          | (go_at_call 26; (with_reducible refine Calls.mono (sCacheOk_any cp ck A' k c s w6 HC6.out hk4 hlen) ?_); rintro e w7 ⟨rfl, hq7⟩; have HE7 := hid (HE6.out.below hq7 HE6.out.lt); have HX7 := hid (HX6.out.below hq7 HX6.out.lt); have HY7 := hid (HY6.out.below hq7 HY6.out.lt); have HC7 := hid (HC6.out.to hq7 hq7.size); have T7 := hid (cells9 HE7.out HX7.out HY7.out); have HB7 := hid (HB6.out.trans (hq7.mono HB6.out.size)); clear hq7))
      have hqf : Below w4.heap.size w4 w7 := (show Below w4.heap.size w4 w4.drew from (Below.refl _ w4).drew).trans HB7.out
      clear T0 HO1 HO2 HCd HEd HXd HYd HE5 HX5 HY5 HC5 T5 HB5 HE6 HX6 HY6 HC6 T6 HB6 HE7 HX7 HY7 HC7 T7 HB7
      have hb_69 := Blk.below (w := w4) (w' := w7) hb_54 hqf hb_54.lt
      have hb_70 := Blk.below (w := w4) (w' := w7) hb_55 hqf hb_55.lt
      have hb_71 := Blk.below (w := w4) (w' := w7) hb_56 hqf hb_56.lt
      have hm_72 := hid (OwM.below (w := w4) (w' := w7) hm_57.out hqf)
      have hm_73 := hid (OwM.below (w := w4) (w' := w7) hm_58.out hqf)
      have hw_74 := hw_59.trans (hqf.mono hw_59.size)
      clear hb_54 hb_55 hb_56 hm_57 hm_58 hw_59
      clear hqf
      obtain ⟨u75, u76, u77, _, _, _⟩ := blk_cells3 hb_69
      obtain ⟨u78, u79, u80, _, _, _⟩ := blk_cells3 hb_70
      obtain ⟨u81, u82, u83, _, _, _⟩ := blk_cells3 hb_71
      go_wp2_with fail
      go_ret
      exact ⟨rfl, hb1.trans (hw_74.mono hb1.size)⟩
    | true =>
      have T0 : Hid (W52.drew.cell? ⟨w1.heap.size, 0, none⟩ = some (.int .i64 cp) ∧ W52.drew.cell? ⟨w1.heap.size, 1, none⟩ = some (.int .i64 ck) ∧ W52.drew.cell? ⟨w1.heap.size, 2, none⟩ = some (.slice A' k c) ∧ W52.drew.cell? ⟨w2.heap.size, 0, none⟩ = some (.int .i64 cp) ∧ W52.drew.cell? ⟨w2.heap.size, 1, none⟩ = some (.int .i64 C) ∧ W52.drew.cell? ⟨w2.heap.size, 2, none⟩ = some (.slice A1 k c1) ∧ W52.drew.cell? ⟨w3.heap.size, 0, none⟩ = some (.int .i64 cp) ∧ W52.drew.cell? ⟨w3.heap.size, 1, none⟩ = some (.int .i64 C) ∧ W52.drew.cell? ⟨w3.heap.size, 2, none⟩ = some (.slice A2 k c2)) := cells9 (W := W52.drew) hb_35 hb_36 hb_40
      have HO1 : Hid (RdC W52.drew W52.drew.heap.size A1 k SL) := hid hm_37.out.rdC
      have HO2 : Hid (RdC W52.drew W52.drew.heap.size A2 k SL) := hid hm_38.out.rdC
      have HCd : Hid (RdC W52.drew W52.drew.heap.size A' k s) := hid (hC.to hw_39.drew hw_39.drew.size)
      have HEd : Hid (Blk W52.drew w1.heap.size 26 #[.int .i64 cp, .int .i64 ck, .slice A' k c]) := hid hb_35
      have HXd : Hid (Blk W52.drew w2.heap.size 26 #[.int .i64 cp, .int .i64 C, .slice A1 k c1]) := hid hb_36
      have HYd : Hid (Blk W52.drew w3.heap.size 26 #[.int .i64 cp, .int .i64 C, .slice A2 k c2]) := hid hb_40
      go_region_held3 (fun w' => w'.cell? ⟨w1.heap.size, 0, none⟩ = some (.int .i64 cp) ∧ w'.cell? ⟨w1.heap.size, 1, none⟩ = some (.int .i64 ck) ∧ w'.cell? ⟨w1.heap.size, 2, none⟩ = some (.slice A' k c) ∧ w'.cell? ⟨w2.heap.size, 0, none⟩ = some (.int .i64 cp) ∧ w'.cell? ⟨w2.heap.size, 1, none⟩ = some (.int .i64 C) ∧ w'.cell? ⟨w2.heap.size, 2, none⟩ = some (.slice A1 k c1) ∧ w'.cell? ⟨w3.heap.size, 0, none⟩ = some (.int .i64 cp) ∧ w'.cell? ⟨w3.heap.size, 1, none⟩ = some (.int .i64 C) ∧ w'.cell? ⟨w3.heap.size, 2, none⟩ = some (.slice A2 k c2))
        ((refine Hid.out ?_; with_reducible assumption))
        (first
          | (go_at_call 24; (with_reducible refine Calls.mono (sameC_any cp C A1 A2 k c1 c2 SL W52.drew HO1.out HO2.out hk4 hlenS) ?_); rintro e w5 ⟨rfl, hq5⟩; have HE5 := hid (HEd.out.below hq5 HEd.out.lt); have HX5 := hid (HXd.out.below hq5 HXd.out.lt); have HY5 := hid (HYd.out.below hq5 HYd.out.lt); have HC5 := hid (HCd.out.to hq5 hq5.size); have T5 := hid (cells9 HE5.out HX5.out HY5.out); have HB5 := hid hq5; clear hq5)
          | (go_at_call 25; (with_reducible refine Calls.mono (iCacheOk_any cp ck A' k c s w5 HC5.out hk4 hlen) ?_); rintro e w6 ⟨rfl, hq6⟩; have HE6 := hid (HE5.out.below hq6 HE5.out.lt); have HX6 := hid (HX5.out.below hq6 HX5.out.lt); have HY6 := hid (HY5.out.below hq6 HY5.out.lt); have HC6 := hid (HC5.out.to hq6 hq6.size); have T6 := hid (cells9 HE6.out HX6.out HY6.out); have HB6 := hid (HB5.out.trans (hq6.mono HB5.out.size)); clear hq6)
          | (go_at_call 26; (with_reducible refine Calls.mono (sCacheOk_any cp ck A' k c s w6 HC6.out hk4 hlen) ?_); rintro e w7 ⟨rfl, hq7⟩; have HE7 := hid (HE6.out.below hq7 HE6.out.lt); have HX7 := hid (HX6.out.below hq7 HX6.out.lt); have HY7 := hid (HY6.out.below hq7 HY6.out.lt); have HC7 := hid (HC6.out.to hq7 hq7.size); have T7 := hid (cells9 HE7.out HX7.out HY7.out); have HB7 := hid (HB6.out.trans (hq7.mono HB6.out.size)); clear hq7))
      have hqf : Below W52.heap.size W52 w7 := (show Below W52.heap.size W52 W52.drew from (Below.refl _ W52).drew).trans HB7.out
      clear T0 HO1 HO2 HCd HEd HXd HYd HE5 HX5 HY5 HC5 T5 HB5 HE6 HX6 HY6 HC6 T6 HB6 HE7 HX7 HY7 HC7 T7 HB7
      have hb_84 := Blk.below (w := W52) (w' := w7) hb_35 hqf hb_35.lt
      have hb_85 := Blk.below (w := W52) (w' := w7) hb_36 hqf hb_36.lt
      have hb_86 := Blk.below (w := W52) (w' := w7) hb_40 hqf hb_40.lt
      have hm_87 := hid (OwM.below (w := W52) (w' := w7) hm_37.out hqf)
      have hm_88 := hid (OwM.below (w := W52) (w' := w7) hm_38.out hqf)
      have hw_89 := hw_39.trans (hqf.mono hw_39.size)
      clear hb_35 hb_36 hb_40 hm_37 hm_38 hw_39
      clear hqf
      obtain ⟨u90, u91, u92, _, _, _⟩ := blk_cells3 hb_84
      obtain ⟨u93, u94, u95, _, _, _⟩ := blk_cells3 hb_85
      obtain ⟨u96, u97, u98, _, _, _⟩ := blk_cells3 hb_86
      go_wp2_with fail
      clear u90 u91 u92 u93 u94 u95 u96 u97 u98
      obtain ⟨I, hIk, e1, e2, hU, hno, hyes, hok, hck0, hck1⟩ := HM.out (by first | rfl | trivial)
      subst e1 e2
      have HNO := hid hno
      have HYES := hid hyes
      have HOK := hid hok
      have HU := hid hU
      clear HM hno hyes hok hU qs qt qc qd
      have HE := hid hb_84
      have HX := hid hb_85
      have HO := hid hm_87.out.rdC
      have HCW := hid (hC.to hw_89 hw_89.size)
      have HDW := hid (hD.to hw_89 hw_89.size)
      have HWW := hid (hb1.trans (hw_89.mono hb1.size))
      clear hb_84 hb_85 hb_86 hm_87 hm_88 hw_89 hC hD hb1
      go_loopw [11] (fun i wr => ∃ j : Nat, j ≤ I ∧ i = .int .i64 j ∧ Hid (Below w7.heap.size w7 wr)) (fun i _ => k - (intOf i).toNat)
      case atStart => exact ⟨0, Nat.zero_le _, rfl, Below.refl _ _⟩
      case round =>
        obtain ⟨j, hj, rfl, hbl⟩ := hrel
        have hE1 := HE.out.below hbl.out HE.out.lt
        have hX1 := HX.out.below hbl.out HX.out.lt
        obtain ⟨x0, x1, x2, _, _, _⟩ := blk_cells3 hE1
        obtain ⟨x3, x4, x5, _, _, _⟩ := blk_cells3 hX1
        have hlt : j < k := by omega
        have i1 : (j : Int) < (k : Int) := by omega
        have i2 : (0 : Int) ≤ (j : Int) := by omega
        have hC1 := HCW.out.to hbl.out hbl.out.size
        have hD1 := hid (HDW.out.to hbl.out hbl.out.size)
        have hO1 := HO.out.to hbl.out hbl.out.size
        obtain ⟨b, off, Aj, cj, e0, hbj, z0, z1, z2, zb⟩ := hC1.at_ hlt
        have hn1 : (s j).n ≤ 4194304 := hlen.out j hlt
        have HZB := hid zb
        have HE1 := hid hE1
        have HX1 := hid hX1
        clear hC1 z2 hE1 hX1 zb
        subst e0
        go_wp2_with fail
        refine (iBoxHas_any Aj D (s j).n cj f dc (s j).g z wr HZB.out hD1.out hn1 hf4).mono ?_
        rintro e w8 ⟨rfl, hb8⟩
        have hbl8 := hid (hbl.out.trans (hb8.mono hbl.out.size))
        have y1 := (hb8.cell (p := ⟨b, off + j * 3 + 1, none⟩) hbj).trans z1
        obtain ⟨b2, off2, Aj2, cj2, e2, hbj2, u0, u1, u2, -⟩ := (hO1.to hb8 hb8.size).at_ hlt
        have hE8 := HE1.out.below hb8 HE1.out.lt
        have hX8 := HX1.out.below hb8 HX1.out.lt
        have HO8 := hid (hO1.to hb8 hb8.size)
        subst e2
        clear u0 u1 hb8 hO1 z0 z1 x0 x1 x2 x3 x4 x5 HZB
        by_cases e : j = I
        · subst e
          have hh : boxHasB (s j).n (s j).g f z = true := HYES.out
          have hu : (SL j).used = ck + 1 := HU.out
          rw [hu] at u2
          have T0 : w8.cell? ⟨w1.heap.size, 0, none⟩ = some (.int .i64 cp) ∧ w8.cell? ⟨w1.heap.size, 1, none⟩ = some (.int .i64 ck) ∧ w8.cell? ⟨w1.heap.size, 2, none⟩ = some (.slice (some ⟨b, off, none⟩) k c) ∧ w8.cell? ⟨w2.heap.size, 0, none⟩ = some (.int .i64 cp) ∧ w8.cell? ⟨w2.heap.size, 1, none⟩ = some (.int .i64 (ck + 1)) ∧ w8.cell? ⟨w2.heap.size, 2, none⟩ = some (.slice (some ⟨b2, off2, none⟩) k c1) ∧ w8.cell? ⟨b, off + j * 3 + 1, none⟩ = some (.int .i64 (s j).score) ∧ w8.cell? ⟨b2, off2 + j * 3 + 2, none⟩ = some (.int .i64 (ck + 1)) := ⟨hE8.cell 0, hE8.cell 1, hE8.cell 2, hX8.cell 0, hX8.cell 1, hX8.cell 2, y1, u2⟩
          have HC : Hid (∀ W', Below w8.heap.size w8 W' → W'.cell? ⟨w1.heap.size, 0, none⟩ = some (.int .i64 cp) ∧ W'.cell? ⟨w1.heap.size, 1, none⟩ = some (.int .i64 ck) ∧ W'.cell? ⟨w1.heap.size, 2, none⟩ = some (.slice (some ⟨b, off, none⟩) k c) ∧ W'.cell? ⟨w2.heap.size, 0, none⟩ = some (.int .i64 cp) ∧ W'.cell? ⟨w2.heap.size, 1, none⟩ = some (.int .i64 (ck + 1)) ∧ W'.cell? ⟨w2.heap.size, 2, none⟩ = some (.slice (some ⟨b2, off2, none⟩) k c1) ∧ W'.cell? ⟨b, off + j * 3 + 1, none⟩ = some (.int .i64 (s j).score) ∧ W'.cell? ⟨b2, off2 + j * 3 + 2, none⟩ = some (.int .i64 (ck + 1))) := fun W' hW => ⟨(hW.cell (lt_of_cell T0.1)).trans T0.1, (hW.cell (lt_of_cell T0.2.1)).trans T0.2.1, (hW.cell (lt_of_cell T0.2.2.1)).trans T0.2.2.1, (hW.cell (lt_of_cell T0.2.2.2.1)).trans T0.2.2.2.1, (hW.cell (lt_of_cell T0.2.2.2.2.1)).trans T0.2.2.2.2.1, (hW.cell (lt_of_cell T0.2.2.2.2.2.1)).trans T0.2.2.2.2.2.1, (hW.cell (lt_of_cell T0.2.2.2.2.2.2.1)).trans T0.2.2.2.2.2.2.1, (hW.cell (lt_of_cell T0.2.2.2.2.2.2.2)).trans T0.2.2.2.2.2.2.2⟩
          have HRW : Hid (∀ W', Below w8.heap.size w8 W' → RdC W' W'.heap.size (some ⟨b2, off2, none⟩) k SL) := fun W' hW => HO8.out.to hW hW.size
          have D0 := hid ((Below.refl w8.heap.size w8).drew)
          have hwr : IntKind.i64.wrap (ck + 1) = ck + 1 := IntWalk.i64_in _ (by omega)
          rw [hh]
          clear T0 hE8 hX8 hu y1 u2 hgo
          go_wp2_with fail
          refine region_classC (C := fun W' => Below w8.heap.size w8 W') (by kernel_rfl) (by kernel_rfl) D0.out ?_
          repeat
            with_reducible refine wpQuiet_step (fun K hK => ?_)
            first
              | (rw [if_pos (by rfl)]; apply Exists.intro; refine ⟨fun W' hW => ?_, hK _ ?_⟩; (first
                  | (obtain ⟨t1, t2, t3, t4, t5, t6, t7, t8⟩ := HC.out W' hW; go_simp <;> with_reducible rfl)
                  | (go_simp; go_at_call 25; with_reducible refine Calls.mono (iCacheOk_any cp (ck + 1) (some ⟨b2, off2, none⟩) k c1 SL W' (HRW.out W' hW) hk4 hlenS) ?_; rintro e w9 ⟨rfl, hb9⟩; rw [HOK.out]; exact ⟨rfl, hW.trans (hb9.mono hW.size)⟩)); clear hK K; (try simp only [Act.put, List.setIfInBounds_toArray, List.set_cons_zero, List.set_cons_succ]))
              | (refine Eq.mpr (if_neg ?_) (hK _ ?_); exact (fun h => Bool.false_ne_true h); clear hK K; (try simp only [Act.put, List.setIfInBounds_toArray, List.set_cons_zero, List.set_cons_succ]))
          refine wpQuiet_nil ?_
          intro WZ hZ'
          have hZ : Below w8.heap.size w8 WZ := hZ'
          clear hZ'
          have hfin := HWW.out.trans (hbl8.out.mono HWW.out.size)
          have hfin2 : Below w.heap.size w WZ := hfin.trans (hZ.mono hfin.size)
          clear hZ
          go_wp2_with fail
          go_ret
          exact ⟨rfl, hfin2⟩
        · have hh : boxHasB (s j).n (s j).g f z = false := HNO.out j (by omega)
          rw [hh]
          obtain ⟨v0, v1, v2, _, _, _⟩ := blk_cells3 hE8
          clear hE8 hX8
          go_wp2_with fail
          go_roundw
          case rel => exact ⟨j + 1, by omega, by go_num, hbl8⟩
          case measure => simp [intOf]; omega
end Go.Proofs.Ytckhooibjmheiaa
