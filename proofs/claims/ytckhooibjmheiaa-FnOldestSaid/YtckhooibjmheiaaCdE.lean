/- The law of a cache that found nothing. -/
import Derived.Test.YtckhooibjmheiaaCdD
import Derived.Test.YtckhooibjmheiaaCaV
import Derived.Test.YtckhooibjmheiaaCaI
namespace Go.Proofs.Ytckhooibjmheiaa
open Go.RowKit Go.Deep
set_option linter.unusedVariables false
set_option linter.unusedSimpArgs false

/-- Whether one below j has it. -/
def anyB (p : Nat → Bool) : Nat → Bool
  | 0 => false
  | j + 1 => anyB p j || p j
theorem anyB_no {p : Nat → Bool} : ∀ {j}, (∀ i, i < j → p i = false) → anyB p j = false := by
  intro j
  induction j with
  | zero => intro _; rfl
  | succ j ih => intro h; unfold anyB; rw [ih fun i hi => h i (by omega), h j (by omega)]; rfl
theorem get_miss (cap clock : Int) (k : Nat) (s : Nat → Slt) (f : Nat) (z : Nat → Int) (hn : k ≤ 4194304) (hlen : Hid (∀ i, i < k → (s i).n ≤ 4194304)) (hf : f ≤ 4194304) : ∃ (C SC : Int) (HB : Bool) (SL : Nat → Slt), (HB = false → C = clock ∧ SC = 0 ∧ SL = s ∧ (anyB (fun i => hitP f z (s i)) k = false ∨ cacheB cap clock k s = false ∨ clock = 1000000000)) ∧ Hid (∀ i, (SL i).n = (s i).n) ∧
    Hid (∀ (A : Option Addr) (c : Nat) (D : Option Addr) (dc : Nat) (w : World), RdC w w.heap.size A k s → Rd w w.heap.size D f z → Calls Try.prog 22 #[caV cap clock A k c, .slice D f dc] w fun e w' => ∃ A' c', e = .returned (.tuple #[caV cap C A' k c', .int .i64 SC, .bool HB]) ∧ OwC w' w.heap.size A' k c' SL ∧ Below w.heap.size w w') ∧
    Hid (∀ (A : Option Addr) (c : Nat) (D : Option Addr) (dc : Nat) (w : World), RdC w w.heap.size A k s → Rd w w.heap.size D f z → Calls Try.prog 23 #[caV cap clock A k c, .slice D f dc] w fun e w' => ∃ A' c', e = .returned (.tuple #[caV cap C A' k c', .int .i64 SC, .bool HB]) ∧ OwC w' w.heap.size A' k c' SL ∧ Below w.heap.size w w') := by
  refine ⟨gClk cap clock k s f z, gSc cap clock k s f z, gHit cap clock k s f z, gSl cap clock k s f z, fun hh => ?_, fun i => ?_, fun A c D dc w h hd => iGet_any cap clock A k c s D f dc z w h hd hn hlen hf, fun A c D dc w h hd => sGet_any cap clock A k c s D f dc z w h hd hn hlen hf⟩
  · have hI : ¬ getI cap clock k s f z < k := by unfold gHit at hh; simpa using hh
    refine ⟨by unfold gClk; rw [if_neg hI], by unfold gSc; rw [if_neg hI], by unfold gSl; rw [if_neg hI], ?_⟩
    unfold getI at hI
    cases hc : canB cap clock k s with
    | true =>
      rw [hc, if_pos rfl] at hI
      left
      have e : idxP (fun i => hitP f z (s i)) k = k := by have := idxP_le (fun i => hitP f z (s i)) k; omega
      exact anyB_no fun i hi => idxP_no (p := fun i => hitP f z (s i)) (k := k) (by rw [e]; exact hi)
    | false =>
      right
      unfold canB at hc
      cases hb : cacheB cap clock k s with
      | false => exact .inl rfl
      | true =>
        right
        rw [hb] at hc
        have h2 := (cacheB_iff.1 hb).2.1
        have h3 : ¬ clock < 1000000000 := by simpa using hc
        omega
  · unfold gSl
    split
    · exact upS_n _ _ _ _
    · rfl

set_option maxRecDepth 100000 in
set_option maxHeartbeats 2000000 in
theorem lawMissed (A : Option Addr) (n cap : Nat) (w : World) (h : Bs w w.heap.size A n) :
    Calls Try.prog 6 #[.slice A n cap] w fun e w' => e = .returned (.bool true) ∧ Below w.heap.size w w' := by
  by_cases hbig : (1048576 : Int) < (n : Int)
  · go_enter Try.func6, Try.ntmps6
    go_wp2_with fail
    refine (big_yes A n cap _ hbig).mono ?_
    rintro e w1 ⟨rfl, rfl⟩
    go_wp2_with fail
    go_ret
    exact ⟨rfl, Below.refl _ _⟩
  · have hn : n ≤ 4194304 := by omega
    go_enter Try.func6, Try.ntmps6
    go_wp2_with fail
    refine (big_no A n cap _ (by omega)).mono ?_
    rintro e w0 ⟨rfl, rfl⟩
    go_wp2_with fail
    refine (drawCacheGet A n cap _ h hn).mono ?_
    rintro e w1 ⟨cp, ck, A', k, c, s, D, f, dc, z, hgo, hf, rfl, hC, hD, hb1⟩
    have hk4 : k ≤ 4194304 := by omega
    have hlen : Hid (∀ i, i < k → (s i).n ≤ 4194304) := fun i hi => by have := hgo.2 i hi; omega
    have hf4 : f ≤ 4194304 := by omega
    obtain ⟨C, SC, HB, SL, hmiss, hSn, HI, HS⟩ := get_miss cp ck k s f z hk4 hlen hf4
    have hlenS : Hid (∀ i, i < k → (SL i).n ≤ 4194304) := fun i hi => by rw [hSn.out i]; exact hlen.out i hi
    have HM := hid hmiss
    clear hmiss hSn
    have hw0 := Below.refl w1.heap.size w1
    have hx1 := (Below.refl w1.heap.size w1).alloc (Nat.le_refl _) (.cells #[.int .i64 cp, .int .i64 ck, .slice A' k c] 26)
    have hw_2 := hw0.trans (hx1.mono hw0.size)
    clear hw0
    have hb_3 := Blk.new w1 26 #[.int .i64 cp, .int .i64 ck, .slice A' k c]
    clear hx1
    have hza4 : w1.heap.size + 1 ≤ (w1.alloc (.cells #[.int .i64 cp, .int .i64 ck, .slice A' k c] 26)).heap.size := by rw [World.size_alloc]; exact Nat.le_refl _
    have hza5 : (w1.alloc (.cells #[.int .i64 cp, .int .i64 ck, .slice A' k c] 26)).heap.size ≤ w1.heap.size + 1 := by rw [World.size_alloc]; exact Nat.le_refl _
    obtain ⟨u6, u7, u8, _, _, _⟩ := blk_cells3 hb_3
    go_wp2_with fail
    obtain ⟨W9, e10⟩ : ∃ X, (w1.alloc (.cells #[.int .i64 cp, .int .i64 ck, .slice A' k c] 26)) = X := ⟨_, rfl⟩
    rw [e10] at hb_3 hw_2 u6 u7 u8 hza4 hza5 ⊢
    clear e10
    refine (HI.out A' c D dc _ (hC.to hw_2 hw_2.size) (hD.to hw_2 hw_2.size)).mono ?_
    rintro e w2 ⟨A1, c1, rfl, how2, hqw2⟩
    clear u6 u7 u8
    have hb_11 := Blk.below (w := W9) (w' := w2) hb_3 hqw2 hb_3.lt
    have hw_12 := hw_2.trans (hqw2.mono hw_2.size)
    clear hb_3 hw_2
    clear hqw2
    have hm_13 := hid how2.owM
    clear how2
    have hx14 := (Below.refl w2.heap.size w2).alloc (Nat.le_refl _) (.cells #[.int .i64 cp, .int .i64 C, .slice A1 k c1] 26)
    have hb_15 := Blk.below (w := w2) (w' := (w2.alloc (.cells #[.int .i64 cp, .int .i64 C, .slice A1 k c1] 26))) hb_11 hx14 hb_11.lt
    have hm_16 := hid (OwM.below (w := w2) (w' := (w2.alloc (.cells #[.int .i64 cp, .int .i64 C, .slice A1 k c1] 26))) hm_13.out hx14)
    have hw_17 := hw_12.trans (hx14.mono hw_12.size)
    clear hb_11 hm_13 hw_12
    have hb_18 := Blk.new w2 26 #[.int .i64 cp, .int .i64 C, .slice A1 k c1]
    clear hx14
    have hza19 : w2.heap.size + 1 ≤ (w2.alloc (.cells #[.int .i64 cp, .int .i64 C, .slice A1 k c1] 26)).heap.size := by rw [World.size_alloc]; exact Nat.le_refl _
    have hza20 : (w2.alloc (.cells #[.int .i64 cp, .int .i64 C, .slice A1 k c1] 26)).heap.size ≤ w2.heap.size + 1 := by rw [World.size_alloc]; exact Nat.le_refl _
    obtain ⟨u21, u22, u23, _, _, _⟩ := blk_cells3 hb_15
    obtain ⟨u24, u25, u26, _, _, _⟩ := blk_cells3 hb_18
    go_wp2_with fail
    obtain ⟨W27, e28⟩ : ∃ X, (w2.alloc (.cells #[.int .i64 cp, .int .i64 C, .slice A1 k c1] 26)) = X := ⟨_, rfl⟩
    rw [e28] at hb_15 hb_18 hm_16 hw_17 u21 u22 u23 u24 u25 u26 hza19 hza20 ⊢
    clear e28
    refine (HS.out A' c D dc _ (hC.to hw_17 hw_17.size) (hD.to hw_17 hw_17.size)).mono ?_
    rintro e w3 ⟨A2, c2, rfl, how3, hqw3⟩
    clear u21 u22 u23 u24 u25 u26
    have hb_29 := Blk.below (w := W27) (w' := w3) hb_15 hqw3 hb_15.lt
    have hb_30 := Blk.below (w := W27) (w' := w3) hb_18 hqw3 hb_18.lt
    have hm_31 := hid (OwM.below (w := W27) (w' := w3) hm_16.out hqw3)
    have hw_32 := hw_17.trans (hqw3.mono hw_17.size)
    clear hb_15 hb_18 hm_16 hw_17
    clear hqw3
    have hm_33 := hid how3.owM
    clear how3
    have hx34 := (Below.refl w3.heap.size w3).alloc (Nat.le_refl _) (.cells #[.int .i64 cp, .int .i64 C, .slice A2 k c2] 26)
    have hb_35 := Blk.below (w := w3) (w' := (w3.alloc (.cells #[.int .i64 cp, .int .i64 C, .slice A2 k c2] 26))) hb_29 hx34 hb_29.lt
    have hb_36 := Blk.below (w := w3) (w' := (w3.alloc (.cells #[.int .i64 cp, .int .i64 C, .slice A2 k c2] 26))) hb_30 hx34 hb_30.lt
    have hm_37 := hid (OwM.below (w := w3) (w' := (w3.alloc (.cells #[.int .i64 cp, .int .i64 C, .slice A2 k c2] 26))) hm_31.out hx34)
    have hm_38 := hid (OwM.below (w := w3) (w' := (w3.alloc (.cells #[.int .i64 cp, .int .i64 C, .slice A2 k c2] 26))) hm_33.out hx34)
    have hw_39 := hw_32.trans (hx34.mono hw_32.size)
    clear hb_29 hb_30 hm_31 hm_33 hw_32
    have hb_40 := Blk.new w3 26 #[.int .i64 cp, .int .i64 C, .slice A2 k c2]
    clear hx34
    have hza41 : w3.heap.size + 1 ≤ (w3.alloc (.cells #[.int .i64 cp, .int .i64 C, .slice A2 k c2] 26)).heap.size := by rw [World.size_alloc]; exact Nat.le_refl _
    have hza42 : (w3.alloc (.cells #[.int .i64 cp, .int .i64 C, .slice A2 k c2] 26)).heap.size ≤ w3.heap.size + 1 := by rw [World.size_alloc]; exact Nat.le_refl _
    obtain ⟨u43, u44, u45, _, _, _⟩ := blk_cells3 hb_35
    obtain ⟨u46, u47, u48, _, _, _⟩ := blk_cells3 hb_36
    obtain ⟨u49, u50, u51, _, _, _⟩ := blk_cells3 hb_40
    go_wp2_with fail
    obtain ⟨W52, e53⟩ : ∃ X, (w3.alloc (.cells #[.int .i64 cp, .int .i64 C, .slice A2 k c2] 26)) = X := ⟨_, rfl⟩
    rw [e53] at hb_35 hb_36 hb_40 hm_37 hm_38 hw_39 u43 u44 u45 u46 u47 u48 u49 u50 u51 hza41 hza42 ⊢
    clear e53
    refine (sameC_any cp C A1 A2 k c1 c2 SL _ hm_37.out.rdC hm_38.out.rdC hk4 hlenS).mono ?_
    rintro e w4 ⟨rfl, hqw4⟩
    clear u43 u44 u45 u46 u47 u48 u49 u50 u51
    have hb_54 := Blk.below (w := W52) (w' := w4) hb_35 hqw4 hb_35.lt
    have hb_55 := Blk.below (w := W52) (w' := w4) hb_36 hqw4 hb_36.lt
    have hb_56 := Blk.below (w := W52) (w' := w4) hb_40 hqw4 hb_40.lt
    have hm_57 := hid (OwM.below (w := W52) (w' := w4) hm_37.out hqw4)
    have hm_58 := hid (OwM.below (w := W52) (w' := w4) hm_38.out hqw4)
    have hw_59 := hw_39.trans (hqw4.mono hw_39.size)
    clear hb_35 hb_36 hb_40 hm_37 hm_38 hw_39
    clear hqw4
    clear HI HS
    have qs : (SC != SC) = false := by simp
    have qt : (SC == SC) = true := by simp
    cases HB with
    | true =>
      obtain ⟨u60, u61, u62, _, _, _⟩ := blk_cells3 hb_54
      obtain ⟨u63, u64, u65, _, _, _⟩ := blk_cells3 hb_55
      obtain ⟨u66, u67, u68, _, _, _⟩ := blk_cells3 hb_56
      go_wp2_with fail
      refine (sameC_any cp C A1 A2 k c1 c2 SL _ hm_57.out.rdC hm_58.out.rdC hk4 hlenS).mono ?_
      rintro e w5 ⟨rfl, hqw5⟩
      clear u60 u61 u62 u63 u64 u65 u66 u67 u68
      have hb_69 := Blk.below (w := w4) (w' := w5) hb_54 hqw5 hb_54.lt
      have hb_70 := Blk.below (w := w4) (w' := w5) hb_55 hqw5 hb_55.lt
      have hb_71 := Blk.below (w := w4) (w' := w5) hb_56 hqw5 hb_56.lt
      have hm_72 := hid (OwM.below (w := w4) (w' := w5) hm_57.out hqw5)
      have hm_73 := hid (OwM.below (w := w4) (w' := w5) hm_58.out hqw5)
      have hw_74 := hw_59.trans (hqw5.mono hw_59.size)
      clear hb_54 hb_55 hb_56 hm_57 hm_58 hw_59
      clear hqw5
      obtain ⟨u75, u76, u77, _, _, _⟩ := blk_cells3 hb_69
      obtain ⟨u78, u79, u80, _, _, _⟩ := blk_cells3 hb_70
      obtain ⟨u81, u82, u83, _, _, _⟩ := blk_cells3 hb_71
      go_wp2_with fail
      go_ret
      exact ⟨rfl, hb1.trans (hw_74.mono hb1.size)⟩
    | false =>
      obtain ⟨e1, e2, e3, hor⟩ := HM.out rfl
      have e1 := e1.symm
      have e3 := e3.symm
      subst e1 e2 e3
      have HOR := hid hor
      clear HM hor
      obtain ⟨u84, u85, u86, _, _, _⟩ := blk_cells3 hb_54
      obtain ⟨u87, u88, u89, _, _, _⟩ := blk_cells3 hb_55
      obtain ⟨u90, u91, u92, _, _, _⟩ := blk_cells3 hb_56
      go_wp2_with fail
      clear u84 u85 u86 u87 u88 u89 u90 u91 u92
      have HE := hid hb_54
      have HX := hid hb_55
      have HO := hid hm_57.out.rdC
      have HCW := hid (hC.to hw_59 hw_59.size)
      have HDW := hid (hD.to hw_59 hw_59.size)
      have HWW := hid (hb1.trans (hw_59.mono hb1.size))
      clear hb_54 hb_55 hb_56 hm_57 hm_58 hw_59 hC hD hb1
      go_loopw [11, 12] (fun hs i wr => ∃ j : Nat, j ≤ k ∧ i = .int .i64 j ∧ hs = .bool (anyB (fun i => hitP f z (s i)) j) ∧ Hid (Below w4.heap.size w4 wr)) (fun _ i _ => k - (intOf i).toNat)
      case atStart => exact ⟨0, Nat.zero_le _, rfl, rfl, Below.refl _ _⟩
      case round =>
        obtain ⟨j, hj, rfl, rfl, hbl⟩ := hrel
        have hE1 := HE.out.below hbl.out HE.out.lt
        have hX1 := HX.out.below hbl.out HX.out.lt
        obtain ⟨x0, x1, x2, _, _, _⟩ := blk_cells3 hE1
        obtain ⟨x3, x4, x5, _, _, _⟩ := blk_cells3 hX1
        by_cases hlt : j < k
        · have i1 : (j : Int) < (k : Int) := by omega
          have i2 : (0 : Int) ≤ (j : Int) := by omega
          have hC1 := HCW.out.to hbl.out hbl.out.size
          have hD1 := hid (HDW.out.to hbl.out hbl.out.size)
          obtain ⟨b, off, Aj, cj, e0, hbj, z0, z1, z2, zb⟩ := hC1.at_ hlt
          have hn1 : (s j).n ≤ 4194304 := hlen.out j hlt
          have HZB := hid zb
          clear hC1 z1 z2 hE1 hX1 zb
          subst e0
          cases hq : anyB (fun i => hitP f z (s i)) j with
          | true =>
            go_wp2_with fail
            go_roundw
            case rel => exact ⟨j + 1, by omega, by go_num, by unfold anyB; rw [hq]; rfl, hbl⟩
            case measure => simp [intOf]; omega
          | false =>
            go_wp2_with fail
            refine (iBoxHas_any Aj D (s j).n cj f dc (s j).g z wr HZB.out hD1.out hn1 hf4).mono ?_
            rintro e w8 ⟨rfl, hb8⟩
            have hbl8 := hid (hbl.out.trans (hb8.mono hbl.out.size))
            go_wp2_with fail
            go_roundw
            case rel => exact ⟨j + 1, by omega, by go_num, by unfold anyB; rw [hq]; rfl, hbl8⟩
            case measure => simp [intOf]; omega
        · have e : j = k := by omega
          subst e
          have hC1 := hid (HCW.out.to hbl.out hbl.out.size)
          have hO1 := hid (HO.out.to hbl.out hbl.out.size)
          have hfin := HWW.out.trans (hbl.out.mono HWW.out.size)
          go_wp2_with fail
          refine (sameC_any cp ck A1 A' j c1 c s _ hO1.out hC1.out hk4 hlen).mono ?_
          rintro e w8 ⟨rfl, hb8⟩
          have hE8 := hE1.below hb8 hE1.lt
          obtain ⟨p0, p1, p2, _, _, _⟩ := blk_cells3 hE8
          have hf8 := hfin.trans (hb8.mono hfin.size)
          have hC8 := hid (hC1.out.to hb8 hb8.size)
          clear hb8 hfin hE1 hX1 hC1 hO1
          cases hq : anyB (fun i => hitP f z (s i)) j with
          | false =>
            go_wp2_with fail
            go_ret
            exact ⟨rfl, hf8⟩
          | true =>
            go_wp2_with fail
            refine (iCacheOk_any cp ck A' j c s _ hC8.out hk4 hlen).mono ?_
            rintro e w9 ⟨rfl, hb9⟩
            have hE9 := hE8.below hb9 hE8.lt
            obtain ⟨r0, r1, r2, _, _, _⟩ := blk_cells3 hE9
            have hf9 := hf8.trans (hb9.mono hf8.size)
            clear hb9 hf8 hE8 hE9
            cases hq2 : cacheB cp ck j s with
            | false =>
              go_wp2_with fail
              go_ret
              exact ⟨rfl, hf9⟩
            | true =>
              have e : ck = 1000000000 := by
                rcases HOR.out with h | h | h
                · rw [hq] at h; cases h
                · rw [hq2] at h; cases h
                · exact h
              subst e
              go_wp2_with fail
              go_ret
              exact ⟨rfl, hf9⟩
end Go.Proofs.Ytckhooibjmheiaa
