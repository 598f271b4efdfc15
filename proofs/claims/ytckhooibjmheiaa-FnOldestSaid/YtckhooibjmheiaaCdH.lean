/- The law of what is put into a cache. -/
import Derived.Test.YtckhooibjmheiaaCdG
import Derived.Test.YtckhooibjmheiaaCdF
import Derived.Test.YtckhooibjmheiaaCaT
namespace Go.Proofs.Ytckhooibjmheiaa
open Go.RowKit Go.Deep
set_option linter.unusedVariables false
set_option linter.unusedSimpArgs false

/-- What stands in a cache into which was put. -/
def PutOk (cap C : Int) (K : Nat) (SL : Nat → Slt) (f : Nat) (z : Nat → Sp) (x : Int) : Prop :=
  0 < K ∧ K ≤ 8 ∧ (K : Int) ≤ cap ∧ (SL (K - 1)).score = x ∧ (SL (K - 1)).n = f ∧ (SL (K - 1)).g = z ∧ cacheB cap C K SL = true ∧ boxB f z = true ∧ C ≤ 1000000000
theorem putOk {cap clock : Int} {k : Nat} {s : Nat → Slt} {f : Nat} {z : Nat → Sp} {x : Int} (hY : putY cap clock k s f z = true) : PutOk cap (pClk cap clock k s f z) (pK cap clock k s f z) (pS cap clock k s f z x) f z x := by
  unfold pClk pK pS
  rw [if_pos hY, if_pos hY, if_pos hY]
  have hY' := hY
  unfold putY canB at hY'
  simp only [Bool.and_eq_true, decide_eq_true_eq] at hY'
  obtain ⟨⟨hc, hl⟩, hb⟩ := hY'
  obtain ⟨⟨c1, c2⟩, ⟨d1, d2⟩, hk, hs⟩ := cacheB_iff.1 hc
  have hnew : slotB (clock + 1) ⟨f, z, x, clock + 1⟩ = true := slotB_iff.2 ⟨hb, by show 0 ≤ clock + 1; omega, Int.le_refl _⟩
  have hK : 0 < putK cap k ∧ (putK cap k : Int) ≤ cap := by unfold putK; split <;> omega
  have hlast : putS cap k s ⟨f, z, x, clock + 1⟩ (putK cap k - 1) = ⟨f, z, x, clock + 1⟩ := by
    unfold putS putK
    by_cases e : (k : Int) = cap
    · rw [if_pos e, if_pos e]; unfold addS; rw [if_pos rfl]
    · rw [if_neg e, if_neg e]; unfold addS; rw [if_pos (by omega)]
  refine ⟨hK.1, by omega, hK.2, by rw [hlast], by rw [hlast], by rw [hlast], cacheB_iff.2 ⟨⟨c1, c2⟩, ⟨by omega, by omega⟩, hK.2, fun i hi => ?_⟩, hb, by omega⟩
  unfold putS
  by_cases e : (k : Int) = cap
  · rw [if_pos e]
    unfold putK at hi
    rw [if_pos e] at hi
    unfold addS cutS
    by_cases q : i = k - 1
    · rw [if_pos q]; exact hnew
    · rw [if_neg q]
      by_cases q2 : i < oldI (fun i => (s i).used) k
      · rw [if_pos q2]; exact slotB_more (hs i (by omega)) (by omega)
      · rw [if_neg q2]; exact slotB_more (hs (i + 1) (by omega)) (by omega)
  · rw [if_neg e]
    unfold putK at hi
    rw [if_neg e] at hi
    unfold addS
    by_cases q : i = k
    · rw [if_pos q]; exact hnew
    · rw [if_neg q]; exact slotB_more (hs i (by omega)) (by omega)
theorem put_says (cap clock : Int) (k : Nat) (s : Nat → Slt) (f : Nat) (z : Nat → Sp) (x : Int) (hgo : k ≤ 8 ∧ ∀ i, i < k → (s i).n ≤ 16) (hf : f ≤ 16) : ∃ (C : Int) (HB : Bool) (SL : Nat → Slt) (k' : Nat), (HB = true → PutOk cap C k' SL f z x) ∧ k' ≤ 4194304 ∧ Hid (∀ i, i < k' → (SL i).n ≤ 4194304) ∧
    Hid (∀ (A : Option Addr) (c : Nat) (D : Option Addr) (dc : Nat) (w : World), RdC w w.heap.size A k s → RdS w w.heap.size D f z → Calls Try.prog 29 #[caV cap clock A k c, .slice D f dc, .int .i64 x] w fun e w' => ∃ A' c', e = .returned (.tuple #[caV cap C A' k' c', .bool HB]) ∧ OwC w' w.heap.size A' k' c' SL ∧ Below w.heap.size w w') ∧
    Hid (∀ (A : Option Addr) (c : Nat) (D : Option Addr) (dc : Nat) (w : World), RdC w w.heap.size A k s → RdS w w.heap.size D f z → Calls Try.prog 30 #[caV cap clock A k c, .slice D f dc, .int .i64 x] w fun e w' => ∃ A' c', e = .returned (.tuple #[caV cap C A' k' c', .bool HB]) ∧ OwC w' w.heap.size A' k' c' SL ∧ Below w.heap.size w w') := by
  have hlen : Hid (∀ i, i < k → (s i).n ≤ 4194304) := fun i hi => by have := hgo.2 i hi; omega
  have hsm : pK cap clock k s f z ≤ 4194304 ∧ ∀ i, i < pK cap clock k s f z → (pS cap clock k s f z x i).n ≤ 4194304 := by
    cases hY : putY cap clock k s f z with
    | true =>
      have := put_good (x := x) hY
      exact ⟨by omega, fun i hi => by have := this.2 i hi; omega⟩
    | false =>
      unfold pK pS
      rw [hY]
      exact ⟨by simp; omega, fun i hi => by simp at hi ⊢; have := hgo.2 i hi; omega⟩
  exact ⟨pClk cap clock k s f z, putY cap clock k s f z, pS cap clock k s f z x, pK cap clock k s f z, fun hY => putOk hY, hsm.1, hsm.2, fun A c D dc w h hd => iPut_any cap clock A k c s D f dc z x w h hd (by omega) hlen (by omega), fun A c D dc w h hd => sPut_any cap clock A k c s D f dc z x w h hd (by omega) hlen (by omega)⟩
/-- What was put is found. -/
theorem anyB_says {p : Nat → Bool} : ∀ {j}, anyB p j = false → ∀ i, i < j → p i = false := by
  intro j
  induction j with
  | zero => intro _ i hi; omega
  | succ j ih =>
    intro h i hi
    unfold anyB at h
    rw [Bool.or_eq_false_iff] at h
    rcases Nat.lt_or_ge i j with q | q
    · exact ih h.1 i q
    · have : i = j := by omega
      subst this
      exact h.2
theorem put_got {cap C : Int} {K : Nat} {SL : Nat → Slt} {f : Nat} {z : Nat → Sp} {x : Int} (h : PutOk cap C K SL f z x) (hC : C ≠ 1000000000) : gHit cap C K SL f (fun i => pickS (z i)) = true ∧ (anyB (fun i => hitP f (fun i => pickS (z i)) (SL i)) (K - 1) = false → gSc cap C K SL f (fun i => pickS (z i)) = x) := by
  obtain ⟨h0, h8, hcap, e1, e2, e3, hca, hb, hle⟩ := h
  have hdoc : docB f (fun i => pickS (z i)) = true := (by
    have hm1 := (boxB_iff.1 hb).1
    have hm6 := (boxB_iff.1 hb).2.1
    unfold docB
    have e1 : decide (1 ≤ f) = true := decide_eq_true hm1
    have e2 : decide (f ≤ 6) = true := decide_eq_true hm6
    rw [e1, e2, allTo_of fun k hk => pick_may ((boxB_iff.1 hb).2.2 k hk)]
    rfl)
  have hhit : hitP f (fun i => pickS (z i)) (SL (K - 1)) = true := by
    unfold hitP
    rw [e2, e3]
    exact boxHasB_iff.2 ⟨hb, hdoc, rfl, fun i hi => pick_has ((boxB_iff.1 hb).2.2 i hi)⟩
  have hcan : canB cap C K SL = true := by unfold canB; rw [hca, decide_eq_true (by omega)]; rfl
  have hg : getI cap C K SL f (fun i => pickS (z i)) = idxP (fun i => hitP f (fun i => pickS (z i)) (SL i)) K := by unfold getI; rw [if_pos hcan]
  have hI : idxP (fun i => hitP f (fun i => pickS (z i)) (SL i)) K ≤ K - 1 := by
    rcases Nat.lt_or_ge (K - 1) (idxP (fun i => hitP f (fun i => pickS (z i)) (SL i)) K) with h | h
    · have := idxP_no (p := fun i => hitP f (fun i => pickS (z i)) (SL i)) h
      rw [hhit] at this
      cases this
    · exact h
  have hlt : getI cap C K SL f (fun i => pickS (z i)) < K := by rw [hg]; omega
  refine ⟨by unfold gHit; exact decide_eq_true hlt, fun hno => ?_⟩
  have hno' : ∀ j, j < K - 1 → hitP f (fun i => pickS (z i)) (SL j) = false := anyB_says hno
  have e : idxP (fun i => hitP f (fun i => pickS (z i)) (SL i)) K = K - 1 := idxP_at (by omega) hhit hno'
  unfold gSc
  rw [if_pos hlt, hg, e]
  exact e1

set_option maxRecDepth 100000 in
set_option maxHeartbeats 2000000 in
theorem lawPut (A : Option Addr) (n cap : Nat) (w : World) (h : Bs w w.heap.size A n) :
    Calls Try.prog 4 #[.slice A n cap] w fun e w' => e = .returned (.bool true) ∧ Below w.heap.size w w' := by
  by_cases hbig : (1048576 : Int) < (n : Int)
  · go_enter Try.func4, Try.ntmps4
    go_wp2_with fail
    refine (big_yes A n cap _ hbig).mono ?_
    rintro e w1 ⟨rfl, rfl⟩
    go_wp2_with fail
    go_ret
    exact ⟨rfl, Below.refl _ _⟩
  · have hn : n ≤ 4194304 := by omega
    go_enter Try.func4, Try.ntmps4
    go_wp2_with fail
    refine (big_no A n cap _ (by omega)).mono ?_
    rintro e w0 ⟨rfl, rfl⟩
    go_wp2_with fail
    refine (drawCachePut A n cap _ h hn).mono ?_
    rintro e w1 ⟨cp, ck, A', k, c, s, D, f, dc, z, sc, hgo, hf, rfl, hC, hD, hb1⟩
    obtain ⟨C, HB, SL, K, hok, hK4, hlenS, HI, HS⟩ := put_says cp ck k s f z sc hgo hf
    have HM := hid hok
    have hf4 : f ≤ 4194304 := by omega
    clear hok hgo
    have hw0 := Below.refl w1.heap.size w1
    have hx1 := (Below.refl w1.heap.size w1).alloc (Nat.le_refl _) (.cells #[.int .i64 cp, .int .i64 ck, .slice A' k c] 26)
    have hw_2 := hw0.trans (hx1.mono hw0.size)
    clear hw0
    have hb_3 := Blk.new w1 26 #[.int .i64 cp, .int .i64 ck, .slice A' k c]
    clear hx1
    have hza4 : w1.heap.size + 1 ≤ (w1.alloc (.cells #[.int .i64 cp, .int .i64 ck, .slice A' k c] 26)).heap.size := by rw [World.size_alloc]; exact Nat.le_refl _
    have hza5 : (w1.alloc (.cells #[.int .i64 cp, .int .i64 ck, .slice A' k c] 26)).heap.size ≤ w1.heap.size + 1 := by rw [World.size_alloc]; exact Nat.le_refl _
    obtain ⟨u6, u7, u8, _, _, _⟩ := blk_cells3 hb_3
    go_wp2_with fail
    obtain ⟨W9, e10⟩ : ∃ X, (w1.alloc (.cells #[.int .i64 cp, .int .i64 ck, .slice A' k c] 26)) = X := ⟨_, rfl⟩
    rw [e10] at hb_3 hw_2 u6 u7 u8 hza4 hza5 ⊢
    clear e10
    refine (HI.out A' c D dc _ (hC.to hw_2 hw_2.size) (hD.to hw_2 hw_2.size)).mono ?_
    rintro e w2 ⟨A1, c1, rfl, how2, hqw2⟩
    clear u6 u7 u8
    have hb_11 := Blk.below (w := W9) (w' := w2) hb_3 hqw2 hb_3.lt
    have hw_12 := hw_2.trans (hqw2.mono hw_2.size)
    clear hb_3 hw_2
    clear hqw2
    have hm_13 := hid how2.owM
    clear how2
    have hx14 := (Below.refl w2.heap.size w2).alloc (Nat.le_refl _) (.cells #[.int .i64 cp, .int .i64 C, .slice A1 K c1] 26)
    have hb_15 := Blk.below (w := w2) (w' := (w2.alloc (.cells #[.int .i64 cp, .int .i64 C, .slice A1 K c1] 26))) hb_11 hx14 hb_11.lt
    have hm_16 := hid (OwM.below (w := w2) (w' := (w2.alloc (.cells #[.int .i64 cp, .int .i64 C, .slice A1 K c1] 26))) hm_13.out hx14)
    have hw_17 := hw_12.trans (hx14.mono hw_12.size)
    clear hb_11 hm_13 hw_12
    have hb_18 := Blk.new w2 26 #[.int .i64 cp, .int .i64 C, .slice A1 K c1]
    clear hx14
    have hza19 : w2.heap.size + 1 ≤ (w2.alloc (.cells #[.int .i64 cp, .int .i64 C, .slice A1 K c1] 26)).heap.size := by rw [World.size_alloc]; exact Nat.le_refl _
    have hza20 : (w2.alloc (.cells #[.int .i64 cp, .int .i64 C, .slice A1 K c1] 26)).heap.size ≤ w2.heap.size + 1 := by rw [World.size_alloc]; exact Nat.le_refl _
    obtain ⟨u21, u22, u23, _, _, _⟩ := blk_cells3 hb_15
    obtain ⟨u24, u25, u26, _, _, _⟩ := blk_cells3 hb_18
    go_wp2_with fail
    obtain ⟨W27, e28⟩ : ∃ X, (w2.alloc (.cells #[.int .i64 cp, .int .i64 C, .slice A1 K c1] 26)) = X := ⟨_, rfl⟩
    rw [e28] at hb_15 hb_18 hm_16 hw_17 u21 u22 u23 u24 u25 u26 hza19 hza20 ⊢
    clear e28
    refine (HS.out A' c D dc _ (hC.to hw_17 hw_17.size) (hD.to hw_17 hw_17.size)).mono ?_
    rintro e w3 ⟨A2, c2, rfl, how3, hqw3⟩
    clear u21 u22 u23 u24 u25 u26
    have hb_29 := Blk.below (w := W27) (w' := w3) hb_15 hqw3 hb_15.lt
    have hb_30 := Blk.below (w := W27) (w' := w3) hb_18 hqw3 hb_18.lt
    have hm_31 := hid (OwM.below (w := W27) (w' := w3) hm_16.out hqw3)
    have hw_32 := hw_17.trans (hqw3.mono hw_17.size)
    clear hb_15 hb_18 hm_16 hw_17
    clear hqw3
    have hm_33 := hid how3.owM
    clear how3
    have hx34 := (Below.refl w3.heap.size w3).alloc (Nat.le_refl _) (.cells #[.int .i64 cp, .int .i64 C, .slice A2 K c2] 26)
    have hb_35 := Blk.below (w := w3) (w' := (w3.alloc (.cells #[.int .i64 cp, .int .i64 C, .slice A2 K c2] 26))) hb_29 hx34 hb_29.lt
    have hb_36 := Blk.below (w := w3) (w' := (w3.alloc (.cells #[.int .i64 cp, .int .i64 C, .slice A2 K c2] 26))) hb_30 hx34 hb_30.lt
    have hm_37 := hid (OwM.below (w := w3) (w' := (w3.alloc (.cells #[.int .i64 cp, .int .i64 C, .slice A2 K c2] 26))) hm_31.out hx34)
    have hm_38 := hid (OwM.below (w := w3) (w' := (w3.alloc (.cells #[.int .i64 cp, .int .i64 C, .slice A2 K c2] 26))) hm_33.out hx34)
    have hw_39 := hw_32.trans (hx34.mono hw_32.size)
    clear hb_29 hb_30 hm_31 hm_33 hw_32
    have hb_40 := Blk.new w3 26 #[.int .i64 cp, .int .i64 C, .slice A2 K c2]
    clear hx34
    have hza41 : w3.heap.size + 1 ≤ (w3.alloc (.cells #[.int .i64 cp, .int .i64 C, .slice A2 K c2] 26)).heap.size := by rw [World.size_alloc]; exact Nat.le_refl _
    have hza42 : (w3.alloc (.cells #[.int .i64 cp, .int .i64 C, .slice A2 K c2] 26)).heap.size ≤ w3.heap.size + 1 := by rw [World.size_alloc]; exact Nat.le_refl _
    obtain ⟨u43, u44, u45, _, _, _⟩ := blk_cells3 hb_35
    obtain ⟨u46, u47, u48, _, _, _⟩ := blk_cells3 hb_36
    obtain ⟨u49, u50, u51, _, _, _⟩ := blk_cells3 hb_40
    go_wp2_with fail
    obtain ⟨W52, e53⟩ : ∃ X, (w3.alloc (.cells #[.int .i64 cp, .int .i64 C, .slice A2 K c2] 26)) = X := ⟨_, rfl⟩
    rw [e53] at hb_35 hb_36 hb_40 hm_37 hm_38 hw_39 u43 u44 u45 u46 u47 u48 u49 u50 u51 hza41 hza42 ⊢
    clear e53
    refine (sameC_any cp C A1 A2 K c1 c2 SL _ hm_37.out.rdC hm_38.out.rdC hK4 hlenS).mono ?_
    rintro e w4 ⟨rfl, hqw4⟩
    clear u43 u44 u45 u46 u47 u48 u49 u50 u51
    have hb_54 := Blk.below (w := W52) (w' := w4) hb_35 hqw4 hb_35.lt
    have hb_55 := Blk.below (w := W52) (w' := w4) hb_36 hqw4 hb_36.lt
    have hb_56 := Blk.below (w := W52) (w' := w4) hb_40 hqw4 hb_40.lt
    have hm_57 := hid (OwM.below (w := W52) (w' := w4) hm_37.out hqw4)
    have hm_58 := hid (OwM.below (w := W52) (w' := w4) hm_38.out hqw4)
    have hw_59 := hw_39.trans (hqw4.mono hw_39.size)
    clear hb_35 hb_36 hb_40 hm_37 hm_38 hw_39
    clear hqw4
    clear HI HS
    cases HB with
    | false =>
      obtain ⟨u60, u61, u62, _, _, _⟩ := blk_cells3 hb_54
      obtain ⟨u63, u64, u65, _, _, _⟩ := blk_cells3 hb_55
      obtain ⟨u66, u67, u68, _, _, _⟩ := blk_cells3 hb_56
      go_wp2_with fail
      refine (sameC_any cp C A1 A2 K c1 c2 SL _ hm_57.out.rdC hm_58.out.rdC hK4 hlenS).mono ?_
      rintro e w5 ⟨rfl, hqw5⟩
      clear u60 u61 u62 u63 u64 u65 u66 u67 u68
      have hb_69 := Blk.below (w := w4) (w' := w5) hb_54 hqw5 hb_54.lt
      have hb_70 := Blk.below (w := w4) (w' := w5) hb_55 hqw5 hb_55.lt
      have hb_71 := Blk.below (w := w4) (w' := w5) hb_56 hqw5 hb_56.lt
      have hm_72 := hid (OwM.below (w := w4) (w' := w5) hm_57.out hqw5)
      have hm_73 := hid (OwM.below (w := w4) (w' := w5) hm_58.out hqw5)
      have hw_74 := hw_59.trans (hqw5.mono hw_59.size)
      clear hb_54 hb_55 hb_56 hm_57 hm_58 hw_59
      clear hqw5
      obtain ⟨u75, u76, u77, _, _, _⟩ := blk_cells3 hb_69
      obtain ⟨u78, u79, u80, _, _, _⟩ := blk_cells3 hb_70
      obtain ⟨u81, u82, u83, _, _, _⟩ := blk_cells3 hb_71
      go_wp2_with fail
      go_ret
      exact ⟨rfl, hb1.trans (hw_74.mono hb1.size)⟩
    | true =>
      have hok : PutOk cp C K SL f z sc := HM.out (by first | rfl | trivial)
      clear HM
      by_cases hMax : C = 1000000000
      · subst hMax
        obtain ⟨u84, u85, u86, _, _, _⟩ := blk_cells3 hb_54
        obtain ⟨u87, u88, u89, _, _, _⟩ := blk_cells3 hb_55
        obtain ⟨u90, u91, u92, _, _, _⟩ := blk_cells3 hb_56
        go_wp2_with fail
        refine (sameC_any cp 1000000000 A1 A2 K c1 c2 SL _ hm_57.out.rdC hm_58.out.rdC hK4 hlenS).mono ?_
        rintro e w5 ⟨rfl, hqw5⟩
        clear u84 u85 u86 u87 u88 u89 u90 u91 u92
        have hb_93 := Blk.below (w := w4) (w' := w5) hb_54 hqw5 hb_54.lt
        have hb_94 := Blk.below (w := w4) (w' := w5) hb_55 hqw5 hb_55.lt
        have hb_95 := Blk.below (w := w4) (w' := w5) hb_56 hqw5 hb_56.lt
        have hm_96 := hid (OwM.below (w := w4) (w' := w5) hm_57.out hqw5)
        have hm_97 := hid (OwM.below (w := w4) (w' := w5) hm_58.out hqw5)
        have hw_98 := hw_59.trans (hqw5.mono hw_59.size)
        clear hb_54 hb_55 hb_56 hm_57 hm_58 hw_59
        clear hqw5
        obtain ⟨u99, u100, u101, _, _, _⟩ := blk_cells3 hb_93
        obtain ⟨u102, u103, u104, _, _, _⟩ := blk_cells3 hb_94
        obtain ⟨u105, u106, u107, _, _, _⟩ := blk_cells3 hb_95
        go_wp2_with fail
        go_ret
        exact ⟨rfl, hb1.trans (hw_98.mono hb1.size)⟩
      · obtain ⟨hgot1, hgot2⟩ := put_got hok hMax
        obtain ⟨h0, h8, hcap, e1, e2, e3, hca, hb, hle⟩ := hok
        have HB0 := hid hb
        have HCA := hid hca
        have HE1 := hid e1
        obtain ⟨SC, hSC⟩ : ∃ q, gSc cp C K SL f (fun i => pickS (z i)) = q := ⟨_, rfl⟩
        have HG1 := hid hgot1
        have HSC := hid hSC
        have HG2 : Hid (anyB (fun i => hitP f (fun i => pickS (z i)) (SL i)) (K - 1) = false → SC = sc) := by rw [hSC] at hgot2; exact hgot2
        clear hgot1 hgot2 hSC hb hca e1 e2 e3
        obtain ⟨u108, u109, u110, _, _, _⟩ := blk_cells3 hb_54
        obtain ⟨u111, u112, u113, _, _, _⟩ := blk_cells3 hb_55
        obtain ⟨u114, u115, u116, _, _, _⟩ := blk_cells3 hb_56
        go_wp2_with fail
        refine (iPick_yes D f dc z _ (hD.to hw_59 hw_59.size) HB0.out).mono ?_
        rintro e w5 ⟨pb, rfl, -, hrow, hq5⟩
        clear u108 u109 u110 u111 u112 u113 u114 u115 u116
        have hb_117 := Blk.below (w := w4) (w' := w5) hb_54 hq5 hb_54.lt
        have hb_118 := Blk.below (w := w4) (w' := w5) hb_55 hq5 hb_55.lt
        have hb_119 := Blk.below (w := w4) (w' := w5) hb_56 hq5 hb_56.lt
        have hm_120 := hid (OwM.below (w := w4) (w' := w5) hm_57.out hq5)
        have hm_121 := hid (OwM.below (w := w4) (w' := w5) hm_58.out hq5)
        have hw_122 := hw_59.trans (hq5.mono hw_59.size)
        clear hb_54 hb_55 hb_56 hm_57 hm_58 hw_59
        clear hq5
        have HX := hid hb_118
        have HO := hid hm_120.out.rdC
        have HDW : Hid (Rd w5 w5.heap.size (some ⟨pb, 0, none⟩) f (fun i => pickS (z i))) := hid (rd_of hrow)
        have HWW := hid (hb1.trans (hw_122.mono hb1.size))
        clear hrow
        clear hb_117 hb_118 hb_119 hm_120 hm_121 hw_122 hC hD hb1
        go_wp2_with fail
        go_loopw [11, 12] (fun hs i wr => ∃ j : Nat, j + 1 ≤ K ∧ i = .int .i64 j ∧ hs = .bool (anyB (fun i => hitP f (fun i => pickS (z i)) (SL i)) j) ∧ Hid (Below w5.heap.size w5 wr)) (fun _ i _ => K - (intOf i).toNat)
        case atStart => exact ⟨0, by omega, rfl, rfl, Below.refl _ _⟩
        case round =>
          obtain ⟨j, hj, rfl, rfl, hbl⟩ := hrel
          have hX1 := HX.out.below hbl.out HX.out.lt
          obtain ⟨x3, x4, x5, _, _, _⟩ := blk_cells3 hX1
          have hO1 := HO.out.to hbl.out hbl.out.size
          have hD1 := hid (HDW.out.to hbl.out hbl.out.size)
          by_cases hlt : j + 1 < K
          · have i0 : ((j : Int) + 1) < (K : Int) := by omega
            have i1 : (j : Int) < (K : Int) := by omega
            have i2 : (0 : Int) ≤ (j : Int) := by omega
            have i3 : j < K := by omega
            obtain ⟨b, off, Aj, cj, e0, hbj, z0, z1, z2, zb⟩ := hO1.at_ i3
            have hn1 : (SL j).n ≤ 4194304 := hlenS.out j i3
            have HZB := hid zb
            clear hO1 z1 z2 hX1 zb
            subst e0
            cases hq : anyB (fun i => hitP f (fun i => pickS (z i)) (SL i)) j with
            | true =>
              go_wp2_with fail
              go_roundw
              case rel => exact ⟨j + 1, by omega, by go_num, by unfold anyB; rw [hq]; rfl, hbl⟩
              case measure => simp [intOf]; omega
            | false =>
              go_wp2_with fail
              refine (iBoxHas_any Aj (some ⟨pb, 0, none⟩) (SL j).n cj f f (SL j).g (fun i => pickS (z i)) wr HZB.out hD1.out hn1 hf4).mono ?_
              rintro e w8 ⟨rfl, hb8⟩
              have hbl8 := hid (hbl.out.trans (hb8.mono hbl.out.size))
              go_wp2_with fail
              go_roundw
              case rel => exact ⟨j + 1, by omega, by go_num, by unfold anyB; rw [hq]; rfl, hbl8⟩
              case measure => simp [intOf]; omega
          · have e : j = K - 1 := by omega
            have i0 : ¬ ((j : Int) + 1) < (K : Int) := by omega
            subst e
            have HO1 := hid hO1
            have HX1 := hid hX1
            have hfin := HWW.out.trans (hbl.out.mono HWW.out.size)
            clear hO1 hX1
            go_wp2_with fail
            refine (iGet_any cp C A1 K c1 SL (some ⟨pb, 0, none⟩) f f (fun i => pickS (z i)) wr HO1.out hD1.out hK4 hlenS hf4).mono ?_
            rintro e w8 ⟨A8, c8, rfl, ho8, hb8⟩
            rw [HG1.out, HSC.out]
            obtain ⟨G, hG⟩ : ∃ q, gClk cp C K SL f (fun i => pickS (z i)) = q := ⟨_, rfl⟩
            rw [hG]
            clear hG ho8 hD1
            have hal := (Below.refl w8.heap.size w8).alloc (Nat.le_refl _) (.cells #[.int .i64 cp, .int .i64 G, .slice A8 K c8] 26)
            have hb9 := hb8.trans (hal.mono hb8.size)
            have hX9 := HX1.out.below hb9 HX1.out.lt
            have hO9 := HO1.out.to hb9 hb9.size
            have hf9 := hfin.trans (hb9.mono hfin.size)
            obtain ⟨r0, r1, r2, _, _, _⟩ := blk_cells3 hX9
            have hKI : (0 : Int) < (K : Int) := by omega
            have hwr : IntKind.i64.wrap ((K : Int) - 1) = (K : Int) - 1 := IntWalk.i64_in _ (by omega)
            have hK1 : ((K : Int) - 1) = ((K - 1 : Nat) : Int) := by omega
            have hcap' : (K : Int) ≤ cp := hcap
            have hKl : K - 1 < K := by omega
            have hKl2 : ((K - 1 : Nat) : Int) < (K : Int) := by omega
            have hq2 : anyB (fun i => hitP f (fun i => pickS (z i)) (SL i)) (K - 1) = false → SC = sc := HG2.out
            have HQ2 := hid hq2
            clear hal hb8 hb9 hfin hq2
            cases hq : anyB (fun i => hitP f (fun i => pickS (z i)) (SL i)) (K - 1) with
            | true =>
              go_wp2_with fail
              obtain ⟨W9, hW9⟩ : ∃ X, (w8.alloc (.cells #[.int .i64 cp, .int .i64 G, .slice A8 K c8] 26)) = X := ⟨_, rfl⟩
              rw [hW9] at hX9 hO9 hf9 r0 r1 r2 ⊢
              clear hW9
              refine (iCacheOk_any cp C A1 K c1 SL _ hO9 hK4 hlenS).mono ?_
              rintro e w10 ⟨rfl, hb10⟩
              rw [HCA.out]
              have hX10 := hX9.below hb10 hX9.lt
              have hf10 := hf9.trans (hb10.mono hf9.size)
              obtain ⟨b, off, Aj, cj, e0, hbj, z0, z1, z2, -⟩ := (hO9.to hb10 hb10.size).at_ hKl
              rw [HE1.out] at z1
              subst e0
              clear z0 z2 hb10 hf9 hO9 r0 r1 r2
              obtain ⟨r0, r1, r2, _, _, _⟩ := blk_cells3 hX10
              clear hX9 hX10
              go_wp2_with fail
              go_ret
              exact ⟨rfl, hf10⟩
            | false =>
              have hsc := HQ2.out hq
              subst hsc
              go_wp2_with fail
              obtain ⟨W9, hW9⟩ : ∃ X, (w8.alloc (.cells #[.int .i64 cp, .int .i64 G, .slice A8 K c8] 26)) = X := ⟨_, rfl⟩
              rw [hW9] at hX9 hO9 hf9 r0 r1 r2 ⊢
              clear hW9
              refine (iCacheOk_any cp C A1 K c1 SL _ hO9 hK4 hlenS).mono ?_
              rintro e w10 ⟨rfl, hb10⟩
              rw [HCA.out]
              have hX10 := hX9.below hb10 hX9.lt
              have hf10 := hf9.trans (hb10.mono hf9.size)
              obtain ⟨b, off, Aj, cj, e0, hbj, z0, z1, z2, -⟩ := (hO9.to hb10 hb10.size).at_ hKl
              rw [HE1.out] at z1
              subst e0
              clear z0 z2 hb10 hf9 hO9 r0 r1 r2
              obtain ⟨r0, r1, r2, _, _, _⟩ := blk_cells3 hX10
              clear hX9 hX10
              go_wp2_with fail
              go_ret
              exact ⟨rfl, hf10⟩
end Go.Proofs.Ytckhooibjmheiaa
