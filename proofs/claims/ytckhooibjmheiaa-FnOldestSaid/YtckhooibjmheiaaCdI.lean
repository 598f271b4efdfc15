/- The law of the slot that goes. -/
import Derived.Test.YtckhooibjmheiaaCdH
import Derived.Test.YtckhooibjmheiaaCaV
namespace Go.Proofs.Ytckhooibjmheiaa
open Go.RowKit Go.Deep
set_option linter.unusedVariables false
set_option linter.unusedSimpArgs false

/-- A full cache into which was put. -/
def FullPut (k K : Nat) (s SL : Nat → Slt) (clock : Int) : Prop :=
  K = k ∧ ∃ o, o < k ∧ (∀ i, i < o → SL i = s i) ∧ (∀ i, o ≤ i → i + 1 < k → SL i = s (i + 1)) ∧ (∀ j, j < k → (s o).used ≤ (s j).used ∧ (s j).used ≤ clock) ∧ (SL (k - 1)).used = clock + 1
theorem fullPut {cap clock : Int} {k : Nat} {s : Nat → Slt} {f : Nat} {z : Nat → Sp} {x : Int} (hY : putY cap clock k s f z = true) (hk0 : ¬ (k : Int) < cap) : FullPut k (pK cap clock k s f z) s (pS cap clock k s f z x) clock := by
  unfold pK pS
  rw [if_pos hY, if_pos hY]
  have hY' := hY
  unfold putY canB at hY'
  simp only [Bool.and_eq_true, decide_eq_true_eq] at hY'
  obtain ⟨⟨hc, hl⟩, hb⟩ := hY'
  obtain ⟨⟨c1, c2⟩, ⟨d1, d2⟩, hk, hs⟩ := cacheB_iff.1 hc
  have e : (k : Int) = cap := by omega
  have hkp : 0 < k := by omega
  unfold putK putS
  rw [if_pos e, if_pos e]
  refine ⟨rfl, oldI (fun i => (s i).used) k, oldI_lt _ _ hkp, fun i hi => ?_, fun i hi hi2 => ?_, fun j hj => ⟨oldI_min (fun i => (s i).used) k j hj, (slotB_iff.1 (hs j hj)).2.2⟩, ?_⟩
  · have := oldI_lt (fun i => (s i).used) k hkp
    unfold addS cutS
    rw [if_neg (by omega), if_pos hi]
  · unfold addS cutS
    rw [if_neg (by omega), if_neg (by omega)]
  · unfold addS
    rw [if_pos rfl]
def matchB (a b : Slt) : Bool := (a.used == b.used) && ((a.score == b.score) && eqBoxB a.n a.g b.n b.g)
theorem matchB_self (a : Slt) : matchB a a = true := by unfold matchB; rw [eqBoxB_self]; simp
/-- Where the walk of both lists stands. -/
def Ph (k o : Nat) (s : Nat → Slt) (i kk gn : Nat) : Prop := (gn = 0 ∧ kk = i ∧ i < k ∧ (o < i → (s i).used = (s o).used)) ∨ (gn = 1 ∧ kk + 1 = i ∧ o < i)
theorem ph_kk {k o i kk gn : Nat} {s : Nat → Slt} (h : Ph k o s i kk gn) (hi : i < k) : kk < k := by rcases h with h | h <;> omega
theorem ph_yes {k o : Nat} {s SL : Nat → Slt} {clock : Int} (ho : o < k) (hA : ∀ i, i < o → SL i = s i) (hB : ∀ i, o ≤ i → i + 1 < k → SL i = s (i + 1)) (hD : ∀ j, j < k → (s o).used ≤ (s j).used ∧ (s j).used ≤ clock) (hE : (SL (k - 1)).used = clock + 1) {i kk gn : Nat} (h : Ph k o s i kk gn) (hi : i < k) (hm : matchB (SL kk) (s i) = true) : Ph k o s (i + 1) (kk + 1) gn := by
  have hu : (SL kk).used = (s i).used := by
    unfold matchB at hm
    simp only [Bool.and_eq_true, beq_iff_eq] at hm
    exact hm.1
  rcases h with ⟨h1, h2, h3, h4⟩ | ⟨h1, h2, h3⟩
  · subst h2
    have hne : kk ≠ k - 1 := fun e => by
      rw [e] at hu
      have := (hD (k - 1) (by omega)).2
      omega
    left
    refine ⟨h1, rfl, by omega, fun hlt => ?_⟩
    have ho' : o ≤ kk := by omega
    rw [hB kk ho' (by omega)] at hu
    rcases Nat.lt_or_ge o kk with q | q
    · rw [hu]; exact h4 q
    · have : o = kk := by omega
      rw [hu, this]
  · right
    exact ⟨h1, by omega, by omega⟩
theorem ph_no {k o : Nat} {s SL : Nat → Slt} {clock : Int} (ho : o < k) (hA : ∀ i, i < o → SL i = s i) (hB : ∀ i, o ≤ i → i + 1 < k → SL i = s (i + 1)) (hD : ∀ j, j < k → (s o).used ≤ (s j).used ∧ (s j).used ≤ clock) {i kk gn : Nat} (h : Ph k o s i kk gn) (hi : i < k) (hm : matchB (SL kk) (s i) = false) : Ph k o s (i + 1) kk (gn + 1) ∧ ∀ j, j < k → ¬ (s j).used < (s i).used := by
  rcases h with ⟨h1, h2, h3, h4⟩ | ⟨h1, h2, h3⟩
  · subst h2
    have ho' : o ≤ kk := by
      rcases Nat.lt_or_ge kk o with q | q
      · rw [hA kk q, matchB_self] at hm
        cases hm
      · exact q
    refine ⟨.inr ⟨by omega, rfl, by omega⟩, fun j hj => ?_⟩
    have hu : (s kk).used = (s o).used := by
      rcases Nat.lt_or_ge o kk with q | q
      · exact h4 q
      · have : o = kk := by omega
        rw [this]
    have := (hD j hj).1
    omega
  · exfalso
    have e := hB kk (by omega) (by omega)
    rw [e, show kk + 1 = i from h2, matchB_self] at hm
    cases hm
theorem put_olds (cap clock : Int) (k : Nat) (s : Nat → Slt) (f : Nat) (z : Nat → Sp) (x : Int) (hgo : k ≤ 8 ∧ ∀ i, i < k → (s i).n ≤ 16) (hf : f ≤ 16) : ∃ (C : Int) (HB : Bool) (SL : Nat → Slt) (k' : Nat), (HB = true → ¬ (k : Int) < cap → FullPut k k' s SL clock) ∧ k' ≤ 4194304 ∧ Hid (∀ i, i < k' → (SL i).n ≤ 4194304) ∧
    Hid (∀ (A : Option Addr) (c : Nat) (D : Option Addr) (dc : Nat) (w : World), RdC w w.heap.size A k s → RdS w w.heap.size D f z → Calls Try.prog 29 #[caV cap clock A k c, .slice D f dc, .int .i64 x] w fun e w' => ∃ A' c', e = .returned (.tuple #[caV cap C A' k' c', .bool HB]) ∧ OwC w' w.heap.size A' k' c' SL ∧ Below w.heap.size w w') ∧
    Hid (∀ (A : Option Addr) (c : Nat) (D : Option Addr) (dc : Nat) (w : World), RdC w w.heap.size A k s → RdS w w.heap.size D f z → Calls Try.prog 30 #[caV cap clock A k c, .slice D f dc, .int .i64 x] w fun e w' => ∃ A' c', e = .returned (.tuple #[caV cap C A' k' c', .bool HB]) ∧ OwC w' w.heap.size A' k' c' SL ∧ Below w.heap.size w w') := by
  have hlen : Hid (∀ i, i < k → (s i).n ≤ 4194304) := fun i hi => by have := hgo.2 i hi; omega
  have hsm : pK cap clock k s f z ≤ 4194304 ∧ ∀ i, i < pK cap clock k s f z → (pS cap clock k s f z x i).n ≤ 4194304 := by
    cases hY : putY cap clock k s f z with
    | true =>
      have := put_good (x := x) hY
      exact ⟨by omega, fun i hi => by have := this.2 i hi; omega⟩
    | false =>
      unfold pK pS
      rw [hY]
      exact ⟨by simp; omega, fun i hi => by simp at hi ⊢; have := hgo.2 i hi; omega⟩
  exact ⟨pClk cap clock k s f z, putY cap clock k s f z, pS cap clock k s f z x, pK cap clock k s f z, fun hY hk => fullPut hY hk, hsm.1, hsm.2, fun A c D dc w h hd => iPut_any cap clock A k c s D f dc z x w h hd (by omega) hlen (by omega), fun A c D dc w h hd => sPut_any cap clock A k c s D f dc z x w h hd (by omega) hlen (by omega)⟩

set_option maxRecDepth 100000 in
set_option maxHeartbeats 4000000 in
theorem lawOldest (A : Option Addr) (n cap : Nat) (w : World) (h : Bs w w.heap.size A n) :
    Calls Try.prog 5 #[.slice A n cap] w fun e w' => e = .returned (.bool true) ∧ Below w.heap.size w w' := by
  by_cases hbig : (1048576 : Int) < (n : Int)
  · go_enter Try.func5, Try.ntmps5
    go_wp2_with fail
    refine (big_yes A n cap _ hbig).mono ?_
    rintro e w1 ⟨rfl, rfl⟩
    go_wp2_with fail
    go_ret
    exact ⟨rfl, Below.refl _ _⟩
  · have hn : n ≤ 4194304 := by omega
    go_enter Try.func5, Try.ntmps5
    go_wp2_with fail
    refine (big_no A n cap _ (by omega)).mono ?_
    rintro e w0 ⟨rfl, rfl⟩
    go_wp2_with fail
    refine (drawCachePut A n cap _ h hn).mono ?_
    rintro e w1 ⟨cp, ck, A', k, c, s, D, f, dc, z, sc, hgo, hf, rfl, hC, hD, hb1⟩
    obtain ⟨C, HB, SL, K, hok, hK4, hlenS, HI, HS⟩ := put_olds cp ck k s f z sc hgo hf
    have HM := hid hok
    have hf4 : f ≤ 4194304 := by omega
    have hlen : Hid (∀ i, i < k → (s i).n ≤ 4194304) := fun i hi => by have := hgo.2 i hi; omega
    have hk8 : k ≤ 8 := hgo.1
    clear hok hgo
    have hw0 := Below.refl w1.heap.size w1
    have hx1 := (Below.refl w1.heap.size w1).alloc (Nat.le_refl _) (.cells #[.int .i64 cp, .int .i64 ck, .slice A' k c] 26)
    have hw_2 := hw0.trans (hx1.mono hw0.size)
    clear hw0
    have hb_3 := Blk.new w1 26 #[.int .i64 cp, .int .i64 ck, .slice A' k c]
    clear hx1
    have hza4 : w1.heap.size + 1 ≤ (w1.alloc (.cells #[.int .i64 cp, .int .i64 ck, .slice A' k c] 26)).heap.size := by rw [World.size_alloc]; exact Nat.le_refl _
    have hza5 : (w1.alloc (.cells #[.int .i64 cp, .int .i64 ck, .slice A' k c] 26)).heap.size ≤ w1.heap.size + 1 := by rw [World.size_alloc]; exact Nat.le_refl _
    obtain ⟨u6, u7, u8, _, _, _⟩ := blk_cells3 hb_3
    go_wp2_with fail
    obtain ⟨W9, e10⟩ : ∃ X, (w1.alloc (.cells #[.int .i64 cp, .int .i64 ck, .slice A' k c] 26)) = X := ⟨_, rfl⟩
    rw [e10] at hb_3 hw_2 u6 u7 u8 hza4 hza5 ⊢
    clear e10
    refine (HI.out A' c D dc _ (hC.to hw_2 hw_2.size) (hD.to hw_2 hw_2.size)).mono ?_
    rintro e w2 ⟨A1, c1, rfl, how2, hqw2⟩
    clear u6 u7 u8
    have hb_11 := Blk.below (w := W9) (w' := w2) hb_3 hqw2 hb_3.lt
    have hw_12 := hw_2.trans (hqw2.mono hw_2.size)
    clear hb_3 hw_2
    clear hqw2
    have hm_13 := hid how2.owM
    clear how2
    have hx14 := (Below.refl w2.heap.size w2).alloc (Nat.le_refl _) (.cells #[.int .i64 cp, .int .i64 C, .slice A1 K c1] 26)
    have hb_15 := Blk.below (w := w2) (w' := (w2.alloc (.cells #[.int .i64 cp, .int .i64 C, .slice A1 K c1] 26))) hb_11 hx14 hb_11.lt
    have hm_16 := hid (OwM.below (w := w2) (w' := (w2.alloc (.cells #[.int .i64 cp, .int .i64 C, .slice A1 K c1] 26))) hm_13.out hx14)
    have hw_17 := hw_12.trans (hx14.mono hw_12.size)
    clear hb_11 hm_13 hw_12
    have hb_18 := Blk.new w2 26 #[.int .i64 cp, .int .i64 C, .slice A1 K c1]
    clear hx14
    have hza19 : w2.heap.size + 1 ≤ (w2.alloc (.cells #[.int .i64 cp, .int .i64 C, .slice A1 K c1] 26)).heap.size := by rw [World.size_alloc]; exact Nat.le_refl _
    have hza20 : (w2.alloc (.cells #[.int .i64 cp, .int .i64 C, .slice A1 K c1] 26)).heap.size ≤ w2.heap.size + 1 := by rw [World.size_alloc]; exact Nat.le_refl _
    obtain ⟨u21, u22, u23, _, _, _⟩ := blk_cells3 hb_15
    obtain ⟨u24, u25, u26, _, _, _⟩ := blk_cells3 hb_18
    go_wp2_with fail
    obtain ⟨W27, e28⟩ : ∃ X, (w2.alloc (.cells #[.int .i64 cp, .int .i64 C, .slice A1 K c1] 26)) = X := ⟨_, rfl⟩
    rw [e28] at hb_15 hb_18 hm_16 hw_17 u21 u22 u23 u24 u25 u26 hza19 hza20 ⊢
    clear e28
    refine (HS.out A' c D dc _ (hC.to hw_17 hw_17.size) (hD.to hw_17 hw_17.size)).mono ?_
    rintro e w3 ⟨A2, c2, rfl, how3, hqw3⟩
    clear u21 u22 u23 u24 u25 u26
    have hb_29 := Blk.below (w := W27) (w' := w3) hb_15 hqw3 hb_15.lt
    have hb_30 := Blk.below (w := W27) (w' := w3) hb_18 hqw3 hb_18.lt
    have hm_31 := hid (OwM.below (w := W27) (w' := w3) hm_16.out hqw3)
    have hw_32 := hw_17.trans (hqw3.mono hw_17.size)
    clear hb_15 hb_18 hm_16 hw_17
    clear hqw3
    have hm_33 := hid how3.owM
    clear how3
    have hx34 := (Below.refl w3.heap.size w3).alloc (Nat.le_refl _) (.cells #[.int .i64 cp, .int .i64 C, .slice A2 K c2] 26)
    have hb_35 := Blk.below (w := w3) (w' := (w3.alloc (.cells #[.int .i64 cp, .int .i64 C, .slice A2 K c2] 26))) hb_29 hx34 hb_29.lt
    have hb_36 := Blk.below (w := w3) (w' := (w3.alloc (.cells #[.int .i64 cp, .int .i64 C, .slice A2 K c2] 26))) hb_30 hx34 hb_30.lt
    have hm_37 := hid (OwM.below (w := w3) (w' := (w3.alloc (.cells #[.int .i64 cp, .int .i64 C, .slice A2 K c2] 26))) hm_31.out hx34)
    have hm_38 := hid (OwM.below (w := w3) (w' := (w3.alloc (.cells #[.int .i64 cp, .int .i64 C, .slice A2 K c2] 26))) hm_33.out hx34)
    have hw_39 := hw_32.trans (hx34.mono hw_32.size)
    clear hb_29 hb_30 hm_31 hm_33 hw_32
    have hb_40 := Blk.new w3 26 #[.int .i64 cp, .int .i64 C, .slice A2 K c2]
    clear hx34
    have hza41 : w3.heap.size + 1 ≤ (w3.alloc (.cells #[.int .i64 cp, .int .i64 C, .slice A2 K c2] 26)).heap.size := by rw [World.size_alloc]; exact Nat.le_refl _
    have hza42 : (w3.alloc (.cells #[.int .i64 cp, .int .i64 C, .slice A2 K c2] 26)).heap.size ≤ w3.heap.size + 1 := by rw [World.size_alloc]; exact Nat.le_refl _
    obtain ⟨u43, u44, u45, _, _, _⟩ := blk_cells3 hb_35
    obtain ⟨u46, u47, u48, _, _, _⟩ := blk_cells3 hb_36
    obtain ⟨u49, u50, u51, _, _, _⟩ := blk_cells3 hb_40
    go_wp2_with fail
    obtain ⟨W52, e53⟩ : ∃ X, (w3.alloc (.cells #[.int .i64 cp, .int .i64 C, .slice A2 K c2] 26)) = X := ⟨_, rfl⟩
    rw [e53] at hb_35 hb_36 hb_40 hm_37 hm_38 hw_39 u43 u44 u45 u46 u47 u48 u49 u50 u51 hza41 hza42 ⊢
    clear e53
    refine (sameC_any cp C A1 A2 K c1 c2 SL _ hm_37.out.rdC hm_38.out.rdC hK4 hlenS).mono ?_
    rintro e w4 ⟨rfl, hqw4⟩
    clear u43 u44 u45 u46 u47 u48 u49 u50 u51
    have hb_54 := Blk.below (w := W52) (w' := w4) hb_35 hqw4 hb_35.lt
    have hb_55 := Blk.below (w := W52) (w' := w4) hb_36 hqw4 hb_36.lt
    have hb_56 := Blk.below (w := W52) (w' := w4) hb_40 hqw4 hb_40.lt
    have hm_57 := hid (OwM.below (w := W52) (w' := w4) hm_37.out hqw4)
    have hm_58 := hid (OwM.below (w := W52) (w' := w4) hm_38.out hqw4)
    have hw_59 := hw_39.trans (hqw4.mono hw_39.size)
    clear hb_35 hb_36 hb_40 hm_37 hm_38 hw_39
    clear hqw4
    clear HI HS
    cases HB with
    | false =>
      obtain ⟨u60, u61, u62, _, _, _⟩ := blk_cells3 hb_54
      obtain ⟨u63, u64, u65, _, _, _⟩ := blk_cells3 hb_55
      obtain ⟨u66, u67, u68, _, _, _⟩ := blk_cells3 hb_56
      go_wp2_with fail
      refine (sameC_any cp C A1 A2 K c1 c2 SL _ hm_57.out.rdC hm_58.out.rdC hK4 hlenS).mono ?_
      rintro e w5 ⟨rfl, hqw5⟩
      clear u60 u61 u62 u63 u64 u65 u66 u67 u68
      have hb_69 := Blk.below (w := w4) (w' := w5) hb_54 hqw5 hb_54.lt
      have hb_70 := Blk.below (w := w4) (w' := w5) hb_55 hqw5 hb_55.lt
      have hb_71 := Blk.below (w := w4) (w' := w5) hb_56 hqw5 hb_56.lt
      have hm_72 := hid (OwM.below (w := w4) (w' := w5) hm_57.out hqw5)
      have hm_73 := hid (OwM.below (w := w4) (w' := w5) hm_58.out hqw5)
      have hw_74 := hw_59.trans (hqw5.mono hw_59.size)
      clear hb_54 hb_55 hb_56 hm_57 hm_58 hw_59
      clear hqw5
      obtain ⟨u75, u76, u77, _, _, _⟩ := blk_cells3 hb_69
      obtain ⟨u78, u79, u80, _, _, _⟩ := blk_cells3 hb_70
      obtain ⟨u81, u82, u83, _, _, _⟩ := blk_cells3 hb_71
      go_wp2_with fail
      go_ret
      exact ⟨rfl, hb1.trans (hw_74.mono hb1.size)⟩
    | true =>
      by_cases hful : (k : Int) < cp
      ·
        obtain ⟨u84, u85, u86, _, _, _⟩ := blk_cells3 hb_54
        obtain ⟨u87, u88, u89, _, _, _⟩ := blk_cells3 hb_55
        obtain ⟨u90, u91, u92, _, _, _⟩ := blk_cells3 hb_56
        go_wp2_with fail
        refine (sameC_any cp C A1 A2 K c1 c2 SL _ hm_57.out.rdC hm_58.out.rdC hK4 hlenS).mono ?_
        rintro e w5 ⟨rfl, hqw5⟩
        clear u84 u85 u86 u87 u88 u89 u90 u91 u92
        have hb_93 := Blk.below (w := w4) (w' := w5) hb_54 hqw5 hb_54.lt
        have hb_94 := Blk.below (w := w4) (w' := w5) hb_55 hqw5 hb_55.lt
        have hb_95 := Blk.below (w := w4) (w' := w5) hb_56 hqw5 hb_56.lt
        have hm_96 := hid (OwM.below (w := w4) (w' := w5) hm_57.out hqw5)
        have hm_97 := hid (OwM.below (w := w4) (w' := w5) hm_58.out hqw5)
        have hw_98 := hw_59.trans (hqw5.mono hw_59.size)
        clear hb_54 hb_55 hb_56 hm_57 hm_58 hw_59
        clear hqw5
        obtain ⟨u99, u100, u101, _, _, _⟩ := blk_cells3 hb_93
        obtain ⟨u102, u103, u104, _, _, _⟩ := blk_cells3 hb_94
        obtain ⟨u105, u106, u107, _, _, _⟩ := blk_cells3 hb_95
        go_wp2_with fail
        go_ret
        exact ⟨rfl, hb1.trans (hw_98.mono hb1.size)⟩
      · have hok : FullPut k K s SL ck := HM.out (by first | rfl | trivial) (by first | exact hful | omega)
        clear HM
        obtain ⟨e, o, ho, hA, hB, hDD, hE⟩ := hok
        have e := e.symm
        subst e
        have HA := hid hA
        have HBB := hid hB
        have HDD := hid hDD
        have HEE := hid hE
        clear hA hB hDD hE
        obtain ⟨u108, u109, u110, _, _, _⟩ := blk_cells3 hb_54
        obtain ⟨u111, u112, u113, _, _, _⟩ := blk_cells3 hb_55
        obtain ⟨u114, u115, u116, _, _, _⟩ := blk_cells3 hb_56
        go_wp2_with fail
        clear u108 u109 u110 u111 u112 u113 u114 u115 u116
        have HCB := hid hb_54
        have HX := hid hb_55
        have HO := hid hm_57.out.rdC
        have HCW := hid (hC.to hw_59 hw_59.size)
        have HWW := hid (hb1.trans (hw_59.mono hb1.size))
        clear hb_54 hb_55 hb_56 hm_57 hm_58 hw_59 hC hD hb1
        go_loopw [10, 11, 12] (fun kv gv iv wr => ∃ i kk gn : Nat, i ≤ k ∧ iv = .int .i64 i ∧ kv = .int .i64 kk ∧ gv = .int .i64 gn ∧ Hid (Ph k o s i kk gn) ∧ Hid (Below w4.heap.size w4 wr)) (fun _ _ iv _ => k - (intOf iv).toNat)
        case atStart => exact ⟨0, 0, 0, Nat.zero_le _, rfl, rfl, rfl, hid (.inl ⟨rfl, rfl, by omega, fun h => absurd h (by omega)⟩), Below.refl _ _⟩
        case round =>
          obtain ⟨i, kk, gn, hi, rfl, rfl, rfl, hph, hbl⟩ := hrel
          obtain ⟨x0, x1, x2, _, _, _⟩ := blk_cells3 (HCB.out.below hbl.out HCB.out.lt)
          obtain ⟨x3, x4, x5, _, _, _⟩ := blk_cells3 (HX.out.below hbl.out HX.out.lt)
          by_cases hlt : i < k
          · have hkk := ph_kk hph.out hlt
            have hgn : gn ≤ 1 := by rcases hph.out with h | h <;> omega
            have i1 : (i : Int) < (k : Int) := by omega
            have i2 : (0 : Int) ≤ (i : Int) := by omega
            have i3 : (kk : Int) < (k : Int) := by omega
            have i4 : (0 : Int) ≤ (kk : Int) := by omega
            obtain ⟨b, off, Ai, ci, e0, hbi, z0, z1, z2, zb⟩ := (HCW.out.to hbl.out hbl.out.size).at_ hlt
            obtain ⟨b2, off2, Bi, di, e2, hbx, y0, y1, y2, yb⟩ := (HO.out.to hbl.out hbl.out.size).at_ hkk
            have hnc : (s i).n ≤ 4194304 := hlen.out i hlt
            have hnx : (SL kk).n ≤ 4194304 := hlenS.out kk hkk
            subst e0
            subst e2
            have hal := (Below.refl wr.heap.size wr).alloc (Nat.le_refl _) (.cells #[.slice Ai (s i).n ci, .int .i64 (s i).score, .int .i64 (s i).used] 37)
            have hS2 := Blk.new wr 37 #[.slice Ai (s i).n ci, .int .i64 (s i).score, .int .i64 (s i).used]
            have hX2 := (HX.out.below hbl.out HX.out.lt).below hal (HX.out.below hbl.out HX.out.lt).lt
            have y0' := (hal.cell (lt_of_cell y0)).trans y0
            have y1' := (hal.cell (lt_of_cell y1)).trans y1
            have y2' := (hal.cell (lt_of_cell y2)).trans y2
            have zb' := zb.to hal hal.size
            have yb' := yb.to hal hal.size
            go_wp2_with fail
            obtain ⟨W2, hW2⟩ : ∃ X, (wr.alloc (.cells #[.slice Ai (s i).n ci, .int .i64 (s i).score, .int .i64 (s i).used] 37)) = X := ⟨_, rfl⟩
            rw [hW2] at hal hS2 hX2 y0' y1' y2' zb' yb' ⊢
            clear hW2
            have T0 : W2.cell? ⟨w2.heap.size, 2, none⟩ = some (.slice (some ⟨b2, off2, none⟩) k c1) ∧ W2.cell? ⟨b2, off2 + kk * 3, none⟩ = some (.slice Bi (SL kk).n di) ∧ W2.cell? ⟨b2, off2 + kk * 3 + 1, none⟩ = some (.int .i64 (SL kk).score) ∧ W2.cell? ⟨b2, off2 + kk * 3 + 2, none⟩ = some (.int .i64 (SL kk).used) ∧ W2.cell? ⟨wr.heap.size, 0, none⟩ = some (.slice Ai (s i).n ci) ∧ W2.cell? ⟨wr.heap.size, 1, none⟩ = some (.int .i64 (s i).score) ∧ W2.cell? ⟨wr.heap.size, 2, none⟩ = some (.int .i64 (s i).used) := ⟨hX2.cell 2, y0', y1', y2', hS2.cell 0, hS2.cell 1, hS2.cell 2⟩
            have HC : Hid (∀ W', Below W2.heap.size W2 W' → W'.cell? ⟨w2.heap.size, 2, none⟩ = some (.slice (some ⟨b2, off2, none⟩) k c1) ∧ W'.cell? ⟨b2, off2 + kk * 3, none⟩ = some (.slice Bi (SL kk).n di) ∧ W'.cell? ⟨b2, off2 + kk * 3 + 1, none⟩ = some (.int .i64 (SL kk).score) ∧ W'.cell? ⟨b2, off2 + kk * 3 + 2, none⟩ = some (.int .i64 (SL kk).used) ∧ W'.cell? ⟨wr.heap.size, 0, none⟩ = some (.slice Ai (s i).n ci) ∧ W'.cell? ⟨wr.heap.size, 1, none⟩ = some (.int .i64 (s i).score) ∧ W'.cell? ⟨wr.heap.size, 2, none⟩ = some (.int .i64 (s i).used)) := fun W' hW => ⟨(hW.cell (lt_of_cell T0.1)).trans T0.1, (hW.cell (lt_of_cell T0.2.1)).trans T0.2.1, (hW.cell (lt_of_cell T0.2.2.1)).trans T0.2.2.1, (hW.cell (lt_of_cell T0.2.2.2.1)).trans T0.2.2.2.1, (hW.cell (lt_of_cell T0.2.2.2.2.1)).trans T0.2.2.2.2.1, (hW.cell (lt_of_cell T0.2.2.2.2.2.1)).trans T0.2.2.2.2.2.1, (hW.cell (lt_of_cell T0.2.2.2.2.2.2)).trans T0.2.2.2.2.2.2⟩
            have HRX : Hid (∀ W', Below W2.heap.size W2 W' → RdS W' W'.heap.size Bi (SL kk).n (SL kk).g) := fun W' hW => yb'.to hW hW.size
            have HRC : Hid (∀ W', Below W2.heap.size W2 W' → RdS W' W'.heap.size Ai (s i).n (s i).g) := fun W' hW => zb'.to hW hW.size
            have D0 := hid ((Below.refl W2.heap.size W2).drew)
            have HS2 := hid hS2
            have hbl2 := hid (hbl.out.trans (hal.mono hbl.out.size))
            clear T0 hS2 hX2 y0 y1 y2 y0' y1' y2' z0 z1 z2 zb yb zb' yb' x0 x1 x2 x3 x4 x5 hal hbl
            cases h1 : ((SL kk).used == (s i).used) with
            | false =>
              refine region_classC (C := fun W' => Below W2.heap.size W2 W') (by kernel_rfl) (by kernel_rfl) D0.out ?_
              repeat
                with_reducible refine wpQuiet_step (fun K hK => ?_)
                first
                  | (rw [if_pos (by rfl)]; apply Exists.intro; refine ⟨fun W' hW => ?_, hK _ ?_⟩; (first
                      | (obtain ⟨t1, t2, t3, t4, t5, t6, t7⟩ := HC.out W' hW; go_simp <;> with_reducible rfl)); clear hK K; (try simp only [Act.put, List.setIfInBounds_toArray, List.set_cons_zero, List.set_cons_succ]))
                  | (refine Eq.mpr (if_neg ?_) (hK _ ?_); exact (fun h => Bool.false_ne_true h); clear hK K; (try simp only [Act.put, List.setIfInBounds_toArray, List.set_cons_zero, List.set_cons_succ]))
              refine wpQuiet_nil ?_
              intro WZ hZ'
              have hZ : Below W2.heap.size W2 WZ := hZ'
              clear hZ'
              have hm : matchB (SL kk) (s i) = false := by unfold matchB; rw [h1]; rfl
              obtain ⟨hp2, hmin⟩ := ph_no ho HA.out HBB.out HDD.out hph.out hlt hm
              have hph2 := hid hp2
              have HMIN := hid hmin
              clear h1 hm hp2 hmin
              have hblz := hid (hbl2.out.trans (hZ.mono hbl2.out.size))
              have HSZ := hid (HS2.out.below hZ HS2.out.lt)
              clear hZ
              go_wp2_with fail
              go_loopw [14] (fun jv w6 => ∃ j : Nat, j ≤ k ∧ jv = .int .i64 j ∧ Hid (Below WZ.heap.size WZ w6)) (fun jv _ => k - (intOf jv).toNat)
              case atStart => exact ⟨0, Nat.zero_le _, rfl, Below.refl _ _⟩
              case round =>
                obtain ⟨j, hj, rfl, hb6⟩ := hrel
                have hbl6 := hid (hblz.out.trans (hb6.out.mono hblz.out.size))
                obtain ⟨u0, u1, u2, _, _, _⟩ := blk_cells3 (HCB.out.below hbl6.out HCB.out.lt)
                obtain ⟨v0, v1, v2, _, _, _⟩ := blk_cells3 (HSZ.out.below hb6.out HSZ.out.lt)
                by_cases hjl : j < k
                · obtain ⟨b3, off3, Aj, cj, e3, hbj, z0, z1, z2, -⟩ := (HCW.out.to hbl6.out hbl6.out.size).at_ hjl
                  obtain ⟨rfl, rfl⟩ : b = b3 ∧ off = off3 := by simpa using e3
                  have hnl : ¬ (s j).used < (s i).used := by have := HMIN.out j hjl; omega
                  have j1 : (j : Int) < (k : Int) := by omega
                  have j2 : (0 : Int) ≤ (j : Int) := by omega
                  have hb7 := hid hb6.out.drew
                  go_wp2_with fail
                  go_region
                  all_goals
                    go_wp2_with fail
                    go_roundw
                    case rel => exact ⟨j + 1, by omega, by go_num, hb7⟩
                    case measure => simp [intOf]; omega
                · go_wp2_with fail
                  go_roundw
                  case rel => exact ⟨i + 1, kk, gn + 1, by omega, by go_num, rfl, by go_num, hph2, hbl6⟩
                  case measure => simp [intOf]; omega
            | true =>
              cases h2 : ((SL kk).score == (s i).score) with
              | false =>
                refine region_classC (C := fun W' => Below W2.heap.size W2 W') (by kernel_rfl) (by kernel_rfl) D0.out ?_
                repeat
                  with_reducible refine wpQuiet_step (fun K hK => ?_)
                  first
                    | (rw [if_pos (by rfl)]; apply Exists.intro; refine ⟨fun W' hW => ?_, hK _ ?_⟩; (first
                        | (obtain ⟨t1, t2, t3, t4, t5, t6, t7⟩ := HC.out W' hW; go_simp <;> with_reducible rfl)); clear hK K; (try simp only [Act.put, List.setIfInBounds_toArray, List.set_cons_zero, List.set_cons_succ]))
                    | (refine Eq.mpr (if_neg ?_) (hK _ ?_); exact (fun h => Bool.false_ne_true h); clear hK K; (try simp only [Act.put, List.setIfInBounds_toArray, List.set_cons_zero, List.set_cons_succ]))
                refine wpQuiet_nil ?_
                intro WZ hZ'
                have hZ : Below W2.heap.size W2 WZ := hZ'
                clear hZ'
                have hm : matchB (SL kk) (s i) = false := by unfold matchB; rw [h1, h2]; rfl
                obtain ⟨hp2, hmin⟩ := ph_no ho HA.out HBB.out HDD.out hph.out hlt hm
                have hph2 := hid hp2
                have HMIN := hid hmin
                clear h1 h2 hm hp2 hmin
                have hblz := hid (hbl2.out.trans (hZ.mono hbl2.out.size))
                have HSZ := hid (HS2.out.below hZ HS2.out.lt)
                clear hZ
                go_wp2_with fail
                go_loopw [14] (fun jv w6 => ∃ j : Nat, j ≤ k ∧ jv = .int .i64 j ∧ Hid (Below WZ.heap.size WZ w6)) (fun jv _ => k - (intOf jv).toNat)
                case atStart => exact ⟨0, Nat.zero_le _, rfl, Below.refl _ _⟩
                case round =>
                  obtain ⟨j, hj, rfl, hb6⟩ := hrel
                  have hbl6 := hid (hblz.out.trans (hb6.out.mono hblz.out.size))
                  obtain ⟨u0, u1, u2, _, _, _⟩ := blk_cells3 (HCB.out.below hbl6.out HCB.out.lt)
                  obtain ⟨v0, v1, v2, _, _, _⟩ := blk_cells3 (HSZ.out.below hb6.out HSZ.out.lt)
                  by_cases hjl : j < k
                  · obtain ⟨b3, off3, Aj, cj, e3, hbj, z0, z1, z2, -⟩ := (HCW.out.to hbl6.out hbl6.out.size).at_ hjl
                    obtain ⟨rfl, rfl⟩ : b = b3 ∧ off = off3 := by simpa using e3
                    have hnl : ¬ (s j).used < (s i).used := by have := HMIN.out j hjl; omega
                    have j1 : (j : Int) < (k : Int) := by omega
                    have j2 : (0 : Int) ≤ (j : Int) := by omega
                    have hb7 := hid hb6.out.drew
                    go_wp2_with fail
                    go_region
                    all_goals
                      go_wp2_with fail
                      go_roundw
                      case rel => exact ⟨j + 1, by omega, by go_num, hb7⟩
                      case measure => simp [intOf]; omega
                  · go_wp2_with fail
                    go_roundw
                    case rel => exact ⟨i + 1, kk, gn + 1, by omega, by go_num, rfl, by go_num, hph2, hbl6⟩
                    case measure => simp [intOf]; omega
              | true =>
                cases h3 : eqBoxB (SL kk).n (SL kk).g (s i).n (s i).g with
                | false =>
                  refine region_classC (C := fun W' => Below W2.heap.size W2 W') (by kernel_rfl) (by kernel_rfl) D0.out ?_
                  repeat
                    with_reducible refine wpQuiet_step (fun K hK => ?_)
                    first
                      | (rw [if_pos (by rfl)]; apply Exists.intro; refine ⟨fun W' hW => ?_, hK _ ?_⟩; (first
                          | (obtain ⟨t1, t2, t3, t4, t5, t6, t7⟩ := HC.out W' hW; go_simp <;> with_reducible rfl)
                          | (go_simp; go_at_call 32; with_reducible refine Calls.mono (sameBox_any Bi Ai (SL kk).n (s i).n di ci (SL kk).g (s i).g W' (HRX.out W' hW) (HRC.out W' hW) hnx hnc) ?_; rintro e w9 ⟨rfl, hb9⟩; rw [h3]; exact ⟨rfl, hW.trans (hb9.mono hW.size)⟩)); clear hK K; (try simp only [Act.put, List.setIfInBounds_toArray, List.set_cons_zero, List.set_cons_succ]))
                      | (refine Eq.mpr (if_neg ?_) (hK _ ?_); exact (fun h => Bool.false_ne_true h); clear hK K; (try simp only [Act.put, List.setIfInBounds_toArray, List.set_cons_zero, List.set_cons_succ]))
                  refine wpQuiet_nil ?_
                  intro WZ hZ'
                  have hZ : Below W2.heap.size W2 WZ := hZ'
                  clear hZ'
                  have hm : matchB (SL kk) (s i) = false := by unfold matchB; rw [h1, h2, h3]; rfl
                  obtain ⟨hp2, hmin⟩ := ph_no ho HA.out HBB.out HDD.out hph.out hlt hm
                  have hph2 := hid hp2
                  have HMIN := hid hmin
                  clear h1 h2 h3 hm hp2 hmin
                  have hblz := hid (hbl2.out.trans (hZ.mono hbl2.out.size))
                  have HSZ := hid (HS2.out.below hZ HS2.out.lt)
                  clear hZ
                  go_wp2_with fail
                  go_loopw [14] (fun jv w6 => ∃ j : Nat, j ≤ k ∧ jv = .int .i64 j ∧ Hid (Below WZ.heap.size WZ w6)) (fun jv _ => k - (intOf jv).toNat)
                  case atStart => exact ⟨0, Nat.zero_le _, rfl, Below.refl _ _⟩
                  case round =>
                    obtain ⟨j, hj, rfl, hb6⟩ := hrel
                    have hbl6 := hid (hblz.out.trans (hb6.out.mono hblz.out.size))
                    obtain ⟨u0, u1, u2, _, _, _⟩ := blk_cells3 (HCB.out.below hbl6.out HCB.out.lt)
                    obtain ⟨v0, v1, v2, _, _, _⟩ := blk_cells3 (HSZ.out.below hb6.out HSZ.out.lt)
                    by_cases hjl : j < k
                    · obtain ⟨b3, off3, Aj, cj, e3, hbj, z0, z1, z2, -⟩ := (HCW.out.to hbl6.out hbl6.out.size).at_ hjl
                      obtain ⟨rfl, rfl⟩ : b = b3 ∧ off = off3 := by simpa using e3
                      have hnl : ¬ (s j).used < (s i).used := by have := HMIN.out j hjl; omega
                      have j1 : (j : Int) < (k : Int) := by omega
                      have j2 : (0 : Int) ≤ (j : Int) := by omega
                      have hb7 := hid hb6.out.drew
                      go_wp2_with fail
                      go_region
                      all_goals
                        go_wp2_with fail
                        go_roundw
                        case rel => exact ⟨j + 1, by omega, by go_num, hb7⟩
                        case measure => simp [intOf]; omega
                    · go_wp2_with fail
                      go_roundw
                      case rel => exact ⟨i + 1, kk, gn + 1, by omega, by go_num, rfl, by go_num, hph2, hbl6⟩
                      case measure => simp [intOf]; omega
                | true =>
                  refine region_classC (C := fun W' => Below W2.heap.size W2 W') (by kernel_rfl) (by kernel_rfl) D0.out ?_
                  repeat
                    with_reducible refine wpQuiet_step (fun K hK => ?_)
                    first
                      | (rw [if_pos (by rfl)]; apply Exists.intro; refine ⟨fun W' hW => ?_, hK _ ?_⟩; (first
                          | (obtain ⟨t1, t2, t3, t4, t5, t6, t7⟩ := HC.out W' hW; go_simp <;> with_reducible rfl)
                          | (go_simp; go_at_call 32; with_reducible refine Calls.mono (sameBox_any Bi Ai (SL kk).n (s i).n di ci (SL kk).g (s i).g W' (HRX.out W' hW) (HRC.out W' hW) hnx hnc) ?_; rintro e w9 ⟨rfl, hb9⟩; rw [h3]; exact ⟨rfl, hW.trans (hb9.mono hW.size)⟩)); clear hK K; (try simp only [Act.put, List.setIfInBounds_toArray, List.set_cons_zero, List.set_cons_succ]))
                      | (refine Eq.mpr (if_neg ?_) (hK _ ?_); exact (fun h => Bool.false_ne_true h); clear hK K; (try simp only [Act.put, List.setIfInBounds_toArray, List.set_cons_zero, List.set_cons_succ]))
                  refine wpQuiet_nil ?_
                  intro WZ hZ'
                  have hZ : Below W2.heap.size W2 WZ := hZ'
                  clear hZ'
                  have hm : matchB (SL kk) (s i) = true := by unfold matchB; rw [h1, h2, h3]; rfl
                  have hph2 := hid (ph_yes ho HA.out HBB.out HDD.out HEE.out hph.out hlt hm)
                  clear h1 h2 h3 hm
                  have hbl3 := hid (hbl2.out.trans (hZ.mono hbl2.out.size))
                  clear hZ
                  go_wp2_with fail
                  go_roundw
                  case rel => exact ⟨i + 1, kk + 1, gn, by omega, by go_num, by go_num, rfl, hph2, hbl3⟩
                  case measure => simp [intOf]; omega
          · have e : i = k := by omega
            subst e
            have hfin := HWW.out.trans (hbl.out.mono HWW.out.size)
            rcases hph.out with ⟨q1, q2, q3, _⟩ | ⟨q1, q2, q3⟩
            · omega
            · subst q1
              have hwr : IntKind.i64.wrap ((i : Int) - 1) = (i : Int) - 1 := IntWalk.i64_in _ (by omega)
              have hkq : (kk : Int) = (i : Int) - 1 := by omega
              have hqq : ((kk : Int) == (i : Int) - 1) = true := by rw [hkq]; simp
              go_wp2_with fail
              go_ret
              exact ⟨rfl, hfin⟩
end Go.Proofs.Ytckhooibjmheiaa
