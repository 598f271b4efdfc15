/- The walk of the exact law of CachePut. -/
import Derived.Test.YtckhooibjmheiaaCaW
import Derived.Test.YtckhooibjmheiaaCaT
import Derived.Deep.RegionHeld3
namespace Go.Proofs.Ytckhooibjmheiaa
open Go.RowKit Go.Deep
set_option linter.unusedVariables false
set_option linter.unusedSimpArgs false

theorem cumN_eight {s : Nat → Slt} : ∀ k, (∀ i, i < k → (s i).n ≤ 6) → cumN s k ≤ 6 * k := by
  intro k
  induction k with
  | zero => intro _; exact Nat.le_refl _
  | succ k ih => intro h; simp only [cumN]; have := ih fun i hi => h i (by omega); have := h k (by omega); omega
theorem put_small {cap clock : Int} {k : Nat} {s : Nat → Slt} {n : Nat} {g : Nat → Sp} {x : Int} (hm : cumN s k + k ≤ 4194304) : pK cap clock k s n g ≤ 4194304 ∧ cumN (pS cap clock k s n g x) (pK cap clock k s n g) + pK cap clock k s n g ≤ 4194304 := by
  unfold pK pS
  cases hY : putY cap clock k s n g with
  | false => exact ⟨by simp; omega, by simpa using hm⟩
  | true =>
    have hY' := hY
    unfold putY canB at hY'
    simp only [Bool.and_eq_true] at hY'
    obtain ⟨⟨hc, _⟩, hb⟩ := hY'
    obtain ⟨⟨c1, c2⟩, _, hk, hs⟩ := cacheB_iff.1 hc
    have hn := (boxB_iff.1 hb).2.1
    have h6 : ∀ i, i < k → (s i).n ≤ 6 := fun i hi => (boxB_iff.1 (slotB_iff.1 (hs i hi)).1).2.1
    simp only [if_true]
    have hK : putK cap k ≤ 8 := by unfold putK; split <;> omega
    have hall : ∀ i, i < putK cap k → (putS cap k s ⟨n, g, x, clock + 1⟩ i).n ≤ 6 := fun i hi => by
      unfold putS
      by_cases e : (k : Int) = cap
      · rw [if_pos e]
        unfold putK at hi
        rw [if_pos e] at hi
        unfold addS cutS
        by_cases q : i = k - 1
        · rw [if_pos q]; exact hn
        · rw [if_neg q]
          by_cases q2 : i < oldI (fun i => (s i).used) k
          · rw [if_pos q2]; exact h6 i (by omega)
          · rw [if_neg q2]; exact h6 (i + 1) (by omega)
      · rw [if_neg e]
        unfold putK at hi
        rw [if_neg e] at hi
        unfold addS
        by_cases q : i = k
        · rw [if_pos q]; exact hn
        · rw [if_neg q]; exact h6 i (by omega)
    have := cumN_eight _ hall
    exact ⟨by omega, by omega⟩
/-- Both sides of CachePut, what they answer in plain names. -/
theorem put_both (cap clock : Int) (k : Nat) (s : Nat → Slt) (f : Nat) (z : Nat → Sp) (x : Int) (hn : k ≤ 4194304) (hlen : Hid (∀ i, i < k → (s i).n ≤ 4194304)) (hf : f ≤ 4194304) (hm : cumN s k + k ≤ 4194304) : ∃ (C : Int) (HB : Bool) (SL : Nat → Slt) (k' : Nat), k' ≤ 4194304 ∧ cumN SL k' + k' ≤ 4194304 ∧
    Hid (∀ (A : Option Addr) (c : Nat) (D : Option Addr) (dc : Nat) (w : World), RdC w w.heap.size A k s → RdS w w.heap.size D f z → Calls Try.prog 29 #[caV cap clock A k c, .slice D f dc, .int .i64 x] w fun e w' => ∃ A' c', e = .returned (.tuple #[caV cap C A' k' c', .bool HB]) ∧ OwC w' w.heap.size A' k' c' SL ∧ Below w.heap.size w w') ∧
    Hid (∀ (A : Option Addr) (c : Nat) (D : Option Addr) (dc : Nat) (w : World), RdC w w.heap.size A k s → RdS w w.heap.size D f z → Calls Try.prog 30 #[caV cap clock A k c, .slice D f dc, .int .i64 x] w fun e w' => ∃ A' c', e = .returned (.tuple #[caV cap C A' k' c', .bool HB]) ∧ OwC w' w.heap.size A' k' c' SL ∧ Below w.heap.size w w') :=
  ⟨pClk cap clock k s f z, putY cap clock k s f z, pS cap clock k s f z x, pK cap clock k s f z, (put_small (x := x) hm).1, (put_small hm).2, fun A c D dc w h hd => iPut_any cap clock A k c s D f dc z x w h hd hn hlen hf, fun A c D dc w h hd => sPut_any cap clock A k c s D f dc z x w h hd hn hlen hf⟩

set_option maxRecDepth 100000 in
set_option maxHeartbeats 8000000 in
theorem lawCachePut (cap clock : Int) (A : Option Addr) (k c : Nat) (s : Nat → Slt) (D : Option Addr) (f dc : Nat) (zz : Nat → Sp) (x : Int) (w : World) (h : RdC w w.heap.size A k s) (hk0 : k ≤ 9223372036854775807) (hlen0 : ∀ i, i < k → (s i).n ≤ 9223372036854775807) (hd : RdS w w.heap.size D f zz) (hf0 : f ≤ 9223372036854775807) :
    Calls Try.prog 9 #[caV cap clock A k c, .slice D f dc, .int .i64 x] w fun e w' => e = .returned (.bool true) ∧ Below w.heap.size w w' := by
  have HLEN := hid hlen0
  clear hlen0
  have hb1 := (Below.refl w.heap.size w).alloc (Nat.le_refl _) (.cells #[.int .i64 cap, .int .i64 clock, .slice A k c] 46)
  have hE1 := Blk.new w 46 #[.int .i64 cap, .int .i64 clock, .slice A k c]
  go_enter Try.func9, Try.ntmps9
  have hza1 : w.heap.size + 1 ≤ (w.alloc (.cells #[.int .i64 cap, .int .i64 clock, .slice A k c] 46)).heap.size := by rw [World.size_alloc]; exact Nat.le_refl _
  obtain ⟨u2, u3, u4, _, _, _⟩ := blk_cells3 hE1
  go_wp2_with fail
  obtain ⟨W5, e6⟩ : ∃ X, (w.alloc (.cells #[.int .i64 cap, .int .i64 clock, .slice A k c] 46)) = X := ⟨_, rfl⟩
  rw [e6] at hE1 hb1 u2 u3 u4 hza1 ⊢
  clear e6
  refine (szC_any cap clock A k c s 1048576 _ (h.to hb1 hb1.size) hk0 HLEN (by omega) (by omega)).mono ?_
  rintro e w2 ⟨y, rfl, hy, hb2⟩
  clear u2 u3 u4
  have hb_7 := Blk.below (w := W5) (w' := w2) hE1 hb2 hE1.lt
  have hw_8 := hb1.trans (hb2.mono hb1.size)
  clear hE1 hb1
  have hzhb2 := hb2.size
  clear hb2
  by_cases hneg : y < 0
  · clear hy
    go_wp2_with fail
    go_ret
    exact ⟨rfl, hw_8⟩
  have hsm : y + k + cumN s k ≤ 1048576 ∧ 0 ≤ y := by
    rcases hy with h | h
    · exact absurd h hneg
    · exact ⟨by omega, h.1⟩
  have hm : cumN s k + k ≤ 1048576 := by omega
  have hn : k ≤ 4194304 := by omega
  have hlen : Hid (∀ i, i < k → (s i).n ≤ 4194304) := fun i hi => by have := cumN_le s hi; omega
  have hy0 := hsm.2
  have hy1 : y ≤ 1048576 := by omega
  clear hy hsm hk0 HLEN
  by_cases hbx : y - (f : Int) < 0
  · go_wp2_with fail
    refine (szS_big D f dc y _ hf0 hy0 hy1 (by omega)).mono ?_
    rintro e w3 ⟨rfl, rfl⟩
    go_wp2_with fail
    go_ret
    exact ⟨rfl, hw_8⟩
  have hff : f ≤ 1048576 := by omega
  obtain ⟨u9, u10, u11, _, _, _⟩ := blk_cells3 hb_7
  go_wp2_with fail
  refine (szS_ok D f dc y _ hf0 hy0 hy1 (by omega)).mono ?_
  rintro e w3 ⟨rfl, rfl⟩
  have hf4 : f ≤ 4194304 := by omega
  clear hy0
  obtain ⟨C, HB, SL, K, hK4, hmS, HI, HS⟩ := put_both cap clock k s f zz x hn hlen hf4 (by omega)
  have hlenK : Hid (∀ i, i < K → (SL i).n ≤ 4194304) := fun i hi => by have := cumN_le SL hi; omega
  have qb : (HB != HB) = false := by simp
  clear u9 u10 u11
  obtain ⟨u12, u13, u14, _, _, _⟩ := blk_cells3 hb_7
  go_wp2_with fail
  refine (toC_any cap clock A k c s _ (h.to hw_8 hw_8.size) hn hlen).mono ?_
  rintro e v18 ⟨bc15, rfl, ho16, hq17⟩
  clear u12 u13 u14
  have hb_19 := Blk.below (w := w2) (w' := v18) hb_7 hq17 hb_7.lt
  have hw_20 := hw_8.trans (hq17.mono hw_8.size)
  clear hb_7 hw_8
  have hzhq17 := hq17.size
  clear hq17
  have hm_21 := hid ho16.owM
  clear ho16
  obtain ⟨u22, u23, u24, _, _, _⟩ := blk_cells3 hb_19
  go_wp2_with fail
  refine (toS_any D f dc zz _ (hd.to hw_20 hw_20.size) hf4).mono ?_
  rintro e v28 ⟨bx25, rfl, hl29, hr_26', hq27⟩
  clear u22 u23 u24
  have hb_30 := Blk.below (w := v18) (w' := v28) hb_19 hq27 hb_19.lt
  have hm_31 := hid (OwM.below (w := v18) (w' := v28) hm_21.out hq27)
  have hw_32 := hw_20.trans (hq27.mono hw_20.size)
  clear hb_19 hm_21 hw_20
  have hzhq27 := hq27.size
  clear hq27
  have huhr_26 : bx25 < v28.heap.size := hr_26'.lt
  have hr_26 := hid hr_26'
  clear hr_26'
  obtain ⟨u33, u34, u35, _, _, _⟩ := blk_cells3 hb_30
  go_wp2_with fail
  refine (HS.out _ _ _ _ _ hm_31.out.rdC (rds_of hr_26.out)).mono ?_
  rintro e v40 ⟨A36, c37, rfl, ho38, hq39⟩
  clear u33 u34 u35
  have hb_41 := Blk.below (w := v28) (w' := v40) hb_30 hq39 hb_30.lt
  have hm_42 := hid (OwM.below (w := v28) (w' := v40) hm_31.out hq39)
  have hr_43 := hid (RowS.below (w := v28) (w' := v40) hr_26.out hq39 hr_26.out.lt)
  have hw_44 := hw_32.trans (hq39.mono hw_32.size)
  clear hb_30 hm_31 hr_26 hw_32
  have hzhq39 := hq39.size
  clear hq39
  have hm_45 := hid ho38.owM
  clear ho38
  clear hm_42
  clear hr_43
  have hx46 := (Below.refl v40.heap.size v40).alloc (Nat.le_refl _) (.cells #[.int .i64 cap, .int .i64 C, .slice A36 K c37] 26)
  have hb_47 := Blk.below (w := v40) (w' := (v40.alloc (.cells #[.int .i64 cap, .int .i64 C, .slice A36 K c37] 26))) hb_41 hx46 hb_41.lt
  have hm_48 := hid (OwM.below (w := v40) (w' := (v40.alloc (.cells #[.int .i64 cap, .int .i64 C, .slice A36 K c37] 26))) hm_45.out hx46)
  have hw_49 := hw_44.trans (hx46.mono hw_44.size)
  clear hb_41 hm_45 hw_44
  have hb_50 := Blk.new v40 26 #[.int .i64 cap, .int .i64 C, .slice A36 K c37]
  clear hx46
  have hza51 : v40.heap.size + 1 ≤ (v40.alloc (.cells #[.int .i64 cap, .int .i64 C, .slice A36 K c37] 26)).heap.size := by rw [World.size_alloc]; exact Nat.le_refl _
  have hza52 : (v40.alloc (.cells #[.int .i64 cap, .int .i64 C, .slice A36 K c37] 26)).heap.size ≤ v40.heap.size + 1 := by rw [World.size_alloc]; exact Nat.le_refl _
  obtain ⟨u53, u54, u55, _, _, _⟩ := blk_cells3 hb_47
  obtain ⟨u56, u57, u58, _, _, _⟩ := blk_cells3 hb_50
  go_wp2_with fail
  obtain ⟨W59, e60⟩ : ∃ X, (v40.alloc (.cells #[.int .i64 cap, .int .i64 C, .slice A36 K c37] 26)) = X := ⟨_, rfl⟩
  rw [e60] at hb_47 hb_50 hm_48 hw_49 u53 u54 u55 u56 u57 u58 hza51 hza52 ⊢
  clear e60
  refine (toC_any cap clock A k c s _ (h.to hw_49 hw_49.size) hn hlen).mono ?_
  rintro e v64 ⟨bc61, rfl, ho62, hq63⟩
  clear u53 u54 u55 u56 u57 u58
  have hb_65 := Blk.below (w := W59) (w' := v64) hb_47 hq63 hb_47.lt
  have hb_66 := Blk.below (w := W59) (w' := v64) hb_50 hq63 hb_50.lt
  have hm_67 := hid (OwM.below (w := W59) (w' := v64) hm_48.out hq63)
  have hw_68 := hw_49.trans (hq63.mono hw_49.size)
  clear hb_47 hb_50 hm_48 hw_49
  have hzhq63 := hq63.size
  clear hq63
  have hm_69 := hid ho62.owM
  clear ho62
  have hx70 := (Below.refl v64.heap.size v64).alloc (Nat.le_refl _) (.cells #[.int .i64 cap, .int .i64 clock, .slice (some ⟨bc61, 0, none⟩) k k] 26)
  have hb_71 := Blk.below (w := v64) (w' := (v64.alloc (.cells #[.int .i64 cap, .int .i64 clock, .slice (some ⟨bc61, 0, none⟩) k k] 26))) hb_65 hx70 hb_65.lt
  have hb_72 := Blk.below (w := v64) (w' := (v64.alloc (.cells #[.int .i64 cap, .int .i64 clock, .slice (some ⟨bc61, 0, none⟩) k k] 26))) hb_66 hx70 hb_66.lt
  have hm_73 := hid (OwM.below (w := v64) (w' := (v64.alloc (.cells #[.int .i64 cap, .int .i64 clock, .slice (some ⟨bc61, 0, none⟩) k k] 26))) hm_67.out hx70)
  have hm_74 := hid (OwM.below (w := v64) (w' := (v64.alloc (.cells #[.int .i64 cap, .int .i64 clock, .slice (some ⟨bc61, 0, none⟩) k k] 26))) hm_69.out hx70)
  have hw_75 := hw_68.trans (hx70.mono hw_68.size)
  clear hb_65 hb_66 hm_67 hm_69 hw_68
  have hb_76 := Blk.new v64 26 #[.int .i64 cap, .int .i64 clock, .slice (some ⟨bc61, 0, none⟩) k k]
  clear hx70
  have hza77 : v64.heap.size + 1 ≤ (v64.alloc (.cells #[.int .i64 cap, .int .i64 clock, .slice (some ⟨bc61, 0, none⟩) k k] 26)).heap.size := by rw [World.size_alloc]; exact Nat.le_refl _
  have hza78 : (v64.alloc (.cells #[.int .i64 cap, .int .i64 clock, .slice (some ⟨bc61, 0, none⟩) k k] 26)).heap.size ≤ v64.heap.size + 1 := by rw [World.size_alloc]; exact Nat.le_refl _
  obtain ⟨u79, u80, u81, _, _, _⟩ := blk_cells3 hb_71
  obtain ⟨u82, u83, u84, _, _, _⟩ := blk_cells3 hb_72
  obtain ⟨u85, u86, u87, _, _, _⟩ := blk_cells3 hb_76
  go_wp2_with fail
  obtain ⟨W88, e89⟩ : ∃ X, (v64.alloc (.cells #[.int .i64 cap, .int .i64 clock, .slice (some ⟨bc61, 0, none⟩) k k] 26)) = X := ⟨_, rfl⟩
  rw [e89] at hb_71 hb_72 hb_76 hm_73 hm_74 hw_75 u79 u80 u81 u82 u83 u84 u85 u86 u87 hza77 hza78 ⊢
  clear e89
  refine (toS_any D f dc zz _ (hd.to hw_75 hw_75.size) hf4).mono ?_
  rintro e v93 ⟨bx90, rfl, hl94, hr_91', hq92⟩
  clear u79 u80 u81 u82 u83 u84 u85 u86 u87
  have hb_95 := Blk.below (w := W88) (w' := v93) hb_71 hq92 hb_71.lt
  have hb_96 := Blk.below (w := W88) (w' := v93) hb_72 hq92 hb_72.lt
  have hb_97 := Blk.below (w := W88) (w' := v93) hb_76 hq92 hb_76.lt
  have hm_98 := hid (OwM.below (w := W88) (w' := v93) hm_73.out hq92)
  have hm_99 := hid (OwM.below (w := W88) (w' := v93) hm_74.out hq92)
  have hw_100 := hw_75.trans (hq92.mono hw_75.size)
  clear hb_71 hb_72 hb_76 hm_73 hm_74 hw_75
  have hzhq92 := hq92.size
  clear hq92
  have huhr_91 : bx90 < v93.heap.size := hr_91'.lt
  have hr_91 := hid hr_91'
  clear hr_91'
  obtain ⟨u101, u102, u103, _, _, _⟩ := blk_cells3 hb_95
  obtain ⟨u104, u105, u106, _, _, _⟩ := blk_cells3 hb_96
  obtain ⟨u107, u108, u109, _, _, _⟩ := blk_cells3 hb_97
  go_wp2_with fail
  refine (HI.out _ _ _ _ _ hm_99.out.rdC (rds_of hr_91.out)).mono ?_
  rintro e v114 ⟨A110, c111, rfl, ho112, hq113⟩
  clear u101 u102 u103 u104 u105 u106 u107 u108 u109
  have hb_115 := Blk.below (w := v93) (w' := v114) hb_95 hq113 hb_95.lt
  have hb_116 := Blk.below (w := v93) (w' := v114) hb_96 hq113 hb_96.lt
  have hb_117 := Blk.below (w := v93) (w' := v114) hb_97 hq113 hb_97.lt
  have hm_118 := hid (OwM.below (w := v93) (w' := v114) hm_98.out hq113)
  have hm_119 := hid (OwM.below (w := v93) (w' := v114) hm_99.out hq113)
  have hr_120 := hid (RowS.below (w := v93) (w' := v114) hr_91.out hq113 hr_91.out.lt)
  have hw_121 := hw_100.trans (hq113.mono hw_100.size)
  clear hb_95 hb_96 hb_97 hm_98 hm_99 hr_91 hw_100
  have hzhq113 := hq113.size
  clear hq113
  have hm_122 := hid ho112.owM
  clear ho112
  have hx123 := (Below.refl v114.heap.size v114).alloc (Nat.le_refl _) (.cells #[.int .i64 cap, .int .i64 C, .slice A110 K c111] 26)
  have hb_124 := Blk.below (w := v114) (w' := (v114.alloc (.cells #[.int .i64 cap, .int .i64 C, .slice A110 K c111] 26))) hb_115 hx123 hb_115.lt
  have hb_125 := Blk.below (w := v114) (w' := (v114.alloc (.cells #[.int .i64 cap, .int .i64 C, .slice A110 K c111] 26))) hb_116 hx123 hb_116.lt
  have hb_126 := Blk.below (w := v114) (w' := (v114.alloc (.cells #[.int .i64 cap, .int .i64 C, .slice A110 K c111] 26))) hb_117 hx123 hb_117.lt
  have hm_127 := hid (OwM.below (w := v114) (w' := (v114.alloc (.cells #[.int .i64 cap, .int .i64 C, .slice A110 K c111] 26))) hm_118.out hx123)
  have hm_128 := hid (OwM.below (w := v114) (w' := (v114.alloc (.cells #[.int .i64 cap, .int .i64 C, .slice A110 K c111] 26))) hm_119.out hx123)
  have hm_129 := hid (OwM.below (w := v114) (w' := (v114.alloc (.cells #[.int .i64 cap, .int .i64 C, .slice A110 K c111] 26))) hm_122.out hx123)
  have hr_130 := hid (RowS.below (w := v114) (w' := (v114.alloc (.cells #[.int .i64 cap, .int .i64 C, .slice A110 K c111] 26))) hr_120.out hx123 hr_120.out.lt)
  have hw_131 := hw_121.trans (hx123.mono hw_121.size)
  clear hb_115 hb_116 hb_117 hm_118 hm_119 hm_122 hr_120 hw_121
  have hb_132 := Blk.new v114 26 #[.int .i64 cap, .int .i64 C, .slice A110 K c111]
  clear hx123
  have hza133 : v114.heap.size + 1 ≤ (v114.alloc (.cells #[.int .i64 cap, .int .i64 C, .slice A110 K c111] 26)).heap.size := by rw [World.size_alloc]; exact Nat.le_refl _
  have hza134 : (v114.alloc (.cells #[.int .i64 cap, .int .i64 C, .slice A110 K c111] 26)).heap.size ≤ v114.heap.size + 1 := by rw [World.size_alloc]; exact Nat.le_refl _
  obtain ⟨u135, u136, u137, _, _, _⟩ := blk_cells3 hb_124
  obtain ⟨u138, u139, u140, _, _, _⟩ := blk_cells3 hb_125
  obtain ⟨u141, u142, u143, _, _, _⟩ := blk_cells3 hb_126
  obtain ⟨u144, u145, u146, _, _, _⟩ := blk_cells3 hb_132
  go_wp2_with fail
  obtain ⟨W147, e148⟩ : ∃ X, (v114.alloc (.cells #[.int .i64 cap, .int .i64 C, .slice A110 K c111] 26)) = X := ⟨_, rfl⟩
  rw [e148] at hb_124 hb_125 hb_126 hb_132 hm_127 hm_128 hm_129 hr_130 hw_131 u135 u136 u137 u138 u139 u140 u141 u142 u143 u144 u145 u146 hza133 hza134 ⊢
  clear e148
  refine (eqC_any cap C A110 A36 K c111 c37 SL _ hm_129.out.rdC hm_127.out.rdC hK4 hlenK).mono ?_
  rintro e v150 ⟨rfl, hq149⟩
  clear u135 u136 u137 u138 u139 u140 u141 u142 u143 u144 u145 u146
  have hb_151 := Blk.below (w := W147) (w' := v150) hb_124 hq149 hb_124.lt
  have hb_152 := Blk.below (w := W147) (w' := v150) hb_125 hq149 hb_125.lt
  have hb_153 := Blk.below (w := W147) (w' := v150) hb_126 hq149 hb_126.lt
  have hb_154 := Blk.below (w := W147) (w' := v150) hb_132 hq149 hb_132.lt
  have hm_155 := hid (OwM.below (w := W147) (w' := v150) hm_127.out hq149)
  have hm_156 := hid (OwM.below (w := W147) (w' := v150) hm_128.out hq149)
  have hm_157 := hid (OwM.below (w := W147) (w' := v150) hm_129.out hq149)
  have hr_158 := hid (RowS.below (w := W147) (w' := v150) hr_130.out hq149 hr_130.out.lt)
  have hw_159 := hw_131.trans (hq149.mono hw_131.size)
  clear hb_124 hb_125 hb_126 hb_132 hm_127 hm_128 hm_129 hr_130 hw_131
  have hzhq149 := hq149.size
  clear hq149
  obtain ⟨u160, u161, u162, _, _, _⟩ := blk_cells3 hb_151
  obtain ⟨u163, u164, u165, _, _, _⟩ := blk_cells3 hb_152
  obtain ⟨u166, u167, u168, _, _, _⟩ := blk_cells3 hb_153
  obtain ⟨u169, u170, u171, _, _, _⟩ := blk_cells3 hb_154
  go_wp2_with fail
  clear u160 u161 u162 u163 u164 u165 u166 u167 u168 u169 u170 u171
  obtain ⟨a0, a1, a2, _, _, _⟩ := blk_cells3 hb_151
  obtain ⟨p0, p1, p2, _, _, _⟩ := blk_cells3 hb_153
  have hEl := hb_151.lt
  have hXl := hb_153.lt
  have hInD : RdC v150.drew v150.drew.heap.size A k s := h.to hw_159.drew hw_159.drew.size
  have hXoD : RdC v150.drew v150.drew.heap.size (some ⟨bc61, 0, none⟩) k s := hm_156.out.rdC
  go_region_held3 (fun w' => w'.cell? ⟨w.heap.size, 0, none⟩ = some (.int .i64 cap) ∧ w'.cell? ⟨w.heap.size, 1, none⟩ = some (.int .i64 clock) ∧ w'.cell? ⟨w.heap.size, 2, none⟩ = some (.slice A k c) ∧ w'.cell? ⟨v64.heap.size, 0, none⟩ = some (.int .i64 cap) ∧ w'.cell? ⟨v64.heap.size, 1, none⟩ = some (.int .i64 clock) ∧ w'.cell? ⟨v64.heap.size, 2, none⟩ = some (.slice (some ⟨bc61, 0, none⟩) k k))
    (first | exact ⟨e0, e1, e2, y0, y1, y2⟩ | exact ⟨i0, i1, i2, z0, z1, z2⟩ | (simp [go_sem]; done) | (simp [go_sem, *]; done))
    (first
      | (go_at_call 34; refine (toC_any cap clock A k c s v150.drew hInD hn hlen).mono ?_; rintro e w8 ⟨b8, rfl, hx8, hb8⟩; have hr8 := hx8.rdC; obtain ⟨hc8, hf8⟩ := bcell hb8; have e0 := (hc8 w.heap.size _ hEl).trans a0; have e1 := (hc8 w.heap.size _ hEl).trans a1; have e2 := (hc8 w.heap.size _ hEl).trans a2; have y0 := (hc8 v64.heap.size _ hXl).trans p0; have y1 := (hc8 v64.heap.size _ hXl).trans p1; have y2 := (hc8 v64.heap.size _ hXl).trans p2; have hr78 := RdC.to (w := v150.drew) hXoD hb8 hb8.size)
      | (go_at_call 35; refine (eqC_any cap clock _ _ k k k s _ hr78 hr8 hn hlen).mono ?_; rintro e w9 ⟨rfl, hb9⟩; obtain ⟨hc9, hf9⟩ := bcell hb9; have hlE : w.heap.size < w8.heap.size := Nat.lt_of_lt_of_le hEl hb8.size; have hlX : v64.heap.size < w8.heap.size := Nat.lt_of_lt_of_le hXl hb8.size; have i0 := (hc9 w.heap.size _ hlE).trans e0; have i1 := (hc9 w.heap.size _ hlE).trans e1; have i2 := (hc9 w.heap.size _ hlE).trans e2; have z0 := (hc9 v64.heap.size _ hlX).trans y0; have z1 := (hc9 v64.heap.size _ hlX).trans y1; have z2 := (hc9 v64.heap.size _ hlX).trans y2))
  have hq89 : Below v150.heap.size v150 w9 := (show Below v150.heap.size v150 w8 from (Below.refl _ v150).drew.trans hb8).trans (hb9.mono hb8.size)
  clear hb8 hb9 e0 e1 e2 y0 y1 y2 i0 i1 i2 z0 z1 z2 a0 a1 a2 p0 p1 p2 hc8 hf8 hc9 hf9 hx8 hr8 hr78 hInD hXoD hEl hXl hlE hlX
  have hb_172 := Blk.below (w := v150) (w' := w9) hb_151 hq89 hb_151.lt
  have hb_173 := Blk.below (w := v150) (w' := w9) hb_152 hq89 hb_152.lt
  have hb_174 := Blk.below (w := v150) (w' := w9) hb_153 hq89 hb_153.lt
  have hb_175 := Blk.below (w := v150) (w' := w9) hb_154 hq89 hb_154.lt
  have hm_176 := hid (OwM.below (w := v150) (w' := w9) hm_155.out hq89)
  have hm_177 := hid (OwM.below (w := v150) (w' := w9) hm_156.out hq89)
  have hm_178 := hid (OwM.below (w := v150) (w' := w9) hm_157.out hq89)
  have hr_179 := hid (RowS.below (w := v150) (w' := w9) hr_158.out hq89 hr_158.out.lt)
  have hw_180 := hw_159.trans (hq89.mono hw_159.size)
  clear hb_151 hb_152 hb_153 hb_154 hm_155 hm_156 hm_157 hr_158 hw_159
  have hzq89 := hq89.size
  clear hq89
  obtain ⟨u181, u182, u183, _, _, _⟩ := blk_cells3 hb_172
  obtain ⟨u184, u185, u186, _, _, _⟩ := blk_cells3 hb_173
  obtain ⟨u187, u188, u189, _, _, _⟩ := blk_cells3 hb_174
  obtain ⟨u190, u191, u192, _, _, _⟩ := blk_cells3 hb_175
  go_wp2_with fail
  refine (toS_any D f dc zz _ (hd.to hw_180 hw_180.size) hf4).mono ?_
  rintro e v196 ⟨bx193, rfl, hl197, hr_194', hq195⟩
  clear u181 u182 u183 u184 u185 u186 u187 u188 u189 u190 u191 u192
  have hb_198 := Blk.below (w := w9) (w' := v196) hb_172 hq195 hb_172.lt
  have hb_199 := Blk.below (w := w9) (w' := v196) hb_173 hq195 hb_173.lt
  have hb_200 := Blk.below (w := w9) (w' := v196) hb_174 hq195 hb_174.lt
  have hb_201 := Blk.below (w := w9) (w' := v196) hb_175 hq195 hb_175.lt
  have hm_202 := hid (OwM.below (w := w9) (w' := v196) hm_176.out hq195)
  have hm_203 := hid (OwM.below (w := w9) (w' := v196) hm_177.out hq195)
  have hm_204 := hid (OwM.below (w := w9) (w' := v196) hm_178.out hq195)
  have hr_205 := hid (RowS.below (w := w9) (w' := v196) hr_179.out hq195 hr_179.out.lt)
  have hw_206 := hw_180.trans (hq195.mono hw_180.size)
  clear hb_172 hb_173 hb_174 hb_175 hm_176 hm_177 hm_178 hr_179 hw_180
  have hzhq195 := hq195.size
  clear hq195
  have huhr_194 : bx193 < v196.heap.size := hr_194'.lt
  have hr_194 := hid hr_194'
  clear hr_194'
  obtain ⟨u207, u208, u209, _, _, _⟩ := blk_cells3 hb_198
  obtain ⟨u210, u211, u212, _, _, _⟩ := blk_cells3 hb_199
  obtain ⟨u213, u214, u215, _, _, _⟩ := blk_cells3 hb_200
  obtain ⟨u216, u217, u218, _, _, _⟩ := blk_cells3 hb_201
  go_wp2_with fail
  refine (eqS_any _ _ f f f zz _ (rds_of hr_205.out) (rds_of hr_194.out) hf4).mono ?_
  rintro e v220 ⟨rfl, hq219⟩
  clear u207 u208 u209 u210 u211 u212 u213 u214 u215 u216 u217 u218
  have hb_221 := Blk.below (w := v196) (w' := v220) hb_198 hq219 hb_198.lt
  have hb_222 := Blk.below (w := v196) (w' := v220) hb_199 hq219 hb_199.lt
  have hb_223 := Blk.below (w := v196) (w' := v220) hb_200 hq219 hb_200.lt
  have hb_224 := Blk.below (w := v196) (w' := v220) hb_201 hq219 hb_201.lt
  have hm_225 := hid (OwM.below (w := v196) (w' := v220) hm_202.out hq219)
  have hm_226 := hid (OwM.below (w := v196) (w' := v220) hm_203.out hq219)
  have hm_227 := hid (OwM.below (w := v196) (w' := v220) hm_204.out hq219)
  have hr_228 := hid (RowS.below (w := v196) (w' := v220) hr_205.out hq219 hr_205.out.lt)
  have hr_229 := hid (RowS.below (w := v196) (w' := v220) hr_194.out hq219 hr_194.out.lt)
  have hw_230 := hw_206.trans (hq219.mono hw_206.size)
  clear hb_198 hb_199 hb_200 hb_201 hm_202 hm_203 hm_204 hr_205 hr_194 hw_206
  have hzhq219 := hq219.size
  clear hq219
  clear hr_229
  obtain ⟨u231, u232, u233, _, _, _⟩ := blk_cells3 hb_221
  obtain ⟨u234, u235, u236, _, _, _⟩ := blk_cells3 hb_222
  obtain ⟨u237, u238, u239, _, _, _⟩ := blk_cells3 hb_223
  obtain ⟨u240, u241, u242, _, _, _⟩ := blk_cells3 hb_224
  go_wp2_with fail
  refine (markC_any cap clock (some ⟨bc61, 0, none⟩) k k _ _ s 1 _ hm_226.out (by omega) (by omega) (by omega) (by omega)).mono ?_
  rintro e v244 ⟨rfl, ho245, hk243⟩
  clear ho245
  clear u231 u232 u233 u234 u235 u236 u237 u238 u239 u240 u241 u242
  have hb_246 : Blk v244 w.heap.size 46 #[.int .i64 cap, .int .i64 clock, .slice A k c] := (hk243.block _ hb_221.lt (by omega)).trans hb_221
  have hb_247 : Blk v244 v40.heap.size 26 #[.int .i64 cap, .int .i64 C, .slice A36 K c37] := (hk243.block _ hb_222.lt (by omega)).trans hb_222
  have hb_248 : Blk v244 v64.heap.size 26 #[.int .i64 cap, .int .i64 clock, .slice (some ⟨bc61, 0, none⟩) k k] := (hk243.block _ hb_223.lt (by omega)).trans hb_223
  have hb_249 : Blk v244 v114.heap.size 26 #[.int .i64 cap, .int .i64 C, .slice A110 K c111] := (hk243.block _ hb_224.lt (by omega)).trans hb_224
  have hm_250 := hid (OwM.kept hm_225.out hk243 (by omega))
  have hm_251 := hid (OwM.kept hm_227.out hk243 (by omega))
  have hr_252 := hid (RowS.keep hr_228.out (hk243.block _ hr_228.out.lt (by omega)))
  have hw_253 := hw_230.trans (hk243.below (B := w.heap.size) (by omega) hw_230.size)
  clear hb_221 hb_222 hb_223 hb_224 hm_225 hm_227 hr_228 hw_230
  have hzhk243 := hk243.size
  clear hk243
  clear hm_226
  have hkk := mkKC_eq s 1 k
  obtain ⟨K1, hK1⟩ : ∃ x, mkKC s 1 k = x := ⟨_, rfl⟩
  rw [hK1] at hkk ⊢
  have hK0 : 0 ≤ K1 := by omega
  have hK2 : K1 ≤ 20000000 := by omega
  clear hkk hK1
  obtain ⟨u254, u255, u256, _, _, _⟩ := blk_cells3 hb_246
  obtain ⟨u257, u258, u259, _, _, _⟩ := blk_cells3 hb_247
  obtain ⟨u260, u261, u262, _, _, _⟩ := blk_cells3 hb_248
  obtain ⟨u263, u264, u265, _, _, _⟩ := blk_cells3 hb_249
  go_wp2_with fail
  refine (markS_all _ f f bx90 zz K1 _ (fun _ => ⟨rfl, hr_252.out⟩) hf4 hK0 (by omega)).mono ?_
  rintro e v267 ⟨rfl, hg268, -⟩
  have hk266 := kepC_grown (L := bx90) (H := bx90 + 1) hg268 (Nat.le_refl _) (Nat.lt_succ_self _)
  clear hg268
  clear u254 u255 u256 u257 u258 u259 u260 u261 u262 u263 u264 u265
  have hb_269 : Blk v267 w.heap.size 46 #[.int .i64 cap, .int .i64 clock, .slice A k c] := (hk266.block _ hb_246.lt (by omega)).trans hb_246
  have hb_270 : Blk v267 v40.heap.size 26 #[.int .i64 cap, .int .i64 C, .slice A36 K c37] := (hk266.block _ hb_247.lt (by omega)).trans hb_247
  have hb_271 : Blk v267 v64.heap.size 26 #[.int .i64 cap, .int .i64 clock, .slice (some ⟨bc61, 0, none⟩) k k] := (hk266.block _ hb_248.lt (by omega)).trans hb_248
  have hb_272 : Blk v267 v114.heap.size 26 #[.int .i64 cap, .int .i64 C, .slice A110 K c111] := (hk266.block _ hb_249.lt (by omega)).trans hb_249
  have hm_273 := hid (OwM.kept hm_250.out hk266 (by omega))
  have hm_274 := hid (OwM.kept hm_251.out hk266 (by omega))
  have hw_275 := hw_253.trans (hk266.below (B := w.heap.size) (by omega) hw_253.size)
  clear hb_246 hb_247 hb_248 hb_249 hm_250 hm_251 hw_253
  have hzhk266 := hk266.size
  clear hk266
  clear hr_252
  have hKf : ¬ K1 + 3 * (f : Int) < 0 := by omega
  obtain ⟨u276, u277, u278, _, _, _⟩ := blk_cells3 hb_269
  obtain ⟨u279, u280, u281, _, _, _⟩ := blk_cells3 hb_270
  obtain ⟨u282, u283, u284, _, _, _⟩ := blk_cells3 hb_271
  obtain ⟨u285, u286, u287, _, _, _⟩ := blk_cells3 hb_272
  go_wp2_with fail
  refine (eqC_any cap C A110 A36 K c111 c37 SL _ hm_274.out.rdC hm_273.out.rdC hK4 hlenK).mono ?_
  rintro e v289 ⟨rfl, hq288⟩
  clear u276 u277 u278 u279 u280 u281 u282 u283 u284 u285 u286 u287
  have hb_290 := Blk.below (w := v267) (w' := v289) hb_269 hq288 hb_269.lt
  have hb_291 := Blk.below (w := v267) (w' := v289) hb_270 hq288 hb_270.lt
  have hb_292 := Blk.below (w := v267) (w' := v289) hb_271 hq288 hb_271.lt
  have hb_293 := Blk.below (w := v267) (w' := v289) hb_272 hq288 hb_272.lt
  have hm_294 := hid (OwM.below (w := v267) (w' := v289) hm_273.out hq288)
  have hm_295 := hid (OwM.below (w := v267) (w' := v289) hm_274.out hq288)
  have hw_296 := hw_275.trans (hq288.mono hw_275.size)
  clear hb_269 hb_270 hb_271 hb_272 hm_273 hm_274 hw_275
  have hzhq288 := hq288.size
  clear hq288
  obtain ⟨u297, u298, u299, _, _, _⟩ := blk_cells3 hb_290
  obtain ⟨u300, u301, u302, _, _, _⟩ := blk_cells3 hb_291
  obtain ⟨u303, u304, u305, _, _, _⟩ := blk_cells3 hb_292
  obtain ⟨u306, u307, u308, _, _, _⟩ := blk_cells3 hb_293
  go_wp2_with fail
  refine (markC_any cap C A110 K c111 _ _ SL 1 _ hm_295.out (by omega) (by omega) (by omega) hmS).mono ?_
  rintro e v310 ⟨rfl, ho311, hk309⟩
  clear u297 u298 u299 u300 u301 u302 u303 u304 u305 u306 u307 u308
  have hb_312 : Blk v310 w.heap.size 46 #[.int .i64 cap, .int .i64 clock, .slice A k c] := (hk309.block _ hb_290.lt (by omega)).trans hb_290
  have hb_313 : Blk v310 v40.heap.size 26 #[.int .i64 cap, .int .i64 C, .slice A36 K c37] := (hk309.block _ hb_291.lt (by omega)).trans hb_291
  have hb_314 : Blk v310 v64.heap.size 26 #[.int .i64 cap, .int .i64 clock, .slice (some ⟨bc61, 0, none⟩) k k] := (hk309.block _ hb_292.lt (by omega)).trans hb_292
  have hb_315 : Blk v310 v114.heap.size 26 #[.int .i64 cap, .int .i64 C, .slice A110 K c111] := (hk309.block _ hb_293.lt (by omega)).trans hb_293
  have hm_316 := hid (OwM.kept hm_294.out hk309 (by omega))
  have hw_317 := hw_296.trans (hk309.below (B := w.heap.size) (by omega) hw_296.size)
  clear hb_290 hb_291 hb_292 hb_293 hm_294 hw_296
  have hzhk309 := hk309.size
  clear hk309
  clear hm_295
  have hm_318 := hid ho311
  clear ho311
  have hkk := mkKC_eq SL 1 K
  obtain ⟨M1, hM1⟩ : ∃ x, mkKC SL 1 K = x := ⟨_, rfl⟩
  have HM1 := hid hM1
  rw [hM1] at hkk ⊢
  have hM0 : ¬ M1 < 0 := by omega
  have qm : (M1 != M1) = false := by simp
  clear hkk hM1
  obtain ⟨u319, u320, u321, _, _, _⟩ := blk_cells3 hb_312
  obtain ⟨u322, u323, u324, _, _, _⟩ := blk_cells3 hb_313
  obtain ⟨u325, u326, u327, _, _, _⟩ := blk_cells3 hb_314
  obtain ⟨u328, u329, u330, _, _, _⟩ := blk_cells3 hb_315
  go_wp2_with fail
  refine (heldC_any cap C A110 K c111 _ _ SL 1 _ hm_318.out (by omega) (by omega) hmS).mono ?_
  rintro e v332 ⟨rfl, hq331⟩
  clear u319 u320 u321 u322 u323 u324 u325 u326 u327 u328 u329 u330
  have hb_333 := Blk.below (w := v310) (w' := v332) hb_312 hq331 hb_312.lt
  have hb_334 := Blk.below (w := v310) (w' := v332) hb_313 hq331 hb_313.lt
  have hb_335 := Blk.below (w := v310) (w' := v332) hb_314 hq331 hb_314.lt
  have hb_336 := Blk.below (w := v310) (w' := v332) hb_315 hq331 hb_315.lt
  have hm_337 := hid (OwM.below (w := v310) (w' := v332) hm_316.out hq331)
  have hm_338 := hid (OwM.below (w := v310) (w' := v332) hm_318.out hq331)
  have hw_339 := hw_317.trans (hq331.mono hw_317.size)
  clear hb_312 hb_313 hb_314 hb_315 hm_316 hm_318 hw_317
  have hzhq331 := hq331.size
  clear hq331
  rw [HM1.out]
  obtain ⟨u340, u341, u342, _, _, _⟩ := blk_cells3 hb_333
  obtain ⟨u343, u344, u345, _, _, _⟩ := blk_cells3 hb_334
  obtain ⟨u346, u347, u348, _, _, _⟩ := blk_cells3 hb_335
  obtain ⟨u349, u350, u351, _, _, _⟩ := blk_cells3 hb_336
  go_wp2_with fail
  refine (toC_any cap clock A k c s _ (h.to hw_339 hw_339.size) hn hlen).mono ?_
  rintro e v355 ⟨bc352, rfl, ho353, hq354⟩
  clear u340 u341 u342 u343 u344 u345 u346 u347 u348 u349 u350 u351
  have hb_356 := Blk.below (w := v332) (w' := v355) hb_333 hq354 hb_333.lt
  have hb_357 := Blk.below (w := v332) (w' := v355) hb_334 hq354 hb_334.lt
  have hb_358 := Blk.below (w := v332) (w' := v355) hb_335 hq354 hb_335.lt
  have hb_359 := Blk.below (w := v332) (w' := v355) hb_336 hq354 hb_336.lt
  have hm_360 := hid (OwM.below (w := v332) (w' := v355) hm_337.out hq354)
  have hm_361 := hid (OwM.below (w := v332) (w' := v355) hm_338.out hq354)
  have hw_362 := hw_339.trans (hq354.mono hw_339.size)
  clear hb_333 hb_334 hb_335 hb_336 hm_337 hm_338 hw_339
  have hzhq354 := hq354.size
  clear hq354
  have hm_363 := hid ho353.owM
  clear ho353
  obtain ⟨u364, u365, u366, _, _, _⟩ := blk_cells3 hb_356
  obtain ⟨u367, u368, u369, _, _, _⟩ := blk_cells3 hb_357
  obtain ⟨u370, u371, u372, _, _, _⟩ := blk_cells3 hb_358
  obtain ⟨u373, u374, u375, _, _, _⟩ := blk_cells3 hb_359
  go_wp2_with fail
  refine (toS_any D f dc zz _ (hd.to hw_362 hw_362.size) hf4).mono ?_
  rintro e v379 ⟨bx376, rfl, hl380, hr_377', hq378⟩
  clear u364 u365 u366 u367 u368 u369 u370 u371 u372 u373 u374 u375
  have hb_381 := Blk.below (w := v355) (w' := v379) hb_356 hq378 hb_356.lt
  have hb_382 := Blk.below (w := v355) (w' := v379) hb_357 hq378 hb_357.lt
  have hb_383 := Blk.below (w := v355) (w' := v379) hb_358 hq378 hb_358.lt
  have hb_384 := Blk.below (w := v355) (w' := v379) hb_359 hq378 hb_359.lt
  have hm_385 := hid (OwM.below (w := v355) (w' := v379) hm_360.out hq378)
  have hm_386 := hid (OwM.below (w := v355) (w' := v379) hm_361.out hq378)
  have hm_387 := hid (OwM.below (w := v355) (w' := v379) hm_363.out hq378)
  have hw_388 := hw_362.trans (hq378.mono hw_362.size)
  clear hb_356 hb_357 hb_358 hb_359 hm_360 hm_361 hm_363 hw_362
  have hzhq378 := hq378.size
  clear hq378
  have huhr_377 : bx376 < v379.heap.size := hr_377'.lt
  have hr_377 := hid hr_377'
  clear hr_377'
  obtain ⟨u389, u390, u391, _, _, _⟩ := blk_cells3 hb_381
  obtain ⟨u392, u393, u394, _, _, _⟩ := blk_cells3 hb_382
  obtain ⟨u395, u396, u397, _, _, _⟩ := blk_cells3 hb_383
  obtain ⟨u398, u399, u400, _, _, _⟩ := blk_cells3 hb_384
  go_wp2_with fail
  refine (HI.out _ _ _ _ _ hm_387.out.rdC (rds_of hr_377.out)).mono ?_
  rintro e v405 ⟨A401, c402, rfl, ho403, hq404⟩
  clear u389 u390 u391 u392 u393 u394 u395 u396 u397 u398 u399 u400
  have hb_406 := Blk.below (w := v379) (w' := v405) hb_381 hq404 hb_381.lt
  have hb_407 := Blk.below (w := v379) (w' := v405) hb_382 hq404 hb_382.lt
  have hb_408 := Blk.below (w := v379) (w' := v405) hb_383 hq404 hb_383.lt
  have hb_409 := Blk.below (w := v379) (w' := v405) hb_384 hq404 hb_384.lt
  have hm_410 := hid (OwM.below (w := v379) (w' := v405) hm_385.out hq404)
  have hm_411 := hid (OwM.below (w := v379) (w' := v405) hm_386.out hq404)
  have hm_412 := hid (OwM.below (w := v379) (w' := v405) hm_387.out hq404)
  have hr_413 := hid (RowS.below (w := v379) (w' := v405) hr_377.out hq404 hr_377.out.lt)
  have hw_414 := hw_388.trans (hq404.mono hw_388.size)
  clear hb_381 hb_382 hb_383 hb_384 hm_385 hm_386 hm_387 hr_377 hw_388
  have hzhq404 := hq404.size
  clear hq404
  have hm_415 := hid ho403.owM
  clear ho403
  clear hm_412
  clear hr_413
  have hx416 := (Below.refl v405.heap.size v405).alloc (Nat.le_refl _) (.cells #[.int .i64 cap, .int .i64 C, .slice A401 K c402] 26)
  have hb_417 := Blk.below (w := v405) (w' := (v405.alloc (.cells #[.int .i64 cap, .int .i64 C, .slice A401 K c402] 26))) hb_406 hx416 hb_406.lt
  have hb_418 := Blk.below (w := v405) (w' := (v405.alloc (.cells #[.int .i64 cap, .int .i64 C, .slice A401 K c402] 26))) hb_407 hx416 hb_407.lt
  have hb_419 := Blk.below (w := v405) (w' := (v405.alloc (.cells #[.int .i64 cap, .int .i64 C, .slice A401 K c402] 26))) hb_408 hx416 hb_408.lt
  have hb_420 := Blk.below (w := v405) (w' := (v405.alloc (.cells #[.int .i64 cap, .int .i64 C, .slice A401 K c402] 26))) hb_409 hx416 hb_409.lt
  have hm_421 := hid (OwM.below (w := v405) (w' := (v405.alloc (.cells #[.int .i64 cap, .int .i64 C, .slice A401 K c402] 26))) hm_410.out hx416)
  have hm_422 := hid (OwM.below (w := v405) (w' := (v405.alloc (.cells #[.int .i64 cap, .int .i64 C, .slice A401 K c402] 26))) hm_411.out hx416)
  have hm_423 := hid (OwM.below (w := v405) (w' := (v405.alloc (.cells #[.int .i64 cap, .int .i64 C, .slice A401 K c402] 26))) hm_415.out hx416)
  have hw_424 := hw_414.trans (hx416.mono hw_414.size)
  clear hb_406 hb_407 hb_408 hb_409 hm_410 hm_411 hm_415 hw_414
  have hb_425 := Blk.new v405 26 #[.int .i64 cap, .int .i64 C, .slice A401 K c402]
  clear hx416
  have hza426 : v405.heap.size + 1 ≤ (v405.alloc (.cells #[.int .i64 cap, .int .i64 C, .slice A401 K c402] 26)).heap.size := by rw [World.size_alloc]; exact Nat.le_refl _
  have hza427 : (v405.alloc (.cells #[.int .i64 cap, .int .i64 C, .slice A401 K c402] 26)).heap.size ≤ v405.heap.size + 1 := by rw [World.size_alloc]; exact Nat.le_refl _
  obtain ⟨u428, u429, u430, _, _, _⟩ := blk_cells3 hb_417
  obtain ⟨u431, u432, u433, _, _, _⟩ := blk_cells3 hb_418
  obtain ⟨u434, u435, u436, _, _, _⟩ := blk_cells3 hb_419
  obtain ⟨u437, u438, u439, _, _, _⟩ := blk_cells3 hb_420
  obtain ⟨u440, u441, u442, _, _, _⟩ := blk_cells3 hb_425
  go_wp2_with fail
  obtain ⟨W443, e444⟩ : ∃ X, (v405.alloc (.cells #[.int .i64 cap, .int .i64 C, .slice A401 K c402] 26)) = X := ⟨_, rfl⟩
  rw [e444] at hb_417 hb_418 hb_419 hb_420 hb_425 hm_421 hm_422 hm_423 hw_424 u428 u429 u430 u431 u432 u433 u434 u435 u436 u437 u438 u439 u440 u441 u442 hza426 hza427 ⊢
  clear e444
  refine (eqC_any cap C A401 A36 K c402 c37 SL _ hm_423.out.rdC hm_421.out.rdC hK4 hlenK).mono ?_
  rintro e v446 ⟨rfl, hq445⟩
  clear u428 u429 u430 u431 u432 u433 u434 u435 u436 u437 u438 u439 u440 u441 u442
  have hb_447 := Blk.below (w := W443) (w' := v446) hb_417 hq445 hb_417.lt
  have hb_448 := Blk.below (w := W443) (w' := v446) hb_418 hq445 hb_418.lt
  have hb_449 := Blk.below (w := W443) (w' := v446) hb_419 hq445 hb_419.lt
  have hb_450 := Blk.below (w := W443) (w' := v446) hb_420 hq445 hb_420.lt
  have hb_451 := Blk.below (w := W443) (w' := v446) hb_425 hq445 hb_425.lt
  have hm_452 := hid (OwM.below (w := W443) (w' := v446) hm_421.out hq445)
  have hm_453 := hid (OwM.below (w := W443) (w' := v446) hm_422.out hq445)
  have hm_454 := hid (OwM.below (w := W443) (w' := v446) hm_423.out hq445)
  have hw_455 := hw_424.trans (hq445.mono hw_424.size)
  clear hb_417 hb_418 hb_419 hb_420 hb_425 hm_421 hm_422 hm_423 hw_424
  have hzhq445 := hq445.size
  clear hq445
  obtain ⟨u456, u457, u458, _, _, _⟩ := blk_cells3 hb_447
  obtain ⟨u459, u460, u461, _, _, _⟩ := blk_cells3 hb_448
  obtain ⟨u462, u463, u464, _, _, _⟩ := blk_cells3 hb_449
  obtain ⟨u465, u466, u467, _, _, _⟩ := blk_cells3 hb_450
  obtain ⟨u468, u469, u470, _, _, _⟩ := blk_cells3 hb_451
  go_wp2_with fail
  refine (heldC_any cap C A110 K c111 _ _ SL 1 _ hm_453.out (by omega) (by omega) hmS).mono ?_
  rintro e v472 ⟨rfl, hq471⟩
  clear u456 u457 u458 u459 u460 u461 u462 u463 u464 u465 u466 u467 u468 u469 u470
  have hb_473 := Blk.below (w := v446) (w' := v472) hb_447 hq471 hb_447.lt
  have hb_474 := Blk.below (w := v446) (w' := v472) hb_448 hq471 hb_448.lt
  have hb_475 := Blk.below (w := v446) (w' := v472) hb_449 hq471 hb_449.lt
  have hb_476 := Blk.below (w := v446) (w' := v472) hb_450 hq471 hb_450.lt
  have hb_477 := Blk.below (w := v446) (w' := v472) hb_451 hq471 hb_451.lt
  have hm_478 := hid (OwM.below (w := v446) (w' := v472) hm_452.out hq471)
  have hm_479 := hid (OwM.below (w := v446) (w' := v472) hm_453.out hq471)
  have hm_480 := hid (OwM.below (w := v446) (w' := v472) hm_454.out hq471)
  have hw_481 := hw_455.trans (hq471.mono hw_455.size)
  clear hb_447 hb_448 hb_449 hb_450 hb_451 hm_452 hm_453 hm_454 hw_455
  have hzhq471 := hq471.size
  clear hq471
  rw [HM1.out]
  obtain ⟨u482, u483, u484, _, _, _⟩ := blk_cells3 hb_473
  obtain ⟨u485, u486, u487, _, _, _⟩ := blk_cells3 hb_474
  obtain ⟨u488, u489, u490, _, _, _⟩ := blk_cells3 hb_475
  obtain ⟨u491, u492, u493, _, _, _⟩ := blk_cells3 hb_476
  obtain ⟨u494, u495, u496, _, _, _⟩ := blk_cells3 hb_477
  go_wp2_with fail
  go_ret
  exact ⟨rfl, hw_481⟩
end Go.Proofs.Ytckhooibjmheiaa
