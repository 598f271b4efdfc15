/- The walk of the exact law of CacheGet. -/
import Derived.Test.YtckhooibjmheiaaCaW
import Derived.Test.YtckhooibjmheiaaCaI
import Derived.Deep.RegionHeld3
namespace Go.Proofs.Ytckhooibjmheiaa
open Go.RowKit Go.Deep
set_option linter.unusedVariables false
set_option linter.unusedSimpArgs false

theorem getAns_n (cap clock : Int) (k : Nat) (s : Nat → Slt) (f : Nat) (z : Nat → Int) (i : Nat) : (gSl cap clock k s f z i).n = (s i).n := by
  unfold gSl
  split
  · exact upS_n _ _ _ _
  · rfl
theorem cumN_congr {s s' : Nat → Slt} (h : ∀ i, (s i).n = (s' i).n) : ∀ k, cumN s k = cumN s' k := by
  intro k
  induction k with
  | zero => rfl
  | succ k ih => simp only [cumN]; rw [ih, h k]
/-- Both sides of CacheGet, what they answer in plain names. -/
theorem get_both (cap clock : Int) (k : Nat) (s : Nat → Slt) (f : Nat) (z : Nat → Int) (hn : k ≤ 4194304) (hlen : Hid (∀ i, i < k → (s i).n ≤ 4194304)) (hf : f ≤ 4194304) : ∃ (C SC : Int) (HB : Bool) (SL : Nat → Slt) (k' : Nat), k' = k ∧ cumN SL k' = cumN s k ∧ (∀ i, (SL i).n = (s i).n) ∧
    Hid (∀ (A : Option Addr) (c : Nat) (D : Option Addr) (dc : Nat) (w : World), RdC w w.heap.size A k s → Rd w w.heap.size D f z → Calls Try.prog 22 #[caV cap clock A k c, .slice D f dc] w fun e w' => ∃ A' c', e = .returned (.tuple #[caV cap C A' k' c', .int .i64 SC, .bool HB]) ∧ OwC w' w.heap.size A' k' c' SL ∧ Below w.heap.size w w') ∧
    Hid (∀ (A : Option Addr) (c : Nat) (D : Option Addr) (dc : Nat) (w : World), RdC w w.heap.size A k s → Rd w w.heap.size D f z → Calls Try.prog 23 #[caV cap clock A k c, .slice D f dc] w fun e w' => ∃ A' c', e = .returned (.tuple #[caV cap C A' k' c', .int .i64 SC, .bool HB]) ∧ OwC w' w.heap.size A' k' c' SL ∧ Below w.heap.size w w') :=
  ⟨gClk cap clock k s f z, gSc cap clock k s f z, gHit cap clock k s f z, gSl cap clock k s f z, k, rfl, cumN_congr (getAns_n cap clock k s f z) k, getAns_n cap clock k s f z, fun A c D dc w h hd => iGet_any cap clock A k c s D f dc z w h hd hn hlen hf, fun A c D dc w h hd => sGet_any cap clock A k c s D f dc z w h hd hn hlen hf⟩

set_option maxRecDepth 100000 in
set_option maxHeartbeats 8000000 in
theorem lawCacheGet (cap clock : Int) (A : Option Addr) (k c : Nat) (s : Nat → Slt) (D : Option Addr) (f dc : Nat) (zz : Nat → Int) (w : World) (h : RdC w w.heap.size A k s) (hk0 : k ≤ 9223372036854775807) (hlen0 : ∀ i, i < k → (s i).n ≤ 9223372036854775807) (hd : Rd w w.heap.size D f zz) (hf0 : f ≤ 9223372036854775807) :
    Calls Try.prog 8 #[caV cap clock A k c, .slice D f dc] w fun e w' => e = .returned (.bool true) ∧ Below w.heap.size w w' := by
  have HLEN := hid hlen0
  clear hlen0
  have hb1 := (Below.refl w.heap.size w).alloc (Nat.le_refl _) (.cells #[.int .i64 cap, .int .i64 clock, .slice A k c] 46)
  have hE1 := Blk.new w 46 #[.int .i64 cap, .int .i64 clock, .slice A k c]
  by_cases hf : (1048576 : Int) < (f : Int)
  · go_enter Try.func8, Try.ntmps8
    go_wp2_with fail
    go_ret
    exact ⟨rfl, hb1⟩
  have hff : f ≤ 1048576 := by omega
  go_enter Try.func8, Try.ntmps8
  have hza1 : w.heap.size + 1 ≤ (w.alloc (.cells #[.int .i64 cap, .int .i64 clock, .slice A k c] 46)).heap.size := by rw [World.size_alloc]; exact Nat.le_refl _
  obtain ⟨u2, u3, u4, _, _, _⟩ := blk_cells3 hE1
  go_wp2_with fail
  obtain ⟨W5, e6⟩ : ∃ X, (w.alloc (.cells #[.int .i64 cap, .int .i64 clock, .slice A k c] 46)) = X := ⟨_, rfl⟩
  rw [e6] at hE1 hb1 u2 u3 u4 hza1 ⊢
  clear e6
  refine (szC_any cap clock A k c s 1048576 _ (h.to hb1 hb1.size) hk0 HLEN (by omega) (by omega)).mono ?_
  rintro e w2 ⟨y, rfl, hy, hb2⟩
  clear u2 u3 u4
  have hb_7 := Blk.below (w := W5) (w' := w2) hE1 hb2 hE1.lt
  have hw_8 := hb1.trans (hb2.mono hb1.size)
  clear hE1 hb1
  have hzhb2 := hb2.size
  clear hb2
  by_cases hneg : y < 0
  · clear hy
    go_wp2_with fail
    go_ret
    exact ⟨rfl, hw_8⟩
  have hsm : y + k + cumN s k ≤ 1048576 ∧ 0 ≤ y := by
    rcases hy with h | h
    · exact absurd h hneg
    · exact ⟨by omega, h.1⟩
  have hm : cumN s k + k ≤ 1048576 := by omega
  have hn : k ≤ 4194304 := by omega
  have hlen : Hid (∀ i, i < k → (s i).n ≤ 4194304) := fun i hi => by have := cumN_le s hi; omega
  clear hy hsm hk0 HLEN
  have hf4 : f ≤ 4194304 := by omega
  obtain ⟨C, SC, HB, SL, K, hKk, hcum, hSn, HI, HS⟩ := get_both cap clock k s f zz hn hlen hf4
  have hK4 : K ≤ 4194304 := by omega
  have hmS : cumN SL K + K ≤ 4194304 := by omega
  have HSN := hid hSn
  have hlenK : Hid (∀ i, i < K → (SL i).n ≤ 4194304) := fun i hi => by have := cumN_le SL hi; omega
  clear hSn hcum hKk
  have qs : (SC != SC) = false := by simp
  have qb : (HB != HB) = false := by simp
  obtain ⟨u9, u10, u11, _, _, _⟩ := blk_cells3 hb_7
  go_wp2_with fail
  refine (toC_any cap clock A k c s _ (h.to hw_8 hw_8.size) hn hlen).mono ?_
  rintro e v15 ⟨bc12, rfl, ho13, hq14⟩
  clear u9 u10 u11
  have hb_16 := Blk.below (w := w2) (w' := v15) hb_7 hq14 hb_7.lt
  have hw_17 := hw_8.trans (hq14.mono hw_8.size)
  clear hb_7 hw_8
  have hzhq14 := hq14.size
  clear hq14
  have hm_18 := hid ho13.owM
  clear ho13
  obtain ⟨u19, u20, u21, _, _, _⟩ := blk_cells3 hb_16
  go_wp2_with fail
  refine (toI_any D f dc zz _ (hd.to hw_17 hw_17.size) hf4).mono ?_
  rintro e v25 ⟨bx22, rfl, hl26, hr_23', hq24⟩
  clear u19 u20 u21
  have hb_27 := Blk.below (w := v15) (w' := v25) hb_16 hq24 hb_16.lt
  have hm_28 := hid (OwM.below (w := v15) (w' := v25) hm_18.out hq24)
  have hw_29 := hw_17.trans (hq24.mono hw_17.size)
  clear hb_16 hm_18 hw_17
  have hzhq24 := hq24.size
  clear hq24
  have huhr_23 : bx22 < v25.heap.size := hr_23'.lt
  have hr_23 := hid hr_23'
  clear hr_23'
  obtain ⟨u30, u31, u32, _, _, _⟩ := blk_cells3 hb_27
  go_wp2_with fail
  refine (HS.out _ _ _ _ _ hm_28.out.rdC (rd_of hr_23.out)).mono ?_
  rintro e v37 ⟨A33, c34, rfl, ho35, hq36⟩
  clear u30 u31 u32
  have hb_38 := Blk.below (w := v25) (w' := v37) hb_27 hq36 hb_27.lt
  have hm_39 := hid (OwM.below (w := v25) (w' := v37) hm_28.out hq36)
  have hr_40 := hid (Row.below (w := v25) (w' := v37) hr_23.out hq36 hr_23.out.lt)
  have hw_41 := hw_29.trans (hq36.mono hw_29.size)
  clear hb_27 hm_28 hr_23 hw_29
  have hzhq36 := hq36.size
  clear hq36
  have hm_42 := hid ho35.owM
  clear ho35
  clear hm_39
  clear hr_40
  have hx43 := (Below.refl v37.heap.size v37).alloc (Nat.le_refl _) (.cells #[.int .i64 cap, .int .i64 C, .slice A33 K c34] 26)
  have hb_44 := Blk.below (w := v37) (w' := (v37.alloc (.cells #[.int .i64 cap, .int .i64 C, .slice A33 K c34] 26))) hb_38 hx43 hb_38.lt
  have hm_45 := hid (OwM.below (w := v37) (w' := (v37.alloc (.cells #[.int .i64 cap, .int .i64 C, .slice A33 K c34] 26))) hm_42.out hx43)
  have hw_46 := hw_41.trans (hx43.mono hw_41.size)
  clear hb_38 hm_42 hw_41
  have hb_47 := Blk.new v37 26 #[.int .i64 cap, .int .i64 C, .slice A33 K c34]
  clear hx43
  have hza48 : v37.heap.size + 1 ≤ (v37.alloc (.cells #[.int .i64 cap, .int .i64 C, .slice A33 K c34] 26)).heap.size := by rw [World.size_alloc]; exact Nat.le_refl _
  have hza49 : (v37.alloc (.cells #[.int .i64 cap, .int .i64 C, .slice A33 K c34] 26)).heap.size ≤ v37.heap.size + 1 := by rw [World.size_alloc]; exact Nat.le_refl _
  obtain ⟨u50, u51, u52, _, _, _⟩ := blk_cells3 hb_44
  obtain ⟨u53, u54, u55, _, _, _⟩ := blk_cells3 hb_47
  go_wp2_with fail
  obtain ⟨W56, e57⟩ : ∃ X, (v37.alloc (.cells #[.int .i64 cap, .int .i64 C, .slice A33 K c34] 26)) = X := ⟨_, rfl⟩
  rw [e57] at hb_44 hb_47 hm_45 hw_46 u50 u51 u52 u53 u54 u55 hza48 hza49 ⊢
  clear e57
  refine (toC_any cap clock A k c s _ (h.to hw_46 hw_46.size) hn hlen).mono ?_
  rintro e v61 ⟨bc58, rfl, ho59, hq60⟩
  clear u50 u51 u52 u53 u54 u55
  have hb_62 := Blk.below (w := W56) (w' := v61) hb_44 hq60 hb_44.lt
  have hb_63 := Blk.below (w := W56) (w' := v61) hb_47 hq60 hb_47.lt
  have hm_64 := hid (OwM.below (w := W56) (w' := v61) hm_45.out hq60)
  have hw_65 := hw_46.trans (hq60.mono hw_46.size)
  clear hb_44 hb_47 hm_45 hw_46
  have hzhq60 := hq60.size
  clear hq60
  have hm_66 := hid ho59.owM
  clear ho59
  have hx67 := (Below.refl v61.heap.size v61).alloc (Nat.le_refl _) (.cells #[.int .i64 cap, .int .i64 clock, .slice (some ⟨bc58, 0, none⟩) k k] 26)
  have hb_68 := Blk.below (w := v61) (w' := (v61.alloc (.cells #[.int .i64 cap, .int .i64 clock, .slice (some ⟨bc58, 0, none⟩) k k] 26))) hb_62 hx67 hb_62.lt
  have hb_69 := Blk.below (w := v61) (w' := (v61.alloc (.cells #[.int .i64 cap, .int .i64 clock, .slice (some ⟨bc58, 0, none⟩) k k] 26))) hb_63 hx67 hb_63.lt
  have hm_70 := hid (OwM.below (w := v61) (w' := (v61.alloc (.cells #[.int .i64 cap, .int .i64 clock, .slice (some ⟨bc58, 0, none⟩) k k] 26))) hm_64.out hx67)
  have hm_71 := hid (OwM.below (w := v61) (w' := (v61.alloc (.cells #[.int .i64 cap, .int .i64 clock, .slice (some ⟨bc58, 0, none⟩) k k] 26))) hm_66.out hx67)
  have hw_72 := hw_65.trans (hx67.mono hw_65.size)
  clear hb_62 hb_63 hm_64 hm_66 hw_65
  have hb_73 := Blk.new v61 26 #[.int .i64 cap, .int .i64 clock, .slice (some ⟨bc58, 0, none⟩) k k]
  clear hx67
  have hza74 : v61.heap.size + 1 ≤ (v61.alloc (.cells #[.int .i64 cap, .int .i64 clock, .slice (some ⟨bc58, 0, none⟩) k k] 26)).heap.size := by rw [World.size_alloc]; exact Nat.le_refl _
  have hza75 : (v61.alloc (.cells #[.int .i64 cap, .int .i64 clock, .slice (some ⟨bc58, 0, none⟩) k k] 26)).heap.size ≤ v61.heap.size + 1 := by rw [World.size_alloc]; exact Nat.le_refl _
  obtain ⟨u76, u77, u78, _, _, _⟩ := blk_cells3 hb_68
  obtain ⟨u79, u80, u81, _, _, _⟩ := blk_cells3 hb_69
  obtain ⟨u82, u83, u84, _, _, _⟩ := blk_cells3 hb_73
  go_wp2_with fail
  obtain ⟨W85, e86⟩ : ∃ X, (v61.alloc (.cells #[.int .i64 cap, .int .i64 clock, .slice (some ⟨bc58, 0, none⟩) k k] 26)) = X := ⟨_, rfl⟩
  rw [e86] at hb_68 hb_69 hb_73 hm_70 hm_71 hw_72 u76 u77 u78 u79 u80 u81 u82 u83 u84 hza74 hza75 ⊢
  clear e86
  refine (toI_any D f dc zz _ (hd.to hw_72 hw_72.size) hf4).mono ?_
  rintro e v90 ⟨bx87, rfl, hl91, hr_88', hq89⟩
  clear u76 u77 u78 u79 u80 u81 u82 u83 u84
  have hb_92 := Blk.below (w := W85) (w' := v90) hb_68 hq89 hb_68.lt
  have hb_93 := Blk.below (w := W85) (w' := v90) hb_69 hq89 hb_69.lt
  have hb_94 := Blk.below (w := W85) (w' := v90) hb_73 hq89 hb_73.lt
  have hm_95 := hid (OwM.below (w := W85) (w' := v90) hm_70.out hq89)
  have hm_96 := hid (OwM.below (w := W85) (w' := v90) hm_71.out hq89)
  have hw_97 := hw_72.trans (hq89.mono hw_72.size)
  clear hb_68 hb_69 hb_73 hm_70 hm_71 hw_72
  have hzhq89 := hq89.size
  clear hq89
  have huhr_88 : bx87 < v90.heap.size := hr_88'.lt
  have hr_88 := hid hr_88'
  clear hr_88'
  obtain ⟨u98, u99, u100, _, _, _⟩ := blk_cells3 hb_92
  obtain ⟨u101, u102, u103, _, _, _⟩ := blk_cells3 hb_93
  obtain ⟨u104, u105, u106, _, _, _⟩ := blk_cells3 hb_94
  go_wp2_with fail
  refine (HI.out _ _ _ _ _ hm_96.out.rdC (rd_of hr_88.out)).mono ?_
  rintro e v111 ⟨A107, c108, rfl, ho109, hq110⟩
  clear u98 u99 u100 u101 u102 u103 u104 u105 u106
  have hb_112 := Blk.below (w := v90) (w' := v111) hb_92 hq110 hb_92.lt
  have hb_113 := Blk.below (w := v90) (w' := v111) hb_93 hq110 hb_93.lt
  have hb_114 := Blk.below (w := v90) (w' := v111) hb_94 hq110 hb_94.lt
  have hm_115 := hid (OwM.below (w := v90) (w' := v111) hm_95.out hq110)
  have hm_116 := hid (OwM.below (w := v90) (w' := v111) hm_96.out hq110)
  have hr_117 := hid (Row.below (w := v90) (w' := v111) hr_88.out hq110 hr_88.out.lt)
  have hw_118 := hw_97.trans (hq110.mono hw_97.size)
  clear hb_92 hb_93 hb_94 hm_95 hm_96 hr_88 hw_97
  have hzhq110 := hq110.size
  clear hq110
  have hm_119 := hid ho109.owM
  clear ho109
  have hx120 := (Below.refl v111.heap.size v111).alloc (Nat.le_refl _) (.cells #[.int .i64 cap, .int .i64 C, .slice A107 K c108] 26)
  have hb_121 := Blk.below (w := v111) (w' := (v111.alloc (.cells #[.int .i64 cap, .int .i64 C, .slice A107 K c108] 26))) hb_112 hx120 hb_112.lt
  have hb_122 := Blk.below (w := v111) (w' := (v111.alloc (.cells #[.int .i64 cap, .int .i64 C, .slice A107 K c108] 26))) hb_113 hx120 hb_113.lt
  have hb_123 := Blk.below (w := v111) (w' := (v111.alloc (.cells #[.int .i64 cap, .int .i64 C, .slice A107 K c108] 26))) hb_114 hx120 hb_114.lt
  have hm_124 := hid (OwM.below (w := v111) (w' := (v111.alloc (.cells #[.int .i64 cap, .int .i64 C, .slice A107 K c108] 26))) hm_115.out hx120)
  have hm_125 := hid (OwM.below (w := v111) (w' := (v111.alloc (.cells #[.int .i64 cap, .int .i64 C, .slice A107 K c108] 26))) hm_116.out hx120)
  have hm_126 := hid (OwM.below (w := v111) (w' := (v111.alloc (.cells #[.int .i64 cap, .int .i64 C, .slice A107 K c108] 26))) hm_119.out hx120)
  have hr_127 := hid (Row.below (w := v111) (w' := (v111.alloc (.cells #[.int .i64 cap, .int .i64 C, .slice A107 K c108] 26))) hr_117.out hx120 hr_117.out.lt)
  have hw_128 := hw_118.trans (hx120.mono hw_118.size)
  clear hb_112 hb_113 hb_114 hm_115 hm_116 hm_119 hr_117 hw_118
  have hb_129 := Blk.new v111 26 #[.int .i64 cap, .int .i64 C, .slice A107 K c108]
  clear hx120
  have hza130 : v111.heap.size + 1 ≤ (v111.alloc (.cells #[.int .i64 cap, .int .i64 C, .slice A107 K c108] 26)).heap.size := by rw [World.size_alloc]; exact Nat.le_refl _
  have hza131 : (v111.alloc (.cells #[.int .i64 cap, .int .i64 C, .slice A107 K c108] 26)).heap.size ≤ v111.heap.size + 1 := by rw [World.size_alloc]; exact Nat.le_refl _
  obtain ⟨u132, u133, u134, _, _, _⟩ := blk_cells3 hb_121
  obtain ⟨u135, u136, u137, _, _, _⟩ := blk_cells3 hb_122
  obtain ⟨u138, u139, u140, _, _, _⟩ := blk_cells3 hb_123
  obtain ⟨u141, u142, u143, _, _, _⟩ := blk_cells3 hb_129
  go_wp2_with fail
  obtain ⟨W144, e145⟩ : ∃ X, (v111.alloc (.cells #[.int .i64 cap, .int .i64 C, .slice A107 K c108] 26)) = X := ⟨_, rfl⟩
  rw [e145] at hb_121 hb_122 hb_123 hb_129 hm_124 hm_125 hm_126 hr_127 hw_128 u132 u133 u134 u135 u136 u137 u138 u139 u140 u141 u142 u143 hza130 hza131 ⊢
  clear e145
  refine (eqC_any cap C A107 A33 K c108 c34 SL _ hm_126.out.rdC hm_124.out.rdC hK4 hlenK).mono ?_
  rintro e v147 ⟨rfl, hq146⟩
  clear u132 u133 u134 u135 u136 u137 u138 u139 u140 u141 u142 u143
  have hb_148 := Blk.below (w := W144) (w' := v147) hb_121 hq146 hb_121.lt
  have hb_149 := Blk.below (w := W144) (w' := v147) hb_122 hq146 hb_122.lt
  have hb_150 := Blk.below (w := W144) (w' := v147) hb_123 hq146 hb_123.lt
  have hb_151 := Blk.below (w := W144) (w' := v147) hb_129 hq146 hb_129.lt
  have hm_152 := hid (OwM.below (w := W144) (w' := v147) hm_124.out hq146)
  have hm_153 := hid (OwM.below (w := W144) (w' := v147) hm_125.out hq146)
  have hm_154 := hid (OwM.below (w := W144) (w' := v147) hm_126.out hq146)
  have hr_155 := hid (Row.below (w := W144) (w' := v147) hr_127.out hq146 hr_127.out.lt)
  have hw_156 := hw_128.trans (hq146.mono hw_128.size)
  clear hb_121 hb_122 hb_123 hb_129 hm_124 hm_125 hm_126 hr_127 hw_128
  have hzhq146 := hq146.size
  clear hq146
  obtain ⟨u157, u158, u159, _, _, _⟩ := blk_cells3 hb_148
  obtain ⟨u160, u161, u162, _, _, _⟩ := blk_cells3 hb_149
  obtain ⟨u163, u164, u165, _, _, _⟩ := blk_cells3 hb_150
  obtain ⟨u166, u167, u168, _, _, _⟩ := blk_cells3 hb_151
  go_wp2_with fail
  clear u157 u158 u159 u160 u161 u162 u163 u164 u165 u166 u167 u168
  obtain ⟨a0, a1, a2, _, _, _⟩ := blk_cells3 hb_148
  obtain ⟨p0, p1, p2, _, _, _⟩ := blk_cells3 hb_150
  have hEl := hb_148.lt
  have hXl := hb_150.lt
  have hInD : RdC v147.drew v147.drew.heap.size A k s := h.to hw_156.drew hw_156.drew.size
  have hXoD : RdC v147.drew v147.drew.heap.size (some ⟨bc58, 0, none⟩) k s := hm_153.out.rdC
  go_region_held3 (fun w' => w'.cell? ⟨w.heap.size, 0, none⟩ = some (.int .i64 cap) ∧ w'.cell? ⟨w.heap.size, 1, none⟩ = some (.int .i64 clock) ∧ w'.cell? ⟨w.heap.size, 2, none⟩ = some (.slice A k c) ∧ w'.cell? ⟨v61.heap.size, 0, none⟩ = some (.int .i64 cap) ∧ w'.cell? ⟨v61.heap.size, 1, none⟩ = some (.int .i64 clock) ∧ w'.cell? ⟨v61.heap.size, 2, none⟩ = some (.slice (some ⟨bc58, 0, none⟩) k k))
    (first | exact ⟨e0, e1, e2, y0, y1, y2⟩ | exact ⟨i0, i1, i2, z0, z1, z2⟩ | (simp [go_sem]; done) | (simp [go_sem, *]; done))
    (first
      | (go_at_call 34; refine (toC_any cap clock A k c s v147.drew hInD hn hlen).mono ?_; rintro e w8 ⟨b8, rfl, hx8, hb8⟩; have hr8 := hx8.rdC; obtain ⟨hc8, hf8⟩ := bcell hb8; have e0 := (hc8 w.heap.size _ hEl).trans a0; have e1 := (hc8 w.heap.size _ hEl).trans a1; have e2 := (hc8 w.heap.size _ hEl).trans a2; have y0 := (hc8 v61.heap.size _ hXl).trans p0; have y1 := (hc8 v61.heap.size _ hXl).trans p1; have y2 := (hc8 v61.heap.size _ hXl).trans p2; have hr78 := RdC.to (w := v147.drew) hXoD hb8 hb8.size)
      | (go_at_call 35; refine (eqC_any cap clock _ _ k k k s _ hr78 hr8 hn hlen).mono ?_; rintro e w9 ⟨rfl, hb9⟩; obtain ⟨hc9, hf9⟩ := bcell hb9; have hlE : w.heap.size < w8.heap.size := Nat.lt_of_lt_of_le hEl hb8.size; have hlX : v61.heap.size < w8.heap.size := Nat.lt_of_lt_of_le hXl hb8.size; have i0 := (hc9 w.heap.size _ hlE).trans e0; have i1 := (hc9 w.heap.size _ hlE).trans e1; have i2 := (hc9 w.heap.size _ hlE).trans e2; have z0 := (hc9 v61.heap.size _ hlX).trans y0; have z1 := (hc9 v61.heap.size _ hlX).trans y1; have z2 := (hc9 v61.heap.size _ hlX).trans y2))
  have hq89 : Below v147.heap.size v147 w9 := (show Below v147.heap.size v147 w8 from (Below.refl _ v147).drew.trans hb8).trans (hb9.mono hb8.size)
  clear hb8 hb9 e0 e1 e2 y0 y1 y2 i0 i1 i2 z0 z1 z2 a0 a1 a2 p0 p1 p2 hc8 hf8 hc9 hf9 hx8 hr8 hr78 hInD hXoD hEl hXl hlE hlX
  have hb_169 := Blk.below (w := v147) (w' := w9) hb_148 hq89 hb_148.lt
  have hb_170 := Blk.below (w := v147) (w' := w9) hb_149 hq89 hb_149.lt
  have hb_171 := Blk.below (w := v147) (w' := w9) hb_150 hq89 hb_150.lt
  have hb_172 := Blk.below (w := v147) (w' := w9) hb_151 hq89 hb_151.lt
  have hm_173 := hid (OwM.below (w := v147) (w' := w9) hm_152.out hq89)
  have hm_174 := hid (OwM.below (w := v147) (w' := w9) hm_153.out hq89)
  have hm_175 := hid (OwM.below (w := v147) (w' := w9) hm_154.out hq89)
  have hr_176 := hid (Row.below (w := v147) (w' := w9) hr_155.out hq89 hr_155.out.lt)
  have hw_177 := hw_156.trans (hq89.mono hw_156.size)
  clear hb_148 hb_149 hb_150 hb_151 hm_152 hm_153 hm_154 hr_155 hw_156
  have hzq89 := hq89.size
  clear hq89
  obtain ⟨u178, u179, u180, _, _, _⟩ := blk_cells3 hb_169
  obtain ⟨u181, u182, u183, _, _, _⟩ := blk_cells3 hb_170
  obtain ⟨u184, u185, u186, _, _, _⟩ := blk_cells3 hb_171
  obtain ⟨u187, u188, u189, _, _, _⟩ := blk_cells3 hb_172
  go_wp2_with fail
  refine (toI_any D f dc zz _ (hd.to hw_177 hw_177.size) hf4).mono ?_
  rintro e v193 ⟨bx190, rfl, hl194, hr_191', hq192⟩
  clear u178 u179 u180 u181 u182 u183 u184 u185 u186 u187 u188 u189
  have hb_195 := Blk.below (w := w9) (w' := v193) hb_169 hq192 hb_169.lt
  have hb_196 := Blk.below (w := w9) (w' := v193) hb_170 hq192 hb_170.lt
  have hb_197 := Blk.below (w := w9) (w' := v193) hb_171 hq192 hb_171.lt
  have hb_198 := Blk.below (w := w9) (w' := v193) hb_172 hq192 hb_172.lt
  have hm_199 := hid (OwM.below (w := w9) (w' := v193) hm_173.out hq192)
  have hm_200 := hid (OwM.below (w := w9) (w' := v193) hm_174.out hq192)
  have hm_201 := hid (OwM.below (w := w9) (w' := v193) hm_175.out hq192)
  have hr_202 := hid (Row.below (w := w9) (w' := v193) hr_176.out hq192 hr_176.out.lt)
  have hw_203 := hw_177.trans (hq192.mono hw_177.size)
  clear hb_169 hb_170 hb_171 hb_172 hm_173 hm_174 hm_175 hr_176 hw_177
  have hzhq192 := hq192.size
  clear hq192
  have huhr_191 : bx190 < v193.heap.size := hr_191'.lt
  have hr_191 := hid hr_191'
  clear hr_191'
  obtain ⟨u204, u205, u206, _, _, _⟩ := blk_cells3 hb_195
  obtain ⟨u207, u208, u209, _, _, _⟩ := blk_cells3 hb_196
  obtain ⟨u210, u211, u212, _, _, _⟩ := blk_cells3 hb_197
  obtain ⟨u213, u214, u215, _, _, _⟩ := blk_cells3 hb_198
  go_wp2_with fail
  refine (eqI_any _ _ f f f zz zz _ (rd_of hr_202.out) (rd_of hr_191.out) (fun _ _ => rfl) hf4).mono ?_
  rintro e v217 ⟨rfl, m218, hdv217⟩
  have hq216 : Below v193.heap.size v193 v217 := by rw [hdv217]; exact below_drewN (Below.refl _ _) _
  clear hdv217
  clear u204 u205 u206 u207 u208 u209 u210 u211 u212 u213 u214 u215
  have hb_219 := Blk.below (w := v193) (w' := v217) hb_195 hq216 hb_195.lt
  have hb_220 := Blk.below (w := v193) (w' := v217) hb_196 hq216 hb_196.lt
  have hb_221 := Blk.below (w := v193) (w' := v217) hb_197 hq216 hb_197.lt
  have hb_222 := Blk.below (w := v193) (w' := v217) hb_198 hq216 hb_198.lt
  have hm_223 := hid (OwM.below (w := v193) (w' := v217) hm_199.out hq216)
  have hm_224 := hid (OwM.below (w := v193) (w' := v217) hm_200.out hq216)
  have hm_225 := hid (OwM.below (w := v193) (w' := v217) hm_201.out hq216)
  have hr_226 := hid (Row.below (w := v193) (w' := v217) hr_202.out hq216 hr_202.out.lt)
  have hr_227 := hid (Row.below (w := v193) (w' := v217) hr_191.out hq216 hr_191.out.lt)
  have hw_228 := hw_203.trans (hq216.mono hw_203.size)
  clear hb_195 hb_196 hb_197 hb_198 hm_199 hm_200 hm_201 hr_202 hr_191 hw_203
  have hzhq216 := hq216.size
  clear hq216
  clear hr_227
  obtain ⟨u229, u230, u231, _, _, _⟩ := blk_cells3 hb_219
  obtain ⟨u232, u233, u234, _, _, _⟩ := blk_cells3 hb_220
  obtain ⟨u235, u236, u237, _, _, _⟩ := blk_cells3 hb_221
  obtain ⟨u238, u239, u240, _, _, _⟩ := blk_cells3 hb_222
  go_wp2_with fail
  refine (markC_any cap clock (some ⟨bc58, 0, none⟩) k k _ _ s 1 _ hm_224.out (by omega) (by omega) (by omega) (by omega)).mono ?_
  rintro e v242 ⟨rfl, ho243, hk241⟩
  clear ho243
  clear u229 u230 u231 u232 u233 u234 u235 u236 u237 u238 u239 u240
  have hb_244 : Blk v242 w.heap.size 46 #[.int .i64 cap, .int .i64 clock, .slice A k c] := (hk241.block _ hb_219.lt (by omega)).trans hb_219
  have hb_245 : Blk v242 v37.heap.size 26 #[.int .i64 cap, .int .i64 C, .slice A33 K c34] := (hk241.block _ hb_220.lt (by omega)).trans hb_220
  have hb_246 : Blk v242 v61.heap.size 26 #[.int .i64 cap, .int .i64 clock, .slice (some ⟨bc58, 0, none⟩) k k] := (hk241.block _ hb_221.lt (by omega)).trans hb_221
  have hb_247 : Blk v242 v111.heap.size 26 #[.int .i64 cap, .int .i64 C, .slice A107 K c108] := (hk241.block _ hb_222.lt (by omega)).trans hb_222
  have hm_248 := hid (OwM.kept hm_223.out hk241 (by omega))
  have hm_249 := hid (OwM.kept hm_225.out hk241 (by omega))
  have hr_250 := hid (Row.keep hr_226.out (hk241.block _ hr_226.out.lt (by omega)))
  have hw_251 := hw_228.trans (hk241.below (B := w.heap.size) (by omega) hw_228.size)
  clear hb_219 hb_220 hb_221 hb_222 hm_223 hm_225 hr_226 hw_228
  have hzhk241 := hk241.size
  clear hk241
  clear hm_224
  have hkk := mkKC_eq s 1 k
  obtain ⟨K1, hK1⟩ : ∃ x, mkKC s 1 k = x := ⟨_, rfl⟩
  rw [hK1] at hkk ⊢
  have hK0 : 0 ≤ K1 := by omega
  have hK2 : K1 ≤ 20000000 := by omega
  clear hkk hK1
  obtain ⟨u252, u253, u254, _, _, _⟩ := blk_cells3 hb_244
  obtain ⟨u255, u256, u257, _, _, _⟩ := blk_cells3 hb_245
  obtain ⟨u258, u259, u260, _, _, _⟩ := blk_cells3 hb_246
  obtain ⟨u261, u262, u263, _, _, _⟩ := blk_cells3 hb_247
  go_wp2_with fail
  refine (mark_any _ f f bx87 zz K1 _ (fun _ => ⟨rfl, hr_250.out⟩) hf4 hK0 (by omega)).mono ?_
  rintro e v265 ⟨rfl, hg266, -⟩
  have hk264 := kepC_grown (L := bx87) (H := bx87 + 1) hg266 (Nat.le_refl _) (Nat.lt_succ_self _)
  clear hg266
  clear u252 u253 u254 u255 u256 u257 u258 u259 u260 u261 u262 u263
  have hb_267 : Blk v265 w.heap.size 46 #[.int .i64 cap, .int .i64 clock, .slice A k c] := (hk264.block _ hb_244.lt (by omega)).trans hb_244
  have hb_268 : Blk v265 v37.heap.size 26 #[.int .i64 cap, .int .i64 C, .slice A33 K c34] := (hk264.block _ hb_245.lt (by omega)).trans hb_245
  have hb_269 : Blk v265 v61.heap.size 26 #[.int .i64 cap, .int .i64 clock, .slice (some ⟨bc58, 0, none⟩) k k] := (hk264.block _ hb_246.lt (by omega)).trans hb_246
  have hb_270 : Blk v265 v111.heap.size 26 #[.int .i64 cap, .int .i64 C, .slice A107 K c108] := (hk264.block _ hb_247.lt (by omega)).trans hb_247
  have hm_271 := hid (OwM.kept hm_248.out hk264 (by omega))
  have hm_272 := hid (OwM.kept hm_249.out hk264 (by omega))
  have hw_273 := hw_251.trans (hk264.below (B := w.heap.size) (by omega) hw_251.size)
  clear hb_244 hb_245 hb_246 hb_247 hm_248 hm_249 hw_251
  have hzhk264 := hk264.size
  clear hk264
  clear hr_250
  have hKf : ¬ K1 + (f : Int) < 0 := by omega
  obtain ⟨u274, u275, u276, _, _, _⟩ := blk_cells3 hb_267
  obtain ⟨u277, u278, u279, _, _, _⟩ := blk_cells3 hb_268
  obtain ⟨u280, u281, u282, _, _, _⟩ := blk_cells3 hb_269
  obtain ⟨u283, u284, u285, _, _, _⟩ := blk_cells3 hb_270
  go_wp2_with fail
  refine (eqC_any cap C A107 A33 K c108 c34 SL _ hm_272.out.rdC hm_271.out.rdC hK4 hlenK).mono ?_
  rintro e v287 ⟨rfl, hq286⟩
  clear u274 u275 u276 u277 u278 u279 u280 u281 u282 u283 u284 u285
  have hb_288 := Blk.below (w := v265) (w' := v287) hb_267 hq286 hb_267.lt
  have hb_289 := Blk.below (w := v265) (w' := v287) hb_268 hq286 hb_268.lt
  have hb_290 := Blk.below (w := v265) (w' := v287) hb_269 hq286 hb_269.lt
  have hb_291 := Blk.below (w := v265) (w' := v287) hb_270 hq286 hb_270.lt
  have hm_292 := hid (OwM.below (w := v265) (w' := v287) hm_271.out hq286)
  have hm_293 := hid (OwM.below (w := v265) (w' := v287) hm_272.out hq286)
  have hw_294 := hw_273.trans (hq286.mono hw_273.size)
  clear hb_267 hb_268 hb_269 hb_270 hm_271 hm_272 hw_273
  have hzhq286 := hq286.size
  clear hq286
  obtain ⟨u295, u296, u297, _, _, _⟩ := blk_cells3 hb_288
  obtain ⟨u298, u299, u300, _, _, _⟩ := blk_cells3 hb_289
  obtain ⟨u301, u302, u303, _, _, _⟩ := blk_cells3 hb_290
  obtain ⟨u304, u305, u306, _, _, _⟩ := blk_cells3 hb_291
  go_wp2_with fail
  refine (markC_any cap C A107 K c108 _ _ SL 1 _ hm_293.out (by omega) (by omega) (by omega) hmS).mono ?_
  rintro e v308 ⟨rfl, ho309, hk307⟩
  clear u295 u296 u297 u298 u299 u300 u301 u302 u303 u304 u305 u306
  have hb_310 : Blk v308 w.heap.size 46 #[.int .i64 cap, .int .i64 clock, .slice A k c] := (hk307.block _ hb_288.lt (by omega)).trans hb_288
  have hb_311 : Blk v308 v37.heap.size 26 #[.int .i64 cap, .int .i64 C, .slice A33 K c34] := (hk307.block _ hb_289.lt (by omega)).trans hb_289
  have hb_312 : Blk v308 v61.heap.size 26 #[.int .i64 cap, .int .i64 clock, .slice (some ⟨bc58, 0, none⟩) k k] := (hk307.block _ hb_290.lt (by omega)).trans hb_290
  have hb_313 : Blk v308 v111.heap.size 26 #[.int .i64 cap, .int .i64 C, .slice A107 K c108] := (hk307.block _ hb_291.lt (by omega)).trans hb_291
  have hm_314 := hid (OwM.kept hm_292.out hk307 (by omega))
  have hw_315 := hw_294.trans (hk307.below (B := w.heap.size) (by omega) hw_294.size)
  clear hb_288 hb_289 hb_290 hb_291 hm_292 hw_294
  have hzhk307 := hk307.size
  clear hk307
  clear hm_293
  have hm_316 := hid ho309
  clear ho309
  have hkk := mkKC_eq SL 1 K
  obtain ⟨M1, hM1⟩ : ∃ x, mkKC SL 1 K = x := ⟨_, rfl⟩
  have HM1 := hid hM1
  rw [hM1] at hkk ⊢
  have hM0 : ¬ M1 < 0 := by omega
  have qm : (M1 != M1) = false := by simp
  clear hkk hM1
  obtain ⟨u317, u318, u319, _, _, _⟩ := blk_cells3 hb_310
  obtain ⟨u320, u321, u322, _, _, _⟩ := blk_cells3 hb_311
  obtain ⟨u323, u324, u325, _, _, _⟩ := blk_cells3 hb_312
  obtain ⟨u326, u327, u328, _, _, _⟩ := blk_cells3 hb_313
  go_wp2_with fail
  refine (heldC_any cap C A107 K c108 _ _ SL 1 _ hm_316.out (by omega) (by omega) hmS).mono ?_
  rintro e v330 ⟨rfl, hq329⟩
  clear u317 u318 u319 u320 u321 u322 u323 u324 u325 u326 u327 u328
  have hb_331 := Blk.below (w := v308) (w' := v330) hb_310 hq329 hb_310.lt
  have hb_332 := Blk.below (w := v308) (w' := v330) hb_311 hq329 hb_311.lt
  have hb_333 := Blk.below (w := v308) (w' := v330) hb_312 hq329 hb_312.lt
  have hb_334 := Blk.below (w := v308) (w' := v330) hb_313 hq329 hb_313.lt
  have hm_335 := hid (OwM.below (w := v308) (w' := v330) hm_314.out hq329)
  have hm_336 := hid (OwM.below (w := v308) (w' := v330) hm_316.out hq329)
  have hw_337 := hw_315.trans (hq329.mono hw_315.size)
  clear hb_310 hb_311 hb_312 hb_313 hm_314 hm_316 hw_315
  have hzhq329 := hq329.size
  clear hq329
  rw [HM1.out]
  obtain ⟨u338, u339, u340, _, _, _⟩ := blk_cells3 hb_331
  obtain ⟨u341, u342, u343, _, _, _⟩ := blk_cells3 hb_332
  obtain ⟨u344, u345, u346, _, _, _⟩ := blk_cells3 hb_333
  obtain ⟨u347, u348, u349, _, _, _⟩ := blk_cells3 hb_334
  go_wp2_with fail
  refine (toC_any cap clock A k c s _ (h.to hw_337 hw_337.size) hn hlen).mono ?_
  rintro e v353 ⟨bc350, rfl, ho351, hq352⟩
  clear u338 u339 u340 u341 u342 u343 u344 u345 u346 u347 u348 u349
  have hb_354 := Blk.below (w := v330) (w' := v353) hb_331 hq352 hb_331.lt
  have hb_355 := Blk.below (w := v330) (w' := v353) hb_332 hq352 hb_332.lt
  have hb_356 := Blk.below (w := v330) (w' := v353) hb_333 hq352 hb_333.lt
  have hb_357 := Blk.below (w := v330) (w' := v353) hb_334 hq352 hb_334.lt
  have hm_358 := hid (OwM.below (w := v330) (w' := v353) hm_335.out hq352)
  have hm_359 := hid (OwM.below (w := v330) (w' := v353) hm_336.out hq352)
  have hw_360 := hw_337.trans (hq352.mono hw_337.size)
  clear hb_331 hb_332 hb_333 hb_334 hm_335 hm_336 hw_337
  have hzhq352 := hq352.size
  clear hq352
  have hm_361 := hid ho351.owM
  clear ho351
  obtain ⟨u362, u363, u364, _, _, _⟩ := blk_cells3 hb_354
  obtain ⟨u365, u366, u367, _, _, _⟩ := blk_cells3 hb_355
  obtain ⟨u368, u369, u370, _, _, _⟩ := blk_cells3 hb_356
  obtain ⟨u371, u372, u373, _, _, _⟩ := blk_cells3 hb_357
  go_wp2_with fail
  refine (toI_any D f dc zz _ (hd.to hw_360 hw_360.size) hf4).mono ?_
  rintro e v377 ⟨bx374, rfl, hl378, hr_375', hq376⟩
  clear u362 u363 u364 u365 u366 u367 u368 u369 u370 u371 u372 u373
  have hb_379 := Blk.below (w := v353) (w' := v377) hb_354 hq376 hb_354.lt
  have hb_380 := Blk.below (w := v353) (w' := v377) hb_355 hq376 hb_355.lt
  have hb_381 := Blk.below (w := v353) (w' := v377) hb_356 hq376 hb_356.lt
  have hb_382 := Blk.below (w := v353) (w' := v377) hb_357 hq376 hb_357.lt
  have hm_383 := hid (OwM.below (w := v353) (w' := v377) hm_358.out hq376)
  have hm_384 := hid (OwM.below (w := v353) (w' := v377) hm_359.out hq376)
  have hm_385 := hid (OwM.below (w := v353) (w' := v377) hm_361.out hq376)
  have hw_386 := hw_360.trans (hq376.mono hw_360.size)
  clear hb_354 hb_355 hb_356 hb_357 hm_358 hm_359 hm_361 hw_360
  have hzhq376 := hq376.size
  clear hq376
  have huhr_375 : bx374 < v377.heap.size := hr_375'.lt
  have hr_375 := hid hr_375'
  clear hr_375'
  obtain ⟨u387, u388, u389, _, _, _⟩ := blk_cells3 hb_379
  obtain ⟨u390, u391, u392, _, _, _⟩ := blk_cells3 hb_380
  obtain ⟨u393, u394, u395, _, _, _⟩ := blk_cells3 hb_381
  obtain ⟨u396, u397, u398, _, _, _⟩ := blk_cells3 hb_382
  go_wp2_with fail
  refine (HI.out _ _ _ _ _ hm_385.out.rdC (rd_of hr_375.out)).mono ?_
  rintro e v403 ⟨A399, c400, rfl, ho401, hq402⟩
  clear u387 u388 u389 u390 u391 u392 u393 u394 u395 u396 u397 u398
  have hb_404 := Blk.below (w := v377) (w' := v403) hb_379 hq402 hb_379.lt
  have hb_405 := Blk.below (w := v377) (w' := v403) hb_380 hq402 hb_380.lt
  have hb_406 := Blk.below (w := v377) (w' := v403) hb_381 hq402 hb_381.lt
  have hb_407 := Blk.below (w := v377) (w' := v403) hb_382 hq402 hb_382.lt
  have hm_408 := hid (OwM.below (w := v377) (w' := v403) hm_383.out hq402)
  have hm_409 := hid (OwM.below (w := v377) (w' := v403) hm_384.out hq402)
  have hm_410 := hid (OwM.below (w := v377) (w' := v403) hm_385.out hq402)
  have hr_411 := hid (Row.below (w := v377) (w' := v403) hr_375.out hq402 hr_375.out.lt)
  have hw_412 := hw_386.trans (hq402.mono hw_386.size)
  clear hb_379 hb_380 hb_381 hb_382 hm_383 hm_384 hm_385 hr_375 hw_386
  have hzhq402 := hq402.size
  clear hq402
  have hm_413 := hid ho401.owM
  clear ho401
  clear hm_410
  clear hr_411
  have hx414 := (Below.refl v403.heap.size v403).alloc (Nat.le_refl _) (.cells #[.int .i64 cap, .int .i64 C, .slice A399 K c400] 26)
  have hb_415 := Blk.below (w := v403) (w' := (v403.alloc (.cells #[.int .i64 cap, .int .i64 C, .slice A399 K c400] 26))) hb_404 hx414 hb_404.lt
  have hb_416 := Blk.below (w := v403) (w' := (v403.alloc (.cells #[.int .i64 cap, .int .i64 C, .slice A399 K c400] 26))) hb_405 hx414 hb_405.lt
  have hb_417 := Blk.below (w := v403) (w' := (v403.alloc (.cells #[.int .i64 cap, .int .i64 C, .slice A399 K c400] 26))) hb_406 hx414 hb_406.lt
  have hb_418 := Blk.below (w := v403) (w' := (v403.alloc (.cells #[.int .i64 cap, .int .i64 C, .slice A399 K c400] 26))) hb_407 hx414 hb_407.lt
  have hm_419 := hid (OwM.below (w := v403) (w' := (v403.alloc (.cells #[.int .i64 cap, .int .i64 C, .slice A399 K c400] 26))) hm_408.out hx414)
  have hm_420 := hid (OwM.below (w := v403) (w' := (v403.alloc (.cells #[.int .i64 cap, .int .i64 C, .slice A399 K c400] 26))) hm_409.out hx414)
  have hm_421 := hid (OwM.below (w := v403) (w' := (v403.alloc (.cells #[.int .i64 cap, .int .i64 C, .slice A399 K c400] 26))) hm_413.out hx414)
  have hw_422 := hw_412.trans (hx414.mono hw_412.size)
  clear hb_404 hb_405 hb_406 hb_407 hm_408 hm_409 hm_413 hw_412
  have hb_423 := Blk.new v403 26 #[.int .i64 cap, .int .i64 C, .slice A399 K c400]
  clear hx414
  have hza424 : v403.heap.size + 1 ≤ (v403.alloc (.cells #[.int .i64 cap, .int .i64 C, .slice A399 K c400] 26)).heap.size := by rw [World.size_alloc]; exact Nat.le_refl _
  have hza425 : (v403.alloc (.cells #[.int .i64 cap, .int .i64 C, .slice A399 K c400] 26)).heap.size ≤ v403.heap.size + 1 := by rw [World.size_alloc]; exact Nat.le_refl _
  obtain ⟨u426, u427, u428, _, _, _⟩ := blk_cells3 hb_415
  obtain ⟨u429, u430, u431, _, _, _⟩ := blk_cells3 hb_416
  obtain ⟨u432, u433, u434, _, _, _⟩ := blk_cells3 hb_417
  obtain ⟨u435, u436, u437, _, _, _⟩ := blk_cells3 hb_418
  obtain ⟨u438, u439, u440, _, _, _⟩ := blk_cells3 hb_423
  go_wp2_with fail
  obtain ⟨W441, e442⟩ : ∃ X, (v403.alloc (.cells #[.int .i64 cap, .int .i64 C, .slice A399 K c400] 26)) = X := ⟨_, rfl⟩
  rw [e442] at hb_415 hb_416 hb_417 hb_418 hb_423 hm_419 hm_420 hm_421 hw_422 u426 u427 u428 u429 u430 u431 u432 u433 u434 u435 u436 u437 u438 u439 u440 hza424 hza425 ⊢
  clear e442
  refine (eqC_any cap C A399 A33 K c400 c34 SL _ hm_421.out.rdC hm_419.out.rdC hK4 hlenK).mono ?_
  rintro e v444 ⟨rfl, hq443⟩
  clear u426 u427 u428 u429 u430 u431 u432 u433 u434 u435 u436 u437 u438 u439 u440
  have hb_445 := Blk.below (w := W441) (w' := v444) hb_415 hq443 hb_415.lt
  have hb_446 := Blk.below (w := W441) (w' := v444) hb_416 hq443 hb_416.lt
  have hb_447 := Blk.below (w := W441) (w' := v444) hb_417 hq443 hb_417.lt
  have hb_448 := Blk.below (w := W441) (w' := v444) hb_418 hq443 hb_418.lt
  have hb_449 := Blk.below (w := W441) (w' := v444) hb_423 hq443 hb_423.lt
  have hm_450 := hid (OwM.below (w := W441) (w' := v444) hm_419.out hq443)
  have hm_451 := hid (OwM.below (w := W441) (w' := v444) hm_420.out hq443)
  have hm_452 := hid (OwM.below (w := W441) (w' := v444) hm_421.out hq443)
  have hw_453 := hw_422.trans (hq443.mono hw_422.size)
  clear hb_415 hb_416 hb_417 hb_418 hb_423 hm_419 hm_420 hm_421 hw_422
  have hzhq443 := hq443.size
  clear hq443
  obtain ⟨u454, u455, u456, _, _, _⟩ := blk_cells3 hb_445
  obtain ⟨u457, u458, u459, _, _, _⟩ := blk_cells3 hb_446
  obtain ⟨u460, u461, u462, _, _, _⟩ := blk_cells3 hb_447
  obtain ⟨u463, u464, u465, _, _, _⟩ := blk_cells3 hb_448
  obtain ⟨u466, u467, u468, _, _, _⟩ := blk_cells3 hb_449
  go_wp2_with fail
  refine (heldC_any cap C A107 K c108 _ _ SL 1 _ hm_451.out (by omega) (by omega) hmS).mono ?_
  rintro e v470 ⟨rfl, hq469⟩
  clear u454 u455 u456 u457 u458 u459 u460 u461 u462 u463 u464 u465 u466 u467 u468
  have hb_471 := Blk.below (w := v444) (w' := v470) hb_445 hq469 hb_445.lt
  have hb_472 := Blk.below (w := v444) (w' := v470) hb_446 hq469 hb_446.lt
  have hb_473 := Blk.below (w := v444) (w' := v470) hb_447 hq469 hb_447.lt
  have hb_474 := Blk.below (w := v444) (w' := v470) hb_448 hq469 hb_448.lt
  have hb_475 := Blk.below (w := v444) (w' := v470) hb_449 hq469 hb_449.lt
  have hm_476 := hid (OwM.below (w := v444) (w' := v470) hm_450.out hq469)
  have hm_477 := hid (OwM.below (w := v444) (w' := v470) hm_451.out hq469)
  have hm_478 := hid (OwM.below (w := v444) (w' := v470) hm_452.out hq469)
  have hw_479 := hw_453.trans (hq469.mono hw_453.size)
  clear hb_445 hb_446 hb_447 hb_448 hb_449 hm_450 hm_451 hm_452 hw_453
  have hzhq469 := hq469.size
  clear hq469
  rw [HM1.out]
  obtain ⟨u480, u481, u482, _, _, _⟩ := blk_cells3 hb_471
  obtain ⟨u483, u484, u485, _, _, _⟩ := blk_cells3 hb_472
  obtain ⟨u486, u487, u488, _, _, _⟩ := blk_cells3 hb_473
  obtain ⟨u489, u490, u491, _, _, _⟩ := blk_cells3 hb_474
  obtain ⟨u492, u493, u494, _, _, _⟩ := blk_cells3 hb_475
  go_wp2_with fail
  go_ret
  exact ⟨rfl, hw_479⟩
end Go.Proofs.Ytckhooibjmheiaa
